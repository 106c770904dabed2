/- What is told of blanks, of names of one letter, of the greatest number. -/
import Derived.Test.YtebfclanamoldaaDoorPick
import Derived.Test.YtebfclanamoldaaDoorRefTokens
import Derived.Lib.SlBytesConst
import Derived.Laws.OwnMore
namespace Go.Proofs.YtebfclanamoldaaDoor
open Go.RowKit

theorem skip_blanks (n : Nat) : skipS false (List.replicate n (32 : UInt8)) = [] := by
  induction n with
  | zero => rfl
  | succ n ih =>
    rw [List.replicate_succ]
    show (if blankB 32 then skipS false (List.replicate n 32) else _) = []
    rw [if_pos (by decide), ih]
theorem told_blank (n : Nat) (h : n ≤ 16384) : (toldOf (List.replicate n (32 : UInt8))).1.length = 1 ∧ (toldOf (List.replicate n (32 : UInt8))).2 = (0, 0) := by
  have e : seqF (List.replicate n (32 : UInt8)).length ((List.replicate n (32 : UInt8)).length + 1) (List.replicate n (32 : UInt8)) = [(⟨0, 7, [], []⟩, n)] := by
    rw [seqF_succ, skip_blanks, List.length_replicate]
    rfl
  rw [told_good _ (by simpa using h) _ e (fun y hy => by obtain rfl := List.mem_singleton.1 hy; rfl)]
  exact ⟨rfl, rfl⟩
theorem told_much (l : Bs) (h : 16384 < l.length) : (toldOf l).1.length = 0 ∧ (toldOf l).2 = (3, 0) := by
  unfold toldOf
  rw [if_pos h]
  exact ⟨rfl, rfl⟩

theorem while_same (P : UInt8 → Bool) (b : UInt8) (h : P b = true) (m : Nat) : (List.replicate m b).takeWhile P = List.replicate m b ∧ (List.replicate m b).dropWhile P = [] := by
  induction m with
  | zero => exact ⟨rfl, rfl⟩
  | succ m ih => rw [List.replicate_succ, List.takeWhile_cons_of_pos h, List.dropWhile_cons_of_pos h, ih.1, ih.2]; exact ⟨rfl, rfl⟩

/-- A token that is all that stands there. -/
theorem told_one (l : Bs) (hl : l.length ≤ 16384) (hs : skipS false l = l) (he : (tokT l).err = 0) (hk : (tokT l).kind ≠ 7) (hr : (tokT l).rest = []) : (toldOf l).1.length = 2 ∧ (toldOf l).2 = (0, 0) := by
  have hpos : ∃ f, l.length = f + 1 := by
    cases l with
    | nil => exact absurd rfl hk
    | cons c r => exact ⟨r.length, rfl⟩
  obtain ⟨f, hf⟩ := hpos
  have e : seqF l.length (l.length + 1) l = [(tokT l, l.length - l.length), (⟨0, 7, [], []⟩, l.length)] := by
    rw [seqF_succ, hs, if_pos ⟨he, hk⟩, hr, hf, seqF_succ]
    rfl
  rw [told_good _ hl _ e (fun y hy => by
    rcases List.mem_cons.1 hy with rfl | hy
    · exact he
    · obtain rfl := List.mem_singleton.1 hy
      rfl)]
  exact ⟨rfl, rfl⟩
theorem told_none (l : Bs) (hl : l.length ≤ 16384) (hs : skipS false l = l) (he : (tokT l).err = 201) : (toldOf l).1.length = 0 ∧ (toldOf l).2 = (201, 0) := by
  have e : seqF l.length (l.length + 1) l = [] ++ [(tokT l, l.length - l.length)] := by
    rw [seqF_succ, hs, if_neg (fun h => by rw [he] at h; exact absurd h.1 (by decide))]
    rfl
  rw [told_bad _ hl _ _ e (fun y hy => by cases hy) (by show (tokT l).err ≠ 0; rw [he]; decide)]
  refine ⟨rfl, ?_⟩
  show ((tokT l).err, ((l.length - l.length : Nat) : Int)) = _
  rw [he, Nat.sub_self]
  rfl

theorem name_same (b : UInt8) (h : lowB b = true) (m : Nat) : nameB (List.replicate (m + 1) b) = decide (m + 1 ≤ 24) := by
  have e : nextB lowB (List.replicate (m + 1) b) = true := h
  unfold nameB
  rw [e, List.length_replicate, Bool.true_and]
theorem tok_name (b : UInt8) (h : lowB b = true) (m : Nat) : (m + 1 ≤ 24 → (tokT (List.replicate (m + 1) b)).err = 0 ∧ (tokT (List.replicate (m + 1) b)).kind ≠ 7 ∧ (tokT (List.replicate (m + 1) b)).rest = []) ∧ (24 < m + 1 → (tokT (List.replicate (m + 1) b)).err = 201) := by
  have ho : onB b = true := by simp [onB, h]
  obtain ⟨t1, t2⟩ := while_same onB b ho (m + 1)
  have e : tokT (List.replicate (m + 1) b) = wordT (List.replicate (m + 1) b) := by
    rw [List.replicate_succ, tokT_cons, if_pos h]
  rw [e]
  unfold wordT
  rw [t1, t2, name_same b h m]
  have hw := word_short (List.replicate (m + 1) b)
  rw [List.length_replicate] at hw
  constructor
  · intro hm
    rw [decide_eq_true hm]
    split
    · exact ⟨rfl, (by show (1 : Int) ≠ 7; decide), rfl⟩
    · exact ⟨rfl, (by show (2 : Int) ≠ 7; decide), rfl⟩
  · intro hm
    rw [decide_eq_false (by omega), if_neg (fun h => by have := hw h; omega)]
    rfl
theorem tok_named (c b : UInt8) (hc : c = 63 ∨ c = 39) (h : lowB b = true) (m : Nat) : (m + 1 ≤ 24 → (tokT (c :: List.replicate (m + 1) b)).err = 0 ∧ (tokT (c :: List.replicate (m + 1) b)).kind ≠ 7 ∧ (tokT (c :: List.replicate (m + 1) b)).rest = []) ∧ (24 < m + 1 → (tokT (c :: List.replicate (m + 1) b)).err = 201) := by
  have ho : onB b = true := by simp [onB, h]
  obtain ⟨t1, t2⟩ := while_same onB b ho (m + 1)
  obtain ⟨k, hk, e⟩ : ∃ k : Int, k ≠ 7 ∧ tokT (c :: List.replicate (m + 1) b) = namedT k (List.replicate (m + 1) b) := by
    rcases hc with rfl | rfl
    · exact ⟨3, by decide, rfl⟩
    · exact ⟨5, by decide, rfl⟩
  rw [e]
  unfold namedT
  rw [t1, t2, name_same b h m]
  constructor
  · intro hm
    rw [decide_eq_true hm]
    exact ⟨rfl, hk, rfl⟩
  · intro hm
    rw [decide_eq_false (by omega)]
    rfl

/-- What the four texts are told as: two tokens, or a fault. -/
def limR (k : Nat) : Nat × Int × Int := if k = 2 then (0, 201, 0) else (2, 0, 0)
def TextK (k : Nat) (l : Bs) : Prop := (toldOf l).1.length = (limR k).1 ∧ (toldOf l).2 = (limR k).2
theorem text_of (k : Nat) (l : Bs) (hl : l.length ≤ 16384) (hs : skipS false l = l) (h1 : k ≠ 2 → (tokT l).err = 0 ∧ (tokT l).kind ≠ 7 ∧ (tokT l).rest = []) (h2 : k = 2 → (tokT l).err = 201) : TextK k l := by
  unfold TextK limR
  by_cases hk : k = 2
  · rw [if_pos hk]
    exact told_none l hl hs (h2 hk)
  · rw [if_neg hk]
    obtain ⟨a, b, c⟩ := h1 hk
    exact told_one l hl hs a b c
theorem text_name (k : Nat) (hk : k < 3) (b : UInt8) (h : lowB b = true) : TextK k (List.replicate (23 + k) b) := by
  obtain ⟨m, hm⟩ : ∃ m, 23 + k = m + 1 := ⟨22 + k, by omega⟩
  have hb := byte_low h
  rw [hm]
  obtain ⟨h1, h2⟩ := tok_name b h m
  exact text_of k _ (by rw [List.length_replicate]; omega) (skipS_stop _ hb.1 hb.2.1) (fun hk => h1 (by omega)) (fun hk => h2 (by omega))
theorem text_named (c : UInt8) (hc : c = 63 ∨ c = 39) (k : Nat) (hk : k < 3) (b : UInt8) (h : lowB b = true) : TextK k (c :: List.replicate (23 + k) b) := by
  obtain ⟨m, hm⟩ : ∃ m, 23 + k = m + 1 := ⟨22 + k, by omega⟩
  rw [hm]
  obtain ⟨h1, h2⟩ := tok_named c b hc h m
  exact text_of k _ (by rw [List.length_cons, List.length_replicate]; omega) (by rcases hc with rfl | rfl <;> exact skipS_stop _ rfl rfl) (fun hk => h1 (by omega)) (fun hk => h2 (by omega))
theorem text_number (k : Nat) (hk : k < 3) : TextK k ([57, 50, 50, 51, 51, 55, 50, 48, 51, 54, 56, 53, 52, 55, 55, 53, 56, 48] ++ [UInt8.ofNat (54 + k)]) := by
  obtain rfl | rfl | rfl : k = 0 ∨ k = 1 ∨ k = 2 := by omega
  all_goals
    unfold TextK
    constructor <;> decide +kernel

/-- A row of bytes that is filled, one by one. -/
theorem fill_step (n k : Nat) (hk : k < n) (b : UInt8) : (bcells (List.replicate k b ++ List.replicate (n - k) 0)).set k (.int .u8 (b.toNat : Int)) = bcells (List.replicate (k + 1) b ++ List.replicate (n - (k + 1)) 0) := by
  obtain ⟨r, hr⟩ : ∃ r, n - k = r + 1 := ⟨n - k - 1, by omega⟩
  have h2 : n - (k + 1) = r := by omega
  rw [hr, h2]
  show ((List.replicate k b ++ List.replicate (r + 1) 0).map _).set k _ = (List.replicate (k + 1) b ++ List.replicate r 0).map _
  rw [List.map_append, List.map_append, List.map_replicate, List.map_replicate, List.map_replicate, List.map_replicate, List.replicate_succ, List.replicate_succ', List.append_assoc]
  rw [List.set_append_right _ _ (by simp)]
  simp
theorem fill_cell (n k : Nat) (hk : k < n) (b : UInt8) : (bcells (List.replicate k b ++ List.replicate (n - k) 0))[k]? = some (.int .u8 0) := by
  obtain ⟨r, hr⟩ : ∃ r, n - k = r + 1 := ⟨n - k - 1, by omega⟩
  rw [hr]
  show ((List.replicate k b ++ List.replicate (r + 1) 0).map _)[k]? = _
  rw [List.map_append, List.map_replicate, List.map_replicate, List.replicate_succ, List.getElem?_append_right (by simp)]
  simp
theorem fill_first (n : Nat) (b : UInt8) : (madeCells (Value.int .u8 0).cells (n * 1)).toList = bcells (List.replicate 0 b ++ List.replicate (n - 0) 0) := by
  have := toList_madeCells_one (.int .u8 0) (n * 1)
  rw [show (Value.int .u8 0).cells = #[.int .u8 0] from rfl, this]
  show _ = (List.replicate n (0 : UInt8)).map _
  rw [List.map_replicate, Nat.mul_one]
  rfl
theorem fill_last (n : Nat) (b : UInt8) : List.replicate n b ++ List.replicate (n - n) 0 = List.replicate n b := by simp

theorem owns_at {w : World} {base g n c : Nat} {xs : List Value} (h : w.ownsRow base 5 1 (.slice (some ⟨g, 0, none⟩) n c) n xs) : (∀ (j : Nat) (u : Value), xs[j]? = some u → w.cell? ⟨g, j, none⟩ = some u) ∧ (∀ j, w.frozen? ⟨g, j, none⟩ = false) ∧ g < w.heap.size := by
  have hh := h
  rcases h.2 with ⟨h1, h2⟩ | ⟨g', cap, cur, h1, hb, hg, hnc, _⟩
  · cases h1
  · simp only [Value.slice.injEq] at h1
    obtain ⟨h3, _, rfl⟩ := h1
    cases h3
    refine ⟨fun j u hu => ?_, fun j => Lib.frozen_of_heap hg j, lt_of_heap hg⟩
    have := hh.cells (g := g) rfl j u hu
    rwa [Addr.add_lit, Nat.zero_add] at this

theorem conv_at {w : World} {g : Nat} {l : Bs} {c : Nat} (h : ∀ (j : Nat) (u : Value), (bcells l)[j]? = some u → w.cell? ⟨g, j, none⟩ = some u) :
    (convert 36 9 (.slice (some ⟨g, 0, none⟩) l.length c)).run Tryd.prog w = .ok (.string ⟨l.toArray⟩) w := by
  refine run_convert_bytes_back (P := Tryd.prog) w 36 9 5 ⟨g, 0, none⟩ c l Tryd.underlying36 Tryd.underlying5 Tryd.underlying9 fun j hj => ?_
  rw [Addr.add_lit, Nat.zero_add]
  exact h j _ (by simp [bcells, Lib.byteCells, hj])
end Go.Proofs.YtebfclanamoldaaDoor
