/- What came in: rows of ints, matches, rows of matches; how long they may be. -/
import Derived.Test.YtlkmabnjmklkpaaDoorToks14
import Derived.ProofKit
import Derived.OpenShut
import Derived.ChangeArms
import Derived.ChangeMaps5
import Derived.Deep.Slices
import Derived.Deep.Strs
import Derived.Lib.SmallJoins
namespace Go.Proofs.YtlkmabnjmklkpaaDoor
open Go.ChangeShapes Go.WideShapes Go.ChangeAt Go.RowKit Go.Joins

theorem flat_row (f : Nat → List Value) (sz : Nat) : ∀ (len : Nat), (∀ i, i < len → (f i).length = sz) → ((List.range len).map f).flatten.length = len * sz ∧ ∀ i r, i < len → r < sz → ((List.range len).map f).flatten[i * sz + r]? = (f i)[r]? := by
  intro len
  induction len with
  | zero => exact fun _ => ⟨by simp, fun i r hi => absurd hi (Nat.not_lt_zero _)⟩
  | succ len ih =>
    intro hl
    obtain ⟨h1, h2⟩ := ih fun i hi => hl i (by omega)
    have e : ((List.range (len + 1)).map f).flatten = ((List.range len).map f).flatten ++ f len := by simp [List.range_succ]
    rw [e]
    refine ⟨by rw [List.length_append, h1, hl len (by omega), Nat.succ_mul], fun i r hi hr => ?_⟩
    by_cases hil : i < len
    · have hle : (i + 1) * sz ≤ len * sz := Nat.mul_le_mul_right _ hil
      rw [Nat.succ_mul] at hle
      rw [List.getElem?_append_left (by rw [h1]; omega)]
      exact h2 i r hil hr
    · obtain rfl : i = len := by omega
      rw [List.getElem?_append_right (by rw [h1]; omega), h1]
      congr 1
      omega
theorem slg_row {W : World} {a : Addr} {len sz : Nat} (f : Nat → List Value) (hsz : 0 < sz) (hl : ∀ i, i < len → (f i).length = sz) (hc : ∀ i, i < len → ∀ j, j < sz → W.cell? ((a.add (i * sz)).add j) = (f i)[j]?) : SlG W.heap.size W (some a) ((List.range len).map f).flatten := by
  intro hne
  obtain ⟨h1, h2⟩ := flat_row f sz len hl
  have hlen : 0 < len := by
    rcases Nat.eq_zero_or_pos len with h | h
    · subst h; exact absurd rfl hne
    · exact h
  have hcell : ∀ (j : Nat) (u : Value), ((List.range len).map f).flatten[j]? = some u → W.cell? (a.add j) = some u := fun j u hu => by
    have hj := (List.getElem?_eq_some_iff.1 hu).1
    rw [h1] at hj
    have hi : j / sz < len := Nat.div_lt_of_lt_mul (by rw [Nat.mul_comm]; exact hj)
    have hr : j % sz < sz := Nat.mod_lt _ hsz
    have e : j / sz * sz + j % sz = j := Nat.div_add_mod' j sz
    have q := hc (j / sz) hi (j % sz) hr
    rw [Deep.add_add, e] at q
    rw [q, ← h2 _ _ hi hr, e]
    exact hu
  obtain ⟨u, hu⟩ : ∃ u, ((List.range len).map f).flatten[0]? = some u := by
    cases hz : ((List.range len).map f).flatten with
    | nil => exact absurd hz hne
    | cons u l => exact ⟨u, rfl⟩
  have h0 := hcell 0 u hu
  obtain ⟨b, off, path⟩ := a
  have hp : path = none := by
    cases path with
    | none => rfl
    | some z => exfalso; revert h0; simp only [Addr.add, World.cell?]; split <;> simp
  subst hp
  refine ⟨b, off, rfl, ?_, fun j u hu => ?_⟩
  · apply Classical.byContradiction
    intro hn
    have hnone : W.heap[b]? = none := Array.getElem?_eq_none (by omega)
    revert h0
    simp [Addr.add, World.cell?, hnone]
  · have := hcell j u hu
    rwa [Addr.add_lit] at this
/-- What is weighed. -/
theorem weighs_all {H : Type} {P : Program} {e : TypeId} {l : List (DataW H)} {d : DataW H} (hd : d ∈ l) {m : Nat} (hm : m ∈ d.weights P e) : m ∈ DataW.weightsAll P e l := by
  induction l with
  | nil => cases hd
  | cons x l ih =>
    rw [DataW.weightsAll, List.mem_append]
    rcases List.mem_cons.1 hd with rfl | h
    · exact Or.inl hm
    · exact Or.inr (ih h)
section
variable {H : Type} {enc : TypeId × Value → H} {W : World}
abbrev Trd (enc : TypeId × Value → H) (W : World) (fuel : Nat) (t : TypeId) (cs : List Value) (x : DataW H × List MemPlace) : Prop := DataW.trod enc Tryd.prog W 0 (fun _ => true) true fuel t cs = some x
/-- A row, element by element. -/
theorem open_rowG {α : Type} [Inhabited α] {t e : TypeId} {sz : Nat} (ht : Tryd.prog.underlying t = some (.slice e)) (hc : Tryd.prog.cellsOf e = sz) (hsz : 0 < sz) (cells : α → List Value) (good : α → DataW H → Prop) (hcl : ∀ a, (cells a).length = sz)
    (one : ∀ fuel cs x, Trd enc W fuel e cs x → ∃ a, cs = cells a ∧ good a x.1) {fuel : Nat} {cs : List Value} {x : DataW H × List MemPlace} (h : Trd enc W fuel t cs x) :
    ∃ (ao : Option Addr) (l : List α) (c : Nat), cs = [.slice ao l.length c] ∧ Sl10 W.heap.size W l.length ao c (l.map cells).flatten ∧ (l.length = 0 ∨ ∃ m, m ∈ x.1.weights Tryd.prog t ∧ l.length * Tryd.prog.bytesOf e ≤ m) ∧ ∀ a, a ∈ l → ∃ d, good a d ∧ ∀ m, m ∈ d.weights Tryd.prog e → m ∈ x.1.weights Tryd.prog t := by
  rcases Deep.open_slice ht h with ⟨hcs, _⟩ | ⟨a, len, cap, m, n, D, Pl, hcs, _, hl, hm, hmm, hx, hel⟩
  · exact ⟨none, [], 0, hcs, ⟨fun hne => absurd rfl hne, fun _ => ⟨rfl, rfl⟩, Nat.le_refl _, by unfold maxLen; omega⟩, Or.inl rfl, fun a ha => by cases ha⟩
  · have hmc : m = cap := by rw [hmm]; rfl
    have each : ∀ i, i < len → ∃ q : α, good q (D i) ∧ ∀ j, j < sz → W.cell? ((a.add (i * sz)).add j) = (cells q)[j]? := by
      intro i hi
      obtain ⟨cs', h1, h2⟩ := hel i (by omega)
      rw [hc] at h1
      obtain ⟨_, _, hcell⟩ := World.cells?_some h1
      obtain ⟨q, rfl, hg⟩ := one _ _ _ h2
      exact ⟨q, hg, hcell⟩
    obtain ⟨q, hq⟩ := Deep.choose_lt each
    refine ⟨some a, (List.range len).map q, cap, by rw [hcs]; simp, ⟨?_, (fun e => by cases e), by simpa using hl, hm⟩, Or.inr ⟨_, by rw [hx]; simp only [DataW.weights, ht]; exact List.mem_cons_self .., Nat.mul_le_mul_right _ (by simp)⟩, fun b hb => ?_⟩
    · have := slg_row (W := W) (a := a) (len := len) (fun i => cells (q i)) hsz (fun i _ => hcl _) (fun i hi j hj => (hq i hi).2 j hj)
      rw [List.map_map]
      exact this
    · obtain ⟨i, hi, rfl⟩ := List.mem_map.1 hb
      have hi' : i < len := by simpa using hi
      refine ⟨D i, (hq i hi').1, fun m' hm' => ?_⟩
      rw [hx]
      simp only [DataW.weights, ht]
      exact List.mem_cons_of_mem _ (List.mem_append_left _ (weighs_all (List.mem_map.2 ⟨i, by simpa using hi', rfl⟩) hm'))
theorem icells_flat (l : List Int) : (l.map fun x => [Value.int .i64 x]).flatten = icells l := by
  induction l with
  | nil => rfl
  | cons v l ih => rw [List.map_cons, List.flatten_cons, ih]; rfl
set_option maxRecDepth 100000 in
theorem open_ints {fuel : Nat} {cs : List Value} {x : DataW H × List MemPlace} (h : Trd enc W fuel 22 cs x) :
    ∃ (ao : Option Addr) (l : List Int) (c : Nat), cs = [.slice ao l.length c] ∧ Sl10 W.heap.size W l.length ao c (icells l) ∧ (l.length = 0 ∨ ∃ m, m ∈ x.1.weights Tryd.prog 22 ∧ l.length * 8 ≤ m) := by
  have hb : Tryd.prog.bytesOf 3 = 8 := by kernel_rfl
  obtain ⟨ao, l, c, h1, h2, h3, _⟩ := open_rowG (sz := 1) Tryd.underlying22 (by kernel_rfl) (by decide) (fun x : Int => [Value.int .i64 x]) (fun _ _ => True) (fun _ => rfl) (fun fuel cs x h => by
    have c1 : Tryd.prog.cellsOf 3 = 1 := by kernel_rfl
    obtain ⟨k0, e0, f0, wk⟩ := DataW.trod_int Tryd.underlying3 h
    exact ⟨k0, e0, trivial⟩) h
  rw [icells_flat] at h2
  rw [hb] at h3
  exact ⟨ao, l, c, h1, h2, h3⟩
instance : Inhabited (TK × Value) := ⟨((0, []), .slice none 0 0)⟩
set_option maxRecDepth 100000 in
theorem open_tok {fuel : Nat} {cs : List Value} {x : DataW H × List MemPlace} (h : Trd enc W fuel 24 cs x) :
    ∃ (t : TK) (ao : Option Addr) (c : Nat), cs = [.int .i64 t.1, .slice ao t.2.length c] ∧ Sl10 W.heap.size W t.2.length ao c (icells t.2) ∧ (t.2.length = 0 ∨ ∃ m, m ∈ x.1.weights Tryd.prog 24 ∧ t.2.length * 8 ≤ m) := by
  have c1 : Tryd.prog.cellsOf 3 = 1 := by kernel_rfl
  have c2 : Tryd.prog.cellsOf 22 = 1 := by kernel_rfl
  have c3 : Tryd.prog.cellsOf 24 = 2 := by kernel_rfl
  obtain ⟨y0, y1, k, hx, hl, g0, g1⟩ := trod_struct2 Tryd.underlying24 h
  rw [c3] at hl
  match cs, hl with
  | [v0, v1], _ =>
    simp [c1, c2] at g0 g1
    obtain ⟨k0, e0, f0, wk⟩ := DataW.trod_int Tryd.underlying3 g0
    obtain ⟨ao, l, c, e1, hs, hw⟩ := open_ints g1
    simp at e0 e1
    subst e0 e1 hx f0
    refine ⟨(k0, l), ao, c, rfl, hs, ?_⟩
    rcases hw with hw | ⟨m, hm, hw⟩
    · exact Or.inl hw
    · refine Or.inr ⟨m, ?_, hw⟩
      simp [DataW.weights, DataW.weightsEach, Tryd.underlying24]
      exact hm
theorem cellsTk_flat (l : List (TK × Value)) : (l.map fun p => [Value.int .i64 p.1.1, p.2]).flatten = cellsTk l := by
  induction l with
  | nil => rfl
  | cons v l ih => rw [List.map_cons, List.flatten_cons, ih]; rfl
set_option maxRecDepth 100000 in
theorem open_toks {fuel : Nat} {cs : List Value} {x : DataW H × List MemPlace} (h : Trd enc W fuel 37 cs x) (hw : ∀ m, m ∈ x.1.weights Tryd.prog 37 → m ≤ 140737488355328) :
    ∃ (ao : Option Addr) (l : List TK) (c : Nat), cs = [.slice ao l.length c] ∧ SlTk W.heap.size W ao l ∧ (ao = none → c = 0) ∧ l.length ≤ c ∧ c ≤ maxLen ∧ l.length ≤ 281474976710656 ∧ ∀ t, t ∈ l → t.2.length ≤ 281474976710656 := by
  have hb : Tryd.prog.bytesOf 24 = 32 := by kernel_rfl
  obtain ⟨ao, l, c, h1, h2, h3, h4⟩ := open_rowG (sz := 2) Tryd.underlying37 (by kernel_rfl) (by decide) (fun p : TK × Value => [Value.int .i64 p.1.1, p.2])
    (fun p d => SlD W.heap.size W p ∧ (p.1.2.length = 0 ∨ ∃ m, m ∈ d.weights Tryd.prog 24 ∧ p.1.2.length * 8 ≤ m)) (fun _ => rfl) (fun fuel cs x h => by
    obtain ⟨t, ao, c, e, s, hx⟩ := open_tok h
    exact ⟨(t, .slice ao t.2.length c), e, ⟨ao, c, rfl, s.row, fun hn => (s.nil hn).2⟩, hx⟩) h
  rw [cellsTk_flat] at h2
  rw [hb] at h3
  have hl : (l.map Prod.fst).length = l.length := by simp
  refine ⟨ao, l.map Prod.fst, c, by rw [hl]; exact h1, ⟨l, rfl, h2.row, fun p hp => ?_⟩, fun hn => (h2.nil hn).2, by rw [hl]; exact h2.cap, h2.top, ?_, fun t ht => ?_⟩
  · obtain ⟨d, ⟨hd, _⟩, _⟩ := h4 p hp
    exact hd
  · rw [hl]
    rcases h3 with h3 | ⟨m, hm, h3⟩
    · omega
    · have := hw m hm
      omega
  · obtain ⟨p, hp, rfl⟩ := List.mem_map.1 ht
    obtain ⟨d, ⟨_, hd⟩, hm⟩ := h4 p hp
    rcases hd with hd | ⟨m, hmm, hd⟩
    · omega
    · have := hw m (hm m hmm)
      omega
end
end Go.Proofs.YtlkmabnjmklkpaaDoor
