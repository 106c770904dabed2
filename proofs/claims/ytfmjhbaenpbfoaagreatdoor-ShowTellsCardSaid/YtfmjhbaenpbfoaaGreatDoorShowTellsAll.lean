/- ShowTells is true for any tree: its text, or that it has none, is as the document tells, and it stays as it was; no conditions. -/
import Derived.Test.YtfmjhbaenpbfoaaGreatDoorShow1
import Derived.Test.YtfmjhbaenpbfoaaGreatDoorShow2
import Derived.Test.YtfmjhbaenpbfoaaGreatDoorKeptT
import Derived.Test.YtfmjhbaenpbfoaaGreatDoorRightR
import Derived.Test.YtfmjhbaenpbfoaaGreatDoorCards
import Derived.Test.YtfmjhbaenpbfoaaGreatDoorTie
import Derived.Deep.DeepCutAuto
import Derived.ProofKit
import Derived.OpenShut
import Derived.ChangeArms
import Derived.ChangeMaps5
import Derived.Deep.Slices
import Derived.Lib.SmallJoins
import Derived.Lib.LaidTab
import Derived.LaidMore
import Derived.Lay
import Derived.SevenTiedAt
import Derived.Stop.Joined
import Derived.LaidLaws
import Derived.Stop.LaidErr
import Derived.ChangeBears2
namespace Go.Proofs.YtfmjhbaenpbfoaaGreatDoor
open Go.RowKit

section
variable {P : Program} {ops : Array Oper} {Q : Exit → Act → World → Prop}
theorem wpOps_nil7 (a : Act) (w : World) (h : Q .normal a w) : wpOps P ops Q [] a w := h
/-- What an operation must wait for are earlier ones. -/
def earlier7 (ops : Array Oper) : Bool := (List.range ops.size).all fun j => match ops[j]? with | some o => o.after.toList.all fun e => !Region.binds .any e || decide (e.on < j) | none => true
/-- A region that goes from the first operation to the last. -/
theorem wp_region_seq {id : Nat} {a : Act} {w : World} (I : Array Bool → Act → World → Prop) (he : earlier7 ops = true)
    (start : I (Array.replicate ops.size false) a w)
    (step : ∀ (listed : Array Bool) (a : Act) (w : World) (i : Nat), listed.size = ops.size → I listed a w → i ∈ Region.ready .any ops listed → wpOp P ops Q i (I (listed.setIfInBounds i true)) a w)
    (done : ∀ (listed : Array Bool) (a : Act) (w : World), I listed a w → (∀ j, j < ops.size → listed.getD j false = true) → Q .normal a w) : (Code.region id ops false).wp P Q a w := by
  refine wp_region ?_
  have gen : ∀ (m k : Nat) (listed : Array Bool) (a : Act) (w : World), k + m = ops.size → (∀ j, j < k → listed.getD j false = true) → (∀ j, k ≤ j → j < ops.size → listed.getD j true = false) → listed.size = ops.size → I listed a w → wpOps P ops Q (List.range' k m) a w := by
    intro m
    induction m with
    | zero =>
      intro k listed a w hk h1 h2 hs hI
      exact wpOps_nil7 a w (done listed a w hI fun j hj => h1 j (by omega))
    | succ m ih =>
      intro k listed a w hk h1 h2 hs hI
      rw [List.range'_succ, wpOps_cons]
      have hks : k < ops.size := by omega
      have hr : k ∈ Region.ready .any ops listed := by
        refine mem_ready.2 ⟨h2 k (Nat.le_refl _) hks, ops[k], Array.getElem?_eq_getElem hks, fun e hm hbd => ?_⟩
        have h3 := List.all_eq_true.1 he k (List.mem_range.2 hks)
        rw [Array.getElem?_eq_getElem hks] at h3
        have h4 := List.all_eq_true.1 h3 e (by simpa using hm)
        rw [hbd] at h4
        exact h1 e.on (of_decide_eq_true (by simpa using h4))
      refine wpOp_mono (fun a' w' h' => ih (k + 1) _ a' w' (by omega) (fun j hj => ?_) (fun j hj hjs => ?_) (by rw [Array.size_setIfInBounds]; exact hs) h') (step listed a w k hs hI hr)
      · by_cases e : j = k
        · subst e
          have : j < listed.size := by omega
          simp [this]
        · rw [getD_set_ne false (fun h => e h.symm)]
          exact h1 j (by omega)
      · rw [getD_set_ne true (by omega)]
        exact h2 j (by omega) hjs
  have := gen ops.size 0 (Array.replicate ops.size false) a w (by omega) (fun j hj => absurd hj (Nat.not_lt_zero _)) (fun j _ hj => by simp [hj]) (by simp) start
  rwa [← List.range_eq_range'] at this
end

mutual
def smallB : T → Bool
  | .mk _ s _ _ l => decide (s.size ≤ 72008) && decide (l.length ≤ 9000) && smallL l
def smallL : List T → Bool
  | [] => true
  | k :: l => smallB k && smallL l
end
theorem smallB_eq (t : T) : smallB t = (decide (t.text.size ≤ 72008) && decide (t.kids.length ≤ 9000) && smallL t.kids) := by cases t; rw [smallB]; rfl
theorem small_of (t : T) : smallB t = true → Small 9000 t := by
  induction t using T.ind with
  | h t ih =>
    intro h
    rw [smallB_eq, Bool.and_eq_true, Bool.and_eq_true] at h
    have hl : ∀ l : List T, smallL l = true → ∀ k, k ∈ l → smallB k = true := by
      intro l
      induction l with
      | nil => intro _ k hk; cases hk
      | cons q l ihl =>
        intro hq k hk
        rw [smallL, Bool.and_eq_true] at hq
        rcases List.mem_cons.1 hk with rfl | hk
        · exact hq.1
        · exact ihl hq.2 k hk
    have h1 := of_decide_eq_true h.1.1
    have h2 := of_decide_eq_true h.1.2
    exact .mk t (by omega) (by omega) fun k hk => ih k hk (hl _ h.2 k hk)

abbrev sayT (t : T) : T := .mk 1 ⟨#[]⟩ 0 0 [.mk 4 ⟨#[114]⟩ 0 0 [.mk 10 ⟨#[]⟩ 0 0 [t]]]
abbrev twoT7 (s : ByteArray) (a b : T) : T := .mk 16 s 0 0 [a, b]
/-- A tree that was made: of blocks that stood, and of new ones. -/
def MadeT (P : Nat → Prop) (t : T) (w : World) (e : Ending) (w' : World) : Prop := ∃ u, e = .returned (agg t u) ∧ Stood True (fun k => P k ∨ (w.heap.size ≤ k ∧ k < w'.heap.size)) w' t u ∧ Below w.heap.size w w'
theorem stood_one {P : Nat → Prop} {w : World} (t t0 : T) (u : Value) (b : Nat) (hk : t.kids = [t0]) (hb : w.heap[b]? = some (.cells (cellsN [(t0, u)]).toArray 25 (0, 0))) (hP : P b) (hs : Stood True P w t0 u) : Stood True P w t (.slice (some ⟨b, 0, none⟩) 1 1) := by
  have := stood_new (s := True) (P := P) (w := w) t [(t0, u)] b _ (by rw [hk]; rfl) hb hP (by rw [hk]; exact (by decide : 1 ≤ 100000)) (fun p hp => by
    rw [List.mem_singleton.1 hp]
    exact hs)
  rwa [show t.kids.length = 1 by rw [hk]; rfl] at this
theorem stood_two {P : Nat → Prop} {w : World} (t t0 t1 : T) (u0 u1 : Value) (b : Nat) (hk : t.kids = [t0, t1]) (hb : w.heap[b]? = some (.cells (cellsN [(t0, u0), (t1, u1)]).toArray 25 (0, 0))) (hP : P b) (h0 : Stood True P w t0 u0) (h1 : Stood True P w t1 u1) : Stood True P w t (.slice (some ⟨b, 0, none⟩) 2 2) := by
  have := stood_new (s := True) (P := P) (w := w) t [(t0, u0), (t1, u1)] b _ (by rw [hk]; rfl) hb hP (by rw [hk]; exact (by decide : 2 ≤ 100000)) (fun p hp => by
    simp only [List.mem_cons, List.not_mem_nil, or_false] at hp
    rcases hp with rfl | rfl
    · exact h0
    · exact h1)
  rwa [show t.kids.length = 2 by rw [hk]; rfl] at this

set_option maxRecDepth 100000 in
set_option maxHeartbeats 1000000 in
theorem two_any (s : ByteArray) (t0 t1 : T) (a0 a1 : Option Addr) (n0 n1 c0 c1 : Nat) (P : Nat → Prop) (w : World) (hP : ∀ k, P k → k < w.heap.size) (h0 : Stood True P w t0 (.slice a0 n0 c0)) (h1 : Stood True P w t1 (.slice a1 n1 c1)) :
    Calls Tryz.prog 14 #[.string s, agg t0 (.slice a0 n0 c0), agg t1 (.slice a1 n1 c1)] w (MadeT P (twoT7 s t0 t1) w) := by
  have HP := Lib.hid hP
  have H0 := Lib.hid h0
  have H1 := Lib.hid h1
  clear hP h0 h1
  unfold agg
  go_enter Tryz.func14, Tryz.ntmps14
  go_wp2_with (go_at_call 13; go_must (refine (of_any _ _ _ _ _ _).mono ?_; rintro e w1 ⟨rfl, hb⟩; have HB1 := Lib.hid hb; clear hb; refine Hid.out ?_))
  refine Lib.hid ?_
  have hB : Below ((((w.alloc (.cells #[.int .u8 t0.kind, .string t0.text, .int .i64 t0.num, .int .i64 t0.pos, .slice a0 n0 c0] 25)).alloc (.cells #[.int .u8 t1.kind, .string t1.text, .int .i64 t1.num, .int .i64 t1.pos, .slice a1 n1 c1] 25)).alloc (.cells #[.int .u8 0, .string ⟨#[]⟩, .int .i64 0, .int .i64 0, .slice none 0 0] 25)).alloc (.cells (cellsN [(t0, .slice a0 n0 c0), (t1, .slice a1 n1 c1)]).toArray 25)).heap.size ((((w.alloc (.cells #[.int .u8 t0.kind, .string t0.text, .int .i64 t0.num, .int .i64 t0.pos, .slice a0 n0 c0] 25)).alloc (.cells #[.int .u8 t1.kind, .string t1.text, .int .i64 t1.num, .int .i64 t1.pos, .slice a1 n1 c1] 25)).alloc (.cells #[.int .u8 0, .string ⟨#[]⟩, .int .i64 0, .int .i64 0, .slice none 0 0] 25)).alloc (.cells (cellsN [(t0, .slice a0 n0 c0), (t1, .slice a1 n1 c1)]).toArray 25)) w1 := HB1.out
  have g3 : (((w.alloc (.cells #[.int .u8 t0.kind, .string t0.text, .int .i64 t0.num, .int .i64 t0.pos, .slice a0 n0 c0] 25)).alloc (.cells #[.int .u8 t1.kind, .string t1.text, .int .i64 t1.num, .int .i64 t1.pos, .slice a1 n1 c1] 25)).alloc (.cells #[.int .u8 0, .string ⟨#[]⟩, .int .i64 0, .int .i64 0, .slice none 0 0] 25)).heap[w.heap.size + 1 + 1]? = some (.cells #[.int .u8 0, .string ⟨#[]⟩, .int .i64 0, .int .i64 0, .slice none 0 0] 25 (0, 0)) := by
    rw [show w.heap.size + 1 + 1 = ((w.alloc (.cells #[.int .u8 t0.kind, .string t0.text, .int .i64 t0.num, .int .i64 t0.pos, .slice a0 n0 c0] 25)).alloc (.cells #[.int .u8 t1.kind, .string t1.text, .int .i64 t1.num, .int .i64 t1.pos, .slice a1 n1 c1] 25)).heap.size by simp]
    exact heap_alloc_new _ _
  have g4 : w1.heap[w.heap.size + 1 + 1]? = some (.cells #[.int .u8 0, .string ⟨#[]⟩, .int .i64 0, .int .i64 0, .slice none 0 0] 25 (0, 0)) := by
    rw [hB.block _ (by simp), (below_own (w := (((w.alloc (.cells #[.int .u8 t0.kind, .string t0.text, .int .i64 t0.num, .int .i64 t0.pos, .slice a0 n0 c0] 25)).alloc (.cells #[.int .u8 t1.kind, .string t1.text, .int .i64 t1.num, .int .i64 t1.pos, .slice a1 n1 c1] 25)).alloc (.cells #[.int .u8 0, .string ⟨#[]⟩, .int .i64 0, .int .i64 0, .slice none 0 0] 25))) (.cells (cellsN [(t0, .slice a0 n0 c0), (t1, .slice a1 n1 c1)]).toArray 25)).block _ (by simp)]
    exact g3
  have g5 : w1.heap[w.heap.size + 1 + 1 + 1]? = some (.cells (cellsN [(t0, .slice a0 n0 c0), (t1, .slice a1 n1 c1)]).toArray 25 (0, 0)) := by
    rw [hB.block _ (by simp)]
    rw [show w.heap.size + 1 + 1 + 1 = (((w.alloc (.cells #[.int .u8 t0.kind, .string t0.text, .int .i64 t0.num, .int .i64 t0.pos, .slice a0 n0 c0] 25)).alloc (.cells #[.int .u8 t1.kind, .string t1.text, .int .i64 t1.num, .int .i64 t1.pos, .slice a1 n1 c1] 25)).alloc (.cells #[.int .u8 0, .string ⟨#[]⟩, .int .i64 0, .int .i64 0, .slice none 0 0] 25)).heap.size by simp]
    exact heap_alloc_new _ _
  have hb0 : Below w.heap.size w ((((w.alloc (.cells #[.int .u8 t0.kind, .string t0.text, .int .i64 t0.num, .int .i64 t0.pos, .slice a0 n0 c0] 25)).alloc (.cells #[.int .u8 t1.kind, .string t1.text, .int .i64 t1.num, .int .i64 t1.pos, .slice a1 n1 c1] 25)).alloc (.cells #[.int .u8 0, .string ⟨#[]⟩, .int .i64 0, .int .i64 0, .slice none 0 0] 25)).alloc (.cells (cellsN [(t0, .slice a0 n0 c0), (t1, .slice a1 n1 c1)]).toArray 25)) := (((below_own _).alloc (by simp) _).alloc (by simp; omega) _).alloc (by simp; omega) _
  have hb1 : Below w.heap.size w w1 := hb0.trans (hB.mono hb0.size)
  have hwz : w.heap.size + 1 + 1 + 1 < w1.heap.size := by have := hB.size; simp at this; omega
  have b0 : ∀ j, w1.cell? ⟨w.heap.size + 1 + 1, j, none⟩ = (#[.int .u8 0, .string ⟨#[]⟩, .int .i64 0, .int .i64 0, .slice none 0 0] : Array Value)[j]? := Lib.cell_of_heap g4
  have f0 : ∀ j, w1.frozen? ⟨w.heap.size + 1 + 1, j, none⟩ = false := Lib.frozen_of_heap g4
  have hs0 : Stood True (fun k => P k ∨ k = w.heap.size + 1 + 1 + 1) w1 t0 (.slice a0 n0 c0) := H0.out.keep (fun k hk => hb1.block k (HP.out k hk)) (fun k hk => Or.inl hk)
  have hs1 : Stood True (fun k => P k ∨ k = w.heap.size + 1 + 1 + 1) w1 t1 (.slice a1 n1 c1) := H1.out.keep (fun k hk => hb1.block k (HP.out k hk)) (fun k hk => Or.inl hk)
  have HSt := Lib.hid (stood_two (twoT7 s t0 t1) t0 t1 _ _ _ rfl g5 (Or.inr rfl) hs0 hs1)
  have HB := Lib.hid hb1
  clear g3 g4 g5 hb0 hb1 hs0 hs1 hB
  go_wp2_with fail
  have hfr : Fr (w.heap.size + 1 + 1) w1 (((((w1.setCell ⟨w.heap.size + 1 + 1, 0, none⟩ (.int .u8 16)).setCell ⟨w.heap.size + 1 + 1, 1, none⟩ (.string s)).setCell ⟨w.heap.size + 1 + 1, 2, none⟩ (.int .i64 0)).setCell ⟨w.heap.size + 1 + 1, 3, none⟩ (.int .i64 0)).setCell ⟨w.heap.size + 1 + 1, 4, none⟩ (.slice (some ⟨w.heap.size + 1 + 1 + 1, 0, none⟩) 2 2)) := (((((Fr.refl _ w1).set 0 _).set 1 _).set 2 _).set 3 _).set 4 _
  refine bodyPost_ret (v := agg (twoT7 s t0 t1) (.slice (some ⟨w.heap.size + 1 + 1 + 1, 0, none⟩) 2 2)) (by simp [results, Tryz.results14, go_sem, b0]; exact ⟨rfl, rfl, rfl, rfl⟩) rfl ⟨_, rfl, HSt.out.keep (fun k hk => hfr.block k ?_ (fun e => ?_)) (fun k hk => ?_), HB.out.trans (hfr.below HB.out.size (by omega))⟩
  · rcases hk with hk | rfl
    · have := HP.out k hk
      omega
    · exact hwz
  · rcases hk with hk | rfl
    · have := HP.out k hk
      have := Option.some.inj e
      omega
    · have := Option.some.inj e
      omega
  · rcases hk with hk | rfl
    · exact Or.inl hk
    · exact Or.inr ⟨by omega, Nat.lt_of_lt_of_le hwz hfr.size⟩

set_option maxRecDepth 100000 in
set_option maxHeartbeats 1000000 in
theorem says_any (t : T) (a0 : Option Addr) (n0 c0 : Nat) (P : Nat → Prop) (w : World) (hP : ∀ k, P k → k < w.heap.size) (h0 : Stood True P w t (.slice a0 n0 c0)) :
    Calls Tryz.prog 15 #[agg t (.slice a0 n0 c0)] w (MadeT P (sayT t) w) := by
  have HP := Lib.hid hP
  have H0 := Lib.hid h0
  clear hP h0
  unfold agg
  go_enter Tryz.func15, Tryz.ntmps15
  go_wp2_with (go_at_call 13; go_must (refine (of_any 10 _ _ _ _ _).mono ?_; rintro e w1 ⟨rfl, hb⟩; have HB1 := Lib.hid hb; clear hb; refine Hid.out ?_))
  refine Lib.hid ?_
  go_wp2_with (go_at_call 13; go_must (refine (of_any 4 _ _ _ _ _).mono ?_; rintro e w2 ⟨rfl, hb⟩; have HB2 := Lib.hid hb; clear hb; refine Hid.out ?_))
  refine Lib.hid ?_
  go_wp2_with (go_at_call 13; go_must (refine (of_any 1 _ _ _ _ _).mono ?_; rintro e w3 ⟨rfl, hb⟩; have HB3 := Lib.hid hb; clear hb; refine Hid.out ?_))
  refine Lib.hid ?_
  have hB1 : Below (((w.alloc (.cells #[.int .u8 t.kind, .string t.text, .int .i64 t.num, .int .i64 t.pos, .slice a0 n0 c0] 25)).alloc (.cells #[.int .u8 0, .string ⟨#[]⟩, .int .i64 0, .int .i64 0, .slice none 0 0] 25)).alloc (.cells (cellsN [(t, .slice a0 n0 c0)]).toArray 25)).heap.size (((w.alloc (.cells #[.int .u8 t.kind, .string t.text, .int .i64 t.num, .int .i64 t.pos, .slice a0 n0 c0] 25)).alloc (.cells #[.int .u8 0, .string ⟨#[]⟩, .int .i64 0, .int .i64 0, .slice none 0 0] 25)).alloc (.cells (cellsN [(t, .slice a0 n0 c0)]).toArray 25)) w1 := HB1.out
  have hB2 : Below (w1.alloc (.cells (cellsN [((T.mk 10 ⟨#[]⟩ 0 0 [t]), .slice (some ⟨w.heap.size + 1 + 1, 0, none⟩) 1 1)]).toArray 25)).heap.size (w1.alloc (.cells (cellsN [((T.mk 10 ⟨#[]⟩ 0 0 [t]), .slice (some ⟨w.heap.size + 1 + 1, 0, none⟩) 1 1)]).toArray 25)) w2 := HB2.out
  have hB3 : Below (w2.alloc (.cells (cellsN [((T.mk 4 ⟨#[114]⟩ 0 0 [(T.mk 10 ⟨#[]⟩ 0 0 [t])]), .slice (some ⟨w1.heap.size, 0, none⟩) 1 1)]).toArray 25)).heap.size (w2.alloc (.cells (cellsN [((T.mk 4 ⟨#[114]⟩ 0 0 [(T.mk 10 ⟨#[]⟩ 0 0 [t])]), .slice (some ⟨w1.heap.size, 0, none⟩) 1 1)]).toArray 25)) w3 := HB3.out
  have g2 : ((w.alloc (.cells #[.int .u8 t.kind, .string t.text, .int .i64 t.num, .int .i64 t.pos, .slice a0 n0 c0] 25)).alloc (.cells #[.int .u8 0, .string ⟨#[]⟩, .int .i64 0, .int .i64 0, .slice none 0 0] 25)).heap[w.heap.size + 1]? = some (.cells #[.int .u8 0, .string ⟨#[]⟩, .int .i64 0, .int .i64 0, .slice none 0 0] 25 (0, 0)) := by
    rw [show w.heap.size + 1 = (w.alloc (.cells #[.int .u8 t.kind, .string t.text, .int .i64 t.num, .int .i64 t.pos, .slice a0 n0 c0] 25)).heap.size by simp]
    exact heap_alloc_new _ _
  have z1 := hB1.size
  have z2 := hB2.size
  have z3 := hB3.size
  simp at z1 z2 z3
  have k1 : Below ((w.alloc (.cells #[.int .u8 t.kind, .string t.text, .int .i64 t.num, .int .i64 t.pos, .slice a0 n0 c0] 25)).alloc (.cells #[.int .u8 0, .string ⟨#[]⟩, .int .i64 0, .int .i64 0, .slice none 0 0] 25)).heap.size ((w.alloc (.cells #[.int .u8 t.kind, .string t.text, .int .i64 t.num, .int .i64 t.pos, .slice a0 n0 c0] 25)).alloc (.cells #[.int .u8 0, .string ⟨#[]⟩, .int .i64 0, .int .i64 0, .slice none 0 0] 25)) w1 := (below_own _).trans (hB1.mono (by simp))
  have k2 : Below w1.heap.size w1 w2 := (below_own _).trans (hB2.mono (by simp))
  have k3 : Below w2.heap.size w2 w3 := (below_own _).trans (hB3.mono (by simp))
  have g4 : w3.heap[w.heap.size + 1]? = some (.cells #[.int .u8 0, .string ⟨#[]⟩, .int .i64 0, .int .i64 0, .slice none 0 0] 25 (0, 0)) := by
    rw [k3.block _ (by omega), k2.block _ (by omega), k1.block _ (by simp)]
    exact g2
  have r1 : w1.heap[w.heap.size + 1 + 1]? = some (.cells (cellsN [(t, .slice a0 n0 c0)]).toArray 25 (0, 0)) := by
    rw [hB1.block _ (by simp)]
    rw [show w.heap.size + 1 + 1 = ((w.alloc (.cells #[.int .u8 t.kind, .string t.text, .int .i64 t.num, .int .i64 t.pos, .slice a0 n0 c0] 25)).alloc (.cells #[.int .u8 0, .string ⟨#[]⟩, .int .i64 0, .int .i64 0, .slice none 0 0] 25)).heap.size by simp]
    exact heap_alloc_new _ _
  have r2 : w2.heap[w1.heap.size]? = some (.cells (cellsN [((T.mk 10 ⟨#[]⟩ 0 0 [t]), .slice (some ⟨w.heap.size + 1 + 1, 0, none⟩) 1 1)]).toArray 25 (0, 0)) := (hB2.block _ (by simp)).trans (heap_alloc_new _ _)
  have r3 : w3.heap[w2.heap.size]? = some (.cells (cellsN [((T.mk 4 ⟨#[114]⟩ 0 0 [(T.mk 10 ⟨#[]⟩ 0 0 [t])]), .slice (some ⟨w1.heap.size, 0, none⟩) 1 1)]).toArray 25 (0, 0)) := (hB3.block _ (by simp)).trans (heap_alloc_new _ _)
  have hb0 : Below w.heap.size w ((w.alloc (.cells #[.int .u8 t.kind, .string t.text, .int .i64 t.num, .int .i64 t.pos, .slice a0 n0 c0] 25)).alloc (.cells #[.int .u8 0, .string ⟨#[]⟩, .int .i64 0, .int .i64 0, .slice none 0 0] 25)) := (below_own _).alloc (by simp) _
  have hb1 : Below w.heap.size w w1 := hb0.trans (k1.mono (by simp; omega))
  have q1 : Stood True (fun k => P k ∨ k = w.heap.size + 1 + 1 ∨ k = w1.heap.size ∨ k = w2.heap.size) w1 (T.mk 10 ⟨#[]⟩ 0 0 [t]) (.slice (some ⟨w.heap.size + 1 + 1, 0, none⟩) 1 1) := stood_one (T.mk 10 ⟨#[]⟩ 0 0 [t]) t _ _ rfl r1 (Or.inr (Or.inl rfl)) (H0.out.keep (fun k hk => hb1.block k (HP.out k hk)) (fun k hk => Or.inl hk))
  have old : ∀ k, P k ∨ k = w.heap.size + 1 + 1 → k < w1.heap.size := fun k hk => by
    rcases hk with hk | rfl
    · have := HP.out k hk; omega
    · omega
  have q1' : Stood True (fun k => P k ∨ k = w.heap.size + 1 + 1) w1 (T.mk 10 ⟨#[]⟩ 0 0 [t]) (.slice (some ⟨w.heap.size + 1 + 1, 0, none⟩) 1 1) := stood_one (T.mk 10 ⟨#[]⟩ 0 0 [t]) t _ _ rfl r1 (Or.inr rfl) (H0.out.keep (fun k hk => hb1.block k (HP.out k hk)) (fun k hk => Or.inl hk))
  have q2 : Stood True (fun k => (P k ∨ k = w.heap.size + 1 + 1) ∨ k = w1.heap.size) w2 (T.mk 4 ⟨#[114]⟩ 0 0 [(T.mk 10 ⟨#[]⟩ 0 0 [t])]) (.slice (some ⟨w1.heap.size, 0, none⟩) 1 1) := stood_one (T.mk 4 ⟨#[114]⟩ 0 0 [(T.mk 10 ⟨#[]⟩ 0 0 [t])]) (T.mk 10 ⟨#[]⟩ 0 0 [t]) _ _ rfl r2 (Or.inr rfl) (q1'.keep (fun k hk => k2.block k (old k hk)) (fun k hk => Or.inl hk))
  have q3 : Stood True (fun k => ((P k ∨ k = w.heap.size + 1 + 1) ∨ k = w1.heap.size) ∨ k = w2.heap.size) w3 (sayT t) (.slice (some ⟨w2.heap.size, 0, none⟩) 1 1) := stood_one (sayT t) (T.mk 4 ⟨#[114]⟩ 0 0 [(T.mk 10 ⟨#[]⟩ 0 0 [t])]) _ _ rfl r3 (Or.inr rfl) (q2.keep (fun k hk => k3.block k (by
    rcases hk with hk | rfl
    · have := old k hk; omega
    · omega)) (fun k hk => Or.inl hk))
  have HSt := Lib.hid q3
  have HB := Lib.hid (hb1.trans ((k2.mono hb1.size).trans (k3.mono (by omega))))
  have b0 : ∀ j, w3.cell? ⟨w.heap.size + 1, j, none⟩ = (#[.int .u8 0, .string ⟨#[]⟩, .int .i64 0, .int .i64 0, .slice none 0 0] : Array Value)[j]? := Lib.cell_of_heap g4
  have f0 : ∀ j, w3.frozen? ⟨w.heap.size + 1, j, none⟩ = false := Lib.frozen_of_heap g4
  have hz1 : w.heap.size + 1 + 1 < w1.heap.size := by omega
  have hz2 : w1.heap.size < w2.heap.size := by omega
  have hz3 : w2.heap.size < w3.heap.size := by omega
  clear q1 q1' q2 q3 old hb0 hb1 r1 r2 r3 g2 g4 hB1 hB2 hB3 k1 k2 k3 z1 z2 z3
  go_wp2_with fail
  have hfr : Fr (w.heap.size + 1) w3 (((((w3.setCell ⟨w.heap.size + 1, 0, none⟩ (.int .u8 1)).setCell ⟨w.heap.size + 1, 1, none⟩ (.string ⟨#[]⟩)).setCell ⟨w.heap.size + 1, 2, none⟩ (.int .i64 0)).setCell ⟨w.heap.size + 1, 3, none⟩ (.int .i64 0)).setCell ⟨w.heap.size + 1, 4, none⟩ (.slice (some ⟨w2.heap.size, 0, none⟩) 1 1)) := (((((Fr.refl _ w3).set 0 _).set 1 _).set 2 _).set 3 _).set 4 _
  refine bodyPost_ret (v := agg (sayT t) (.slice (some ⟨w2.heap.size, 0, none⟩) 1 1)) (by simp [results, Tryz.results15, go_sem, b0]; exact ⟨rfl, rfl, rfl, rfl⟩) rfl ⟨_, rfl, HSt.out.keep (fun k hk => hfr.block k ?_ (fun e => ?_)) (fun k hk => ?_), HB.out.trans (hfr.below HB.out.size (by omega))⟩
  · rcases hk with ((hk | rfl) | rfl) | rfl
    · have := HP.out k hk; omega
    · omega
    · omega
    · omega
  · have e' := Option.some.inj e
    rcases hk with ((hk | rfl) | rfl) | rfl
    · have := HP.out k hk; omega
    · omega
    · omega
    · omega
  · have hz := hfr.size
    rcases hk with ((hk | rfl) | rfl) | rfl
    · exact Or.inl hk
    · exact Or.inr ⟨by omega, by omega⟩
    · exact Or.inr ⟨by omega, by omega⟩
    · exact Or.inr ⟨by omega, by omega⟩

set_option maxRecDepth 100000 in
set_option maxHeartbeats 1000000 in
theorem shown_any (t : T) (v : Value) (s : ByteArray) (w : World) (hl : Lies w.heap.size w t v) (hL : Laid w) (hS : Small 9000 t) (ht : Tab w.heap.size w) (hr : rightT t = true) (hs : s = BA (showT t)) :
    Calls Tryz.prog 19 #[agg t v, .string s] w fun e w' => e = .returned (.bool true) ∧ Below w.heap.size w w' := by
  obtain ⟨ao, c, ps, rfl, k1⟩ := hl.out
  have HB0 := Lib.hid (below_own (w := w) (.cells #[.int .u8 t.kind, .string t.text, .int .i64 t.num, .int .i64 t.pos, .slice ao t.kids.length c] 25))
  have KP := Lib.hid (program7_any t (.slice ao t.kids.length c) _ (hl.up HB0.out HB0.out.size) (hL.below HB0.out) hS (fun W hb => ht W (HB0.out.trans (hb.mono HB0.out.size))))
  unfold ShowSay at KP
  rw [hr] at KP
  simp only [if_true] at KP
  rw [← hs] at KP
  clear hl hL hS ht hr hs k1
  have hss : (s.toList == s.toList) = true := beq_self_eq_true _
  unfold agg at *
  go_enter Tryz.func19, Tryz.ntmps19
  go_wp2_with (go_at_call 10; go_must (refine (KP.out).mono ?_; rintro e w1 ⟨rfl, hb⟩; have HB1 := Lib.hid (HB0.out.trans (hb.mono HB0.out.size)); clear hb))
  go_ret
  exact ⟨rfl, HB1.out⟩
end Go.Proofs.YtfmjhbaenpbfoaaGreatDoor

namespace Go.Proofs.YtfmjhbaenpbfoaaGreatDoor
open Go.RowKit

section
variable {ops : Array Oper} {Q : Exit → Act → World → Prop} {K : Act → World → Prop} {a : Act} {w : World} {i d : Nat} {ty : TypeId} {pos : String} {after : Array Edge} {g : Option (Nat × Bool)} {ts : Array TypeId} {r : Nat} {w0 : World} {bs n : Nat} {F : List (Option Nat × Nat × Fx)} {listed : Array Bool}
theorem yields_of {j e : Nat} {b : Bool} {o : Oper} (ho : ops[j]? = some o) (hd : o.dst = some e) (h : a.eval (.tmp e) = .bool b) : yielded ops a.tmps j = some b := by
  have h' : a.tmps[e]?.getD undef = .bool b := by
    rw [← Array.getD_eq_getD_getElem?]
    exact h
  unfold yielded
  rw [ho]
  simp only [Option.bind_some, hd]
  cases hq : a.tmps[e]? with
  | none => rw [hq] at h'; cases h'
  | some v => rw [hq] at h'; simp only [Option.getD_some] at h'; rw [h']
theorem wanted_of {o : Oper} {j : Nat} {b : Bool} (hg : o.guard = some (j, b)) (hy : yielded ops a.tmps j = some b) : Region.wanted o (yielded ops a.tmps) = true := by
  unfold Region.wanted
  rw [hg]
  simp [hy]
theorem made_hold (h : Reg r w0 bs n F listed a w) {w' : World} {t : T} {u v : Value} (hs : Stood True (fun k => PB r bs a w k ∨ (w.heap.size ≤ k ∧ k < w'.heap.size)) w' t u) (hb : Below w.heap.size w w') (hbs : d ≠ bs) : Stood True (PB r bs (a.put (some d) v) w') w' t u := by
  refine hs.keep (fun _ _ => rfl) fun k hk => ?_
  rcases hk with hk | ⟨h1, h2⟩
  · exact pb_put hbs hb k hk
  · refine ⟨h2, by have := h.low; omega, ?_⟩
    rw [eval_put_ne _ _ _ _ (Ne.symm hbs)]
    exact h.fresh k h1
theorem Reg.of2 (h : Reg r w0 bs n F listed a w) {k : Int} {o x : Operand} {s : ByteArray} {l : List T} (hi : ops[i]? = some { dst := some d, op := .call { callee := .value (.func 13), args := #[.const (.int .u8 k), o, x], argTypes := ts }, type := ty, pos := pos, after := after, guard := g })
    (hg : Region.wanted { dst := some d, op := .call { callee := .value (.func 13), args := #[.const (.int .u8 k), o, x], argTypes := ts }, type := ty, pos := pos, after := after, guard := g } (yielded ops a.tmps) = true) (ho : a.eval o = .string s) (hx : (Fx.rows l).holds (PB r bs a w) w (a.eval x)) (hU : F.filter (fun f => f.1 == some i) = [(some i, d, .tree (.mk k s 0 0 l))]) (hA : (F.all fun f => f.1 == some i || f.2.1 != d) = true) (hd : d < n) (hbs : d ≠ bs) : wpOp Tryz.prog ops Q i (Reg r w0 bs n F (listed.setIfInBounds i true)) a w := by
  obtain ⟨ao, c, hv⟩ := rows_out hx
  refine wpOp_call (vs := #[.int .u8 k, .string s, .slice ao l.length c]) hi hg (enters_of Tryz.func13 (by kernel_rfl) rfl) (by simp only [List.map_toArray, List.map_cons, List.map_nil, ho, hv]; rfl) ?_
  refine (of_any k s ao l.length c w).mono ?_
  rintro e w' ⟨rfl, hb⟩
  refine ⟨_, rfl, h.one hb _ hU hA hd (fun e => absurd e hbs) ?_⟩
  refine ⟨.slice ao l.length c, rfl, ?_⟩
  rw [hv] at hx
  exact stood_rows (Stood.keep hx (fun k hk => hb.block k hk.1) (pb_put hbs hb)) rfl
theorem Reg.two (h : Reg r w0 bs n F listed a w) {o x y : Operand} {s : ByteArray} {ta tb : T} (hi : ops[i]? = some { dst := some d, op := .call { callee := .value (.func 14), args := #[o, x, y], argTypes := ts }, type := ty, pos := pos, after := after, guard := g })
    (hg : Region.wanted { dst := some d, op := .call { callee := .value (.func 14), args := #[o, x, y], argTypes := ts }, type := ty, pos := pos, after := after, guard := g } (yielded ops a.tmps) = true) (ho : a.eval o = .string s) (hx : (Fx.tree ta).holds (PB r bs a w) w (a.eval x)) (hy : (Fx.tree tb).holds (PB r bs a w) w (a.eval y)) (hU : F.filter (fun f => f.1 == some i) = [(some i, d, .tree (twoT7 s ta tb))]) (hA : (F.all fun f => f.1 == some i || f.2.1 != d) = true) (hd : d < n) (hbs : d ≠ bs) : wpOp Tryz.prog ops Q i (Reg r w0 bs n F (listed.setIfInBounds i true)) a w := by
  obtain ⟨u, hv, hst⟩ := hx
  obtain ⟨u', hv', hst'⟩ := hy
  obtain ⟨a0, c0, ps0, rfl, -⟩ := hst.out
  obtain ⟨a1, c1, ps1, rfl, -⟩ := hst'.out
  refine wpOp_call (vs := #[.string s, agg ta (.slice a0 ta.kids.length c0), agg tb (.slice a1 tb.kids.length c1)]) hi hg (enters_of Tryz.func14 (by kernel_rfl) rfl) (by simp only [List.map_toArray, List.map_cons, List.map_nil, ho, hv, hv']) ?_
  refine (two_any s ta tb a0 a1 _ _ c0 c1 (PB r bs a w) w (fun k hk => hk.1) hst hst').mono ?_
  rintro e w' ⟨u2, rfl, hs, hb⟩
  exact ⟨_, rfl, h.one hb _ hU hA hd (fun e => absurd e hbs) ⟨u2, rfl, made_hold h hs hb hbs⟩⟩
theorem Reg.says (h : Reg r w0 bs n F listed a w) {x : Operand} {t : T} (hi : ops[i]? = some { dst := some d, op := .call { callee := .value (.func 15), args := #[x], argTypes := ts }, type := ty, pos := pos, after := after, guard := g })
    (hg : Region.wanted { dst := some d, op := .call { callee := .value (.func 15), args := #[x], argTypes := ts }, type := ty, pos := pos, after := after, guard := g } (yielded ops a.tmps) = true) (hx : (Fx.tree t).holds (PB r bs a w) w (a.eval x)) (hU : F.filter (fun f => f.1 == some i) = [(some i, d, .tree (sayT t))]) (hA : (F.all fun f => f.1 == some i || f.2.1 != d) = true) (hd : d < n) (hbs : d ≠ bs) : wpOp Tryz.prog ops Q i (Reg r w0 bs n F (listed.setIfInBounds i true)) a w := by
  obtain ⟨u, hv, hst⟩ := hx
  obtain ⟨a0, c0, ps0, rfl, -⟩ := hst.out
  refine wpOp_call (vs := #[agg t (.slice a0 t.kids.length c0)]) hi hg (enters_of Tryz.func15 (by kernel_rfl) rfl) (by simp only [List.map_toArray, List.map_cons, List.map_nil, hv]) ?_
  refine (says_any t a0 _ c0 (PB r bs a w) w (fun k hk => hk.1) hst).mono ?_
  rintro e w' ⟨u2, rfl, hs, hb⟩
  exact ⟨_, rfl, h.one hb _ hU hA hd (fun e => absurd e hbs) ⟨u2, rfl, made_hold h hs hb hbs⟩⟩
theorem Reg.shown (h : Reg r w0 bs n F listed a w) {x o : Operand} {t : T} {s : ByteArray} (hi : ops[i]? = some { dst := some d, op := .call { callee := .value (.func 19), args := #[x, o], argTypes := ts }, type := ty, pos := pos, after := after, guard := g })
    (hg : Region.wanted { dst := some d, op := .call { callee := .value (.func 19), args := #[x, o], argTypes := ts }, type := ty, pos := pos, after := after, guard := g } (yielded ops a.tmps) = true) (ho : a.eval o = .string s) (hx : (Fx.tree t).holds (PB r bs a w) w (a.eval x)) (hL : Laid w0) (hT : Tab w0.heap.size w0) (hS : smallB t = true) (hr : rightT t = true) (hs : s = BA (showT t)) (hU : F.filter (fun f => f.1 == some i) = [(some i, d, .bool true)]) (hA : (F.all fun f => f.1 == some i || f.2.1 != d) = true) (hd : d < n) (hbs : d ≠ bs) : wpOp Tryz.prog ops Q i (Reg r w0 bs n F (listed.setIfInBounds i true)) a w := by
  obtain ⟨u, hv, hst⟩ := hx
  refine wpOp_call (vs := #[agg t u, .string s]) hi hg (enters_of Tryz.func19 (by kernel_rfl) rfl) (by simp only [List.map_toArray, List.map_cons, List.map_nil, hv, ho]) ?_
  refine (shown_any t u s w (hst.lies fun k hk => hk.1) (hL.below h.bel) (small_of t hS) (fun W hb => hT W (h.bel.trans (hb.mono h.bel.size))) hr hs).mono ?_
  rintro e w' ⟨rfl, hb'⟩
  exact ⟨_, rfl, h.one hb' _ hU hA hd (fun e => absurd e hbs) rfl⟩
theorem Reg.progZ (h : Reg r w0 bs n F listed a w) {x : Operand} {t : T} (hi : ops[i]? = some { dst := some d, op := .call { callee := .value (.func 10), args := #[x], argTypes := ts }, type := ty, pos := pos, after := after, guard := g })
    (hg : Region.wanted { dst := some d, op := .call { callee := .value (.func 10), args := #[x], argTypes := ts }, type := ty, pos := pos, after := after, guard := g } (yielded ops a.tmps) = true) (hx : (Fx.tree t).holds (PB r bs a w) w (a.eval x)) (hL : Laid w0) (hT : Tab w0.heap.size w0) (hS : smallB t = true) (hr : rightT t = false) (hU : F.filter (fun f => f.1 == some i) = [(some i, d, .val (.tuple #[.string (BA []), .int .i64 4]))]) (hA : (F.all fun f => f.1 == some i || f.2.1 != d) = true) (hd : d < n) (hbs : d ≠ bs) : wpOp Tryz.prog ops Q i (Reg r w0 bs n F (listed.setIfInBounds i true)) a w := by
  obtain ⟨u, hv, hst⟩ := hx
  refine wpOp_call (vs := #[agg t u]) hi hg (enters_of Tryz.func10 (by kernel_rfl) rfl) (by simp only [List.map_toArray, List.map_cons, List.map_nil, hv]) ?_
  refine (program7_any t u w (hst.lies fun k hk => hk.1) (hL.below h.bel) (small_of t hS) (fun W hb => hT W (h.bel.trans (hb.mono h.bel.size)))).mono ?_
  rintro e w' ⟨he, hb'⟩
  rw [hr] at he
  exact ⟨_, he, h.one hb' _ hU hA hd (fun e => absurd e hbs) rfl⟩
theorem Reg.mv (h : Reg r w0 bs n F listed a w) {x : Operand} {v : Value} (hi : ops[i]? = some { dst := some d, op := .move x, type := ty, pos := pos, after := after, guard := g })
    (hg : Region.wanted { dst := some d, op := .move x, type := ty, pos := pos, after := after, guard := g } (yielded ops a.tmps) = true) (hx : a.eval x = v) (hU : F.filter (fun f => f.1 == some i) = [(some i, d, .val v)]) (hA : (F.all fun f => f.1 == some i || f.2.1 != d) = true) (hd : d < n) (hbs : d ≠ bs) : wpOp Tryz.prog ops Q i (Reg r w0 bs n F (listed.setIfInBounds i true)) a w := by
  have hK := h.one (i := i) (d := d) (Below.refl _ _) _ hU hA hd (fun e => absurd e hbs) rfl
  refine wpOp_go hi hg ?_
  unfold Oper.wp
  have KK := Lib.hid hK
  clear hK hg hi hU hA
  generalize a.eval = ρ at *
  subst hx
  go_simp
  exact KK.out
theorem Reg.move (h : Reg r w0 bs n F listed a w) {x : Operand} {b : Bool} (hi : ops[i]? = some { dst := some d, op := .move x, type := ty, pos := pos, after := after, guard := g })
    (hg : Region.wanted { dst := some d, op := .move x, type := ty, pos := pos, after := after, guard := g } (yielded ops a.tmps) = true) (hx : (Fx.bool b).holds (PB r bs a w) w (a.eval x)) (hU : F.filter (fun f => f.1 == some i) = [(some i, d, .bool b)]) (hA : (F.all fun f => f.1 == some i || f.2.1 != d) = true) (hd : d < n) (hbs : d ≠ bs) : wpOp Tryz.prog ops Q i (Reg r w0 bs n F (listed.setIfInBounds i true)) a w := by
  have hK := h.one (i := i) (d := d) (Below.refl _ _) _ hU hA hd (fun e => absurd e hbs) rfl
  refine wpOp_go hi hg ?_
  unfold Oper.wp
  have KK := Lib.hid hK
  clear hK hg hi hU hA
  unfold Fx.holds at *
  generalize a.eval = ρ at *
  go_simp
  exact KK.out
theorem Reg.asg (h : Reg r w0 bs n F listed a w) {x : Operand} {v : Value} (hi : ops[i]? = some { dst := some d, op := .assign x, type := ty, pos := pos, after := after, guard := g })
    (hg : Region.wanted { dst := some d, op := .assign x, type := ty, pos := pos, after := after, guard := g } (yielded ops a.tmps) = true) (hx : a.eval x = v) (hU : F.filter (fun f => f.1 == some i) = [(some i, d, .val v)]) (hA : (F.all fun f => f.1 == some i || f.2.1 != d) = true) (hd : d < n) (hbs : d ≠ bs) : wpOp Tryz.prog ops Q i (Reg r w0 bs n F (listed.setIfInBounds i true)) a w := by
  have hK := h.one (i := i) (d := d) (Below.refl _ _) _ hU hA hd (fun e => absurd e hbs) rfl
  refine wpOp_go hi hg ?_
  unfold Oper.wp
  have KK := Lib.hid hK
  clear hK hg hi hU hA
  generalize a.eval = ρ at *
  subst hx
  go_simp
  exact KK.out
theorem wpOp_asg7 {x : Operand} {v : Value} (hi : ops[i]? = some { dst := some d, op := .assign x, type := ty, pos := pos, after := after, guard := g })
    (hg : Region.wanted { dst := some d, op := .assign x, type := ty, pos := pos, after := after, guard := g } (yielded ops a.tmps) = true) (hx : a.eval x = v) (hK : K (a.put (some d) v) w) : wpOp Tryz.prog ops Q i K a w := by
  refine wpOp_go hi hg ?_
  unfold Oper.wp
  have KK := Lib.hid hK
  clear hK hg hi
  generalize a.eval = ρ at *
  go_simp
  subst hx
  exact KK.out
theorem Reg.extr (h : Reg r w0 bs n F listed a w) {x : Operand} {v0 v1 v : Value} {k : Nat} (hi : ops[i]? = some { dst := some d, op := .extract x k, type := ty, pos := pos, after := after, guard := g })
    (hg : Region.wanted { dst := some d, op := .extract x k, type := ty, pos := pos, after := after, guard := g } (yielded ops a.tmps) = true) (hx : a.eval x = .tuple #[v0, v1]) (hk : (#[v0, v1] : Array Value)[k]? = some v) (hU : F.filter (fun f => f.1 == some i) = [(some i, d, .val v)]) (hA : (F.all fun f => f.1 == some i || f.2.1 != d) = true) (hd : d < n) (hbs : d ≠ bs) : wpOp Tryz.prog ops Q i (Reg r w0 bs n F (listed.setIfInBounds i true)) a w := by
  have hK := h.one (i := i) (d := d) (Below.refl _ _) v hU hA hd (fun e => absurd e hbs) rfl
  refine wpOp_go hi hg ?_
  unfold Oper.wp
  have KK := Lib.hid hK
  clear hK hg hi hU hA
  generalize a.eval = ρ at *
  have hk' : k = 0 ∨ k = 1 := by
    have := (Array.getElem?_eq_some_iff.1 hk).1
    simp at this
    omega
  rcases hk' with rfl | rfl
  · simp at hk
    subst hk
    go_simp
    exact KK.out
  · simp at hk
    subst hk
    go_simp
    exact KK.out
theorem Reg.build0 (h : Reg r w0 bs n F listed a w) (hi : ops[i]? = some { dst := some d, op := .build 25 #[], type := ty, pos := pos, after := after, guard := g })
    (hg : Region.wanted { dst := some d, op := .build 25 #[], type := ty, pos := pos, after := after, guard := g } (yielded ops a.tmps) = true) (hU : F.filter (fun f => f.1 == some i) = [(some i, d, .tree (.mk 0 ⟨#[]⟩ 0 0 []))]) (hA : (F.all fun f => f.1 == some i || f.2.1 != d) = true) (hd : d < n) (hbs : d ≠ bs) : wpOp Tryz.prog ops Q i (Reg r w0 bs n F (listed.setIfInBounds i true)) a w := by
  have hK := h.one (i := i) (d := d) (Below.refl _ _) (agg (.mk 0 ⟨#[]⟩ 0 0 []) (.slice none 0 0)) hU hA hd (fun e => absurd e hbs) ⟨_, rfl, stood_nil _ rfl⟩
  refine wpOp_go hi hg ?_
  unfold Oper.wp
  have KK := Lib.hid hK
  clear hK hg hi hU hA
  unfold agg at KK
  generalize a.eval = ρ at *
  go_simp
  exact KK.out
theorem Reg.pick (h : Reg r w0 bs n F listed a w) {c x y : Operand} {b : Bool} (hi : ops[i]? = some { dst := some d, op := .pick c x y, type := ty, pos := pos, after := after, guard := g })
    (hg : Region.wanted { dst := some d, op := .pick c x y, type := ty, pos := pos, after := after, guard := g } (yielded ops a.tmps) = true) (hc : (Fx.bool true).holds (PB r bs a w) w (a.eval c)) (hx : (Fx.bool b).holds (PB r bs a w) w (a.eval x)) (hU : F.filter (fun f => f.1 == some i) = [(some i, d, .bool b)]) (hA : (F.all fun f => f.1 == some i || f.2.1 != d) = true) (hd : d < n) (hbs : d ≠ bs) : wpOp Tryz.prog ops Q i (Reg r w0 bs n F (listed.setIfInBounds i true)) a w := by
  have hK := h.one (i := i) (d := d) (Below.refl _ _) _ hU hA hd (fun e => absurd e hbs) rfl
  refine wpOp_go hi hg ?_
  unfold Oper.wp
  have KK := Lib.hid hK
  clear hK hg hi hU hA
  unfold Fx.holds at *
  generalize a.eval = ρ at *
  go_simp
  exact KK.out
theorem Reg.pickF (h : Reg r w0 bs n F listed a w) {c x y : Operand} {b : Bool} (hi : ops[i]? = some { dst := some d, op := .pick c x y, type := ty, pos := pos, after := after, guard := g })
    (hg : Region.wanted { dst := some d, op := .pick c x y, type := ty, pos := pos, after := after, guard := g } (yielded ops a.tmps) = true) (hc : (Fx.bool false).holds (PB r bs a w) w (a.eval c)) (hx : (Fx.bool b).holds (PB r bs a w) w (a.eval y)) (hU : F.filter (fun f => f.1 == some i) = [(some i, d, .bool b)]) (hA : (F.all fun f => f.1 == some i || f.2.1 != d) = true) (hd : d < n) (hbs : d ≠ bs) : wpOp Tryz.prog ops Q i (Reg r w0 bs n F (listed.setIfInBounds i true)) a w := by
  have hK := h.one (i := i) (d := d) (Below.refl _ _) _ hU hA hd (fun e => absurd e hbs) rfl
  refine wpOp_go hi hg ?_
  unfold Oper.wp
  have KK := Lib.hid hK
  clear hK hg hi hU hA
  unfold Fx.holds at *
  generalize a.eval = ρ at *
  go_simp
  exact KK.out
theorem Reg.notT (h : Reg r w0 bs n F listed a w) {x : Operand} (hi : ops[i]? = some { dst := some d, op := .unOp .not 4 x, type := ty, pos := pos, after := after, guard := g })
    (hg : Region.wanted { dst := some d, op := .unOp .not 4 x, type := ty, pos := pos, after := after, guard := g } (yielded ops a.tmps) = true) (hx : (Fx.bool true).holds (PB r bs a w) w (a.eval x)) (hU : F.filter (fun f => f.1 == some i) = [(some i, d, .bool false)]) (hA : (F.all fun f => f.1 == some i || f.2.1 != d) = true) (hd : d < n) (hbs : d ≠ bs) : wpOp Tryz.prog ops Q i (Reg r w0 bs n F (listed.setIfInBounds i true)) a w := by
  have hK := h.one (i := i) (d := d) (Below.refl _ _) _ hU hA hd (fun e => absurd e hbs) rfl
  refine wpOp_go hi hg ?_
  unfold Oper.wp
  have KK := Lib.hid hK
  clear hK hg hi hU hA
  unfold Fx.holds at *
  generalize a.eval = ρ at *
  go_simp
  exact KK.out
theorem Reg.eql4 (h : Reg r w0 bs n F listed a w) {x : Operand} (hi : ops[i]? = some { dst := some d, op := .binOp .eql 3 x (.const (.int .i64 4)) 3, type := ty, pos := pos, after := after, guard := g })
    (hg : Region.wanted { dst := some d, op := .binOp .eql 3 x (.const (.int .i64 4)) 3, type := ty, pos := pos, after := after, guard := g } (yielded ops a.tmps) = true) (hx : a.eval x = .int .i64 4) (hU : F.filter (fun f => f.1 == some i) = [(some i, d, .bool true)]) (hA : (F.all fun f => f.1 == some i || f.2.1 != d) = true) (hd : d < n) (hbs : d ≠ bs) : wpOp Tryz.prog ops Q i (Reg r w0 bs n F (listed.setIfInBounds i true)) a w := by
  have hK := h.one (i := i) (d := d) (Below.refl _ _) _ hU hA hd (fun e => absurd e hbs) rfl
  refine wpOp_go hi hg ?_
  unfold Oper.wp
  have KK := Lib.hid hK
  have e1 : a.eval (.const (.int .i64 4)) = .int .i64 4 := rfl
  clear hK hg hi hU hA
  generalize a.eval = ρ at *
  go_simp
  exact KK.out
/-- A region that goes in its own order begins. -/
theorem Mid.start0 {S : List (Nat × Fx)} (h : Mid r w0 n S a w) (hbs : ∀ k, a.eval (.tmp bs) ≠ .pointer (some ⟨k, 0, none⟩)) (hF : ∀ f, f ∈ F → f.1 = none → f.2 ∈ S) (m : Nat) : Reg r w bs n F (Array.replicate m false) a w where
  size := h.size
  defers := h.defers
  bel := Below.refl _ _
  low := h.low
  fresh := fun k _ => hbs k
  facts := fun f hf hdone => by
    cases hc : f.1 with
    | none =>
      exact Fx.keep (h.facts f.2 (hF f hf hc)) (Below.refl _ _) (fun _ hk => hk.1) (fun k hk => ⟨hk.1, hk.2, hbs k⟩)
    | some j =>
      have := hdone j hc
      simp [Array.getElem?_replicate] at this
      split at this <;> simp at this
/-- Behind a region: what the slots hold. -/
theorem Reg.mid {wS : World} {S : List (Nat × Fx)} (h : Reg r w0 bs n F listed a w) (hb0 : Below wS.heap.size wS w0) (hall : ∀ j, j < ops.size → listed.getD j false = true) (hS : ∀ f, f ∈ S → ∃ c, (c, f) ∈ F ∧ ∀ j, c = some j → j < ops.size) : Mid r wS n S a w :=
  ⟨h.size, h.defers, hb0.trans (h.bel.mono hb0.size), h.low, fun f hf => by
    obtain ⟨c, hc, hj⟩ := hS f hf
    exact Fx.keep (h.facts (c, f) hc fun j e => hall j (hj j e)) (Below.refl _ _) (fun _ hk => hk.1) (fun k hk => ⟨hk.1, hk.2.1⟩)⟩
/-- A statement that sets a tree's number, where it lies in a variable: what is known of other slots stays. -/
theorem Mid.setNum7 {S : List (Nat × Fx)} {wS : World} {id x lo : Nat} {t : T} {m : Int} {ty1 ty2 : TypeId} {p1 p2 : String} {f1 f2 : Array Edge} (h : Mid r wS n S a w) (hx : (x, Fx.own lo t) ∈ S) (hd : d < n) (S' : List (Nat × Fx)) (hS : ∀ f, f ∈ S' → f.1 ≠ d ∧ (f = (x, .var (.mk t.kind t.text m t.pos t.kids)) ∨ (f ∈ S ∧ ∃ v, f.2 = .val v)))
    (hlo : wS.heap.size ≤ lo)
    (hQ : ∀ a' w', Mid r wS n S' a' w' → Q .normal a' w') :
    (Code.region id #[{ dst := some d, op := .fieldAddr 25 (.tmp x) 2, type := ty1, pos := p1, after := f1, guard := none }, { dst := none, op := .store 3 (.tmp d) (.const (.int .i64 m)), type := ty2, pos := p2, after := f2, guard := none }] false).wp Tryz.prog Q a w := by
  obtain ⟨b, u, hv, hlb, hbl, hb, hs⟩ := h.facts _ hx
  refine wp_region_two (wpOp_field rfl rfl hv (wpOp_storeNum rfl rfl (eval_put_same _ _ _ (by rw [h.size]; exact hd)) hb fun w' hb' hf => hQ _ _ ⟨?_, h.defers, h.bel.trans (hf.below h.bel.size (by omega)), Nat.le_trans h.low hf.size, fun f hfS => ?_⟩))
  · show (a.tmps.setIfInBounds d _).size = n
    rw [Array.size_setIfInBounds]
    exact h.size
  · obtain ⟨hfd, hff⟩ := hS f hfS
    rw [eval_put_ne _ _ _ _ hfd]
    rcases hff with rfl | ⟨hfF, v, hfc⟩
    · exact ⟨b, u, hv, ⟨Nat.lt_of_lt_of_le hbl.1 hf.size, hbl.2⟩, hb', stood_rows (hs.keep (fun k hk => hf.block k hk.1.1 (fun e => hk.2 (by cases e; rfl))) (fun k hk => ⟨Nat.lt_of_lt_of_le hk.1.1 hf.size, hk.1.2⟩)) rfl⟩
    · have h1 : (Fx.val v).holds (fun k => k < w.heap.size ∧ r ≤ k) w (a.eval (.tmp f.1)) := hfc ▸ h.facts f hfF
      have : (Fx.val v).holds (fun k => k < w'.heap.size ∧ r ≤ k) w' (a.eval (.tmp f.1)) := h1
      exact hfc ▸ this
end
end Go.Proofs.YtfmjhbaenpbfoaaGreatDoor

namespace Go.Proofs.YtfmjhbaenpbfoaaGreatDoor
open Go.RowKit

abbrev oneE : T := .mk 14 ⟨#[49]⟩ 0 0 []
abbrev xE : T := .mk 13 ⟨#[120]⟩ 0 0 []
abbrev aE : T := .mk 15 ⟨#[97]⟩ 0 0 []
abbrev n5E : T := .mk 14 ⟨#[45, 53]⟩ 0 0 []
abbrev hiveE : T := .mk 5 ⟨#[104, 105, 118, 101]⟩ 0 0 [xE, n5E]
abbrev sumE : T := twoT7 ⟨#[43]⟩ oneE oneE
abbrev prodE : T := twoT7 ⟨#[42]⟩ sumE xE
abbrev notE : T := .mk 16 ⟨#[110, 111, 116]⟩ 0 0 [prodE]
abbrev eqE : T := twoT7 ⟨#[61]⟩ notE oneE
abbrev testE : T := .mk 7 ⟨#[]⟩ 0 0 [eqE]
abbrev eq1E : T := twoT7 ⟨#[61]⟩ oneE oneE
abbrev eq2E : T := twoT7 ⟨#[61]⟩ eq1E aE
abbrev sayE : T := .mk 10 ⟨#[]⟩ 0 0 [eq2E]
abbrev rule0E : T := .mk 4 ⟨#[114]⟩ 0 0 [hiveE, testE, sayE]
abbrev ruleE : T := .mk 4 ⟨#[114]⟩ (-3) 0 [hiveE, testE, sayE]
abbrev qE : T := .mk 4 ⟨#[113]⟩ 0 0 []
abbrev prog1E : T := .mk 1 ⟨#[]⟩ 0 0 [ruleE, qE]
abbrev zeroE : T := .mk 0 ⟨#[]⟩ 0 0 []
abbrev aaE : T := twoT7 ⟨#[45]⟩ aE aE
abbrev a1E : T := twoT7 ⟨#[45]⟩ aE aaE
abbrev a2E : T := twoT7 ⟨#[45]⟩ aaE aE
abbrev m1E : T := .mk 16 ⟨#[45]⟩ 0 0 [oneE]
abbrev m2E : T := .mk 16 ⟨#[45]⟩ 0 0 [m1E]
abbrev wantE : ByteArray := ⟨([114, 117, 108, 101, 32, 114, 32, 115, 97, 108, 105, 101, 110, 99, 101, 32, 45, 51, 32, 123, 32, 104, 105, 118, 101, 40, 63, 120, 44, 32, 45, 53, 41, 59, 32, 116, 101, 115, 116, 32, 110, 111, 116, 32, 40, 40, 49, 32, 43, 32].append [49, 41, 32, 42, 32, 63, 120, 41, 32, 61, 32, 49, 59, 32, 61, 62, 32, 115, 97, 121, 32, 40, 49, 32, 61, 32, 49, 41, 32, 61, 32, 39, 97, 59, 32, 125, 10, 114, 117, 108, 101, 32, 113, 32, 123, 32, 61, 62, 32, 125, 10]).toArray⟩
theorem itoa3 : Lib.itoa (-3) = [45, 51] := by
  unfold Lib.itoa
  rw [if_pos (by decide)]
  show 45 :: Lib.decDigits 3 = _
  rw [Lib.decDigits, dif_pos (by decide)]
  rfl
theorem rtZ : rightT zeroE = false := by decide +kernel
theorem rt1 : rightT (prog1E) = true := by decide +kernel
theorem rt2 : rightT (sayT a1E) = true := by decide +kernel
theorem rt3 : rightT (sayT a2E) = true := by decide +kernel
theorem rt4 : rightT (sayT m2E) = true := by decide +kernel
theorem sh1 : wantE = BA (showT prog1E) := by
  have e1 : declT ruleE = [114, 117, 108, 101, 32] ++ ruleE.tx ++ ([32, 115, 97, 108, 105, 101, 110, 99, 101, 32] ++ [45, 51]) ++ [32, 123, 32] ++ eachT partT [32] (ruleE.kids.take (condsN ruleE.kids)) ++ [61, 62, 32] ++ eachT partT [32] (ruleE.kids.drop (condsN ruleE.kids)) ++ [125] := by
    unfold declT
    rw [if_neg (by decide), if_neg (by decide), show ruleE.num = -3 from rfl, itoa3]
  have e2 : showT prog1E = (declT ruleE ++ [10]) ++ ((declT qE ++ [10]) ++ []) := rfl
  rw [e2, e1]
  decide +kernel
theorem sh2 : (⟨#[114, 117, 108, 101, 32, 114, 32, 123, 32, 61, 62, 32, 115, 97, 121, 32, 39, 97, 32, 45, 32, 40, 39, 97, 32, 45, 32, 39, 97, 41, 59, 32, 125, 10]⟩ : ByteArray) = BA (showT (sayT a1E)) := by decide +kernel
theorem sh3 : (⟨#[114, 117, 108, 101, 32, 114, 32, 123, 32, 61, 62, 32, 115, 97, 121, 32, 39, 97, 32, 45, 32, 39, 97, 32, 45, 32, 39, 97, 59, 32, 125, 10]⟩ : ByteArray) = BA (showT (sayT a2E)) := by decide +kernel
theorem sh4 : (⟨#[114, 117, 108, 101, 32, 114, 32, 123, 32, 61, 62, 32, 115, 97, 121, 32, 45, 45, 49, 59, 32, 125, 10]⟩ : ByteArray) = BA (showT (sayT m2E)) := by decide +kernel
end Go.Proofs.YtfmjhbaenpbfoaaGreatDoor

namespace Go.Proofs.YtfmjhbaenpbfoaaGreatDoor
open Go.RowKit

set_option maxRecDepth 100000 in
set_option maxHeartbeats 4000000 in
theorem awake7_any (w : World) (hL : Laid w) (hT : Tab w.heap.size w) :
    Calls Tryz.prog 8 #[] w fun e w' => e = .returned (.bool true) ∧ Below w.heap.size w w' := by
  have HM0 : Hid (Mem w w []) := ⟨hL, Below.refl _ _, fun p hp => by cases hp⟩
  have HTb := Lib.hid hT
  clear hL hT
  go_enter Tryz.func8, Tryz.ntmps8
  go_wp2_with (go_at_call 13; go_must (refine (of_mem w _ _ HM0.out 14 ⟨#[49]⟩ none 0 0).mono ?_; rintro e w1 ⟨rfl, hm, hb⟩; have HM1 := Lib.hid (hm.leaf oneE rfl); clear hm hb; refine Hid.out ?_))
  refine Lib.hid ?_
  go_wp2_with (go_at_call 13; go_must (refine (of_mem w _ _ HM1.out 13 ⟨#[120]⟩ none 0 0).mono ?_; rintro e w2 ⟨rfl, hm, hb⟩; have HM2 := Lib.hid (hm.leaf xE rfl); clear hm hb; refine Hid.out ?_))
  refine Lib.hid ?_
  go_wp2_with (go_at_call 13; go_must (refine (of_mem w _ _ HM2.out 15 ⟨#[97]⟩ none 0 0).mono ?_; rintro e w3 ⟨rfl, hm, hb⟩; have HM3 := Lib.hid (hm.leaf aE rfl); clear hm hb; refine Hid.out ?_))
  refine Lib.hid ?_
  go_upto_region 2 with fail
  obtain ⟨wv, hwv⟩ : ∃ wv, wv = (((w3.alloc (.cells #[.int .u8 14, .string ⟨#[49]⟩, .int .i64 0, .int .i64 0, .slice none 0 0] 25)).alloc (.cells #[.int .u8 13, .string ⟨#[120]⟩, .int .i64 0, .int .i64 0, .slice none 0 0] 25)).alloc (.cells #[.int .u8 15, .string ⟨#[97]⟩, .int .i64 0, .int .i64 0, .slice none 0 0] 25)) := ⟨_, rfl⟩
  have HZ : Hid (wv.heap.size = w3.heap.size + 3) := by unfold Hid; rw [hwv]; simp
  have HU := HM3.out.up (((below_own (w := w3) (.cells #[.int .u8 14, .string ⟨#[49]⟩, .int .i64 0, .int .i64 0, .slice none 0 0] 25)).alloc (by simp) (.cells #[.int .u8 13, .string ⟨#[120]⟩, .int .i64 0, .int .i64 0, .slice none 0 0] 25)).alloc (by simp; omega) (.cells #[.int .u8 15, .string ⟨#[97]⟩, .int .i64 0, .int .i64 0, .slice none 0 0] 25))
  rw [← hwv] at HU
  have HL : Hid (Laid wv) := HU.laid
  have HB : Hid (Below w.heap.size w wv) := HU.bel
  have HT : Hid (Tab wv.heap.size wv) := fun W hb => HTb.out W (HB.out.trans (hb.mono HB.out.size))
  have HV1 : Hid (wv.heap[w3.heap.size]? = some (boxN oneE (.slice none 0 0))) := by
    unfold Hid
    rw [hwv, (below_own (w := (w3.alloc (.cells #[.int .u8 14, .string ⟨#[49]⟩, .int .i64 0, .int .i64 0, .slice none 0 0] 25)).alloc (.cells #[.int .u8 13, .string ⟨#[120]⟩, .int .i64 0, .int .i64 0, .slice none 0 0] 25)) _).block _ (by simp; omega), (below_own (w := w3.alloc (.cells #[.int .u8 14, .string ⟨#[49]⟩, .int .i64 0, .int .i64 0, .slice none 0 0] 25)) _).block _ (by simp)]
    exact heap_alloc_new w3 _
  have HV2 : Hid (wv.heap[w3.heap.size + 1]? = some (boxN xE (.slice none 0 0))) := by
    unfold Hid
    rw [hwv, (below_own (w := (w3.alloc (.cells #[.int .u8 14, .string ⟨#[49]⟩, .int .i64 0, .int .i64 0, .slice none 0 0] 25)).alloc (.cells #[.int .u8 13, .string ⟨#[120]⟩, .int .i64 0, .int .i64 0, .slice none 0 0] 25)) _).block _ (by simp)]
    rw [show w3.heap.size + 1 = (w3.alloc (.cells #[.int .u8 14, .string ⟨#[49]⟩, .int .i64 0, .int .i64 0, .slice none 0 0] 25)).heap.size by simp]
    exact heap_alloc_new _ _
  have HV3 : Hid (wv.heap[w3.heap.size + 1 + 1]? = some (boxN aE (.slice none 0 0))) := by
    unfold Hid
    rw [hwv]
    rw [show w3.heap.size + 1 + 1 = ((w3.alloc (.cells #[.int .u8 14, .string ⟨#[49]⟩, .int .i64 0, .int .i64 0, .slice none 0 0] 25)).alloc (.cells #[.int .u8 13, .string ⟨#[120]⟩, .int .i64 0, .int .i64 0, .slice none 0 0] 25)).heap.size by simp]
    exact heap_alloc_new _ _
  rw [← hwv]
  clear hwv HU
  have HMid : Hid (∀ (a : Act) (W : World) (S : List (Nat × Fx)), Mid 0 wv 78 S a W → (∀ f, f ∈ ([(1, .val (.pointer (some ⟨w3.heap.size, 0, none⟩))), (2, .val (.pointer (some ⟨w3.heap.size + 1, 0, none⟩))), (3, .val (.pointer (some ⟨w3.heap.size + 1 + 1, 0, none⟩)))] : List (Nat × Fx)) → f ∈ S) → Mid 0 wv 78 (S ++ [(1, .var oneE), (2, .var xE), (3, .var aE)]) a W) := by
    intro a W S h hS
    refine ⟨h.size, h.defers, h.bel, h.low, fun f hf => ?_⟩
    have e1 : a.eval (.tmp 1) = .pointer (some ⟨w3.heap.size, 0, none⟩) := h.facts _ (hS (1, .val (.pointer (some ⟨w3.heap.size, 0, none⟩))) (by simp))
    have e2 : a.eval (.tmp 2) = .pointer (some ⟨w3.heap.size + 1, 0, none⟩) := h.facts _ (hS (2, .val (.pointer (some ⟨w3.heap.size + 1, 0, none⟩))) (by simp))
    have e3 : a.eval (.tmp 3) = .pointer (some ⟨w3.heap.size + 1 + 1, 0, none⟩) := h.facts _ (hS (3, .val (.pointer (some ⟨w3.heap.size + 1 + 1, 0, none⟩))) (by simp))
    have hz := HZ.out
    have hs := h.bel.size
    rcases List.mem_append.1 hf with hf | hf
    · exact h.facts f hf
    · simp only [List.mem_cons, List.not_mem_nil, or_false] at hf
      rcases hf with rfl | rfl | rfl
      · exact ⟨_, _, e1, ⟨by omega, Nat.zero_le _⟩, (h.bel.block _ (by omega)).trans HV1.out, stood_nil _ rfl⟩
      · exact ⟨_, _, e2, ⟨by omega, Nat.zero_le _⟩, (h.bel.block _ (by omega)).trans HV2.out, stood_nil _ rfl⟩
      · exact ⟨_, _, e3, ⟨by omega, Nat.zero_le _⟩, (h.bel.block _ (by omega)).trans HV3.out, stood_nil _ rfl⟩
  have HS : Hid (∀ a : Act, a.tmps.size = 78 → a.defers = [] → a.eval (.tmp 0) = .bool false → a.eval (.tmp 1) = .pointer (some ⟨w3.heap.size, 0, none⟩) → a.eval (.tmp 2) = .pointer (some ⟨w3.heap.size + 1, 0, none⟩) → a.eval (.tmp 3) = .pointer (some ⟨w3.heap.size + 1 + 1, 0, none⟩) → a.eval (.tmp 4) = undef → Mid 0 wv 78 ([(0, .val (.bool false)), (1, .val (.pointer (some ⟨w3.heap.size, 0, none⟩))), (2, .val (.pointer (some ⟨w3.heap.size + 1, 0, none⟩))), (3, .val (.pointer (some ⟨w3.heap.size + 1 + 1, 0, none⟩))), (4, .no)] ++ [(1, .var oneE), (2, .var xE), (3, .var aE)]) a wv) := by
    intro a h1 h2 e0 e1 e2 e3 e4
    refine HMid.out a wv _ ⟨h1, h2, Below.refl _ _, Nat.zero_le _, fun f hf => ?_⟩ (fun f hf => ?_)
    · simp only [List.mem_cons, List.not_mem_nil, or_false] at hf
      rcases hf with rfl | rfl | rfl | rfl | rfl
      · exact e0
      · exact e1
      · exact e2
      · exact e3
      · exact e4
    · simp only [List.mem_cons, List.not_mem_nil, or_false] at hf
      rcases hf with rfl | rfl | rfl <;> simp
  refine wp_region_reg (r := 0) (w0 := wv) (bs := 4) (n := 78) (last := 25) (F := [(none, 0, .val (.bool false)), (none, 1, .val (.pointer (some ⟨w3.heap.size, 0, none⟩))), (none, 2, .val (.pointer (some ⟨w3.heap.size + 1, 0, none⟩))), (none, 3, .val (.pointer (some ⟨w3.heap.size + 1 + 1, 0, none⟩))), (none, 1, .var oneE), (none, 2, .var xE), (none, 3, .var aE), (some 0, 11, .tree xE), (some 1, 12, .tree n5E), (some 2, 13, .rows [xE, n5E]), (some 3, 14, .tree hiveE), (some 4, 15, .tree oneE), (some 5, 16, .tree oneE), (some 6, 17, .tree sumE), (some 7, 18, .tree xE), (some 8, 19, .tree prodE), (some 9, 20, .rows [prodE]), (some 10, 21, .tree notE), (some 11, 22, .tree oneE), (some 12, 23, .tree eqE), (some 13, 24, .rows [eqE]), (some 14, 25, .tree testE), (some 15, 26, .tree oneE), (some 16, 27, .tree oneE), (some 17, 28, .tree eq1E), (some 18, 29, .tree aE), (some 19, 30, .tree eq2E), (some 20, 31, .rows [eq2E]), (some 21, 32, .tree sayE), (some 22, 33, .rows [hiveE, testE, sayE]), (some 23, 34, .tree rule0E), (some 24, 4, .box wv.heap.size)]) (by kernel_rfl) (by kernel_rfl) (by decide) (by kernel_rfl) (Mid.start (HS.out _ rfl rfl rfl rfl rfl rfl rfl) (fun k hk e => by rw [show Act.eval _ (.tmp 4) = undef from rfl] at e; cases e) (fun f hf hc => ?_) _) (fun listed a W i h hr hi hl => ?_) (fun listed a W h hr => ?_)
  · simp only [List.mem_cons, List.not_mem_nil, or_false] at hf
    rcases hf with rfl | rfl | rfl | rfl | rfl | rfl | rfl | rfl | rfl | rfl | rfl | rfl | rfl | rfl | rfl | rfl | rfl | rfl | rfl | rfl | rfl | rfl | rfl | rfl | rfl | rfl | rfl | rfl | rfl | rfl | rfl | rfl <;> first | (cases hc; done) | simp
  · have hi' : i < 26 := hi
    obtain rfl | rfl | rfl | rfl | rfl | rfl | rfl | rfl | rfl | rfl | rfl | rfl | rfl | rfl | rfl | rfl | rfl | rfl | rfl | rfl | rfl | rfl | rfl | rfl | rfl : i = 0 ∨ i = 1 ∨ i = 2 ∨ i = 3 ∨ i = 4 ∨ i = 5 ∨ i = 6 ∨ i = 7 ∨ i = 8 ∨ i = 9 ∨ i = 10 ∨ i = 11 ∨ i = 12 ∨ i = 13 ∨ i = 14 ∨ i = 15 ∨ i = 16 ∨ i = 17 ∨ i = 18 ∨ i = 19 ∨ i = 20 ∨ i = 21 ∨ i = 22 ∨ i = 23 ∨ i = 24 := by omega
    · exact h.load rfl rfl (h.got hr 5 rfl (by kernel_rfl)) rfl rfl (by decide) (by decide)
    · exact h.of2 rfl rfl rfl (stood_nil (.mk 0 ⟨#[]⟩ 0 0 []) rfl) rfl rfl (by decide) (by decide)
    · exact h.slice2 rfl rfl (h.got hr 7 rfl (by kernel_rfl)) (h.got hr 8 rfl (by kernel_rfl)) rfl rfl (by decide) (by decide)
    · exact h.of2 rfl rfl rfl (h.got hr 9 rfl (by kernel_rfl)) rfl rfl (by decide) (by decide)
    · exact h.load rfl rfl (h.got hr 4 rfl (by kernel_rfl)) rfl rfl (by decide) (by decide)
    · exact h.load rfl rfl (h.got hr 4 rfl (by kernel_rfl)) rfl rfl (by decide) (by decide)
    · exact h.two rfl rfl rfl (h.got hr 11 rfl (by kernel_rfl)) (h.got hr 12 rfl (by kernel_rfl)) rfl rfl (by decide) (by decide)
    · exact h.load rfl rfl (h.got hr 5 rfl (by kernel_rfl)) rfl rfl (by decide) (by decide)
    · exact h.two rfl rfl rfl (h.got hr 13 rfl (by kernel_rfl)) (h.got hr 14 rfl (by kernel_rfl)) rfl rfl (by decide) (by decide)
    · exact h.slice1 rfl rfl (h.got hr 15 rfl (by kernel_rfl)) rfl rfl (by decide) (by decide)
    · exact h.of2 rfl rfl rfl (h.got hr 16 rfl (by kernel_rfl)) rfl rfl (by decide) (by decide)
    · exact h.load rfl rfl (h.got hr 4 rfl (by kernel_rfl)) rfl rfl (by decide) (by decide)
    · exact h.two rfl rfl rfl (h.got hr 17 rfl (by kernel_rfl)) (h.got hr 18 rfl (by kernel_rfl)) rfl rfl (by decide) (by decide)
    · exact h.slice1 rfl rfl (h.got hr 19 rfl (by kernel_rfl)) rfl rfl (by decide) (by decide)
    · exact h.of2 rfl rfl rfl (h.got hr 20 rfl (by kernel_rfl)) rfl rfl (by decide) (by decide)
    · exact h.load rfl rfl (h.got hr 4 rfl (by kernel_rfl)) rfl rfl (by decide) (by decide)
    · exact h.load rfl rfl (h.got hr 4 rfl (by kernel_rfl)) rfl rfl (by decide) (by decide)
    · exact h.two rfl rfl rfl (h.got hr 22 rfl (by kernel_rfl)) (h.got hr 23 rfl (by kernel_rfl)) rfl rfl (by decide) (by decide)
    · exact h.load rfl rfl (h.got hr 6 rfl (by kernel_rfl)) rfl rfl (by decide) (by decide)
    · exact h.two rfl rfl rfl (h.got hr 24 rfl (by kernel_rfl)) (h.got hr 25 rfl (by kernel_rfl)) rfl rfl (by decide) (by decide)
    · exact h.slice1 rfl rfl (h.got hr 26 rfl (by kernel_rfl)) rfl rfl (by decide) (by decide)
    · exact h.of2 rfl rfl rfl (h.got hr 27 rfl (by kernel_rfl)) rfl rfl (by decide) (by decide)
    · exact h.slice3 rfl rfl (h.got hr 10 rfl (by kernel_rfl)) (h.got hr 21 rfl (by kernel_rfl)) (h.got hr 28 rfl (by kernel_rfl)) rfl rfl (by decide) (by decide)
    · exact h.of2 rfl rfl rfl (h.got hr 29 rfl (by kernel_rfl)) rfl rfl (by decide) (by decide)
    · exact h.alloc rfl rfl rfl rfl (by decide)
  · refine Reg.store (wS := wv) (S := [(0, .val (.bool false)), (1, .val (.pointer (some ⟨w3.heap.size, 0, none⟩))), (2, .val (.pointer (some ⟨w3.heap.size + 1, 0, none⟩))), (3, .val (.pointer (some ⟨w3.heap.size + 1 + 1, 0, none⟩))), (4, .own wv.heap.size (rule0E))]) h (Below.refl _ _) rfl rfl (h.got hr 31 rfl (by kernel_rfl)) (Nat.le_refl _) (Nat.zero_le _) (h.got hr 30 rfl (by kernel_rfl)) (fun f hf => ?_) (fun w' hm' => ?_)
    · simp only [List.mem_cons, List.not_mem_nil, or_false] at hf
      rcases hf with rfl | rfl | rfl | rfl | rfl
      · exact Or.inr (Or.inr ⟨by simp, Or.inl rfl⟩)
      · exact Or.inr (Or.inr ⟨by simp, Or.inl rfl⟩)
      · exact Or.inr (Or.inr ⟨by simp, Or.inl rfl⟩)
      · exact Or.inr (Or.inr ⟨by simp, Or.inl rfl⟩)
      · simp
    have HM4 := Lib.hid hm'
    clear hm' h hr
    refine (by assumption : ∀ (a : Act) (w : World), Code.wp _ _ _ a w → _) a w' ?_
    refine wp_seq_k (fun K4 hK4 => ?_)
    refine Mid.setNum7 HM4.out (x := 4) (lo := wv.heap.size) (t := rule0E) (m := -3) (by simp) (by decide) [(0, .val (.bool false)), (1, .val (.pointer (some ⟨w3.heap.size, 0, none⟩))), (2, .val (.pointer (some ⟨w3.heap.size + 1, 0, none⟩))), (3, .val (.pointer (some ⟨w3.heap.size + 1 + 1, 0, none⟩))), (4, .var ruleE)] (fun f hf => ?_) (Nat.le_refl _) (fun a4 w4 hm4 => hK4 a4 w4 ?_)
    · simp only [List.mem_cons, List.not_mem_nil, or_false] at hf
      rcases hf with rfl | rfl | rfl | rfl | rfl
      · exact ⟨by simp, Or.inr ⟨by simp, _, rfl⟩⟩
      · exact ⟨by simp, Or.inr ⟨by simp, _, rfl⟩⟩
      · exact ⟨by simp, Or.inr ⟨by simp, _, rfl⟩⟩
      · exact ⟨by simp, Or.inr ⟨by simp, _, rfl⟩⟩
      · exact ⟨by decide, Or.inl rfl⟩
    have HM5 := Lib.hid (HMid.out a4 w4 _ hm4 (fun f hf => by
      simp only [List.mem_cons, List.not_mem_nil, or_false] at hf
      rcases hf with rfl | rfl | rfl <;> simp))
    clear hm4 HM4
    refine wp_seq_k (fun K6 hK6 => ?_)
    refine wp_region_seq (fun listed a W => Reg 0 w4 0 78 [(none, 0, .val (.bool false)), (none, 1, .val (.pointer (some ⟨w3.heap.size, 0, none⟩))), (none, 2, .val (.pointer (some ⟨w3.heap.size + 1, 0, none⟩))), (none, 3, .val (.pointer (some ⟨w3.heap.size + 1 + 1, 0, none⟩))), (none, 4, .var ruleE), (none, 1, .var oneE), (none, 2, .var xE), (none, 3, .var aE), (some 0, 5, .val (.string wantE))] listed a W) (by kernel_rfl) (Mid.start0 HM5.out (fun k e => by rw [show Act.eval _ (.tmp 0) = .bool false from HM5.out.facts (0, .val (.bool false)) (by simp)] at e; cases e) (fun f hf hc => ?_) _) (fun listed a W i hs h hr => ?_) (fun listed a W h hall => ?_)
    · simp only [List.mem_cons, List.not_mem_nil, or_false] at hf
      rcases hf with rfl | rfl | rfl | rfl | rfl | rfl | rfl | rfl | rfl <;> first | (cases hc; done) | simp
    · have hi' : i < 1 := by
        obtain ⟨-, o, ho, -⟩ := mem_ready.1 hr
        exact (Array.getElem?_eq_some_iff.1 ho).1
      obtain rfl : i = 0 := by omega
      exact h.asg rfl rfl rfl rfl rfl (by decide) (by decide)
    · have hm6 : Mid 0 wv 78 [(0, .val (.bool false)), (1, .val (.pointer (some ⟨w3.heap.size, 0, none⟩))), (2, .val (.pointer (some ⟨w3.heap.size + 1, 0, none⟩))), (3, .val (.pointer (some ⟨w3.heap.size + 1 + 1, 0, none⟩))), (4, .var ruleE), (1, .var oneE), (2, .var xE), (3, .var aE), (5, .val (.string wantE))] a W := h.mid HM5.out.bel hall (fun f hf => by
        simp only [List.mem_cons, List.not_mem_nil, or_false] at hf
        rcases hf with rfl | rfl | rfl | rfl | rfl | rfl | rfl | rfl | rfl
        · exact ⟨none, by simp, fun j e => by cases e⟩
        · exact ⟨none, by simp, fun j e => by cases e⟩
        · exact ⟨none, by simp, fun j e => by cases e⟩
        · exact ⟨none, by simp, fun j e => by cases e⟩
        · exact ⟨none, by simp, fun j e => by cases e⟩
        · exact ⟨none, by simp, fun j e => by cases e⟩
        · exact ⟨none, by simp, fun j e => by cases e⟩
        · exact ⟨none, by simp, fun j e => by cases e⟩
        · exact ⟨some 0, by simp, fun j e => by cases e; decide⟩)
      have HM6 := Lib.hid hm6
      clear hm6 h hall
      refine hK6 a W ?_
      obtain ⟨w6, hw6⟩ : ∃ w6, w6 = W := ⟨_, rfl⟩
      rw [← hw6] at HM6 ⊢
      clear hw6
      refine wp_seq_k (fun K7 hK7 => ?_)
      refine wp_region_seq (fun listed a W => Reg 0 w6 0 78 [(none, 0, .val (.bool false)), (none, 1, .val (.pointer (some ⟨w3.heap.size, 0, none⟩))), (none, 2, .val (.pointer (some ⟨w3.heap.size + 1, 0, none⟩))), (none, 3, .val (.pointer (some ⟨w3.heap.size + 1 + 1, 0, none⟩))), (none, 4, .var ruleE), (none, 1, .var oneE), (none, 2, .var xE), (none, 3, .var aE), (none, 5, .val (.string wantE)), (some 0, 37, .tree zeroE), (some 1, 38, .val (.tuple #[.string (BA []), .int .i64 4])), (some 2, 36, .val (.tuple #[.string (BA []), .int .i64 4])), (some 3, 39, .val (.string (BA []))), (some 4, 40, .val (.int .i64 4)), (some 5, 6, .val (.string (BA []))), (some 6, 7, .val (.int .i64 4))] listed a W) (by kernel_rfl) (Mid.start0 HM6.out (fun k e => by rw [show Act.eval _ (.tmp 0) = .bool false from HM6.out.facts (0, .val (.bool false)) (by simp)] at e; cases e) (fun f hf hc => ?_) _) (fun listed a W i hs h hr => ?_) (fun listed a W h hall => ?_)
      · simp only [List.mem_cons, List.not_mem_nil, or_false] at hf
        rcases hf with rfl | rfl | rfl | rfl | rfl | rfl | rfl | rfl | rfl | rfl | rfl | rfl | rfl | rfl | rfl | rfl <;> first | (cases hc; done) | simp
      · have hi' : i < 7 := by
          obtain ⟨-, o, ho, -⟩ := mem_ready.1 hr
          exact (Array.getElem?_eq_some_iff.1 ho).1
        obtain rfl | rfl | rfl | rfl | rfl | rfl | rfl : i = 0 ∨ i = 1 ∨ i = 2 ∨ i = 3 ∨ i = 4 ∨ i = 5 ∨ i = 6 := by omega
        · exact h.build0 rfl rfl rfl rfl (by decide) (by decide)
        · exact h.progZ rfl rfl (h.got hr 9 rfl (by kernel_rfl)) (HL.out.below HM6.out.bel) (fun W1 hb => HT.out W1 (HM6.out.bel.trans (hb.mono HM6.out.bel.size))) (by decide +kernel) rtZ rfl rfl (by decide) (by decide)
        · exact h.mv rfl rfl (h.got hr 10 rfl (by kernel_rfl)) rfl rfl (by decide) (by decide)
        · exact h.extr (k := 0) rfl rfl (h.got hr 11 rfl (by kernel_rfl)) rfl rfl rfl (by decide) (by decide)
        · exact h.extr (k := 1) rfl rfl (h.got hr 11 rfl (by kernel_rfl)) rfl rfl rfl (by decide) (by decide)
        · exact h.asg rfl rfl (h.got hr 12 rfl (by kernel_rfl)) rfl rfl (by decide) (by decide)
        · exact h.asg rfl rfl (h.got hr 13 rfl (by kernel_rfl)) rfl rfl (by decide) (by decide)
      · have hm7 : Mid 0 wv 78 [(0, .val (.bool false)), (1, .val (.pointer (some ⟨w3.heap.size, 0, none⟩))), (2, .val (.pointer (some ⟨w3.heap.size + 1, 0, none⟩))), (3, .val (.pointer (some ⟨w3.heap.size + 1 + 1, 0, none⟩))), (4, .var ruleE), (1, .var oneE), (2, .var xE), (3, .var aE), (5, .val (.string wantE)), (6, .val (.string (BA []))), (7, .val (.int .i64 4))] a W := h.mid HM6.out.bel hall (fun f hf => by
          simp only [List.mem_cons, List.not_mem_nil, or_false] at hf
          rcases hf with rfl | rfl | rfl | rfl | rfl | rfl | rfl | rfl | rfl | rfl | rfl
          · exact ⟨none, by simp, fun j e => by cases e⟩
          · exact ⟨none, by simp, fun j e => by cases e⟩
          · exact ⟨none, by simp, fun j e => by cases e⟩
          · exact ⟨none, by simp, fun j e => by cases e⟩
          · exact ⟨none, by simp, fun j e => by cases e⟩
          · exact ⟨none, by simp, fun j e => by cases e⟩
          · exact ⟨none, by simp, fun j e => by cases e⟩
          · exact ⟨none, by simp, fun j e => by cases e⟩
          · exact ⟨none, by simp, fun j e => by cases e⟩
          · exact ⟨some 5, by simp, fun j e => by cases e; decide⟩
          · exact ⟨some 6, by simp, fun j e => by cases e; decide⟩)
        have HM7 := Lib.hid hm7
        clear hm7 h hall
        refine hK7 a W ?_
        obtain ⟨w7, hw7⟩ : ∃ w7, w7 = W := ⟨_, rfl⟩
        rw [← hw7] at HM7 ⊢
        clear hw7
        refine wp_seq_k (fun K8 hK8 => ?_)
        refine wp_region_reg (r := 0) (w0 := w7) (bs := 0) (n := 78) (last := 37) (F := [(none, 1, .val (.pointer (some ⟨w3.heap.size, 0, none⟩))), (none, 2, .val (.pointer (some ⟨w3.heap.size + 1, 0, none⟩))), (none, 3, .val (.pointer (some ⟨w3.heap.size + 1 + 1, 0, none⟩))), (none, 4, .var ruleE), (none, 1, .var oneE), (none, 2, .var xE), (none, 3, .var aE), (none, 5, .val (.string wantE)), (none, 6, .val (.string (BA []))), (none, 7, .val (.int .i64 4)), (some 0, 41, .tree ruleE), (some 1, 42, .tree qE), (some 2, 43, .rows [ruleE, qE]), (some 3, 44, .tree prog1E), (some 4, 45, .val (.string wantE)), (some 5, 46, .bool true), (some 6, 47, .bool true), (some 7, 48, .tree aE), (some 8, 49, .tree aE), (some 9, 50, .tree aE), (some 10, 51, .tree aaE), (some 11, 52, .tree a1E), (some 12, 53, .tree (sayT a1E)), (some 13, 54, .bool true), (some 14, 55, .bool true), (some 15, 56, .bool true), (some 16, 57, .tree aE), (some 17, 58, .tree aE), (some 18, 59, .tree aaE), (some 19, 60, .tree aE), (some 20, 61, .tree a2E), (some 21, 62, .tree (sayT a2E)), (some 22, 63, .bool true), (some 23, 64, .bool true), (some 24, 65, .bool true), (some 25, 66, .tree oneE), (some 26, 67, .rows [oneE]), (some 27, 68, .tree m1E), (some 28, 69, .rows [m1E]), (some 29, 70, .tree m2E), (some 30, 71, .tree (sayT m2E)), (some 31, 72, .bool true), (some 32, 73, .bool true), (some 33, 74, .bool true), (some 34, 75, .val (.int .i64 4)), (some 35, 76, .bool true), (some 36, 77, .bool true), (some 37, 0, .val (.bool true))]) (by kernel_rfl) (by kernel_rfl) (by decide) (by kernel_rfl) (Mid.start HM7.out (fun k hk e => by rw [show Act.eval _ (.tmp 0) = .bool false from HM7.out.facts (0, .val (.bool false)) (by simp)] at e; cases e) (fun f hf hc => ?_) _) (fun listed a W i h hr hi hl => ?_) (fun listed a W h hr => ?_)
        · simp only [List.mem_cons, List.not_mem_nil, or_false] at hf
          rcases hf with rfl | rfl | rfl | rfl | rfl | rfl | rfl | rfl | rfl | rfl | rfl | rfl | rfl | rfl | rfl | rfl | rfl | rfl | rfl | rfl | rfl | rfl | rfl | rfl | rfl | rfl | rfl | rfl | rfl | rfl | rfl | rfl | rfl | rfl | rfl | rfl | rfl | rfl | rfl | rfl | rfl | rfl | rfl | rfl | rfl | rfl | rfl | rfl <;> first | (cases hc; done) | simp
        · have hi' : i < 38 := hi
          obtain rfl | rfl | rfl | rfl | rfl | rfl | rfl | rfl | rfl | rfl | rfl | rfl | rfl | rfl | rfl | rfl | rfl | rfl | rfl | rfl | rfl | rfl | rfl | rfl | rfl | rfl | rfl | rfl | rfl | rfl | rfl | rfl | rfl | rfl | rfl | rfl | rfl : i = 0 ∨ i = 1 ∨ i = 2 ∨ i = 3 ∨ i = 4 ∨ i = 5 ∨ i = 6 ∨ i = 7 ∨ i = 8 ∨ i = 9 ∨ i = 10 ∨ i = 11 ∨ i = 12 ∨ i = 13 ∨ i = 14 ∨ i = 15 ∨ i = 16 ∨ i = 17 ∨ i = 18 ∨ i = 19 ∨ i = 20 ∨ i = 21 ∨ i = 22 ∨ i = 23 ∨ i = 24 ∨ i = 25 ∨ i = 26 ∨ i = 27 ∨ i = 28 ∨ i = 29 ∨ i = 30 ∨ i = 31 ∨ i = 32 ∨ i = 33 ∨ i = 34 ∨ i = 35 ∨ i = 36 := by omega
          · exact h.load rfl rfl (h.got hr 3 rfl (by kernel_rfl)) rfl rfl (by decide) (by decide)
          · exact h.of2 rfl rfl rfl (stood_nil (.mk 0 ⟨#[]⟩ 0 0 []) rfl) rfl rfl (by decide) (by decide)
          · exact h.slice2 rfl rfl (h.got hr 10 rfl (by kernel_rfl)) (h.got hr 11 rfl (by kernel_rfl)) rfl rfl (by decide) (by decide)
          · exact h.of2 rfl rfl rfl (h.got hr 12 rfl (by kernel_rfl)) rfl rfl (by decide) (by decide)
          · exact h.mv rfl rfl (h.got hr 7 rfl (by kernel_rfl)) rfl rfl (by decide) (by decide)
          · exact h.shown rfl rfl (h.got hr 14 rfl (by kernel_rfl)) (h.got hr 13 rfl (by kernel_rfl)) (HL.out.below HM7.out.bel) (fun W1 hb => HT.out W1 (HM7.out.bel.trans (hb.mono HM7.out.bel.size))) (by decide +kernel) rt1 sh1 rfl rfl (by decide) (by decide)
          · exact h.move rfl rfl (h.got hr 15 rfl (by kernel_rfl)) rfl rfl (by decide) (by decide)
          · exact h.load rfl (wanted_of rfl (yields_of rfl rfl (h.got hr 16 rfl (by kernel_rfl)))) (h.got hr 6 rfl (by kernel_rfl)) rfl rfl (by decide) (by decide)
          · exact h.load rfl (wanted_of rfl (yields_of rfl rfl (h.got hr 16 rfl (by kernel_rfl)))) (h.got hr 6 rfl (by kernel_rfl)) rfl rfl (by decide) (by decide)
          · exact h.load rfl (wanted_of rfl (yields_of rfl rfl (h.got hr 16 rfl (by kernel_rfl)))) (h.got hr 6 rfl (by kernel_rfl)) rfl rfl (by decide) (by decide)
          · exact h.two rfl (wanted_of rfl (yields_of rfl rfl (h.got hr 16 rfl (by kernel_rfl)))) rfl (h.got hr 18 rfl (by kernel_rfl)) (h.got hr 19 rfl (by kernel_rfl)) rfl rfl (by decide) (by decide)
          · exact h.two rfl (wanted_of rfl (yields_of rfl rfl (h.got hr 16 rfl (by kernel_rfl)))) rfl (h.got hr 17 rfl (by kernel_rfl)) (h.got hr 20 rfl (by kernel_rfl)) rfl rfl (by decide) (by decide)
          · exact h.says rfl (wanted_of rfl (yields_of rfl rfl (h.got hr 16 rfl (by kernel_rfl)))) (h.got hr 21 rfl (by kernel_rfl)) rfl rfl (by decide) (by decide)
          · exact h.shown rfl (wanted_of rfl (yields_of rfl rfl (h.got hr 16 rfl (by kernel_rfl)))) rfl (h.got hr 22 rfl (by kernel_rfl)) (HL.out.below HM7.out.bel) (fun W1 hb => HT.out W1 (HM7.out.bel.trans (hb.mono HM7.out.bel.size))) (by decide +kernel) rt2 sh2 rfl rfl (by decide) (by decide)
          · exact h.pick rfl rfl (h.got hr 16 rfl (by kernel_rfl)) (h.got hr 23 rfl (by kernel_rfl)) rfl rfl (by decide) (by decide)
          · exact h.move rfl rfl (h.got hr 24 rfl (by kernel_rfl)) rfl rfl (by decide) (by decide)
          · exact h.load rfl (wanted_of rfl (yields_of rfl rfl (h.got hr 25 rfl (by kernel_rfl)))) (h.got hr 6 rfl (by kernel_rfl)) rfl rfl (by decide) (by decide)
          · exact h.load rfl (wanted_of rfl (yields_of rfl rfl (h.got hr 25 rfl (by kernel_rfl)))) (h.got hr 6 rfl (by kernel_rfl)) rfl rfl (by decide) (by decide)
          · exact h.two rfl (wanted_of rfl (yields_of rfl rfl (h.got hr 25 rfl (by kernel_rfl)))) rfl (h.got hr 26 rfl (by kernel_rfl)) (h.got hr 27 rfl (by kernel_rfl)) rfl rfl (by decide) (by decide)
          · exact h.load rfl (wanted_of rfl (yields_of rfl rfl (h.got hr 25 rfl (by kernel_rfl)))) (h.got hr 6 rfl (by kernel_rfl)) rfl rfl (by decide) (by decide)
          · exact h.two rfl (wanted_of rfl (yields_of rfl rfl (h.got hr 25 rfl (by kernel_rfl)))) rfl (h.got hr 28 rfl (by kernel_rfl)) (h.got hr 29 rfl (by kernel_rfl)) rfl rfl (by decide) (by decide)
          · exact h.says rfl (wanted_of rfl (yields_of rfl rfl (h.got hr 25 rfl (by kernel_rfl)))) (h.got hr 30 rfl (by kernel_rfl)) rfl rfl (by decide) (by decide)
          · exact h.shown rfl (wanted_of rfl (yields_of rfl rfl (h.got hr 25 rfl (by kernel_rfl)))) rfl (h.got hr 31 rfl (by kernel_rfl)) (HL.out.below HM7.out.bel) (fun W1 hb => HT.out W1 (HM7.out.bel.trans (hb.mono HM7.out.bel.size))) (by decide +kernel) rt3 sh3 rfl rfl (by decide) (by decide)
          · exact h.pick rfl rfl (h.got hr 25 rfl (by kernel_rfl)) (h.got hr 32 rfl (by kernel_rfl)) rfl rfl (by decide) (by decide)
          · exact h.move rfl rfl (h.got hr 33 rfl (by kernel_rfl)) rfl rfl (by decide) (by decide)
          · exact h.load rfl (wanted_of rfl (yields_of rfl rfl (h.got hr 34 rfl (by kernel_rfl)))) (h.got hr 4 rfl (by kernel_rfl)) rfl rfl (by decide) (by decide)
          · exact h.slice1 rfl (wanted_of rfl (yields_of rfl rfl (h.got hr 34 rfl (by kernel_rfl)))) (h.got hr 35 rfl (by kernel_rfl)) rfl rfl (by decide) (by decide)
          · exact h.of2 rfl (wanted_of rfl (yields_of rfl rfl (h.got hr 34 rfl (by kernel_rfl)))) rfl (h.got hr 36 rfl (by kernel_rfl)) rfl rfl (by decide) (by decide)
          · exact h.slice1 rfl (wanted_of rfl (yields_of rfl rfl (h.got hr 34 rfl (by kernel_rfl)))) (h.got hr 37 rfl (by kernel_rfl)) rfl rfl (by decide) (by decide)
          · exact h.of2 rfl (wanted_of rfl (yields_of rfl rfl (h.got hr 34 rfl (by kernel_rfl)))) rfl (h.got hr 38 rfl (by kernel_rfl)) rfl rfl (by decide) (by decide)
          · exact h.says rfl (wanted_of rfl (yields_of rfl rfl (h.got hr 34 rfl (by kernel_rfl)))) (h.got hr 39 rfl (by kernel_rfl)) rfl rfl (by decide) (by decide)
          · exact h.shown rfl (wanted_of rfl (yields_of rfl rfl (h.got hr 34 rfl (by kernel_rfl)))) rfl (h.got hr 40 rfl (by kernel_rfl)) (HL.out.below HM7.out.bel) (fun W1 hb => HT.out W1 (HM7.out.bel.trans (hb.mono HM7.out.bel.size))) (by decide +kernel) rt4 sh4 rfl rfl (by decide) (by decide)
          · exact h.pick rfl rfl (h.got hr 34 rfl (by kernel_rfl)) (h.got hr 41 rfl (by kernel_rfl)) rfl rfl (by decide) (by decide)
          · exact h.move rfl rfl (h.got hr 42 rfl (by kernel_rfl)) rfl rfl (by decide) (by decide)
          · exact h.mv rfl (wanted_of rfl (yields_of rfl rfl (h.got hr 43 rfl (by kernel_rfl)))) (h.got hr 9 rfl (by kernel_rfl)) rfl rfl (by decide) (by decide)
          · exact h.eql4 rfl (wanted_of rfl (yields_of rfl rfl (h.got hr 43 rfl (by kernel_rfl)))) (h.got hr 44 rfl (by kernel_rfl)) rfl rfl (by decide) (by decide)
          · exact h.pick rfl rfl (h.got hr 43 rfl (by kernel_rfl)) (h.got hr 45 rfl (by kernel_rfl)) rfl rfl (by decide) (by decide)
        · have h0 : a.eval (.tmp 77) = .bool true := h.got hr 46 rfl (by kernel_rfl)
          refine wpOp_asg7 rfl rfl h0 ?_
          refine hK8 _ _ (wp_ret ?_)
          have hv : (a.put (some 0) (.bool true)).eval (.tmp 0) = .bool true := eval_put_same _ _ _ (by rw [h.size]; decide)
          refine bodyPost_ret (v := .bool true) ?_ h.defers ⟨rfl, HB.out.trans (((HM7.out.bel).trans (h.bel.mono HM7.out.bel.size)).mono HB.out.size)⟩
          have hr := results_tmp (t := 0) Tryz.results8 (a.put (some 0) (.bool true)).tmps Tryz.prog W
          rw [show (a.put (some 0) (.bool true)).tmps.getD 0 undef = .bool true from hv] at hr
          exact hr
end Go.Proofs.YtfmjhbaenpbfoaaGreatDoor

namespace Go.Proofs.YtfmjhbaenpbfoaaGreatDoor
open Go.RowKit

theorem ret_sz {a b : ByteArray} {z : Int} (h : a = b) : Ending.returned (.tuple #[.string a, .int .i64 z]) = .returned (.tuple #[.string b, .int .i64 z]) := by rw [h]
set_option maxRecDepth 100000 in
set_option maxHeartbeats 1000000 in
theorem refProgram_any (t : T) (v : Value) (w : World) (hl : Lies w.heap.size w t v) (hS : Small 9000 t) (hm : t.many ≤ 100000) (ht : Tab w.heap.size w) : Calls Tryz.prog 11 #[agg t v] w (ShowSay t w) := by
  have hsm := hS.sml
  obtain ⟨ao, c, ps, rfl, k1⟩ := hl.out
  have hlm := k1.len64
  have HB0 : Hid (Below w.heap.size w (w.alloc (.cells #[.int .u8 t.kind, .string t.text, .int .i64 t.num, .int .i64 t.pos, .slice ao t.kids.length c] 25))) := below_own _
  have KR : Hid (Calls Tryz.prog 24 #[agg t (.slice ao t.kids.length c)] (w.alloc (.cells #[.int .u8 t.kind, .string t.text, .int .i64 t.num, .int .i64 t.pos, .slice ao t.kids.length c] 25)) fun e w' => e = .returned (.bool (rightT t)) ∧ Below (w.alloc (.cells #[.int .u8 t.kind, .string t.text, .int .i64 t.num, .int .i64 t.pos, .slice ao t.kids.length c] 25)).heap.size (w.alloc (.cells #[.int .u8 t.kind, .string t.text, .int .i64 t.num, .int .i64 t.pos, .slice ao t.kids.length c] 25)) w') := (refRight_any t (w.alloc (.cells #[.int .u8 t.kind, .string t.text, .int .i64 t.num, .int .i64 t.pos, .slice ao t.kids.length c] 25)) _ (hl.up HB0.out HB0.out.size) hS (by omega)).mono fun _ _ h => ⟨h.1, h.2.below⟩
  have HLi := Lib.hid hl
  have HTb := Lib.hid ht
  have HSm := Lib.hid hsm
  unfold ShowSay
  cases hr : rightT t with
  | true =>
    rw [hr] at KR
    have HLn := Lib.hid (show_len t hsm hr)
    have HD := Lib.hid (decls_of hr)
    simp only [if_true]
    clear hl hS hsm hm hr k1 ht
    unfold agg at *
    obtain ⟨n, hn⟩ : ∃ n, n = t.kids.length := ⟨_, rfl⟩
    have HN := Lib.hid hn
    rw [← hn] at hlm HLi HB0 KR ⊢
    clear hn
    go_enter Tryz.func11, Tryz.ntmps11
    go_wp2_with (go_at_call 24; go_must (refine (KR.out).mono ?_; rintro e w1 ⟨rfl, hb⟩; have HD1 : Hid (Below (w.alloc (.cells #[.int .u8 t.kind, .string t.text, .int .i64 t.num, .int .i64 t.pos, .slice ao n c] 25)).heap.size (w.alloc (.cells #[.int .u8 t.kind, .string t.text, .int .i64 t.num, .int .i64 t.pos, .slice ao n c] 25)) w1) := hb; clear hb; refine Hid.out ?_))
    refine Lib.hid ?_
    go_wp2_with fail
    go_loopw [4, 5] (fun sv i wr => ∃ (j : Nat) (b : ByteArray), j ≤ n ∧ i = .int .i64 j ∧ sv = .string b ∧ Hid (b = BA (eachT declT [10] (t.kids.take j))) ∧ Hid (Below (w.alloc (.cells #[.int .u8 t.kind, .string t.text, .int .i64 t.num, .int .i64 t.pos, .slice ao n c] 25)).heap.size (w.alloc (.cells #[.int .u8 t.kind, .string t.text, .int .i64 t.num, .int .i64 t.pos, .slice ao n c] 25)) wr)) (fun _ i _ => n - (intOf i).toNat)
    case atStart =>
      refine ⟨0, _, Nat.zero_le _, rfl, rfl, ?_, HD1⟩
      unfold Hid
      rw [List.take_zero]
      rfl
    case round =>
      obtain ⟨j, b, hj, rfl, rfl, HBb, HDw⟩ := hrel
      have HB : Hid (Below w.heap.size w wr) := HB0.out.trans (HDw.out.mono HB0.out.size)
      have b4 : wr.cell? ⟨w.heap.size, 4, none⟩ = some (.slice ao n c) := one_bel HDw.out 4
      by_cases hlt : j < n
      · have hjn : (j : Int) < (n : Int) := by omega
        have hjl : j < t.kids.length := by rw [← HN.out]; exact hlt
        obtain ⟨ao', c', ps, he, k1⟩ := (HLi.out.up HB.out HB.out.size).out
        obtain ⟨sb, off, e1, hsb, hc⟩ := k1.kid (by omega)
        obtain ⟨u, hkc, hkl⟩ := hc j t.kids[j] (List.getElem?_eq_getElem hjl)
        injection he with he1 he2 he3
        subst he1 e1 he3
        have hle := eachT_take_le declT [10] t.kids (j + 1)
        have HT : Hid (eachT declT [10] (t.kids.take (j + 1)) = eachT declT [10] (t.kids.take j) ++ (declT t.kids[j] ++ [10])) := eachT_take _ _ _ _ hjl
        rw [HT.out] at hle
        simp only [List.length_append, List.length_cons, List.length_nil] at hle
        have hdq := HD.out _ (List.getElem_mem hjl)
        obtain ⟨d0, d1, d2, d3, d4⟩ := hkc
        have hbs := ba_size_of HBb.out
        have hb : (eachT declT [10] t.kids).length ≤ 400000000 := HLn.out
        have KF : Hid ((declT t.kids[j]).length ≤ 140737488355328 → Calls Tryz.prog 25 #[agg t.kids[j] u] wr (Sd (declT t.kids[j]) wr)) := fun hlen => refDecl_any _ hdq wr u hkl (fun W hb => HTb.out W (HB.out.trans (hb.mono HB.out.size))) hlen
        have KF2 := Lib.hid (KF.out (by omega))
        clear hc he2 k1 hkl ps hdq KF
        generalize t.kids[j] = q at *
        generalize hyy : eachT declT [10] (t.kids.take j) = y at *
        generalize declT q = x at *
        obtain ⟨z, hz⟩ : ∃ z, z = BA x := ⟨_, rfl⟩
        have hzs := ba_size_of hz
        have HZ := Lib.hid hz
        unfold agg Sd at *
        rw [← hz] at KF2
        have l1 : ¬ 9223372036854775807 < b.size + z.size := by omega
        have l2 : ¬ 9223372036854775807 < b.size + z.size + 1 := by omega
        clear hyy hle hb hz hzs hbs
        go_wp2_with (go_at_call 25; go_must (refine (KF2.out).mono ?_; rintro e w2 ⟨rfl, hg⟩; have HDn : Hid (Below (w.alloc (.cells #[.int .u8 t.kind, .string t.text, .int .i64 t.num, .int .i64 t.pos, .slice (some ⟨sb, off, none⟩) n c] 25)).heap.size (w.alloc (.cells #[.int .u8 t.kind, .string t.text, .int .i64 t.num, .int .i64 t.pos, .slice (some ⟨sb, off, none⟩) n c] 25)) w2) := HDw.out.trans (hg.mono HDw.out.size); clear hg))
        clear KF2 d0 d1 d2 d3 d4 HB HDw b4
        go_roundw
        case rel =>
          refine ⟨j + 1, _, by omega, by go_num, rfl, ?_, HDn⟩
          unfold Hid
          rw [HBb.out, HZ.out, HT.out]
          apply ByteArray.ext
          apply Array.ext'
          simp [ByteArray.data_append]
        case measure => simp [intOf]; omega
      · obtain hjn : j = n := by omega
        have HR : Hid (b = BA (showT t)) := by
          have := HBb.out
          rw [hjn, HN.out, List.take_length] at this
          exact this
        have hjn' : ¬ (j : Int) < (n : Int) := by omega
        clear hjn
        go_wp2_with fail
        go_ret2
        exact ⟨ret_sz HR.out, HB.out⟩
  | false =>
    rw [hr] at KR
    simp only [Bool.false_eq_true, if_false]
    clear hl hS hsm hm hr k1 ht HLi
    unfold agg at *
    go_enter Tryz.func11, Tryz.ntmps11
    go_wp2_with (go_at_call 24; go_must (refine (KR.out).mono ?_; rintro e w1 ⟨rfl, hb⟩; have HB1 : Hid (Below w.heap.size w w1) := HB0.out.trans (hb.mono HB0.out.size); clear hb))
    go_ret2
    exact ⟨rfl, HB1.out⟩

set_option maxRecDepth 100000 in
set_option maxHeartbeats 1000000 in
theorem showTells_any (t : T) (v : Value) (w : World) (hk : Lies w.heap.size w t v) (hx : Txt t) (hL : Laid w) (hT : Tab w.heap.size w) :
    Calls Tryz.prog 3 #[agg t v] w fun e w' => e = .returned (.bool true) ∧ Below w.heap.size w w' := by
  have HK := Lib.hid hk
  have HL := Lib.hid hL
  have HTb := Lib.hid hT
  have KA := Lib.hid (fun W (hb : Below w.heap.size w W) => awake7_any W (hL.below hb) (fun W' hb' => hT W' (hb.trans (hb'.mono hb.size))))
  have KN := Lib.hid (fun W (hb : Below w.heap.size w W) => nodesOf_any t W v 9000 (hk.up hb hb.size) hx (by omega) (by omega))
  have KL := Lib.hid (fun W (hb : Below w.heap.size w W) (hS : Small 9000 t) => lent_any t W v (hk.up hb hb.size) (hS.fits (by omega)))
  obtain ⟨ao, c, ps, rfl, k1⟩ := hk.out
  have hmany := nodes_many t 9000
  have hsmall := nodes_small t 9000
  clear hk hx hL hT k1
  have HBx : Hid (Below w.heap.size w (w.alloc (.cells #[.int .u8 t.kind, .string t.text, .int .i64 t.num, .int .i64 t.pos, .slice ao t.kids.length c] 25))) := below_own _
  unfold agg at *
  go_enter Tryz.func3, Tryz.ntmps3
  generalize t.nodes 9000 = m at *
  by_cases hm : m ≤ 9000
  · have HSm := Lib.hid (hsmall hm)
    have HMy := Lib.hid (hmany hm)
    clear hmany hsmall
    have hm' : ¬ (9000 : Int) < m := by omega
    go_wp2_with (first
      | (go_at_call 7; go_must (refine (KN.out _ HBx.out).mono ?_; rintro e w1 ⟨rfl, hg⟩; have b1 := one_bel hg.below; have HG1 : Hid (Below (w.alloc (.cells #[.int .u8 t.kind, .string t.text, .int .i64 t.num, .int .i64 t.pos, .slice ao t.kids.length c] 25)).heap.size (w.alloc (.cells #[.int .u8 t.kind, .string t.text, .int .i64 t.num, .int .i64 t.pos, .slice ao t.kids.length c] 25)) w1) := hg.below; have HB1 := Lib.hid (HBx.out.trans (hg.below.mono HBx.out.size)); clear hg))
      | (go_at_call 9; go_must (refine (KL.out _ HB1.out HSm.out).mono ?_; rintro e w2 ⟨v', rfl, hl, hb⟩; obtain ⟨g, rfl, hgb, hgl⟩ := hl.addr; obtain ⟨c1, f2⟩ := bone (g := w.heap.size) hb (by have := HG1.out.size; simp at this; omega); have HLt := Lib.hid hl; have HB2 := Lib.hid hb; clear hl hb; refine Hid.out ?_)))
    refine Lib.hid ?_
    have hw1 : w.heap.size < w1.heap.size := by have := HG1.out.size; simp at this; omega
    have hw2 : w1.heap.size ≤ w2.heap.size := HB2.out.size
    have HX : Hid (Below w.heap.size w (w2.alloc (.cells #[.int .u8 t.kind, .string t.text, .int .i64 t.num, .int .i64 t.pos, .slice (some ⟨g, 0, none⟩) t.kids.length (t.kids.length + 12)] 25))) := below_new (HB1.out.trans (HB2.out.mono (by omega))) _
    have hX : Below w2.heap.size w2 (w2.alloc (.cells #[.int .u8 t.kind, .string t.text, .int .i64 t.num, .int .i64 t.pos, .slice (some ⟨g, 0, none⟩) t.kids.length (t.kids.length + 12)] 25)) := below_own _
    have HU : Hid (∀ W, Below (w2.alloc (.cells #[.int .u8 t.kind, .string t.text, .int .i64 t.num, .int .i64 t.pos, .slice (some ⟨g, 0, none⟩) t.kids.length (t.kids.length + 12)] 25)).heap.size (w2.alloc (.cells #[.int .u8 t.kind, .string t.text, .int .i64 t.num, .int .i64 t.pos, .slice (some ⟨g, 0, none⟩) t.kids.length (t.kids.length + 12)] 25)) W → Below w.heap.size w W) := fun W hb => HX.out.trans (hb.mono HX.out.size)
    have HN1 : Hid (∀ W, Below (w2.alloc (.cells #[.int .u8 t.kind, .string t.text, .int .i64 t.num, .int .i64 t.pos, .slice (some ⟨g, 0, none⟩) t.kids.length (t.kids.length + 12)] 25)).heap.size (w2.alloc (.cells #[.int .u8 t.kind, .string t.text, .int .i64 t.num, .int .i64 t.pos, .slice (some ⟨g, 0, none⟩) t.kids.length (t.kids.length + 12)] 25)) W → ∀ j, W.cell? ⟨w.heap.size, j, none⟩ = (#[.int .u8 t.kind, .string t.text, .int .i64 t.num, .int .i64 t.pos, .slice ao t.kids.length c] : Array Value)[j]?) := fun W hb j => by
      rw [(bone hb (by simp; omega)).1 j, (bone hX (by omega)).1 j, c1 j]
      exact b1 j
    have HN2 : Hid (∀ W, Below (w2.alloc (.cells #[.int .u8 t.kind, .string t.text, .int .i64 t.num, .int .i64 t.pos, .slice (some ⟨g, 0, none⟩) t.kids.length (t.kids.length + 12)] 25)).heap.size (w2.alloc (.cells #[.int .u8 t.kind, .string t.text, .int .i64 t.num, .int .i64 t.pos, .slice (some ⟨g, 0, none⟩) t.kids.length (t.kids.length + 12)] 25)) W → ∀ j, W.cell? ⟨w2.heap.size, j, none⟩ = (#[.int .u8 t.kind, .string t.text, .int .i64 t.num, .int .i64 t.pos, .slice (some ⟨g, 0, none⟩) t.kids.length (t.kids.length + 12)] : Array Value)[j]?) := fun W hb => one_bel hb
    have hmy : t.many ≤ 9000 := by have := HMy.out; omega
    have hLt2 := HLt.out.old hX
    have KP := Lib.hid (program7_any t (.slice (some ⟨g, 0, none⟩) t.kids.length (t.kids.length + 12)) (w2.alloc (.cells #[.int .u8 t.kind, .string t.text, .int .i64 t.num, .int .i64 t.pos, .slice (some ⟨g, 0, none⟩) t.kids.length (t.kids.length + 12)] 25)) hLt2.lies (HL.out.below HX.out) HSm.out (fun W hb => HTb.out W (HU.out W hb)))
    have KQ : Hid (∀ W, Below (w2.alloc (.cells #[.int .u8 t.kind, .string t.text, .int .i64 t.num, .int .i64 t.pos, .slice (some ⟨g, 0, none⟩) t.kids.length (t.kids.length + 12)] 25)).heap.size (w2.alloc (.cells #[.int .u8 t.kind, .string t.text, .int .i64 t.num, .int .i64 t.pos, .slice (some ⟨g, 0, none⟩) t.kids.length (t.kids.length + 12)] 25)) W → Calls Tryz.prog 11 #[agg t (.slice ao t.kids.length c)] W (ShowSay t W)) := fun W hb => refProgram_any t _ W (HK.out.up (HU.out W hb) (HU.out W hb).size) HSm.out (by omega) (fun W' hb' => HTb.out W' ((HU.out W hb).trans (hb'.mono (HU.out W hb).size)))
    have KK : Hid (∀ W, Below (w2.alloc (.cells #[.int .u8 t.kind, .string t.text, .int .i64 t.num, .int .i64 t.pos, .slice (some ⟨g, 0, none⟩) t.kids.length (t.kids.length + 12)] 25)).heap.size (w2.alloc (.cells #[.int .u8 t.kind, .string t.text, .int .i64 t.num, .int .i64 t.pos, .slice (some ⟨g, 0, none⟩) t.kids.length (t.kids.length + 12)] 25)) W → Calls Tryz.prog 12 #[agg t (.slice (some ⟨g, 0, none⟩) t.kids.length (t.kids.length + 12)), agg t (.slice ao t.kids.length c)] W fun e w' => e = .returned (.bool true) ∧ Below W.heap.size W w') := fun W hb => (kept_any t W _ _ _ (hLt2.old hb) (HK.out.up (HU.out W hb) (HU.out W hb).size)).mono fun _ _ h => ⟨h.1, h.2.below⟩
    have KW : Hid (∀ W, Below (w2.alloc (.cells #[.int .u8 t.kind, .string t.text, .int .i64 t.num, .int .i64 t.pos, .slice (some ⟨g, 0, none⟩) t.kids.length (t.kids.length + 12)] 25)).heap.size (w2.alloc (.cells #[.int .u8 t.kind, .string t.text, .int .i64 t.num, .int .i64 t.pos, .slice (some ⟨g, 0, none⟩) t.kids.length (t.kids.length + 12)] 25)) W → Calls Tryz.prog 8 #[] W fun e w' => e = .returned (.bool true) ∧ Below W.heap.size W w') := fun W hb => KA.out W (HU.out W hb)
    unfold ShowSay at KP KQ
    obtain ⟨z, hz⟩ : ∃ z, z = BA (if rightT t then showT t else []) := ⟨_, rfl⟩
    obtain ⟨ez, hez⟩ : ∃ ez : Int, ez = if rightT t then 0 else 4 := ⟨_, rfl⟩
    rw [← hz, ← hez] at KP KQ
    have hzs : (z.toList == z.toList) = true := beq_self_eq_true _
    have hes : (ez == ez) = true := beq_self_eq_true _
    clear hz hez KN KL hLt2 hX c1 f2 b1
    unfold agg at *
    go_wp2_with (go_at_call 10; go_must (refine (KP.out).mono ?_; rintro e w3 ⟨rfl, hb⟩; have n1 := HN1.out _ hb; have n2 := HN2.out _ hb; have HB3 := Lib.hid hb; clear hb; refine Hid.out ?_))
    refine Lib.hid ?_
    go_wp2_with (go_at_call 11; go_must (refine (KQ.out _ HB3.out).mono ?_; rintro e w4 ⟨rfl, hb⟩; have HB4 := Lib.hid (HB3.out.trans (hb.mono HB3.out.size)); have m1 := HN1.out _ HB4.out; have m2 := HN2.out _ HB4.out; clear hb n1 n2; refine Hid.out ?_))
    refine Lib.hid ?_
    go_wp2_with (first
      | (go_at_call 12; go_must (refine (KK.out _ HB4.out).mono ?_; rintro e w5 ⟨rfl, hb⟩; have HB5 := Lib.hid (HB4.out.trans (hb.mono HB4.out.size)); clear hb))
      | (go_at_call 8; go_must (refine (KW.out _ HB5.out).mono ?_; rintro e w6 ⟨rfl, hb⟩; have HB6 := Lib.hid (HB5.out.trans (hb.mono HB5.out.size)); clear hb)))
    go_ret
    exact ⟨rfl, HU.out _ HB6.out⟩
  · clear hmany hsmall
    have hm' : (9000 : Int) < m := by omega
    go_wp2_with (first
      | (go_at_call 7; go_must (refine (KN.out _ HBx.out).mono ?_; rintro e w1 ⟨rfl, hg⟩; have HB1 := Lib.hid (HBx.out.trans (hg.below.mono HBx.out.size)); clear hg))
      | (go_at_call 8; go_must (refine (KA.out _ HB1.out).mono ?_; rintro e w2 ⟨rfl, hb⟩; have HB2 := Lib.hid (HB1.out.trans (hb.mono HB1.out.size)); clear hb)))
    go_ret
    exact ⟨rfl, HB2.out⟩
end Go.Proofs.YtfmjhbaenpbfoaaGreatDoor

namespace Go.Proofs.YtfmjhbaenpbfoaaGreatDoor
open Go.ChangeShapes Go.WideShapes Go.ChangeAt Go.RowKit

instance : Inhabited T := ⟨.mk 0 ⟨#[]⟩ 0 0 []⟩
theorem cellsNode : Tryz.prog.cellsOf 25 = 5 := by kernel_rfl
set_option maxRecDepth 100000 in
theorem open_node {H : Type} {enc : TypeId × Value → H} {W : World} (fuel : Nat) : ∀ (cs : List Value) (x : DataW H × List MemPlace), DataW.trod enc Tryz.prog W 0 (fun _ => true) true fuel 25 cs = some x →
    ∃ t v, cs = [.int .u8 t.kind, .string t.text, .int .i64 t.num, .int .i64 t.pos, v] ∧ Lies W.heap.size W t v ∧ Txt t := by
  induction fuel using Nat.strongRecOn with
  | ind fuel ih =>
    intro cs x h
    obtain ⟨xs, n, rfl, rfl, hl, hlen, hf⟩ := DataW.trod_struct Tryz.underlying25 h
    rw [cellsNode] at hl
    have c0 : Tryz.prog.cellsOf 22 = 1 := by kernel_rfl
    have c1 : Tryz.prog.cellsOf 9 = 1 := by kernel_rfl
    have c2 : Tryz.prog.cellsOf 3 = 1 := by kernel_rfl
    have c4 : Tryz.prog.cellsOf 23 = 1 := by kernel_rfl
    match cs, hl, xs, hlen with
    | [v0, v1, v2, v3, v4], _, [y0, y1, y2, y3, y4], _ =>
      have g0 := hf 0 _ rfl
      have g1 := hf 1 _ rfl
      have g2 := hf 2 _ rfl
      have g3 := hf 3 _ rfl
      have g4 := hf 4 _ rfl
      simp [c0, c1, c2, c4] at g0 g1 g2 g3 g4
      obtain ⟨k0, e0, _, wk⟩ := DataW.trod_int Tryz.underlying22 g0
      obtain ⟨s0, e1, _, ws⟩ := DataW.trod_string Tryz.underlying9 g1
      obtain ⟨n0, e2, _, wn⟩ := DataW.trod_int Tryz.underlying3 g2
      obtain ⟨p0, e3, _, wp⟩ := DataW.trod_int Tryz.underlying3 g3
      simp at e0 e1 e2 e3
      subst e0 e1 e2 e3
      rcases DataW.trod_slice Tryz.underlying23 g4 with ⟨e4, _⟩ | ⟨a, len, cap, elems, rest, n', hn, e4, _, _, hlc, hcm, hel, hat, _, _⟩
      · simp at e4
        subst e4
        exact ⟨.mk k0 s0 n0 p0 [], .slice none 0 0, rfl, .mk (.mk k0 s0 n0 p0 []) none 0 [] rfl (fun e => absurd rfl e) (fun _ => rfl) (Nat.le_refl _) (by unfold maxLen; omega) (fun p hp => by cases hp), .mk (.mk k0 s0 n0 p0 []) ws fun k hk => by cases hk⟩
      · simp at e4
        subst e4 hn
        have each : ∀ i, i < len → ∃ q : T × Value, (Lies W.heap.size W q.1 q.2 ∧ Txt q.1) ∧ ∀ j, j < 5 → W.cell? ((a.add (i * 5)).add j) = [Value.int .u8 q.1.kind, .string q.1.text, .int .i64 q.1.num, .int .i64 q.1.pos, q.2][j]? := by
          intro i hi
          have h1 := hat i hi
          rw [cellsNode, List.getElem?_eq_getElem (by omega), Option.bind_eq_some_iff] at h1
          obtain ⟨cs', h2, h3⟩ := h1
          obtain ⟨t, v, rfl, h4, h5⟩ := ih n' (by omega) _ _ h3
          exact ⟨(t, v), ⟨h4, h5⟩, (World.cells?_some h2).2.2⟩
        obtain ⟨q, hq⟩ := Deep.choose_lt each
        have hps : ∀ p, p ∈ (List.range len).map q → Lies W.heap.size W p.1 p.2 ∧ Txt p.1 := by
          intro p hp
          simp only [List.mem_map, List.mem_range] at hp
          obtain ⟨i, hi, rfl⟩ := hp
          exact (hq i hi).1
        have hcell : ∀ (j : Nat) (u : Value), (cellsN ((List.range len).map q))[j]? = some u → W.cell? (a.add j) = some u := by
          intro j u hu
          have hj : j < len * 5 := by
            have := (List.getElem?_eq_some_iff.1 hu).1
            rw [cellsN_length] at this
            simpa using this
          have hi : j / 5 < len := by omega
          have hr : j % 5 < 5 := by omega
          have h1 := (hq (j / 5) hi).2 (j % 5) hr
          rw [Deep.add_add, show j / 5 * 5 + j % 5 = j by omega] at h1
          rw [h1, ← hu]
          obtain ⟨z0, z1, z2, z3, z4⟩ := cellsN_at ((List.range len).map q) (j / 5) (by simpa using hi)
          simp only [List.getElem_map, List.getElem_range] at z0 z1 z2 z3 z4
          have hjj : j = j / 5 * 5 + j % 5 := by omega
          generalize j / 5 = i at *
          generalize j % 5 = r at *
          subst hjj
          have hr' : r = 0 ∨ r = 1 ∨ r = 2 ∨ r = 3 ∨ r = 4 := by omega
          rcases hr' with rfl | rfl | rfl | rfl | rfl
          · exact z0.symm
          · exact z1.symm
          · exact z2.symm
          · exact z3.symm
          · exact z4.symm
        refine ⟨.mk k0 s0 n0 p0 (((List.range len).map q).map Prod.fst), .slice (some a) len cap, rfl, ?_, .mk (.mk k0 s0 n0 p0 (((List.range len).map q).map Prod.fst)) ws fun k hk => ?_⟩
        · have hlen2 : (T.mk k0 s0 n0 p0 (((List.range len).map q).map Prod.fst)).kids.length = len := by simp [T.kids]
          have := Lies.mk (B := W.heap.size) (w := W) (.mk k0 s0 n0 p0 (((List.range len).map q).map Prod.fst)) (some a) cap ((List.range len).map q) rfl ?_ (fun e => by cases e) (by rw [hlen2]; exact hlc) hcm (fun p hp => (hps p hp).1)
          · rw [hlen2] at this
            exact this
          · intro hne
            obtain ⟨b, off, path⟩ := a
            obtain ⟨u, hu⟩ : ∃ u, (cellsN ((List.range len).map q))[0]? = some u := by
              cases hz : cellsN ((List.range len).map q) with
              | nil => exact absurd hz hne
              | cons u l => exact ⟨u, rfl⟩
            have h0 := hcell 0 u hu
            have hp : path = none := by
              cases path with
              | none => rfl
              | some z => exfalso; revert h0; simp only [Addr.add, World.cell?]; split <;> simp
            subst hp
            refine ⟨b, off, rfl, ?_, fun j u hu => ?_⟩
            · apply Classical.byContradiction
              intro hn
              have hnone : W.heap[b]? = none := Array.getElem?_eq_none (by omega)
              revert h0
              simp [Addr.add, World.cell?, hnone]
            · have := hcell j u hu
              rwa [Addr.add_lit] at this
        · have hk' : k ∈ ((List.range len).map q).map Prod.fst := hk
          obtain ⟨p, hp, rfl⟩ := List.mem_map.1 hk'
          exact (hps p hp).2
end Go.Proofs.YtfmjhbaenpbfoaaGreatDoor

namespace Go.Proofs.YtfmjhbaenpbfoaaGreatDoor
open Go.ChangeShapes Go.WideShapes Go.ChangeAt Go.RowKit

theorem open_arg {H : Type} {enc : TypeId × Value → H} {W : World} {v : Value} {d : DataW H} {p : List MemPlace} (h : DataW.Trod enc Tryz.prog W 0 (fun _ => true) true 25 v d p) :
    ∃ t u, v = agg t u ∧ Lies W.heap.size W t u ∧ Txt t := by
  obtain ⟨fuel, hf⟩ := h
  obtain ⟨t, u, hcs, hl, hx⟩ := open_node fuel _ _ hf
  refine ⟨t, u, ?_, hl, hx⟩
  cases v with
  | agg cs =>
    have : cs.toList = [.int .u8 t.kind, .string t.text, .int .i64 t.num, .int .i64 t.pos, u] := hcs
    obtain ⟨l⟩ := cs
    simp only at this
    subst this
    rfl
  | _ => simp [Value.cells] at hcs

theorem cells_of_strs {H : Type} {enc : TypeId × Value → H} {P : Program} {w : World} {base : Nat} {sp : Nat → Bool} {held : Bool} {fuel : Nat} {t e : TypeId} {n : Nat} {cs : List Value} {zs : List ByteArray} {p : List MemPlace}
    (ht : P.underlying t = some (.array n e)) (he : P.underlying e = some .string) (hce : P.cellsOf e = 1) (hct : P.cellsOf t = n)
    (h : DataW.trod enc P w base sp held fuel t cs = some (.agg (zs.map fun z => .lit (.string z.data.toList)), p)) : cs = zs.map fun z => Value.string z := by
  cases fuel with
  | zero => simp [DataW.trod] at h
  | succ fuel =>
    simp only [DataW.trod, ht, hce, hct, Nat.mul_one] at h
    split at h
    · rename_i hl
      obtain ⟨xs, hm, hx⟩ := Option.map_eq_some_iff.1 h
      have hxs : xs.map (·.1) = zs.map fun z => (DataW.lit (.string z.data.toList) : DataW H) := by
        have := congrArg Prod.fst hx
        simpa using this
      have hxl : xs.length = n := by simpa using Lib.mapM_length hm
      have hzl : zs.length = n := by
        have := congrArg List.length hxs
        simp at this
        omega
      apply List.ext_getElem?
      intro i
      by_cases hi : i < n
      · obtain ⟨b, hb, hf⟩ := Lib.mapM_at hm i i (by simp [hi])
        obtain ⟨z, hc, rfl, _⟩ := DataW.trod_string he hf
        have h1 : cs[i]? = some (.string z) := by
          have := congrArg (·[0]?) hc
          simpa [List.getElem?_take, List.getElem?_drop] using this
        have h2 : (xs.map (·.1))[i]? = some (DataW.lit (.string z.data.toList) : DataW H) := by simp [hb]
        rw [hxs] at h2
        simp only [List.getElem?_map, Option.map_eq_some_iff, DataW.lit.injEq, Lit.string.injEq] at h2
        obtain ⟨z', hz', hzz⟩ := h2
        have : z' = z := by
          cases z'; cases z
          congr 1
          exact Array.toList_inj.1 hzz
        subst this
        simp [h1, hz']
      · rw [List.getElem?_eq_none (by omega), List.getElem?_eq_none (by simp; omega)]
    · cases h
theorem strs_of_head {P : Program} {W : World} {name : String} {zs : List ByteArray} {rest : List (String × DataW Unit)} {g : Nat} {t e : TypeId} {n : Nat}
    (hg : P.globalNamed name = some g) (hty : (P.globals[g]?).map (·.type) = some t) (ht : P.underlying t = some (.array n e)) (he : P.underlying e = some .string) (hce : P.cellsOf e = 1) (hct : P.cellsOf t = n)
    (h : laidMet P ((name, .agg (zs.map fun z => .lit (.string z.data.toList))) :: rest) W) : W.var? P name = some (zs.map fun z => Value.string z).toArray := by
  obtain ⟨ps, ⟨g', t', cs, fuel, p, q, hg', ht', hvar, hd, _, _⟩, _⟩ := h
  obtain rfl := Option.some.inj (hg.symm.trans hg')
  obtain rfl := Option.some.inj (hty.symm.trans ht')
  rw [hvar, ← cells_of_strs ht he hce hct hd]
end Go.Proofs.YtfmjhbaenpbfoaaGreatDoor

namespace Go.Proofs.YtfmjhbaenpbfoaaGreatDoor.showTells
open Go.ChangeShapes Go.WideShapes Go.ChangeAt Go.RowKit Go.Joins

theorem own : ownKnob Tryz.prog.godebug = none := by kernel_rfl

theorem laidOut : laidOutB Tryz.prog = true := by kernel_rfl

/-- The two errors of the library, as the row's condition gives them. -/
theorem errs {W : World} (h : laidMetH Tryz.prog Rows.showTellsRow.laid W) : Errs W := by
  rw [MakeChecks.laidMetH_plain _ _ _ (by kernel_rfl)] at h
  have hr : laidMet Tryz.prog [("strconv.ErrRange", Rows.laid_strconv_ErrRange), ("strconv.ErrSyntax", Rows.laid_strconv_ErrSyntax), ("ropewalk/node.ofOne", Rows.laid_ropewalk_node_ofOne), ("ropewalk/node.ofTwo", Rows.laid_ropewalk_node_ofTwo), ("unicode/utf8.first", Rows.laid_unicode_utf8_first)] W := laidMet.tail (laidMet.tail (laidMet.tail (laidMet.tail h)))
  have star : "*" ++ "errors.errorString" = "*errors.errorString" := by decide
  have row : ∀ u, Tryz.prog.typeName? 3 u = some "*errors.errorString" → u = 228 := fun u hu =>
    typeName_ptr_named (nm := "errors.errorString") (by rw [star]; kernel_rfl) (by kernel_rfl) (by decide) u (by rw [star]; exact hu)
  obtain ⟨a1, s1, hv1, _⟩ := laid_sentinel hr (g := 4) (by kernel_rfl) (by kernel_rfl) Tryz.underlying117 row Tryz.underlying228 Tryz.underlying230 rfl rfl Tryz.underlying9 (by kernel_rfl) (by kernel_rfl)
  obtain ⟨a2, s2, hv2, _⟩ := laid_sentinel (laidMet.tail hr) (g := 3) (by kernel_rfl) (by kernel_rfl) Tryz.underlying117 row Tryz.underlying228 Tryz.underlying230 rfl rfl Tryz.underlying9 (by kernel_rfl) (by kernel_rfl)
  have c1 := World.var?_cell (show Tryz.prog.globalNamed "strconv.ErrRange" = some 4 by kernel_rfl) hv1 0
  have c2 := World.var?_cell (show Tryz.prog.globalNamed "strconv.ErrSyntax" = some 3 by kernel_rfl) hv2 0
  refine ⟨?_, ⟨_, _, c2⟩, ⟨_, _, c1⟩⟩
  apply Classical.byContradiction
  intro hn
  have hnone : W.heap[4]? = none := Array.getElem?_eq_none (by omega)
  simp [World.cell?, hnone] at c1

/-- What is laid, as the row's condition gives it. -/
theorem laidOf {W : World} (h : laidMetH Tryz.prog Rows.showTellsRow.laid W) : Laid W := by
  have he := errs h
  rw [MakeChecks.laidMetH_plain _ _ _ (by kernel_rfl)] at h
  have h2 : laidMet Tryz.prog [("ropewalk/node.ofOne", Rows.laid_ropewalk_node_ofOne), ("ropewalk/node.ofTwo", Rows.laid_ropewalk_node_ofTwo), ("unicode/utf8.first", Rows.laid_unicode_utf8_first)] W := laidMet.tail (laidMet.tail (laidMet.tail (laidMet.tail (laidMet.tail (laidMet.tail h)))))
  have v1 := strs_of_head (zs := oneZ) (g := 0) (by kernel_rfl) (by kernel_rfl) Tryz.underlying129 Tryz.underlying9 (by kernel_rfl) (by kernel_rfl) h2
  have v2 := strs_of_head (zs := opsZ) (g := 1) (by kernel_rfl) (by kernel_rfl) Tryz.underlying130 Tryz.underlying9 (by kernel_rfl) (by kernel_rfl) (laidMet.tail h2)
  refine ⟨he, fun i s hs => ?_, fun i s hs => ?_⟩
  · have := World.var?_cell (show Tryz.prog.globalNamed "ropewalk/node.ofOne" = some 0 by kernel_rfl) v1 i
    rw [this]
    simp [hs]
  · have := World.var?_cell (show Tryz.prog.globalNamed "ropewalk/node.ofTwo" = some 1 by kernel_rfl) v2 i
    rw [this]
    simp [hs]

/-- The listed table of powers of ten, as the row's condition gives it. -/
theorem table {W : World} (h : laidMetH Tryz.prog Rows.showTellsRow.laid W) : Tab W.heap.size W := by
  rw [MakeChecks.laidMetH_plain _ _ _ (by kernel_rfl)] at h
  have h3 : laidMet Tryz.prog [("internal/strconv.uint64pow10", Rows.laid_internal_strconv_uint64pow10), ("unicode/utf8.acceptRanges", Rows.laid_unicode_utf8_acceptRanges), ("strconv.ErrRange", Rows.laid_strconv_ErrRange), ("strconv.ErrSyntax", Rows.laid_strconv_ErrSyntax), ("ropewalk/node.ofOne", Rows.laid_ropewalk_node_ofOne), ("ropewalk/node.ofTwo", Rows.laid_ropewalk_node_ofTwo), ("unicode/utf8.first", Rows.laid_unicode_utf8_first)] W := laidMet.tail (laidMet.tail h)
  have e : (Rows.laid_internal_strconv_uint64pow10 : DataW Unit) = Lib.tabData .u64 Lib.pow10Tab := by kernel_rfl
  rw [e] at h3
  exact Lib.tabBelow_of_tabIs (Lib.tabIs_of_head (g := 2) (t := 193) (by kernel_rfl) (by kernel_rfl) Tryz.underlying193 Tryz.underlying171 (by kernel_rfl) (by kernel_rfl) h3)

set_option maxRecDepth 100000 in
theorem lifted (os : Os) (started : os.Started) (H : Type) (enc : TypeId × Value → H) :
    ReturnsInHanded {} Tryz.checked os 3 .any (fun w args => (Rows.showTellsSpec.pre enc Tryz.prog Tryz.f3 Rows.showTellsRow.domain false w args ∧ laidMetH Tryz.prog Rows.showTellsRow.laid w) ∧ sizedMet enc Tryz.prog Tryz.f3 (OpenSpec.ofChange Rows.showTellsSpec) false w args)
      (Rows.showTellsSpec.post enc Tryz.prog Tryz.f3 false true false false) := by
  refine returnsInHanded_of_change_and (C := Tryz.checked) (X := fun w _ => laidMetH Tryz.prog Rows.showTellsRow.laid w) (fun _ _ _ hh h => h.of_heap hh) own started (by kernel_rfl) Tryz.func3
    (ChangeSpec.witness_shaped (enc := enc) (C := Tryz.checked) (os := os) (X := fun w _ => laidMetH Tryz.prog Rows.showTellsRow.laid w) false (World.laidAll Tryz.prog os Rows.showTellsRow.laid) #[.agg #[.int .u8 0, .string ⟨#[]⟩, .int .i64 0, .int .i64 0, .slice none 0 0]] 8 (World.laidAll_os _ _ _)
      (World.shaped_of_ZipB (by kernel_rfl) (by kernel_rfl)) (by kernel_rfl) (by kernel_rfl) (by kernel_rfl)
      (by rw [MakeChecks.laidMetH_plain _ _ _ (by kernel_rfl)]; exact laidMet_laidAll _ (by kernel_rfl) (by kernel_rfl))) ?_
  intro W base args ds gs before hval0 hW _ _ hL _
  have hval : ∀ (j : Nat) t v, Tryz.f3.params[j]? = some t → args[j]? = some v → Value.okWide Tryz.prog W .any base t v := hval0
  have hW' := hW
  obtain ⟨p, q, hA0, hV, rfl, _, _⟩ := hW
  have hA : DataW.TrodAll enc Tryz.prog W 0 (fun _ => true) true Tryz.f3.params.toList args.toList ds p := hA0
  rw [Tryz.params3] at hA hval
  obtain ⟨v0, vs0, d0, ds0, p0, q0, hargs, rfl, rfl, h0, r0⟩ := trodAll_cons hA
  obtain ⟨rfl, rfl, rfl⟩ := trodAll_nil r0
  obtain rfl : args = #[v0] := by cases args; simp_all
  obtain ⟨rfl, rfl⟩ := trodVars_none hV
  have h0k := h0
  obtain ⟨t0, u0, rfl, k0, x0⟩ := open_arg h0
  have hlt0 : ∀ x ∈ p0, x.block < W.heap.size := fun x hx => hW'.lt x (by simp [hx])
  clear hA0 hval0
  refine (showTells_any t0 u0 W k0 x0 (laidOf hL) (table hL)).mono fun e W' ⟨he, hg⟩ => ?_
  subst he
  refine ⟨_, rfl, _, _, _, [], p0 ++ ([]), [], hW', (trodAll_cons_mk (shut_bool Tryz.underlying4 _) trodAll_mk0), ?_, rfl, hg.frame _, fun h => by cases h⟩
  exact (trodAll_cons_mk (Below.trod laidOut (by kernel_rfl) (of_decide_eq_true (by kernel_rfl)) h0k hg hlt0) trodAll_mk0)

theorem over : Rows.showTellsRow.holds Tryz.pinned (OpenSpec.ofChange Rows.showTellsSpec) :=
  OpenClaim.holds_of_wide 3 Tryz.f3 rfl rfl rfl rfl rfl rfl rfl ⟨rfl, rfl, rfl, rfl, rfl⟩ rfl rfl rfl rfl rfl (by kernel_rfl) Tryz.func3 (by kernel_rfl)
    (of_decide_eq_true (by kernel_rfl)) (by unfold Func.isWrapper; first | (rw [if_pos (by decide +kernel)]; kernel_rfl) | (rw [if_neg (by decide +kernel)]; exact ⟨rfl, rfl⟩))
    (fun os started H enc _ => lifted os started H enc)

/-- THE STATEMENT. -/
theorem proved : Rows.ShowTellsCardSaid :=
  Claim7.holds_tied_plain_at .later [] [.data, .data, .data, .data, .sentinel, .sentinel, .data, .data, .pinned] true Rows.showTellsCard.stood.harness true over (fun _ h => by cases h) (by kernel_rfl) (fun _ h => by cases h) showTells_row_tie rfl ⟨rfl, rfl⟩ (by kernel_rfl) rfl
    (fun f fn hf hfn => by
      obtain rfl : f = 3 := Option.some.inj ((show Tryz.prog.funcNamed Rows.showTellsRow.func = some 3 by kernel_rfl).symm.trans hf) |>.symm
      obtain rfl : fn = Tryz.f3 := (Option.some.inj (Tryz.func3.symm.trans hfn)).symm
      exact ⟨by kernel_rfl, fun j t ht => by
        rw [Tryz.params3] at ht
        have hm : t ∈ [25] := by simpa using Array.mem_of_getElem? ht
        have hall : ([25].all fun u => !Tryz.prog.wantsStandIn u) = true := by kernel_rfl
        exact (show Tryz.prog.wantsStandIn t = false by simpa using List.all_eq_true.1 hall t hm)⟩)
    (by kernel_rfl)
#print axioms proved
end Go.Proofs.YtfmjhbaenpbfoaaGreatDoor.showTells
