/- ShowNumbers is true: operators below operators, saliences, and rules and types with nothing in them are told as written by hand; no conditions. -/
import Derived.Test.YtfmjhbaenpbfoaaGreatDoorShow1
import Derived.Test.YtfmjhbaenpbfoaaGreatDoorShow2
import Derived.Test.YtfmjhbaenpbfoaaGreatDoorKeptT
import Derived.Test.YtfmjhbaenpbfoaaGreatDoorRightR
import Derived.Test.YtfmjhbaenpbfoaaGreatDoorCards
import Derived.Test.YtfmjhbaenpbfoaaGreatDoorTie
import Derived.Deep.DeepCutAuto
import Derived.ProofKit
import Derived.OpenShut
import Derived.ChangeArms
import Derived.ChangeMaps5
import Derived.Deep.Slices
import Derived.Lib.SmallJoins
import Derived.Lib.LaidTab
import Derived.LaidMore
import Derived.Lay
import Derived.SevenTiedAt
import Derived.Stop.Joined
import Derived.LaidLaws
import Derived.Stop.LaidErr
import Derived.ChangeBears2
import Derived.Lib.AppendIntMem
namespace Go.Proofs.YtfmjhbaenpbfoaaGreatDoor
open Go.RowKit

section
variable {P : Program} {ops : Array Oper} {Q : Exit → Act → World → Prop}
theorem wpOps_nil7 (a : Act) (w : World) (h : Q .normal a w) : wpOps P ops Q [] a w := h
/-- What an operation must wait for are earlier ones. -/
def earlier7 (ops : Array Oper) : Bool := (List.range ops.size).all fun j => match ops[j]? with | some o => o.after.toList.all fun e => !Region.binds .any e || decide (e.on < j) | none => true
/-- A region that goes from the first operation to the last. -/
theorem wp_region_seq {id : Nat} {a : Act} {w : World} (I : Array Bool → Act → World → Prop) (he : earlier7 ops = true)
    (start : I (Array.replicate ops.size false) a w)
    (step : ∀ (listed : Array Bool) (a : Act) (w : World) (i : Nat), listed.size = ops.size → I listed a w → i ∈ Region.ready .any ops listed → wpOp P ops Q i (I (listed.setIfInBounds i true)) a w)
    (done : ∀ (listed : Array Bool) (a : Act) (w : World), I listed a w → (∀ j, j < ops.size → listed.getD j false = true) → Q .normal a w) : (Code.region id ops false).wp P Q a w := by
  refine wp_region ?_
  have gen : ∀ (m k : Nat) (listed : Array Bool) (a : Act) (w : World), k + m = ops.size → (∀ j, j < k → listed.getD j false = true) → (∀ j, k ≤ j → j < ops.size → listed.getD j true = false) → listed.size = ops.size → I listed a w → wpOps P ops Q (List.range' k m) a w := by
    intro m
    induction m with
    | zero =>
      intro k listed a w hk h1 h2 hs hI
      exact wpOps_nil7 a w (done listed a w hI fun j hj => h1 j (by omega))
    | succ m ih =>
      intro k listed a w hk h1 h2 hs hI
      rw [List.range'_succ, wpOps_cons]
      have hks : k < ops.size := by omega
      have hr : k ∈ Region.ready .any ops listed := by
        refine mem_ready.2 ⟨h2 k (Nat.le_refl _) hks, ops[k], Array.getElem?_eq_getElem hks, fun e hm hbd => ?_⟩
        have h3 := List.all_eq_true.1 he k (List.mem_range.2 hks)
        rw [Array.getElem?_eq_getElem hks] at h3
        have h4 := List.all_eq_true.1 h3 e (by simpa using hm)
        rw [hbd] at h4
        exact h1 e.on (of_decide_eq_true (by simpa using h4))
      refine wpOp_mono (fun a' w' h' => ih (k + 1) _ a' w' (by omega) (fun j hj => ?_) (fun j hj hjs => ?_) (by rw [Array.size_setIfInBounds]; exact hs) h') (step listed a w k hs hI hr)
      · by_cases e : j = k
        · subst e
          have : j < listed.size := by omega
          simp [this]
        · rw [getD_set_ne false (fun h => e h.symm)]
          exact h1 j (by omega)
      · rw [getD_set_ne true (by omega)]
        exact h2 j (by omega) hjs
  have := gen ops.size 0 (Array.replicate ops.size false) a w (by omega) (fun j hj => absurd hj (Nat.not_lt_zero _)) (fun j _ hj => by simp [hj]) (by simp) start
  rwa [← List.range_eq_range'] at this
end

mutual
def smallB : T → Bool
  | .mk _ s _ _ l => decide (s.size ≤ 72008) && decide (l.length ≤ 9000) && smallL l
def smallL : List T → Bool
  | [] => true
  | k :: l => smallB k && smallL l
end
theorem smallB_eq (t : T) : smallB t = (decide (t.text.size ≤ 72008) && decide (t.kids.length ≤ 9000) && smallL t.kids) := by cases t; rw [smallB]; rfl
theorem small_of (t : T) : smallB t = true → Small 9000 t := by
  induction t using T.ind with
  | h t ih =>
    intro h
    rw [smallB_eq, Bool.and_eq_true, Bool.and_eq_true] at h
    have hl : ∀ l : List T, smallL l = true → ∀ k, k ∈ l → smallB k = true := by
      intro l
      induction l with
      | nil => intro _ k hk; cases hk
      | cons q l ihl =>
        intro hq k hk
        rw [smallL, Bool.and_eq_true] at hq
        rcases List.mem_cons.1 hk with rfl | hk
        · exact hq.1
        · exact ihl hq.2 k hk
    have h1 := of_decide_eq_true h.1.1
    have h2 := of_decide_eq_true h.1.2
    exact .mk t (by omega) (by omega) fun k hk => ih k hk (hl _ h.2 k hk)

abbrev sayT (t : T) : T := .mk 1 ⟨#[]⟩ 0 0 [.mk 4 ⟨#[114]⟩ 0 0 [.mk 10 ⟨#[]⟩ 0 0 [t]]]
abbrev twoT7 (s : ByteArray) (a b : T) : T := .mk 16 s 0 0 [a, b]
/-- A tree that was made: of blocks that stood, and of new ones. -/
def MadeT (P : Nat → Prop) (t : T) (w : World) (e : Ending) (w' : World) : Prop := ∃ u, e = .returned (agg t u) ∧ Stood True (fun k => P k ∨ (w.heap.size ≤ k ∧ k < w'.heap.size)) w' t u ∧ Below w.heap.size w w'
theorem stood_one {P : Nat → Prop} {w : World} (t t0 : T) (u : Value) (b : Nat) (hk : t.kids = [t0]) (hb : w.heap[b]? = some (.cells (cellsN [(t0, u)]).toArray 25 (0, 0))) (hP : P b) (hs : Stood True P w t0 u) : Stood True P w t (.slice (some ⟨b, 0, none⟩) 1 1) := by
  have := stood_new (s := True) (P := P) (w := w) t [(t0, u)] b _ (by rw [hk]; rfl) hb hP (by rw [hk]; exact (by decide : 1 ≤ 100000)) (fun p hp => by
    rw [List.mem_singleton.1 hp]
    exact hs)
  rwa [show t.kids.length = 1 by rw [hk]; rfl] at this
theorem stood_two {P : Nat → Prop} {w : World} (t t0 t1 : T) (u0 u1 : Value) (b : Nat) (hk : t.kids = [t0, t1]) (hb : w.heap[b]? = some (.cells (cellsN [(t0, u0), (t1, u1)]).toArray 25 (0, 0))) (hP : P b) (h0 : Stood True P w t0 u0) (h1 : Stood True P w t1 u1) : Stood True P w t (.slice (some ⟨b, 0, none⟩) 2 2) := by
  have := stood_new (s := True) (P := P) (w := w) t [(t0, u0), (t1, u1)] b _ (by rw [hk]; rfl) hb hP (by rw [hk]; exact (by decide : 2 ≤ 100000)) (fun p hp => by
    simp only [List.mem_cons, List.not_mem_nil, or_false] at hp
    rcases hp with rfl | rfl
    · exact h0
    · exact h1)
  rwa [show t.kids.length = 2 by rw [hk]; rfl] at this

set_option maxRecDepth 100000 in
set_option maxHeartbeats 1000000 in
theorem two_any (s : ByteArray) (t0 t1 : T) (a0 a1 : Option Addr) (n0 n1 c0 c1 : Nat) (P : Nat → Prop) (w : World) (hP : ∀ k, P k → k < w.heap.size) (h0 : Stood True P w t0 (.slice a0 n0 c0)) (h1 : Stood True P w t1 (.slice a1 n1 c1)) :
    Calls Tryz.prog 14 #[.string s, agg t0 (.slice a0 n0 c0), agg t1 (.slice a1 n1 c1)] w (MadeT P (twoT7 s t0 t1) w) := by
  have HP := Lib.hid hP
  have H0 := Lib.hid h0
  have H1 := Lib.hid h1
  clear hP h0 h1
  unfold agg
  go_enter Tryz.func14, Tryz.ntmps14
  go_wp2_with (go_at_call 13; go_must (refine (of_any _ _ _ _ _ _).mono ?_; rintro e w1 ⟨rfl, hb⟩; have HB1 := Lib.hid hb; clear hb; refine Hid.out ?_))
  refine Lib.hid ?_
  have hB : Below ((((w.alloc (.cells #[.int .u8 t0.kind, .string t0.text, .int .i64 t0.num, .int .i64 t0.pos, .slice a0 n0 c0] 25)).alloc (.cells #[.int .u8 t1.kind, .string t1.text, .int .i64 t1.num, .int .i64 t1.pos, .slice a1 n1 c1] 25)).alloc (.cells #[.int .u8 0, .string ⟨#[]⟩, .int .i64 0, .int .i64 0, .slice none 0 0] 25)).alloc (.cells (cellsN [(t0, .slice a0 n0 c0), (t1, .slice a1 n1 c1)]).toArray 25)).heap.size ((((w.alloc (.cells #[.int .u8 t0.kind, .string t0.text, .int .i64 t0.num, .int .i64 t0.pos, .slice a0 n0 c0] 25)).alloc (.cells #[.int .u8 t1.kind, .string t1.text, .int .i64 t1.num, .int .i64 t1.pos, .slice a1 n1 c1] 25)).alloc (.cells #[.int .u8 0, .string ⟨#[]⟩, .int .i64 0, .int .i64 0, .slice none 0 0] 25)).alloc (.cells (cellsN [(t0, .slice a0 n0 c0), (t1, .slice a1 n1 c1)]).toArray 25)) w1 := HB1.out
  have g3 : (((w.alloc (.cells #[.int .u8 t0.kind, .string t0.text, .int .i64 t0.num, .int .i64 t0.pos, .slice a0 n0 c0] 25)).alloc (.cells #[.int .u8 t1.kind, .string t1.text, .int .i64 t1.num, .int .i64 t1.pos, .slice a1 n1 c1] 25)).alloc (.cells #[.int .u8 0, .string ⟨#[]⟩, .int .i64 0, .int .i64 0, .slice none 0 0] 25)).heap[w.heap.size + 1 + 1]? = some (.cells #[.int .u8 0, .string ⟨#[]⟩, .int .i64 0, .int .i64 0, .slice none 0 0] 25 (0, 0)) := by
    rw [show w.heap.size + 1 + 1 = ((w.alloc (.cells #[.int .u8 t0.kind, .string t0.text, .int .i64 t0.num, .int .i64 t0.pos, .slice a0 n0 c0] 25)).alloc (.cells #[.int .u8 t1.kind, .string t1.text, .int .i64 t1.num, .int .i64 t1.pos, .slice a1 n1 c1] 25)).heap.size by simp]
    exact heap_alloc_new _ _
  have g4 : w1.heap[w.heap.size + 1 + 1]? = some (.cells #[.int .u8 0, .string ⟨#[]⟩, .int .i64 0, .int .i64 0, .slice none 0 0] 25 (0, 0)) := by
    rw [hB.block _ (by simp), (below_own (w := (((w.alloc (.cells #[.int .u8 t0.kind, .string t0.text, .int .i64 t0.num, .int .i64 t0.pos, .slice a0 n0 c0] 25)).alloc (.cells #[.int .u8 t1.kind, .string t1.text, .int .i64 t1.num, .int .i64 t1.pos, .slice a1 n1 c1] 25)).alloc (.cells #[.int .u8 0, .string ⟨#[]⟩, .int .i64 0, .int .i64 0, .slice none 0 0] 25))) (.cells (cellsN [(t0, .slice a0 n0 c0), (t1, .slice a1 n1 c1)]).toArray 25)).block _ (by simp)]
    exact g3
  have g5 : w1.heap[w.heap.size + 1 + 1 + 1]? = some (.cells (cellsN [(t0, .slice a0 n0 c0), (t1, .slice a1 n1 c1)]).toArray 25 (0, 0)) := by
    rw [hB.block _ (by simp)]
    rw [show w.heap.size + 1 + 1 + 1 = (((w.alloc (.cells #[.int .u8 t0.kind, .string t0.text, .int .i64 t0.num, .int .i64 t0.pos, .slice a0 n0 c0] 25)).alloc (.cells #[.int .u8 t1.kind, .string t1.text, .int .i64 t1.num, .int .i64 t1.pos, .slice a1 n1 c1] 25)).alloc (.cells #[.int .u8 0, .string ⟨#[]⟩, .int .i64 0, .int .i64 0, .slice none 0 0] 25)).heap.size by simp]
    exact heap_alloc_new _ _
  have hb0 : Below w.heap.size w ((((w.alloc (.cells #[.int .u8 t0.kind, .string t0.text, .int .i64 t0.num, .int .i64 t0.pos, .slice a0 n0 c0] 25)).alloc (.cells #[.int .u8 t1.kind, .string t1.text, .int .i64 t1.num, .int .i64 t1.pos, .slice a1 n1 c1] 25)).alloc (.cells #[.int .u8 0, .string ⟨#[]⟩, .int .i64 0, .int .i64 0, .slice none 0 0] 25)).alloc (.cells (cellsN [(t0, .slice a0 n0 c0), (t1, .slice a1 n1 c1)]).toArray 25)) := (((below_own _).alloc (by simp) _).alloc (by simp; omega) _).alloc (by simp; omega) _
  have hb1 : Below w.heap.size w w1 := hb0.trans (hB.mono hb0.size)
  have hwz : w.heap.size + 1 + 1 + 1 < w1.heap.size := by have := hB.size; simp at this; omega
  have b0 : ∀ j, w1.cell? ⟨w.heap.size + 1 + 1, j, none⟩ = (#[.int .u8 0, .string ⟨#[]⟩, .int .i64 0, .int .i64 0, .slice none 0 0] : Array Value)[j]? := Lib.cell_of_heap g4
  have f0 : ∀ j, w1.frozen? ⟨w.heap.size + 1 + 1, j, none⟩ = false := Lib.frozen_of_heap g4
  have hs0 : Stood True (fun k => P k ∨ k = w.heap.size + 1 + 1 + 1) w1 t0 (.slice a0 n0 c0) := H0.out.keep (fun k hk => hb1.block k (HP.out k hk)) (fun k hk => Or.inl hk)
  have hs1 : Stood True (fun k => P k ∨ k = w.heap.size + 1 + 1 + 1) w1 t1 (.slice a1 n1 c1) := H1.out.keep (fun k hk => hb1.block k (HP.out k hk)) (fun k hk => Or.inl hk)
  have HSt := Lib.hid (stood_two (twoT7 s t0 t1) t0 t1 _ _ _ rfl g5 (Or.inr rfl) hs0 hs1)
  have HB := Lib.hid hb1
  clear g3 g4 g5 hb0 hb1 hs0 hs1 hB
  go_wp2_with fail
  have hfr : Fr (w.heap.size + 1 + 1) w1 (((((w1.setCell ⟨w.heap.size + 1 + 1, 0, none⟩ (.int .u8 16)).setCell ⟨w.heap.size + 1 + 1, 1, none⟩ (.string s)).setCell ⟨w.heap.size + 1 + 1, 2, none⟩ (.int .i64 0)).setCell ⟨w.heap.size + 1 + 1, 3, none⟩ (.int .i64 0)).setCell ⟨w.heap.size + 1 + 1, 4, none⟩ (.slice (some ⟨w.heap.size + 1 + 1 + 1, 0, none⟩) 2 2)) := (((((Fr.refl _ w1).set 0 _).set 1 _).set 2 _).set 3 _).set 4 _
  refine bodyPost_ret (v := agg (twoT7 s t0 t1) (.slice (some ⟨w.heap.size + 1 + 1 + 1, 0, none⟩) 2 2)) (by simp [results, Tryz.results14, go_sem, b0]; exact ⟨rfl, rfl, rfl, rfl⟩) rfl ⟨_, rfl, HSt.out.keep (fun k hk => hfr.block k ?_ (fun e => ?_)) (fun k hk => ?_), HB.out.trans (hfr.below HB.out.size (by omega))⟩
  · rcases hk with hk | rfl
    · have := HP.out k hk
      omega
    · exact hwz
  · rcases hk with hk | rfl
    · have := HP.out k hk
      have := Option.some.inj e
      omega
    · have := Option.some.inj e
      omega
  · rcases hk with hk | rfl
    · exact Or.inl hk
    · exact Or.inr ⟨by omega, Nat.lt_of_lt_of_le hwz hfr.size⟩

set_option maxRecDepth 100000 in
set_option maxHeartbeats 1000000 in
theorem says_any (t : T) (a0 : Option Addr) (n0 c0 : Nat) (P : Nat → Prop) (w : World) (hP : ∀ k, P k → k < w.heap.size) (h0 : Stood True P w t (.slice a0 n0 c0)) :
    Calls Tryz.prog 15 #[agg t (.slice a0 n0 c0)] w (MadeT P (sayT t) w) := by
  have HP := Lib.hid hP
  have H0 := Lib.hid h0
  clear hP h0
  unfold agg
  go_enter Tryz.func15, Tryz.ntmps15
  go_wp2_with (go_at_call 13; go_must (refine (of_any 10 _ _ _ _ _).mono ?_; rintro e w1 ⟨rfl, hb⟩; have HB1 := Lib.hid hb; clear hb; refine Hid.out ?_))
  refine Lib.hid ?_
  go_wp2_with (go_at_call 13; go_must (refine (of_any 4 _ _ _ _ _).mono ?_; rintro e w2 ⟨rfl, hb⟩; have HB2 := Lib.hid hb; clear hb; refine Hid.out ?_))
  refine Lib.hid ?_
  go_wp2_with (go_at_call 13; go_must (refine (of_any 1 _ _ _ _ _).mono ?_; rintro e w3 ⟨rfl, hb⟩; have HB3 := Lib.hid hb; clear hb; refine Hid.out ?_))
  refine Lib.hid ?_
  have hB1 : Below (((w.alloc (.cells #[.int .u8 t.kind, .string t.text, .int .i64 t.num, .int .i64 t.pos, .slice a0 n0 c0] 25)).alloc (.cells #[.int .u8 0, .string ⟨#[]⟩, .int .i64 0, .int .i64 0, .slice none 0 0] 25)).alloc (.cells (cellsN [(t, .slice a0 n0 c0)]).toArray 25)).heap.size (((w.alloc (.cells #[.int .u8 t.kind, .string t.text, .int .i64 t.num, .int .i64 t.pos, .slice a0 n0 c0] 25)).alloc (.cells #[.int .u8 0, .string ⟨#[]⟩, .int .i64 0, .int .i64 0, .slice none 0 0] 25)).alloc (.cells (cellsN [(t, .slice a0 n0 c0)]).toArray 25)) w1 := HB1.out
  have hB2 : Below (w1.alloc (.cells (cellsN [((T.mk 10 ⟨#[]⟩ 0 0 [t]), .slice (some ⟨w.heap.size + 1 + 1, 0, none⟩) 1 1)]).toArray 25)).heap.size (w1.alloc (.cells (cellsN [((T.mk 10 ⟨#[]⟩ 0 0 [t]), .slice (some ⟨w.heap.size + 1 + 1, 0, none⟩) 1 1)]).toArray 25)) w2 := HB2.out
  have hB3 : Below (w2.alloc (.cells (cellsN [((T.mk 4 ⟨#[114]⟩ 0 0 [(T.mk 10 ⟨#[]⟩ 0 0 [t])]), .slice (some ⟨w1.heap.size, 0, none⟩) 1 1)]).toArray 25)).heap.size (w2.alloc (.cells (cellsN [((T.mk 4 ⟨#[114]⟩ 0 0 [(T.mk 10 ⟨#[]⟩ 0 0 [t])]), .slice (some ⟨w1.heap.size, 0, none⟩) 1 1)]).toArray 25)) w3 := HB3.out
  have g2 : ((w.alloc (.cells #[.int .u8 t.kind, .string t.text, .int .i64 t.num, .int .i64 t.pos, .slice a0 n0 c0] 25)).alloc (.cells #[.int .u8 0, .string ⟨#[]⟩, .int .i64 0, .int .i64 0, .slice none 0 0] 25)).heap[w.heap.size + 1]? = some (.cells #[.int .u8 0, .string ⟨#[]⟩, .int .i64 0, .int .i64 0, .slice none 0 0] 25 (0, 0)) := by
    rw [show w.heap.size + 1 = (w.alloc (.cells #[.int .u8 t.kind, .string t.text, .int .i64 t.num, .int .i64 t.pos, .slice a0 n0 c0] 25)).heap.size by simp]
    exact heap_alloc_new _ _
  have z1 := hB1.size
  have z2 := hB2.size
  have z3 := hB3.size
  simp at z1 z2 z3
  have k1 : Below ((w.alloc (.cells #[.int .u8 t.kind, .string t.text, .int .i64 t.num, .int .i64 t.pos, .slice a0 n0 c0] 25)).alloc (.cells #[.int .u8 0, .string ⟨#[]⟩, .int .i64 0, .int .i64 0, .slice none 0 0] 25)).heap.size ((w.alloc (.cells #[.int .u8 t.kind, .string t.text, .int .i64 t.num, .int .i64 t.pos, .slice a0 n0 c0] 25)).alloc (.cells #[.int .u8 0, .string ⟨#[]⟩, .int .i64 0, .int .i64 0, .slice none 0 0] 25)) w1 := (below_own _).trans (hB1.mono (by simp))
  have k2 : Below w1.heap.size w1 w2 := (below_own _).trans (hB2.mono (by simp))
  have k3 : Below w2.heap.size w2 w3 := (below_own _).trans (hB3.mono (by simp))
  have g4 : w3.heap[w.heap.size + 1]? = some (.cells #[.int .u8 0, .string ⟨#[]⟩, .int .i64 0, .int .i64 0, .slice none 0 0] 25 (0, 0)) := by
    rw [k3.block _ (by omega), k2.block _ (by omega), k1.block _ (by simp)]
    exact g2
  have r1 : w1.heap[w.heap.size + 1 + 1]? = some (.cells (cellsN [(t, .slice a0 n0 c0)]).toArray 25 (0, 0)) := by
    rw [hB1.block _ (by simp)]
    rw [show w.heap.size + 1 + 1 = ((w.alloc (.cells #[.int .u8 t.kind, .string t.text, .int .i64 t.num, .int .i64 t.pos, .slice a0 n0 c0] 25)).alloc (.cells #[.int .u8 0, .string ⟨#[]⟩, .int .i64 0, .int .i64 0, .slice none 0 0] 25)).heap.size by simp]
    exact heap_alloc_new _ _
  have r2 : w2.heap[w1.heap.size]? = some (.cells (cellsN [((T.mk 10 ⟨#[]⟩ 0 0 [t]), .slice (some ⟨w.heap.size + 1 + 1, 0, none⟩) 1 1)]).toArray 25 (0, 0)) := (hB2.block _ (by simp)).trans (heap_alloc_new _ _)
  have r3 : w3.heap[w2.heap.size]? = some (.cells (cellsN [((T.mk 4 ⟨#[114]⟩ 0 0 [(T.mk 10 ⟨#[]⟩ 0 0 [t])]), .slice (some ⟨w1.heap.size, 0, none⟩) 1 1)]).toArray 25 (0, 0)) := (hB3.block _ (by simp)).trans (heap_alloc_new _ _)
  have hb0 : Below w.heap.size w ((w.alloc (.cells #[.int .u8 t.kind, .string t.text, .int .i64 t.num, .int .i64 t.pos, .slice a0 n0 c0] 25)).alloc (.cells #[.int .u8 0, .string ⟨#[]⟩, .int .i64 0, .int .i64 0, .slice none 0 0] 25)) := (below_own _).alloc (by simp) _
  have hb1 : Below w.heap.size w w1 := hb0.trans (k1.mono (by simp; omega))
  have q1 : Stood True (fun k => P k ∨ k = w.heap.size + 1 + 1 ∨ k = w1.heap.size ∨ k = w2.heap.size) w1 (T.mk 10 ⟨#[]⟩ 0 0 [t]) (.slice (some ⟨w.heap.size + 1 + 1, 0, none⟩) 1 1) := stood_one (T.mk 10 ⟨#[]⟩ 0 0 [t]) t _ _ rfl r1 (Or.inr (Or.inl rfl)) (H0.out.keep (fun k hk => hb1.block k (HP.out k hk)) (fun k hk => Or.inl hk))
  have old : ∀ k, P k ∨ k = w.heap.size + 1 + 1 → k < w1.heap.size := fun k hk => by
    rcases hk with hk | rfl
    · have := HP.out k hk; omega
    · omega
  have q1' : Stood True (fun k => P k ∨ k = w.heap.size + 1 + 1) w1 (T.mk 10 ⟨#[]⟩ 0 0 [t]) (.slice (some ⟨w.heap.size + 1 + 1, 0, none⟩) 1 1) := stood_one (T.mk 10 ⟨#[]⟩ 0 0 [t]) t _ _ rfl r1 (Or.inr rfl) (H0.out.keep (fun k hk => hb1.block k (HP.out k hk)) (fun k hk => Or.inl hk))
  have q2 : Stood True (fun k => (P k ∨ k = w.heap.size + 1 + 1) ∨ k = w1.heap.size) w2 (T.mk 4 ⟨#[114]⟩ 0 0 [(T.mk 10 ⟨#[]⟩ 0 0 [t])]) (.slice (some ⟨w1.heap.size, 0, none⟩) 1 1) := stood_one (T.mk 4 ⟨#[114]⟩ 0 0 [(T.mk 10 ⟨#[]⟩ 0 0 [t])]) (T.mk 10 ⟨#[]⟩ 0 0 [t]) _ _ rfl r2 (Or.inr rfl) (q1'.keep (fun k hk => k2.block k (old k hk)) (fun k hk => Or.inl hk))
  have q3 : Stood True (fun k => ((P k ∨ k = w.heap.size + 1 + 1) ∨ k = w1.heap.size) ∨ k = w2.heap.size) w3 (sayT t) (.slice (some ⟨w2.heap.size, 0, none⟩) 1 1) := stood_one (sayT t) (T.mk 4 ⟨#[114]⟩ 0 0 [(T.mk 10 ⟨#[]⟩ 0 0 [t])]) _ _ rfl r3 (Or.inr rfl) (q2.keep (fun k hk => k3.block k (by
    rcases hk with hk | rfl
    · have := old k hk; omega
    · omega)) (fun k hk => Or.inl hk))
  have HSt := Lib.hid q3
  have HB := Lib.hid (hb1.trans ((k2.mono hb1.size).trans (k3.mono (by omega))))
  have b0 : ∀ j, w3.cell? ⟨w.heap.size + 1, j, none⟩ = (#[.int .u8 0, .string ⟨#[]⟩, .int .i64 0, .int .i64 0, .slice none 0 0] : Array Value)[j]? := Lib.cell_of_heap g4
  have f0 : ∀ j, w3.frozen? ⟨w.heap.size + 1, j, none⟩ = false := Lib.frozen_of_heap g4
  have hz1 : w.heap.size + 1 + 1 < w1.heap.size := by omega
  have hz2 : w1.heap.size < w2.heap.size := by omega
  have hz3 : w2.heap.size < w3.heap.size := by omega
  clear q1 q1' q2 q3 old hb0 hb1 r1 r2 r3 g2 g4 hB1 hB2 hB3 k1 k2 k3 z1 z2 z3
  go_wp2_with fail
  have hfr : Fr (w.heap.size + 1) w3 (((((w3.setCell ⟨w.heap.size + 1, 0, none⟩ (.int .u8 1)).setCell ⟨w.heap.size + 1, 1, none⟩ (.string ⟨#[]⟩)).setCell ⟨w.heap.size + 1, 2, none⟩ (.int .i64 0)).setCell ⟨w.heap.size + 1, 3, none⟩ (.int .i64 0)).setCell ⟨w.heap.size + 1, 4, none⟩ (.slice (some ⟨w2.heap.size, 0, none⟩) 1 1)) := (((((Fr.refl _ w3).set 0 _).set 1 _).set 2 _).set 3 _).set 4 _
  refine bodyPost_ret (v := agg (sayT t) (.slice (some ⟨w2.heap.size, 0, none⟩) 1 1)) (by simp [results, Tryz.results15, go_sem, b0]; exact ⟨rfl, rfl, rfl, rfl⟩) rfl ⟨_, rfl, HSt.out.keep (fun k hk => hfr.block k ?_ (fun e => ?_)) (fun k hk => ?_), HB.out.trans (hfr.below HB.out.size (by omega))⟩
  · rcases hk with ((hk | rfl) | rfl) | rfl
    · have := HP.out k hk; omega
    · omega
    · omega
    · omega
  · have e' := Option.some.inj e
    rcases hk with ((hk | rfl) | rfl) | rfl
    · have := HP.out k hk; omega
    · omega
    · omega
    · omega
  · have hz := hfr.size
    rcases hk with ((hk | rfl) | rfl) | rfl
    · exact Or.inl hk
    · exact Or.inr ⟨by omega, by omega⟩
    · exact Or.inr ⟨by omega, by omega⟩
    · exact Or.inr ⟨by omega, by omega⟩

set_option maxRecDepth 100000 in
set_option maxHeartbeats 1000000 in
theorem shown_any (t : T) (v : Value) (s : ByteArray) (w : World) (hl : Lies w.heap.size w t v) (hL : Laid w) (hS : Small 9000 t) (ht : Tab w.heap.size w) (hr : rightT t = true) (hs : s = BA (showT t)) :
    Calls Tryz.prog 19 #[agg t v, .string s] w fun e w' => e = .returned (.bool true) ∧ Below w.heap.size w w' := by
  obtain ⟨ao, c, ps, rfl, k1⟩ := hl.out
  have HB0 := Lib.hid (below_own (w := w) (.cells #[.int .u8 t.kind, .string t.text, .int .i64 t.num, .int .i64 t.pos, .slice ao t.kids.length c] 25))
  have KP := Lib.hid (program7_any t (.slice ao t.kids.length c) _ (hl.up HB0.out HB0.out.size) (hL.below HB0.out) hS (fun W hb => ht W (HB0.out.trans (hb.mono HB0.out.size))))
  unfold ShowSay at KP
  rw [hr] at KP
  simp only [if_true] at KP
  rw [← hs] at KP
  clear hl hL hS ht hr hs k1
  have hss : (s.toList == s.toList) = true := beq_self_eq_true _
  unfold agg at *
  go_enter Tryz.func19, Tryz.ntmps19
  go_wp2_with (go_at_call 10; go_must (refine (KP.out).mono ?_; rintro e w1 ⟨rfl, hb⟩; have HB1 := Lib.hid (HB0.out.trans (hb.mono HB0.out.size)); clear hb))
  go_ret
  exact ⟨rfl, HB1.out⟩
end Go.Proofs.YtfmjhbaenpbfoaaGreatDoor

namespace Go.Proofs.YtfmjhbaenpbfoaaGreatDoor
open Go.RowKit

section
variable {ops : Array Oper} {Q : Exit → Act → World → Prop} {K : Act → World → Prop} {a : Act} {w : World} {i d : Nat} {ty : TypeId} {pos : String} {after : Array Edge} {g : Option (Nat × Bool)} {ts : Array TypeId} {r : Nat} {w0 : World} {bs n : Nat} {F : List (Option Nat × Nat × Fx)} {listed : Array Bool}
theorem yields_of {j e : Nat} {b : Bool} {o : Oper} (ho : ops[j]? = some o) (hd : o.dst = some e) (h : a.eval (.tmp e) = .bool b) : yielded ops a.tmps j = some b := by
  have h' : a.tmps[e]?.getD undef = .bool b := by
    rw [← Array.getD_eq_getD_getElem?]
    exact h
  unfold yielded
  rw [ho]
  simp only [Option.bind_some, hd]
  cases hq : a.tmps[e]? with
  | none => rw [hq] at h'; cases h'
  | some v => rw [hq] at h'; simp only [Option.getD_some] at h'; rw [h']
theorem wanted_of {o : Oper} {j : Nat} {b : Bool} (hg : o.guard = some (j, b)) (hy : yielded ops a.tmps j = some b) : Region.wanted o (yielded ops a.tmps) = true := by
  unfold Region.wanted
  rw [hg]
  simp [hy]
theorem made_hold (h : Reg r w0 bs n F listed a w) {w' : World} {t : T} {u v : Value} (hs : Stood True (fun k => PB r bs a w k ∨ (w.heap.size ≤ k ∧ k < w'.heap.size)) w' t u) (hb : Below w.heap.size w w') (hbs : d ≠ bs) : Stood True (PB r bs (a.put (some d) v) w') w' t u := by
  refine hs.keep (fun _ _ => rfl) fun k hk => ?_
  rcases hk with hk | ⟨h1, h2⟩
  · exact pb_put hbs hb k hk
  · refine ⟨h2, by have := h.low; omega, ?_⟩
    rw [eval_put_ne _ _ _ _ (Ne.symm hbs)]
    exact h.fresh k h1
theorem Reg.of2 (h : Reg r w0 bs n F listed a w) {k : Int} {o x : Operand} {s : ByteArray} {l : List T} (hi : ops[i]? = some { dst := some d, op := .call { callee := .value (.func 13), args := #[.const (.int .u8 k), o, x], argTypes := ts }, type := ty, pos := pos, after := after, guard := g })
    (hg : Region.wanted { dst := some d, op := .call { callee := .value (.func 13), args := #[.const (.int .u8 k), o, x], argTypes := ts }, type := ty, pos := pos, after := after, guard := g } (yielded ops a.tmps) = true) (ho : a.eval o = .string s) (hx : (Fx.rows l).holds (PB r bs a w) w (a.eval x)) (hU : F.filter (fun f => f.1 == some i) = [(some i, d, .tree (.mk k s 0 0 l))]) (hA : (F.all fun f => f.1 == some i || f.2.1 != d) = true) (hd : d < n) (hbs : d ≠ bs) : wpOp Tryz.prog ops Q i (Reg r w0 bs n F (listed.setIfInBounds i true)) a w := by
  obtain ⟨ao, c, hv⟩ := rows_out hx
  refine wpOp_call (vs := #[.int .u8 k, .string s, .slice ao l.length c]) hi hg (enters_of Tryz.func13 (by kernel_rfl) rfl) (by simp only [List.map_toArray, List.map_cons, List.map_nil, ho, hv]; rfl) ?_
  refine (of_any k s ao l.length c w).mono ?_
  rintro e w' ⟨rfl, hb⟩
  refine ⟨_, rfl, h.one hb _ hU hA hd (fun e => absurd e hbs) ?_⟩
  refine ⟨.slice ao l.length c, rfl, ?_⟩
  rw [hv] at hx
  exact stood_rows (Stood.keep hx (fun k hk => hb.block k hk.1) (pb_put hbs hb)) rfl
theorem Reg.two (h : Reg r w0 bs n F listed a w) {o x y : Operand} {s : ByteArray} {ta tb : T} (hi : ops[i]? = some { dst := some d, op := .call { callee := .value (.func 14), args := #[o, x, y], argTypes := ts }, type := ty, pos := pos, after := after, guard := g })
    (hg : Region.wanted { dst := some d, op := .call { callee := .value (.func 14), args := #[o, x, y], argTypes := ts }, type := ty, pos := pos, after := after, guard := g } (yielded ops a.tmps) = true) (ho : a.eval o = .string s) (hx : (Fx.tree ta).holds (PB r bs a w) w (a.eval x)) (hy : (Fx.tree tb).holds (PB r bs a w) w (a.eval y)) (hU : F.filter (fun f => f.1 == some i) = [(some i, d, .tree (twoT7 s ta tb))]) (hA : (F.all fun f => f.1 == some i || f.2.1 != d) = true) (hd : d < n) (hbs : d ≠ bs) : wpOp Tryz.prog ops Q i (Reg r w0 bs n F (listed.setIfInBounds i true)) a w := by
  obtain ⟨u, hv, hst⟩ := hx
  obtain ⟨u', hv', hst'⟩ := hy
  obtain ⟨a0, c0, ps0, rfl, -⟩ := hst.out
  obtain ⟨a1, c1, ps1, rfl, -⟩ := hst'.out
  refine wpOp_call (vs := #[.string s, agg ta (.slice a0 ta.kids.length c0), agg tb (.slice a1 tb.kids.length c1)]) hi hg (enters_of Tryz.func14 (by kernel_rfl) rfl) (by simp only [List.map_toArray, List.map_cons, List.map_nil, ho, hv, hv']) ?_
  refine (two_any s ta tb a0 a1 _ _ c0 c1 (PB r bs a w) w (fun k hk => hk.1) hst hst').mono ?_
  rintro e w' ⟨u2, rfl, hs, hb⟩
  exact ⟨_, rfl, h.one hb _ hU hA hd (fun e => absurd e hbs) ⟨u2, rfl, made_hold h hs hb hbs⟩⟩
theorem Reg.says (h : Reg r w0 bs n F listed a w) {x : Operand} {t : T} (hi : ops[i]? = some { dst := some d, op := .call { callee := .value (.func 15), args := #[x], argTypes := ts }, type := ty, pos := pos, after := after, guard := g })
    (hg : Region.wanted { dst := some d, op := .call { callee := .value (.func 15), args := #[x], argTypes := ts }, type := ty, pos := pos, after := after, guard := g } (yielded ops a.tmps) = true) (hx : (Fx.tree t).holds (PB r bs a w) w (a.eval x)) (hU : F.filter (fun f => f.1 == some i) = [(some i, d, .tree (sayT t))]) (hA : (F.all fun f => f.1 == some i || f.2.1 != d) = true) (hd : d < n) (hbs : d ≠ bs) : wpOp Tryz.prog ops Q i (Reg r w0 bs n F (listed.setIfInBounds i true)) a w := by
  obtain ⟨u, hv, hst⟩ := hx
  obtain ⟨a0, c0, ps0, rfl, -⟩ := hst.out
  refine wpOp_call (vs := #[agg t (.slice a0 t.kids.length c0)]) hi hg (enters_of Tryz.func15 (by kernel_rfl) rfl) (by simp only [List.map_toArray, List.map_cons, List.map_nil, hv]) ?_
  refine (says_any t a0 _ c0 (PB r bs a w) w (fun k hk => hk.1) hst).mono ?_
  rintro e w' ⟨u2, rfl, hs, hb⟩
  exact ⟨_, rfl, h.one hb _ hU hA hd (fun e => absurd e hbs) ⟨u2, rfl, made_hold h hs hb hbs⟩⟩
theorem Reg.shown (h : Reg r w0 bs n F listed a w) {x o : Operand} {t : T} {s : ByteArray} (hi : ops[i]? = some { dst := some d, op := .call { callee := .value (.func 19), args := #[x, o], argTypes := ts }, type := ty, pos := pos, after := after, guard := g })
    (hg : Region.wanted { dst := some d, op := .call { callee := .value (.func 19), args := #[x, o], argTypes := ts }, type := ty, pos := pos, after := after, guard := g } (yielded ops a.tmps) = true) (ho : a.eval o = .string s) (hx : (Fx.tree t).holds (PB r bs a w) w (a.eval x)) (hL : Laid w0) (hT : Tab w0.heap.size w0) (hS : smallB t = true) (hr : rightT t = true) (hs : s = BA (showT t)) (hU : F.filter (fun f => f.1 == some i) = [(some i, d, .bool true)]) (hA : (F.all fun f => f.1 == some i || f.2.1 != d) = true) (hd : d < n) (hbs : d ≠ bs) : wpOp Tryz.prog ops Q i (Reg r w0 bs n F (listed.setIfInBounds i true)) a w := by
  obtain ⟨u, hv, hst⟩ := hx
  refine wpOp_call (vs := #[agg t u, .string s]) hi hg (enters_of Tryz.func19 (by kernel_rfl) rfl) (by simp only [List.map_toArray, List.map_cons, List.map_nil, hv, ho]) ?_
  refine (shown_any t u s w (hst.lies fun k hk => hk.1) (hL.below h.bel) (small_of t hS) (fun W hb => hT W (h.bel.trans (hb.mono h.bel.size))) hr hs).mono ?_
  rintro e w' ⟨rfl, hb'⟩
  exact ⟨_, rfl, h.one hb' _ hU hA hd (fun e => absurd e hbs) rfl⟩
theorem Reg.progZ (h : Reg r w0 bs n F listed a w) {x : Operand} {t : T} (hi : ops[i]? = some { dst := some d, op := .call { callee := .value (.func 10), args := #[x], argTypes := ts }, type := ty, pos := pos, after := after, guard := g })
    (hg : Region.wanted { dst := some d, op := .call { callee := .value (.func 10), args := #[x], argTypes := ts }, type := ty, pos := pos, after := after, guard := g } (yielded ops a.tmps) = true) (hx : (Fx.tree t).holds (PB r bs a w) w (a.eval x)) (hL : Laid w0) (hT : Tab w0.heap.size w0) (hS : smallB t = true) (hr : rightT t = false) (hU : F.filter (fun f => f.1 == some i) = [(some i, d, .val (.tuple #[.string (BA []), .int .i64 4]))]) (hA : (F.all fun f => f.1 == some i || f.2.1 != d) = true) (hd : d < n) (hbs : d ≠ bs) : wpOp Tryz.prog ops Q i (Reg r w0 bs n F (listed.setIfInBounds i true)) a w := by
  obtain ⟨u, hv, hst⟩ := hx
  refine wpOp_call (vs := #[agg t u]) hi hg (enters_of Tryz.func10 (by kernel_rfl) rfl) (by simp only [List.map_toArray, List.map_cons, List.map_nil, hv]) ?_
  refine (program7_any t u w (hst.lies fun k hk => hk.1) (hL.below h.bel) (small_of t hS) (fun W hb => hT W (h.bel.trans (hb.mono h.bel.size)))).mono ?_
  rintro e w' ⟨he, hb'⟩
  rw [hr] at he
  exact ⟨_, he, h.one hb' _ hU hA hd (fun e => absurd e hbs) rfl⟩
theorem Reg.mv (h : Reg r w0 bs n F listed a w) {x : Operand} {v : Value} (hi : ops[i]? = some { dst := some d, op := .move x, type := ty, pos := pos, after := after, guard := g })
    (hg : Region.wanted { dst := some d, op := .move x, type := ty, pos := pos, after := after, guard := g } (yielded ops a.tmps) = true) (hx : a.eval x = v) (hU : F.filter (fun f => f.1 == some i) = [(some i, d, .val v)]) (hA : (F.all fun f => f.1 == some i || f.2.1 != d) = true) (hd : d < n) (hbs : d ≠ bs) : wpOp Tryz.prog ops Q i (Reg r w0 bs n F (listed.setIfInBounds i true)) a w := by
  have hK := h.one (i := i) (d := d) (Below.refl _ _) _ hU hA hd (fun e => absurd e hbs) rfl
  refine wpOp_go hi hg ?_
  unfold Oper.wp
  have KK := Lib.hid hK
  clear hK hg hi hU hA
  generalize a.eval = ρ at *
  subst hx
  go_simp
  exact KK.out
theorem Reg.move (h : Reg r w0 bs n F listed a w) {x : Operand} {b : Bool} (hi : ops[i]? = some { dst := some d, op := .move x, type := ty, pos := pos, after := after, guard := g })
    (hg : Region.wanted { dst := some d, op := .move x, type := ty, pos := pos, after := after, guard := g } (yielded ops a.tmps) = true) (hx : (Fx.bool b).holds (PB r bs a w) w (a.eval x)) (hU : F.filter (fun f => f.1 == some i) = [(some i, d, .bool b)]) (hA : (F.all fun f => f.1 == some i || f.2.1 != d) = true) (hd : d < n) (hbs : d ≠ bs) : wpOp Tryz.prog ops Q i (Reg r w0 bs n F (listed.setIfInBounds i true)) a w := by
  have hK := h.one (i := i) (d := d) (Below.refl _ _) _ hU hA hd (fun e => absurd e hbs) rfl
  refine wpOp_go hi hg ?_
  unfold Oper.wp
  have KK := Lib.hid hK
  clear hK hg hi hU hA
  unfold Fx.holds at *
  generalize a.eval = ρ at *
  go_simp
  exact KK.out
theorem Reg.asg (h : Reg r w0 bs n F listed a w) {x : Operand} {v : Value} (hi : ops[i]? = some { dst := some d, op := .assign x, type := ty, pos := pos, after := after, guard := g })
    (hg : Region.wanted { dst := some d, op := .assign x, type := ty, pos := pos, after := after, guard := g } (yielded ops a.tmps) = true) (hx : a.eval x = v) (hU : F.filter (fun f => f.1 == some i) = [(some i, d, .val v)]) (hA : (F.all fun f => f.1 == some i || f.2.1 != d) = true) (hd : d < n) (hbs : d ≠ bs) : wpOp Tryz.prog ops Q i (Reg r w0 bs n F (listed.setIfInBounds i true)) a w := by
  have hK := h.one (i := i) (d := d) (Below.refl _ _) _ hU hA hd (fun e => absurd e hbs) rfl
  refine wpOp_go hi hg ?_
  unfold Oper.wp
  have KK := Lib.hid hK
  clear hK hg hi hU hA
  generalize a.eval = ρ at *
  subst hx
  go_simp
  exact KK.out
theorem wpOp_asg7 {x : Operand} {v : Value} (hi : ops[i]? = some { dst := some d, op := .assign x, type := ty, pos := pos, after := after, guard := g })
    (hg : Region.wanted { dst := some d, op := .assign x, type := ty, pos := pos, after := after, guard := g } (yielded ops a.tmps) = true) (hx : a.eval x = v) (hK : K (a.put (some d) v) w) : wpOp Tryz.prog ops Q i K a w := by
  refine wpOp_go hi hg ?_
  unfold Oper.wp
  have KK := Lib.hid hK
  clear hK hg hi
  generalize a.eval = ρ at *
  go_simp
  subst hx
  exact KK.out
theorem Reg.extr (h : Reg r w0 bs n F listed a w) {x : Operand} {v0 v1 v : Value} {k : Nat} (hi : ops[i]? = some { dst := some d, op := .extract x k, type := ty, pos := pos, after := after, guard := g })
    (hg : Region.wanted { dst := some d, op := .extract x k, type := ty, pos := pos, after := after, guard := g } (yielded ops a.tmps) = true) (hx : a.eval x = .tuple #[v0, v1]) (hk : (#[v0, v1] : Array Value)[k]? = some v) (hU : F.filter (fun f => f.1 == some i) = [(some i, d, .val v)]) (hA : (F.all fun f => f.1 == some i || f.2.1 != d) = true) (hd : d < n) (hbs : d ≠ bs) : wpOp Tryz.prog ops Q i (Reg r w0 bs n F (listed.setIfInBounds i true)) a w := by
  have hK := h.one (i := i) (d := d) (Below.refl _ _) v hU hA hd (fun e => absurd e hbs) rfl
  refine wpOp_go hi hg ?_
  unfold Oper.wp
  have KK := Lib.hid hK
  clear hK hg hi hU hA
  generalize a.eval = ρ at *
  have hk' : k = 0 ∨ k = 1 := by
    have := (Array.getElem?_eq_some_iff.1 hk).1
    simp at this
    omega
  rcases hk' with rfl | rfl
  · simp at hk
    subst hk
    go_simp
    exact KK.out
  · simp at hk
    subst hk
    go_simp
    exact KK.out
theorem Reg.build0 (h : Reg r w0 bs n F listed a w) (hi : ops[i]? = some { dst := some d, op := .build 25 #[], type := ty, pos := pos, after := after, guard := g })
    (hg : Region.wanted { dst := some d, op := .build 25 #[], type := ty, pos := pos, after := after, guard := g } (yielded ops a.tmps) = true) (hU : F.filter (fun f => f.1 == some i) = [(some i, d, .tree (.mk 0 ⟨#[]⟩ 0 0 []))]) (hA : (F.all fun f => f.1 == some i || f.2.1 != d) = true) (hd : d < n) (hbs : d ≠ bs) : wpOp Tryz.prog ops Q i (Reg r w0 bs n F (listed.setIfInBounds i true)) a w := by
  have hK := h.one (i := i) (d := d) (Below.refl _ _) (agg (.mk 0 ⟨#[]⟩ 0 0 []) (.slice none 0 0)) hU hA hd (fun e => absurd e hbs) ⟨_, rfl, stood_nil _ rfl⟩
  refine wpOp_go hi hg ?_
  unfold Oper.wp
  have KK := Lib.hid hK
  clear hK hg hi hU hA
  unfold agg at KK
  generalize a.eval = ρ at *
  go_simp
  exact KK.out
theorem Reg.pick (h : Reg r w0 bs n F listed a w) {c x y : Operand} {b : Bool} (hi : ops[i]? = some { dst := some d, op := .pick c x y, type := ty, pos := pos, after := after, guard := g })
    (hg : Region.wanted { dst := some d, op := .pick c x y, type := ty, pos := pos, after := after, guard := g } (yielded ops a.tmps) = true) (hc : (Fx.bool true).holds (PB r bs a w) w (a.eval c)) (hx : (Fx.bool b).holds (PB r bs a w) w (a.eval x)) (hU : F.filter (fun f => f.1 == some i) = [(some i, d, .bool b)]) (hA : (F.all fun f => f.1 == some i || f.2.1 != d) = true) (hd : d < n) (hbs : d ≠ bs) : wpOp Tryz.prog ops Q i (Reg r w0 bs n F (listed.setIfInBounds i true)) a w := by
  have hK := h.one (i := i) (d := d) (Below.refl _ _) _ hU hA hd (fun e => absurd e hbs) rfl
  refine wpOp_go hi hg ?_
  unfold Oper.wp
  have KK := Lib.hid hK
  clear hK hg hi hU hA
  unfold Fx.holds at *
  generalize a.eval = ρ at *
  go_simp
  exact KK.out
theorem Reg.pickF (h : Reg r w0 bs n F listed a w) {c x y : Operand} {b : Bool} (hi : ops[i]? = some { dst := some d, op := .pick c x y, type := ty, pos := pos, after := after, guard := g })
    (hg : Region.wanted { dst := some d, op := .pick c x y, type := ty, pos := pos, after := after, guard := g } (yielded ops a.tmps) = true) (hc : (Fx.bool false).holds (PB r bs a w) w (a.eval c)) (hx : (Fx.bool b).holds (PB r bs a w) w (a.eval y)) (hU : F.filter (fun f => f.1 == some i) = [(some i, d, .bool b)]) (hA : (F.all fun f => f.1 == some i || f.2.1 != d) = true) (hd : d < n) (hbs : d ≠ bs) : wpOp Tryz.prog ops Q i (Reg r w0 bs n F (listed.setIfInBounds i true)) a w := by
  have hK := h.one (i := i) (d := d) (Below.refl _ _) _ hU hA hd (fun e => absurd e hbs) rfl
  refine wpOp_go hi hg ?_
  unfold Oper.wp
  have KK := Lib.hid hK
  clear hK hg hi hU hA
  unfold Fx.holds at *
  generalize a.eval = ρ at *
  go_simp
  exact KK.out
theorem Reg.notT (h : Reg r w0 bs n F listed a w) {x : Operand} (hi : ops[i]? = some { dst := some d, op := .unOp .not 4 x, type := ty, pos := pos, after := after, guard := g })
    (hg : Region.wanted { dst := some d, op := .unOp .not 4 x, type := ty, pos := pos, after := after, guard := g } (yielded ops a.tmps) = true) (hx : (Fx.bool true).holds (PB r bs a w) w (a.eval x)) (hU : F.filter (fun f => f.1 == some i) = [(some i, d, .bool false)]) (hA : (F.all fun f => f.1 == some i || f.2.1 != d) = true) (hd : d < n) (hbs : d ≠ bs) : wpOp Tryz.prog ops Q i (Reg r w0 bs n F (listed.setIfInBounds i true)) a w := by
  have hK := h.one (i := i) (d := d) (Below.refl _ _) _ hU hA hd (fun e => absurd e hbs) rfl
  refine wpOp_go hi hg ?_
  unfold Oper.wp
  have KK := Lib.hid hK
  clear hK hg hi hU hA
  unfold Fx.holds at *
  generalize a.eval = ρ at *
  go_simp
  exact KK.out
theorem Reg.eql4 (h : Reg r w0 bs n F listed a w) {x : Operand} (hi : ops[i]? = some { dst := some d, op := .binOp .eql 3 x (.const (.int .i64 4)) 3, type := ty, pos := pos, after := after, guard := g })
    (hg : Region.wanted { dst := some d, op := .binOp .eql 3 x (.const (.int .i64 4)) 3, type := ty, pos := pos, after := after, guard := g } (yielded ops a.tmps) = true) (hx : a.eval x = .int .i64 4) (hU : F.filter (fun f => f.1 == some i) = [(some i, d, .bool true)]) (hA : (F.all fun f => f.1 == some i || f.2.1 != d) = true) (hd : d < n) (hbs : d ≠ bs) : wpOp Tryz.prog ops Q i (Reg r w0 bs n F (listed.setIfInBounds i true)) a w := by
  have hK := h.one (i := i) (d := d) (Below.refl _ _) _ hU hA hd (fun e => absurd e hbs) rfl
  refine wpOp_go hi hg ?_
  unfold Oper.wp
  have KK := Lib.hid hK
  have e1 : a.eval (.const (.int .i64 4)) = .int .i64 4 := rfl
  clear hK hg hi hU hA
  generalize a.eval = ρ at *
  go_simp
  exact KK.out
/-- A region that goes in its own order begins. -/
theorem Mid.start0 {S : List (Nat × Fx)} (h : Mid r w0 n S a w) (hbs : ∀ k, a.eval (.tmp bs) ≠ .pointer (some ⟨k, 0, none⟩)) (hF : ∀ f, f ∈ F → f.1 = none → f.2 ∈ S) (m : Nat) : Reg r w bs n F (Array.replicate m false) a w where
  size := h.size
  defers := h.defers
  bel := Below.refl _ _
  low := h.low
  fresh := fun k _ => hbs k
  facts := fun f hf hdone => by
    cases hc : f.1 with
    | none =>
      exact Fx.keep (h.facts f.2 (hF f hf hc)) (Below.refl _ _) (fun _ hk => hk.1) (fun k hk => ⟨hk.1, hk.2, hbs k⟩)
    | some j =>
      have := hdone j hc
      simp [Array.getElem?_replicate] at this
      split at this <;> simp at this
/-- Behind a region: what the slots hold. -/
theorem Reg.mid {wS : World} {S : List (Nat × Fx)} (h : Reg r w0 bs n F listed a w) (hb0 : Below wS.heap.size wS w0) (hall : ∀ j, j < ops.size → listed.getD j false = true) (hS : ∀ f, f ∈ S → ∃ c, (c, f) ∈ F ∧ ∀ j, c = some j → j < ops.size) : Mid r wS n S a w :=
  ⟨h.size, h.defers, hb0.trans (h.bel.mono hb0.size), h.low, fun f hf => by
    obtain ⟨c, hc, hj⟩ := hS f hf
    exact Fx.keep (h.facts (c, f) hc fun j e => hall j (hj j e)) (Below.refl _ _) (fun _ hk => hk.1) (fun k hk => ⟨hk.1, hk.2.1⟩)⟩
/-- A statement that sets a tree's number, where it lies in a variable: what is known of other slots stays. -/
theorem Mid.setNum7 {S : List (Nat × Fx)} {wS : World} {id x lo : Nat} {t : T} {m : Int} {ty1 ty2 : TypeId} {p1 p2 : String} {f1 f2 : Array Edge} (h : Mid r wS n S a w) (hx : (x, Fx.own lo t) ∈ S) (hd : d < n) (S' : List (Nat × Fx)) (hS : ∀ f, f ∈ S' → f.1 ≠ d ∧ (f = (x, .var (.mk t.kind t.text m t.pos t.kids)) ∨ (f ∈ S ∧ ∃ v, f.2 = .val v)))
    (hlo : wS.heap.size ≤ lo)
    (hQ : ∀ a' w', Mid r wS n S' a' w' → Q .normal a' w') :
    (Code.region id #[{ dst := some d, op := .fieldAddr 25 (.tmp x) 2, type := ty1, pos := p1, after := f1, guard := none }, { dst := none, op := .store 3 (.tmp d) (.const (.int .i64 m)), type := ty2, pos := p2, after := f2, guard := none }] false).wp Tryz.prog Q a w := by
  obtain ⟨b, u, hv, hlb, hbl, hb, hs⟩ := h.facts _ hx
  refine wp_region_two (wpOp_field rfl rfl hv (wpOp_storeNum rfl rfl (eval_put_same _ _ _ (by rw [h.size]; exact hd)) hb fun w' hb' hf => hQ _ _ ⟨?_, h.defers, h.bel.trans (hf.below h.bel.size (by omega)), Nat.le_trans h.low hf.size, fun f hfS => ?_⟩))
  · show (a.tmps.setIfInBounds d _).size = n
    rw [Array.size_setIfInBounds]
    exact h.size
  · obtain ⟨hfd, hff⟩ := hS f hfS
    rw [eval_put_ne _ _ _ _ hfd]
    rcases hff with rfl | ⟨hfF, v, hfc⟩
    · exact ⟨b, u, hv, ⟨Nat.lt_of_lt_of_le hbl.1 hf.size, hbl.2⟩, hb', stood_rows (hs.keep (fun k hk => hf.block k hk.1.1 (fun e => hk.2 (by cases e; rfl))) (fun k hk => ⟨Nat.lt_of_lt_of_le hk.1.1 hf.size, hk.1.2⟩)) rfl⟩
    · have h1 : (Fx.val v).holds (fun k => k < w.heap.size ∧ r ≤ k) w (a.eval (.tmp f.1)) := hfc ▸ h.facts f hfF
      have : (Fx.val v).holds (fun k => k < w'.heap.size ∧ r ≤ k) w' (a.eval (.tmp f.1)) := h1
      exact hfc ▸ this
end
end Go.Proofs.YtfmjhbaenpbfoaaGreatDoor

namespace Go.Proofs.YtfmjhbaenpbfoaaGreatDoor
open Go.RowKit

abbrev oneE : T := .mk 14 ⟨#[49]⟩ 0 0 []
abbrev xE : T := .mk 13 ⟨#[120]⟩ 0 0 []
abbrev aE : T := .mk 15 ⟨#[97]⟩ 0 0 []
abbrev n5E : T := .mk 14 ⟨#[45, 53]⟩ 0 0 []
abbrev hiveE : T := .mk 5 ⟨#[104, 105, 118, 101]⟩ 0 0 [xE, n5E]
abbrev sumE : T := twoT7 ⟨#[43]⟩ oneE oneE
abbrev prodE : T := twoT7 ⟨#[42]⟩ sumE xE
abbrev notE : T := .mk 16 ⟨#[110, 111, 116]⟩ 0 0 [prodE]
abbrev eqE : T := twoT7 ⟨#[61]⟩ notE oneE
abbrev testE : T := .mk 7 ⟨#[]⟩ 0 0 [eqE]
abbrev eq1E : T := twoT7 ⟨#[61]⟩ oneE oneE
abbrev eq2E : T := twoT7 ⟨#[61]⟩ eq1E aE
abbrev sayE : T := .mk 10 ⟨#[]⟩ 0 0 [eq2E]
abbrev rule0E : T := .mk 4 ⟨#[114]⟩ 0 0 [hiveE, testE, sayE]
abbrev ruleE : T := .mk 4 ⟨#[114]⟩ (-3) 0 [hiveE, testE, sayE]
abbrev qE : T := .mk 4 ⟨#[113]⟩ 0 0 []
abbrev prog1E : T := .mk 1 ⟨#[]⟩ 0 0 [ruleE, qE]
abbrev zeroE : T := .mk 0 ⟨#[]⟩ 0 0 []
abbrev aaE : T := twoT7 ⟨#[45]⟩ aE aE
abbrev a1E : T := twoT7 ⟨#[45]⟩ aE aaE
abbrev a2E : T := twoT7 ⟨#[45]⟩ aaE aE
abbrev m1E : T := .mk 16 ⟨#[45]⟩ 0 0 [oneE]
abbrev m2E : T := .mk 16 ⟨#[45]⟩ 0 0 [m1E]
abbrev wantE : ByteArray := ⟨([114, 117, 108, 101, 32, 114, 32, 115, 97, 108, 105, 101, 110, 99, 101, 32, 45, 51, 32, 123, 32, 104, 105, 118, 101, 40, 63, 120, 44, 32, 45, 53, 41, 59, 32, 116, 101, 115, 116, 32, 110, 111, 116, 32, 40, 40, 49, 32, 43, 32].append [49, 41, 32, 42, 32, 63, 120, 41, 32, 61, 32, 49, 59, 32, 61, 62, 32, 115, 97, 121, 32, 40, 49, 32, 61, 32, 49, 41, 32, 61, 32, 39, 97, 59, 32, 125, 10, 114, 117, 108, 101, 32, 113, 32, 123, 32, 61, 62, 32, 125, 10]).toArray⟩
theorem itoa3 : Lib.itoa (-3) = [45, 51] := by
  unfold Lib.itoa
  rw [if_pos (by decide)]
  show 45 :: Lib.decDigits 3 = _
  rw [Lib.decDigits, dif_pos (by decide)]
  rfl
theorem rtZ : rightT zeroE = false := by decide +kernel
theorem rt1 : rightT (prog1E) = true := by decide +kernel
theorem rt2 : rightT (sayT a1E) = true := by decide +kernel
theorem rt3 : rightT (sayT a2E) = true := by decide +kernel
theorem rt4 : rightT (sayT m2E) = true := by decide +kernel
theorem sh1 : wantE = BA (showT prog1E) := by
  have e1 : declT ruleE = [114, 117, 108, 101, 32] ++ ruleE.tx ++ ([32, 115, 97, 108, 105, 101, 110, 99, 101, 32] ++ [45, 51]) ++ [32, 123, 32] ++ eachT partT [32] (ruleE.kids.take (condsN ruleE.kids)) ++ [61, 62, 32] ++ eachT partT [32] (ruleE.kids.drop (condsN ruleE.kids)) ++ [125] := by
    unfold declT
    rw [if_neg (by decide), if_neg (by decide), show ruleE.num = -3 from rfl, itoa3]
  have e2 : showT prog1E = (declT ruleE ++ [10]) ++ ((declT qE ++ [10]) ++ []) := rfl
  rw [e2, e1]
  decide +kernel
theorem sh2 : (⟨#[114, 117, 108, 101, 32, 114, 32, 123, 32, 61, 62, 32, 115, 97, 121, 32, 39, 97, 32, 45, 32, 40, 39, 97, 32, 45, 32, 39, 97, 41, 59, 32, 125, 10]⟩ : ByteArray) = BA (showT (sayT a1E)) := by decide +kernel
theorem sh3 : (⟨#[114, 117, 108, 101, 32, 114, 32, 123, 32, 61, 62, 32, 115, 97, 121, 32, 39, 97, 32, 45, 32, 39, 97, 32, 45, 32, 39, 97, 59, 32, 125, 10]⟩ : ByteArray) = BA (showT (sayT a2E)) := by decide +kernel
theorem sh4 : (⟨#[114, 117, 108, 101, 32, 114, 32, 123, 32, 61, 62, 32, 115, 97, 121, 32, 45, 45, 49, 59, 32, 125, 10]⟩ : ByteArray) = BA (showT (sayT m2E)) := by decide +kernel
end Go.Proofs.YtfmjhbaenpbfoaaGreatDoor

namespace Go.Proofs.YtfmjhbaenpbfoaaGreatDoor
open Go.RowKit

set_option maxRecDepth 100000 in
set_option maxHeartbeats 4000000 in
theorem awake7_any (w : World) (hL : Laid w) (hT : Tab w.heap.size w) :
    Calls Tryz.prog 8 #[] w fun e w' => e = .returned (.bool true) ∧ Below w.heap.size w w' := by
  have HM0 : Hid (Mem w w []) := ⟨hL, Below.refl _ _, fun p hp => by cases hp⟩
  have HTb := Lib.hid hT
  clear hL hT
  go_enter Tryz.func8, Tryz.ntmps8
  go_wp2_with (go_at_call 13; go_must (refine (of_mem w _ _ HM0.out 14 ⟨#[49]⟩ none 0 0).mono ?_; rintro e w1 ⟨rfl, hm, hb⟩; have HM1 := Lib.hid (hm.leaf oneE rfl); clear hm hb; refine Hid.out ?_))
  refine Lib.hid ?_
  go_wp2_with (go_at_call 13; go_must (refine (of_mem w _ _ HM1.out 13 ⟨#[120]⟩ none 0 0).mono ?_; rintro e w2 ⟨rfl, hm, hb⟩; have HM2 := Lib.hid (hm.leaf xE rfl); clear hm hb; refine Hid.out ?_))
  refine Lib.hid ?_
  go_wp2_with (go_at_call 13; go_must (refine (of_mem w _ _ HM2.out 15 ⟨#[97]⟩ none 0 0).mono ?_; rintro e w3 ⟨rfl, hm, hb⟩; have HM3 := Lib.hid (hm.leaf aE rfl); clear hm hb; refine Hid.out ?_))
  refine Lib.hid ?_
  go_upto_region 2 with fail
  obtain ⟨wv, hwv⟩ : ∃ wv, wv = (((w3.alloc (.cells #[.int .u8 14, .string ⟨#[49]⟩, .int .i64 0, .int .i64 0, .slice none 0 0] 25)).alloc (.cells #[.int .u8 13, .string ⟨#[120]⟩, .int .i64 0, .int .i64 0, .slice none 0 0] 25)).alloc (.cells #[.int .u8 15, .string ⟨#[97]⟩, .int .i64 0, .int .i64 0, .slice none 0 0] 25)) := ⟨_, rfl⟩
  have HZ : Hid (wv.heap.size = w3.heap.size + 3) := by unfold Hid; rw [hwv]; simp
  have HU := HM3.out.up (((below_own (w := w3) (.cells #[.int .u8 14, .string ⟨#[49]⟩, .int .i64 0, .int .i64 0, .slice none 0 0] 25)).alloc (by simp) (.cells #[.int .u8 13, .string ⟨#[120]⟩, .int .i64 0, .int .i64 0, .slice none 0 0] 25)).alloc (by simp; omega) (.cells #[.int .u8 15, .string ⟨#[97]⟩, .int .i64 0, .int .i64 0, .slice none 0 0] 25))
  rw [← hwv] at HU
  have HL : Hid (Laid wv) := HU.laid
  have HB : Hid (Below w.heap.size w wv) := HU.bel
  have HT : Hid (Tab wv.heap.size wv) := fun W hb => HTb.out W (HB.out.trans (hb.mono HB.out.size))
  have HV1 : Hid (wv.heap[w3.heap.size]? = some (boxN oneE (.slice none 0 0))) := by
    unfold Hid
    rw [hwv, (below_own (w := (w3.alloc (.cells #[.int .u8 14, .string ⟨#[49]⟩, .int .i64 0, .int .i64 0, .slice none 0 0] 25)).alloc (.cells #[.int .u8 13, .string ⟨#[120]⟩, .int .i64 0, .int .i64 0, .slice none 0 0] 25)) _).block _ (by simp; omega), (below_own (w := w3.alloc (.cells #[.int .u8 14, .string ⟨#[49]⟩, .int .i64 0, .int .i64 0, .slice none 0 0] 25)) _).block _ (by simp)]
    exact heap_alloc_new w3 _
  have HV2 : Hid (wv.heap[w3.heap.size + 1]? = some (boxN xE (.slice none 0 0))) := by
    unfold Hid
    rw [hwv, (below_own (w := (w3.alloc (.cells #[.int .u8 14, .string ⟨#[49]⟩, .int .i64 0, .int .i64 0, .slice none 0 0] 25)).alloc (.cells #[.int .u8 13, .string ⟨#[120]⟩, .int .i64 0, .int .i64 0, .slice none 0 0] 25)) _).block _ (by simp)]
    rw [show w3.heap.size + 1 = (w3.alloc (.cells #[.int .u8 14, .string ⟨#[49]⟩, .int .i64 0, .int .i64 0, .slice none 0 0] 25)).heap.size by simp]
    exact heap_alloc_new _ _
  have HV3 : Hid (wv.heap[w3.heap.size + 1 + 1]? = some (boxN aE (.slice none 0 0))) := by
    unfold Hid
    rw [hwv]
    rw [show w3.heap.size + 1 + 1 = ((w3.alloc (.cells #[.int .u8 14, .string ⟨#[49]⟩, .int .i64 0, .int .i64 0, .slice none 0 0] 25)).alloc (.cells #[.int .u8 13, .string ⟨#[120]⟩, .int .i64 0, .int .i64 0, .slice none 0 0] 25)).heap.size by simp]
    exact heap_alloc_new _ _
  rw [← hwv]
  clear hwv HU
  have HMid : Hid (∀ (a : Act) (W : World) (S : List (Nat × Fx)), Mid 0 wv 78 S a W → (∀ f, f ∈ ([(1, .val (.pointer (some ⟨w3.heap.size, 0, none⟩))), (2, .val (.pointer (some ⟨w3.heap.size + 1, 0, none⟩))), (3, .val (.pointer (some ⟨w3.heap.size + 1 + 1, 0, none⟩)))] : List (Nat × Fx)) → f ∈ S) → Mid 0 wv 78 (S ++ [(1, .var oneE), (2, .var xE), (3, .var aE)]) a W) := by
    intro a W S h hS
    refine ⟨h.size, h.defers, h.bel, h.low, fun f hf => ?_⟩
    have e1 : a.eval (.tmp 1) = .pointer (some ⟨w3.heap.size, 0, none⟩) := h.facts _ (hS (1, .val (.pointer (some ⟨w3.heap.size, 0, none⟩))) (by simp))
    have e2 : a.eval (.tmp 2) = .pointer (some ⟨w3.heap.size + 1, 0, none⟩) := h.facts _ (hS (2, .val (.pointer (some ⟨w3.heap.size + 1, 0, none⟩))) (by simp))
    have e3 : a.eval (.tmp 3) = .pointer (some ⟨w3.heap.size + 1 + 1, 0, none⟩) := h.facts _ (hS (3, .val (.pointer (some ⟨w3.heap.size + 1 + 1, 0, none⟩))) (by simp))
    have hz := HZ.out
    have hs := h.bel.size
    rcases List.mem_append.1 hf with hf | hf
    · exact h.facts f hf
    · simp only [List.mem_cons, List.not_mem_nil, or_false] at hf
      rcases hf with rfl | rfl | rfl
      · exact ⟨_, _, e1, ⟨by omega, Nat.zero_le _⟩, (h.bel.block _ (by omega)).trans HV1.out, stood_nil _ rfl⟩
      · exact ⟨_, _, e2, ⟨by omega, Nat.zero_le _⟩, (h.bel.block _ (by omega)).trans HV2.out, stood_nil _ rfl⟩
      · exact ⟨_, _, e3, ⟨by omega, Nat.zero_le _⟩, (h.bel.block _ (by omega)).trans HV3.out, stood_nil _ rfl⟩
  have HS : Hid (∀ a : Act, a.tmps.size = 78 → a.defers = [] → a.eval (.tmp 0) = .bool false → a.eval (.tmp 1) = .pointer (some ⟨w3.heap.size, 0, none⟩) → a.eval (.tmp 2) = .pointer (some ⟨w3.heap.size + 1, 0, none⟩) → a.eval (.tmp 3) = .pointer (some ⟨w3.heap.size + 1 + 1, 0, none⟩) → a.eval (.tmp 4) = undef → Mid 0 wv 78 ([(0, .val (.bool false)), (1, .val (.pointer (some ⟨w3.heap.size, 0, none⟩))), (2, .val (.pointer (some ⟨w3.heap.size + 1, 0, none⟩))), (3, .val (.pointer (some ⟨w3.heap.size + 1 + 1, 0, none⟩))), (4, .no)] ++ [(1, .var oneE), (2, .var xE), (3, .var aE)]) a wv) := by
    intro a h1 h2 e0 e1 e2 e3 e4
    refine HMid.out a wv _ ⟨h1, h2, Below.refl _ _, Nat.zero_le _, fun f hf => ?_⟩ (fun f hf => ?_)
    · simp only [List.mem_cons, List.not_mem_nil, or_false] at hf
      rcases hf with rfl | rfl | rfl | rfl | rfl
      · exact e0
      · exact e1
      · exact e2
      · exact e3
      · exact e4
    · simp only [List.mem_cons, List.not_mem_nil, or_false] at hf
      rcases hf with rfl | rfl | rfl <;> simp
  refine wp_region_reg (r := 0) (w0 := wv) (bs := 4) (n := 78) (last := 25) (F := [(none, 0, .val (.bool false)), (none, 1, .val (.pointer (some ⟨w3.heap.size, 0, none⟩))), (none, 2, .val (.pointer (some ⟨w3.heap.size + 1, 0, none⟩))), (none, 3, .val (.pointer (some ⟨w3.heap.size + 1 + 1, 0, none⟩))), (none, 1, .var oneE), (none, 2, .var xE), (none, 3, .var aE), (some 0, 11, .tree xE), (some 1, 12, .tree n5E), (some 2, 13, .rows [xE, n5E]), (some 3, 14, .tree hiveE), (some 4, 15, .tree oneE), (some 5, 16, .tree oneE), (some 6, 17, .tree sumE), (some 7, 18, .tree xE), (some 8, 19, .tree prodE), (some 9, 20, .rows [prodE]), (some 10, 21, .tree notE), (some 11, 22, .tree oneE), (some 12, 23, .tree eqE), (some 13, 24, .rows [eqE]), (some 14, 25, .tree testE), (some 15, 26, .tree oneE), (some 16, 27, .tree oneE), (some 17, 28, .tree eq1E), (some 18, 29, .tree aE), (some 19, 30, .tree eq2E), (some 20, 31, .rows [eq2E]), (some 21, 32, .tree sayE), (some 22, 33, .rows [hiveE, testE, sayE]), (some 23, 34, .tree rule0E), (some 24, 4, .box wv.heap.size)]) (by kernel_rfl) (by kernel_rfl) (by decide) (by kernel_rfl) (Mid.start (HS.out _ rfl rfl rfl rfl rfl rfl rfl) (fun k hk e => by rw [show Act.eval _ (.tmp 4) = undef from rfl] at e; cases e) (fun f hf hc => ?_) _) (fun listed a W i h hr hi hl => ?_) (fun listed a W h hr => ?_)
  · simp only [List.mem_cons, List.not_mem_nil, or_false] at hf
    rcases hf with rfl | rfl | rfl | rfl | rfl | rfl | rfl | rfl | rfl | rfl | rfl | rfl | rfl | rfl | rfl | rfl | rfl | rfl | rfl | rfl | rfl | rfl | rfl | rfl | rfl | rfl | rfl | rfl | rfl | rfl | rfl | rfl <;> first | (cases hc; done) | simp
  · have hi' : i < 26 := hi
    obtain rfl | rfl | rfl | rfl | rfl | rfl | rfl | rfl | rfl | rfl | rfl | rfl | rfl | rfl | rfl | rfl | rfl | rfl | rfl | rfl | rfl | rfl | rfl | rfl | rfl : i = 0 ∨ i = 1 ∨ i = 2 ∨ i = 3 ∨ i = 4 ∨ i = 5 ∨ i = 6 ∨ i = 7 ∨ i = 8 ∨ i = 9 ∨ i = 10 ∨ i = 11 ∨ i = 12 ∨ i = 13 ∨ i = 14 ∨ i = 15 ∨ i = 16 ∨ i = 17 ∨ i = 18 ∨ i = 19 ∨ i = 20 ∨ i = 21 ∨ i = 22 ∨ i = 23 ∨ i = 24 := by omega
    · exact h.load rfl rfl (h.got hr 5 rfl (by kernel_rfl)) rfl rfl (by decide) (by decide)
    · exact h.of2 rfl rfl rfl (stood_nil (.mk 0 ⟨#[]⟩ 0 0 []) rfl) rfl rfl (by decide) (by decide)
    · exact h.slice2 rfl rfl (h.got hr 7 rfl (by kernel_rfl)) (h.got hr 8 rfl (by kernel_rfl)) rfl rfl (by decide) (by decide)
    · exact h.of2 rfl rfl rfl (h.got hr 9 rfl (by kernel_rfl)) rfl rfl (by decide) (by decide)
    · exact h.load rfl rfl (h.got hr 4 rfl (by kernel_rfl)) rfl rfl (by decide) (by decide)
    · exact h.load rfl rfl (h.got hr 4 rfl (by kernel_rfl)) rfl rfl (by decide) (by decide)
    · exact h.two rfl rfl rfl (h.got hr 11 rfl (by kernel_rfl)) (h.got hr 12 rfl (by kernel_rfl)) rfl rfl (by decide) (by decide)
    · exact h.load rfl rfl (h.got hr 5 rfl (by kernel_rfl)) rfl rfl (by decide) (by decide)
    · exact h.two rfl rfl rfl (h.got hr 13 rfl (by kernel_rfl)) (h.got hr 14 rfl (by kernel_rfl)) rfl rfl (by decide) (by decide)
    · exact h.slice1 rfl rfl (h.got hr 15 rfl (by kernel_rfl)) rfl rfl (by decide) (by decide)
    · exact h.of2 rfl rfl rfl (h.got hr 16 rfl (by kernel_rfl)) rfl rfl (by decide) (by decide)
    · exact h.load rfl rfl (h.got hr 4 rfl (by kernel_rfl)) rfl rfl (by decide) (by decide)
    · exact h.two rfl rfl rfl (h.got hr 17 rfl (by kernel_rfl)) (h.got hr 18 rfl (by kernel_rfl)) rfl rfl (by decide) (by decide)
    · exact h.slice1 rfl rfl (h.got hr 19 rfl (by kernel_rfl)) rfl rfl (by decide) (by decide)
    · exact h.of2 rfl rfl rfl (h.got hr 20 rfl (by kernel_rfl)) rfl rfl (by decide) (by decide)
    · exact h.load rfl rfl (h.got hr 4 rfl (by kernel_rfl)) rfl rfl (by decide) (by decide)
    · exact h.load rfl rfl (h.got hr 4 rfl (by kernel_rfl)) rfl rfl (by decide) (by decide)
    · exact h.two rfl rfl rfl (h.got hr 22 rfl (by kernel_rfl)) (h.got hr 23 rfl (by kernel_rfl)) rfl rfl (by decide) (by decide)
    · exact h.load rfl rfl (h.got hr 6 rfl (by kernel_rfl)) rfl rfl (by decide) (by decide)
    · exact h.two rfl rfl rfl (h.got hr 24 rfl (by kernel_rfl)) (h.got hr 25 rfl (by kernel_rfl)) rfl rfl (by decide) (by decide)
    · exact h.slice1 rfl rfl (h.got hr 26 rfl (by kernel_rfl)) rfl rfl (by decide) (by decide)
    · exact h.of2 rfl rfl rfl (h.got hr 27 rfl (by kernel_rfl)) rfl rfl (by decide) (by decide)
    · exact h.slice3 rfl rfl (h.got hr 10 rfl (by kernel_rfl)) (h.got hr 21 rfl (by kernel_rfl)) (h.got hr 28 rfl (by kernel_rfl)) rfl rfl (by decide) (by decide)
    · exact h.of2 rfl rfl rfl (h.got hr 29 rfl (by kernel_rfl)) rfl rfl (by decide) (by decide)
    · exact h.alloc rfl rfl rfl rfl (by decide)
  · refine Reg.store (wS := wv) (S := [(0, .val (.bool false)), (1, .val (.pointer (some ⟨w3.heap.size, 0, none⟩))), (2, .val (.pointer (some ⟨w3.heap.size + 1, 0, none⟩))), (3, .val (.pointer (some ⟨w3.heap.size + 1 + 1, 0, none⟩))), (4, .own wv.heap.size (rule0E))]) h (Below.refl _ _) rfl rfl (h.got hr 31 rfl (by kernel_rfl)) (Nat.le_refl _) (Nat.zero_le _) (h.got hr 30 rfl (by kernel_rfl)) (fun f hf => ?_) (fun w' hm' => ?_)
    · simp only [List.mem_cons, List.not_mem_nil, or_false] at hf
      rcases hf with rfl | rfl | rfl | rfl | rfl
      · exact Or.inr (Or.inr ⟨by simp, Or.inl rfl⟩)
      · exact Or.inr (Or.inr ⟨by simp, Or.inl rfl⟩)
      · exact Or.inr (Or.inr ⟨by simp, Or.inl rfl⟩)
      · exact Or.inr (Or.inr ⟨by simp, Or.inl rfl⟩)
      · simp
    have HM4 := Lib.hid hm'
    clear hm' h hr
    refine (by assumption : ∀ (a : Act) (w : World), Code.wp _ _ _ a w → _) a w' ?_
    refine wp_seq_k (fun K4 hK4 => ?_)
    refine Mid.setNum7 HM4.out (x := 4) (lo := wv.heap.size) (t := rule0E) (m := -3) (by simp) (by decide) [(0, .val (.bool false)), (1, .val (.pointer (some ⟨w3.heap.size, 0, none⟩))), (2, .val (.pointer (some ⟨w3.heap.size + 1, 0, none⟩))), (3, .val (.pointer (some ⟨w3.heap.size + 1 + 1, 0, none⟩))), (4, .var ruleE)] (fun f hf => ?_) (Nat.le_refl _) (fun a4 w4 hm4 => hK4 a4 w4 ?_)
    · simp only [List.mem_cons, List.not_mem_nil, or_false] at hf
      rcases hf with rfl | rfl | rfl | rfl | rfl
      · exact ⟨by simp, Or.inr ⟨by simp, _, rfl⟩⟩
      · exact ⟨by simp, Or.inr ⟨by simp, _, rfl⟩⟩
      · exact ⟨by simp, Or.inr ⟨by simp, _, rfl⟩⟩
      · exact ⟨by simp, Or.inr ⟨by simp, _, rfl⟩⟩
      · exact ⟨by decide, Or.inl rfl⟩
    have HM5 := Lib.hid (HMid.out a4 w4 _ hm4 (fun f hf => by
      simp only [List.mem_cons, List.not_mem_nil, or_false] at hf
      rcases hf with rfl | rfl | rfl <;> simp))
    clear hm4 HM4
    refine wp_seq_k (fun K6 hK6 => ?_)
    refine wp_region_seq (fun listed a W => Reg 0 w4 0 78 [(none, 0, .val (.bool false)), (none, 1, .val (.pointer (some ⟨w3.heap.size, 0, none⟩))), (none, 2, .val (.pointer (some ⟨w3.heap.size + 1, 0, none⟩))), (none, 3, .val (.pointer (some ⟨w3.heap.size + 1 + 1, 0, none⟩))), (none, 4, .var ruleE), (none, 1, .var oneE), (none, 2, .var xE), (none, 3, .var aE), (some 0, 5, .val (.string wantE))] listed a W) (by kernel_rfl) (Mid.start0 HM5.out (fun k e => by rw [show Act.eval _ (.tmp 0) = .bool false from HM5.out.facts (0, .val (.bool false)) (by simp)] at e; cases e) (fun f hf hc => ?_) _) (fun listed a W i hs h hr => ?_) (fun listed a W h hall => ?_)
    · simp only [List.mem_cons, List.not_mem_nil, or_false] at hf
      rcases hf with rfl | rfl | rfl | rfl | rfl | rfl | rfl | rfl | rfl <;> first | (cases hc; done) | simp
    · have hi' : i < 1 := by
        obtain ⟨-, o, ho, -⟩ := mem_ready.1 hr
        exact (Array.getElem?_eq_some_iff.1 ho).1
      obtain rfl : i = 0 := by omega
      exact h.asg rfl rfl rfl rfl rfl (by decide) (by decide)
    · have hm6 : Mid 0 wv 78 [(0, .val (.bool false)), (1, .val (.pointer (some ⟨w3.heap.size, 0, none⟩))), (2, .val (.pointer (some ⟨w3.heap.size + 1, 0, none⟩))), (3, .val (.pointer (some ⟨w3.heap.size + 1 + 1, 0, none⟩))), (4, .var ruleE), (1, .var oneE), (2, .var xE), (3, .var aE), (5, .val (.string wantE))] a W := h.mid HM5.out.bel hall (fun f hf => by
        simp only [List.mem_cons, List.not_mem_nil, or_false] at hf
        rcases hf with rfl | rfl | rfl | rfl | rfl | rfl | rfl | rfl | rfl
        · exact ⟨none, by simp, fun j e => by cases e⟩
        · exact ⟨none, by simp, fun j e => by cases e⟩
        · exact ⟨none, by simp, fun j e => by cases e⟩
        · exact ⟨none, by simp, fun j e => by cases e⟩
        · exact ⟨none, by simp, fun j e => by cases e⟩
        · exact ⟨none, by simp, fun j e => by cases e⟩
        · exact ⟨none, by simp, fun j e => by cases e⟩
        · exact ⟨none, by simp, fun j e => by cases e⟩
        · exact ⟨some 0, by simp, fun j e => by cases e; decide⟩)
      have HM6 := Lib.hid hm6
      clear hm6 h hall
      refine hK6 a W ?_
      obtain ⟨w6, hw6⟩ : ∃ w6, w6 = W := ⟨_, rfl⟩
      rw [← hw6] at HM6 ⊢
      clear hw6
      refine wp_seq_k (fun K7 hK7 => ?_)
      refine wp_region_seq (fun listed a W => Reg 0 w6 0 78 [(none, 0, .val (.bool false)), (none, 1, .val (.pointer (some ⟨w3.heap.size, 0, none⟩))), (none, 2, .val (.pointer (some ⟨w3.heap.size + 1, 0, none⟩))), (none, 3, .val (.pointer (some ⟨w3.heap.size + 1 + 1, 0, none⟩))), (none, 4, .var ruleE), (none, 1, .var oneE), (none, 2, .var xE), (none, 3, .var aE), (none, 5, .val (.string wantE)), (some 0, 37, .tree zeroE), (some 1, 38, .val (.tuple #[.string (BA []), .int .i64 4])), (some 2, 36, .val (.tuple #[.string (BA []), .int .i64 4])), (some 3, 39, .val (.string (BA []))), (some 4, 40, .val (.int .i64 4)), (some 5, 6, .val (.string (BA []))), (some 6, 7, .val (.int .i64 4))] listed a W) (by kernel_rfl) (Mid.start0 HM6.out (fun k e => by rw [show Act.eval _ (.tmp 0) = .bool false from HM6.out.facts (0, .val (.bool false)) (by simp)] at e; cases e) (fun f hf hc => ?_) _) (fun listed a W i hs h hr => ?_) (fun listed a W h hall => ?_)
      · simp only [List.mem_cons, List.not_mem_nil, or_false] at hf
        rcases hf with rfl | rfl | rfl | rfl | rfl | rfl | rfl | rfl | rfl | rfl | rfl | rfl | rfl | rfl | rfl | rfl <;> first | (cases hc; done) | simp
      · have hi' : i < 7 := by
          obtain ⟨-, o, ho, -⟩ := mem_ready.1 hr
          exact (Array.getElem?_eq_some_iff.1 ho).1
        obtain rfl | rfl | rfl | rfl | rfl | rfl | rfl : i = 0 ∨ i = 1 ∨ i = 2 ∨ i = 3 ∨ i = 4 ∨ i = 5 ∨ i = 6 := by omega
        · exact h.build0 rfl rfl rfl rfl (by decide) (by decide)
        · exact h.progZ rfl rfl (h.got hr 9 rfl (by kernel_rfl)) (HL.out.below HM6.out.bel) (fun W1 hb => HT.out W1 (HM6.out.bel.trans (hb.mono HM6.out.bel.size))) (by decide +kernel) rtZ rfl rfl (by decide) (by decide)
        · exact h.mv rfl rfl (h.got hr 10 rfl (by kernel_rfl)) rfl rfl (by decide) (by decide)
        · exact h.extr (k := 0) rfl rfl (h.got hr 11 rfl (by kernel_rfl)) rfl rfl rfl (by decide) (by decide)
        · exact h.extr (k := 1) rfl rfl (h.got hr 11 rfl (by kernel_rfl)) rfl rfl rfl (by decide) (by decide)
        · exact h.asg rfl rfl (h.got hr 12 rfl (by kernel_rfl)) rfl rfl (by decide) (by decide)
        · exact h.asg rfl rfl (h.got hr 13 rfl (by kernel_rfl)) rfl rfl (by decide) (by decide)
      · have hm7 : Mid 0 wv 78 [(0, .val (.bool false)), (1, .val (.pointer (some ⟨w3.heap.size, 0, none⟩))), (2, .val (.pointer (some ⟨w3.heap.size + 1, 0, none⟩))), (3, .val (.pointer (some ⟨w3.heap.size + 1 + 1, 0, none⟩))), (4, .var ruleE), (1, .var oneE), (2, .var xE), (3, .var aE), (5, .val (.string wantE)), (6, .val (.string (BA []))), (7, .val (.int .i64 4))] a W := h.mid HM6.out.bel hall (fun f hf => by
          simp only [List.mem_cons, List.not_mem_nil, or_false] at hf
          rcases hf with rfl | rfl | rfl | rfl | rfl | rfl | rfl | rfl | rfl | rfl | rfl
          · exact ⟨none, by simp, fun j e => by cases e⟩
          · exact ⟨none, by simp, fun j e => by cases e⟩
          · exact ⟨none, by simp, fun j e => by cases e⟩
          · exact ⟨none, by simp, fun j e => by cases e⟩
          · exact ⟨none, by simp, fun j e => by cases e⟩
          · exact ⟨none, by simp, fun j e => by cases e⟩
          · exact ⟨none, by simp, fun j e => by cases e⟩
          · exact ⟨none, by simp, fun j e => by cases e⟩
          · exact ⟨none, by simp, fun j e => by cases e⟩
          · exact ⟨some 5, by simp, fun j e => by cases e; decide⟩
          · exact ⟨some 6, by simp, fun j e => by cases e; decide⟩)
        have HM7 := Lib.hid hm7
        clear hm7 h hall
        refine hK7 a W ?_
        obtain ⟨w7, hw7⟩ : ∃ w7, w7 = W := ⟨_, rfl⟩
        rw [← hw7] at HM7 ⊢
        clear hw7
        refine wp_seq_k (fun K8 hK8 => ?_)
        refine wp_region_reg (r := 0) (w0 := w7) (bs := 0) (n := 78) (last := 37) (F := [(none, 1, .val (.pointer (some ⟨w3.heap.size, 0, none⟩))), (none, 2, .val (.pointer (some ⟨w3.heap.size + 1, 0, none⟩))), (none, 3, .val (.pointer (some ⟨w3.heap.size + 1 + 1, 0, none⟩))), (none, 4, .var ruleE), (none, 1, .var oneE), (none, 2, .var xE), (none, 3, .var aE), (none, 5, .val (.string wantE)), (none, 6, .val (.string (BA []))), (none, 7, .val (.int .i64 4)), (some 0, 41, .tree ruleE), (some 1, 42, .tree qE), (some 2, 43, .rows [ruleE, qE]), (some 3, 44, .tree prog1E), (some 4, 45, .val (.string wantE)), (some 5, 46, .bool true), (some 6, 47, .bool true), (some 7, 48, .tree aE), (some 8, 49, .tree aE), (some 9, 50, .tree aE), (some 10, 51, .tree aaE), (some 11, 52, .tree a1E), (some 12, 53, .tree (sayT a1E)), (some 13, 54, .bool true), (some 14, 55, .bool true), (some 15, 56, .bool true), (some 16, 57, .tree aE), (some 17, 58, .tree aE), (some 18, 59, .tree aaE), (some 19, 60, .tree aE), (some 20, 61, .tree a2E), (some 21, 62, .tree (sayT a2E)), (some 22, 63, .bool true), (some 23, 64, .bool true), (some 24, 65, .bool true), (some 25, 66, .tree oneE), (some 26, 67, .rows [oneE]), (some 27, 68, .tree m1E), (some 28, 69, .rows [m1E]), (some 29, 70, .tree m2E), (some 30, 71, .tree (sayT m2E)), (some 31, 72, .bool true), (some 32, 73, .bool true), (some 33, 74, .bool true), (some 34, 75, .val (.int .i64 4)), (some 35, 76, .bool true), (some 36, 77, .bool true), (some 37, 0, .val (.bool true))]) (by kernel_rfl) (by kernel_rfl) (by decide) (by kernel_rfl) (Mid.start HM7.out (fun k hk e => by rw [show Act.eval _ (.tmp 0) = .bool false from HM7.out.facts (0, .val (.bool false)) (by simp)] at e; cases e) (fun f hf hc => ?_) _) (fun listed a W i h hr hi hl => ?_) (fun listed a W h hr => ?_)
        · simp only [List.mem_cons, List.not_mem_nil, or_false] at hf
          rcases hf with rfl | rfl | rfl | rfl | rfl | rfl | rfl | rfl | rfl | rfl | rfl | rfl | rfl | rfl | rfl | rfl | rfl | rfl | rfl | rfl | rfl | rfl | rfl | rfl | rfl | rfl | rfl | rfl | rfl | rfl | rfl | rfl | rfl | rfl | rfl | rfl | rfl | rfl | rfl | rfl | rfl | rfl | rfl | rfl | rfl | rfl | rfl | rfl <;> first | (cases hc; done) | simp
        · have hi' : i < 38 := hi
          obtain rfl | rfl | rfl | rfl | rfl | rfl | rfl | rfl | rfl | rfl | rfl | rfl | rfl | rfl | rfl | rfl | rfl | rfl | rfl | rfl | rfl | rfl | rfl | rfl | rfl | rfl | rfl | rfl | rfl | rfl | rfl | rfl | rfl | rfl | rfl | rfl | rfl : i = 0 ∨ i = 1 ∨ i = 2 ∨ i = 3 ∨ i = 4 ∨ i = 5 ∨ i = 6 ∨ i = 7 ∨ i = 8 ∨ i = 9 ∨ i = 10 ∨ i = 11 ∨ i = 12 ∨ i = 13 ∨ i = 14 ∨ i = 15 ∨ i = 16 ∨ i = 17 ∨ i = 18 ∨ i = 19 ∨ i = 20 ∨ i = 21 ∨ i = 22 ∨ i = 23 ∨ i = 24 ∨ i = 25 ∨ i = 26 ∨ i = 27 ∨ i = 28 ∨ i = 29 ∨ i = 30 ∨ i = 31 ∨ i = 32 ∨ i = 33 ∨ i = 34 ∨ i = 35 ∨ i = 36 := by omega
          · exact h.load rfl rfl (h.got hr 3 rfl (by kernel_rfl)) rfl rfl (by decide) (by decide)
          · exact h.of2 rfl rfl rfl (stood_nil (.mk 0 ⟨#[]⟩ 0 0 []) rfl) rfl rfl (by decide) (by decide)
          · exact h.slice2 rfl rfl (h.got hr 10 rfl (by kernel_rfl)) (h.got hr 11 rfl (by kernel_rfl)) rfl rfl (by decide) (by decide)
          · exact h.of2 rfl rfl rfl (h.got hr 12 rfl (by kernel_rfl)) rfl rfl (by decide) (by decide)
          · exact h.mv rfl rfl (h.got hr 7 rfl (by kernel_rfl)) rfl rfl (by decide) (by decide)
          · exact h.shown rfl rfl (h.got hr 14 rfl (by kernel_rfl)) (h.got hr 13 rfl (by kernel_rfl)) (HL.out.below HM7.out.bel) (fun W1 hb => HT.out W1 (HM7.out.bel.trans (hb.mono HM7.out.bel.size))) (by decide +kernel) rt1 sh1 rfl rfl (by decide) (by decide)
          · exact h.move rfl rfl (h.got hr 15 rfl (by kernel_rfl)) rfl rfl (by decide) (by decide)
          · exact h.load rfl (wanted_of rfl (yields_of rfl rfl (h.got hr 16 rfl (by kernel_rfl)))) (h.got hr 6 rfl (by kernel_rfl)) rfl rfl (by decide) (by decide)
          · exact h.load rfl (wanted_of rfl (yields_of rfl rfl (h.got hr 16 rfl (by kernel_rfl)))) (h.got hr 6 rfl (by kernel_rfl)) rfl rfl (by decide) (by decide)
          · exact h.load rfl (wanted_of rfl (yields_of rfl rfl (h.got hr 16 rfl (by kernel_rfl)))) (h.got hr 6 rfl (by kernel_rfl)) rfl rfl (by decide) (by decide)
          · exact h.two rfl (wanted_of rfl (yields_of rfl rfl (h.got hr 16 rfl (by kernel_rfl)))) rfl (h.got hr 18 rfl (by kernel_rfl)) (h.got hr 19 rfl (by kernel_rfl)) rfl rfl (by decide) (by decide)
          · exact h.two rfl (wanted_of rfl (yields_of rfl rfl (h.got hr 16 rfl (by kernel_rfl)))) rfl (h.got hr 17 rfl (by kernel_rfl)) (h.got hr 20 rfl (by kernel_rfl)) rfl rfl (by decide) (by decide)
          · exact h.says rfl (wanted_of rfl (yields_of rfl rfl (h.got hr 16 rfl (by kernel_rfl)))) (h.got hr 21 rfl (by kernel_rfl)) rfl rfl (by decide) (by decide)
          · exact h.shown rfl (wanted_of rfl (yields_of rfl rfl (h.got hr 16 rfl (by kernel_rfl)))) rfl (h.got hr 22 rfl (by kernel_rfl)) (HL.out.below HM7.out.bel) (fun W1 hb => HT.out W1 (HM7.out.bel.trans (hb.mono HM7.out.bel.size))) (by decide +kernel) rt2 sh2 rfl rfl (by decide) (by decide)
          · exact h.pick rfl rfl (h.got hr 16 rfl (by kernel_rfl)) (h.got hr 23 rfl (by kernel_rfl)) rfl rfl (by decide) (by decide)
          · exact h.move rfl rfl (h.got hr 24 rfl (by kernel_rfl)) rfl rfl (by decide) (by decide)
          · exact h.load rfl (wanted_of rfl (yields_of rfl rfl (h.got hr 25 rfl (by kernel_rfl)))) (h.got hr 6 rfl (by kernel_rfl)) rfl rfl (by decide) (by decide)
          · exact h.load rfl (wanted_of rfl (yields_of rfl rfl (h.got hr 25 rfl (by kernel_rfl)))) (h.got hr 6 rfl (by kernel_rfl)) rfl rfl (by decide) (by decide)
          · exact h.two rfl (wanted_of rfl (yields_of rfl rfl (h.got hr 25 rfl (by kernel_rfl)))) rfl (h.got hr 26 rfl (by kernel_rfl)) (h.got hr 27 rfl (by kernel_rfl)) rfl rfl (by decide) (by decide)
          · exact h.load rfl (wanted_of rfl (yields_of rfl rfl (h.got hr 25 rfl (by kernel_rfl)))) (h.got hr 6 rfl (by kernel_rfl)) rfl rfl (by decide) (by decide)
          · exact h.two rfl (wanted_of rfl (yields_of rfl rfl (h.got hr 25 rfl (by kernel_rfl)))) rfl (h.got hr 28 rfl (by kernel_rfl)) (h.got hr 29 rfl (by kernel_rfl)) rfl rfl (by decide) (by decide)
          · exact h.says rfl (wanted_of rfl (yields_of rfl rfl (h.got hr 25 rfl (by kernel_rfl)))) (h.got hr 30 rfl (by kernel_rfl)) rfl rfl (by decide) (by decide)
          · exact h.shown rfl (wanted_of rfl (yields_of rfl rfl (h.got hr 25 rfl (by kernel_rfl)))) rfl (h.got hr 31 rfl (by kernel_rfl)) (HL.out.below HM7.out.bel) (fun W1 hb => HT.out W1 (HM7.out.bel.trans (hb.mono HM7.out.bel.size))) (by decide +kernel) rt3 sh3 rfl rfl (by decide) (by decide)
          · exact h.pick rfl rfl (h.got hr 25 rfl (by kernel_rfl)) (h.got hr 32 rfl (by kernel_rfl)) rfl rfl (by decide) (by decide)
          · exact h.move rfl rfl (h.got hr 33 rfl (by kernel_rfl)) rfl rfl (by decide) (by decide)
          · exact h.load rfl (wanted_of rfl (yields_of rfl rfl (h.got hr 34 rfl (by kernel_rfl)))) (h.got hr 4 rfl (by kernel_rfl)) rfl rfl (by decide) (by decide)
          · exact h.slice1 rfl (wanted_of rfl (yields_of rfl rfl (h.got hr 34 rfl (by kernel_rfl)))) (h.got hr 35 rfl (by kernel_rfl)) rfl rfl (by decide) (by decide)
          · exact h.of2 rfl (wanted_of rfl (yields_of rfl rfl (h.got hr 34 rfl (by kernel_rfl)))) rfl (h.got hr 36 rfl (by kernel_rfl)) rfl rfl (by decide) (by decide)
          · exact h.slice1 rfl (wanted_of rfl (yields_of rfl rfl (h.got hr 34 rfl (by kernel_rfl)))) (h.got hr 37 rfl (by kernel_rfl)) rfl rfl (by decide) (by decide)
          · exact h.of2 rfl (wanted_of rfl (yields_of rfl rfl (h.got hr 34 rfl (by kernel_rfl)))) rfl (h.got hr 38 rfl (by kernel_rfl)) rfl rfl (by decide) (by decide)
          · exact h.says rfl (wanted_of rfl (yields_of rfl rfl (h.got hr 34 rfl (by kernel_rfl)))) (h.got hr 39 rfl (by kernel_rfl)) rfl rfl (by decide) (by decide)
          · exact h.shown rfl (wanted_of rfl (yields_of rfl rfl (h.got hr 34 rfl (by kernel_rfl)))) rfl (h.got hr 40 rfl (by kernel_rfl)) (HL.out.below HM7.out.bel) (fun W1 hb => HT.out W1 (HM7.out.bel.trans (hb.mono HM7.out.bel.size))) (by decide +kernel) rt4 sh4 rfl rfl (by decide) (by decide)
          · exact h.pick rfl rfl (h.got hr 34 rfl (by kernel_rfl)) (h.got hr 41 rfl (by kernel_rfl)) rfl rfl (by decide) (by decide)
          · exact h.move rfl rfl (h.got hr 42 rfl (by kernel_rfl)) rfl rfl (by decide) (by decide)
          · exact h.mv rfl (wanted_of rfl (yields_of rfl rfl (h.got hr 43 rfl (by kernel_rfl)))) (h.got hr 9 rfl (by kernel_rfl)) rfl rfl (by decide) (by decide)
          · exact h.eql4 rfl (wanted_of rfl (yields_of rfl rfl (h.got hr 43 rfl (by kernel_rfl)))) (h.got hr 44 rfl (by kernel_rfl)) rfl rfl (by decide) (by decide)
          · exact h.pick rfl rfl (h.got hr 43 rfl (by kernel_rfl)) (h.got hr 45 rfl (by kernel_rfl)) rfl rfl (by decide) (by decide)
        · have h0 : a.eval (.tmp 77) = .bool true := h.got hr 46 rfl (by kernel_rfl)
          refine wpOp_asg7 rfl rfl h0 ?_
          refine hK8 _ _ (wp_ret ?_)
          have hv : (a.put (some 0) (.bool true)).eval (.tmp 0) = .bool true := eval_put_same _ _ _ (by rw [h.size]; decide)
          refine bodyPost_ret (v := .bool true) ?_ h.defers ⟨rfl, HB.out.trans (((HM7.out.bel).trans (h.bel.mono HM7.out.bel.size)).mono HB.out.size)⟩
          have hr := results_tmp (t := 0) Tryz.results8 (a.put (some 0) (.bool true)).tmps Tryz.prog W
          rw [show (a.put (some 0) (.bool true)).tmps.getD 0 undef = .bool true from hv] at hr
          exact hr
end Go.Proofs.YtfmjhbaenpbfoaaGreatDoor

namespace Go.Proofs.YtfmjhbaenpbfoaaGreatDoor
open Go.RowKit

theorem ret_sz {a b : ByteArray} {z : Int} (h : a = b) : Ending.returned (.tuple #[.string a, .int .i64 z]) = .returned (.tuple #[.string b, .int .i64 z]) := by rw [h]
set_option maxRecDepth 100000 in
set_option maxHeartbeats 1000000 in
theorem refProgram_any (t : T) (v : Value) (w : World) (hl : Lies w.heap.size w t v) (hS : Small 9000 t) (hm : t.many ≤ 100000) (ht : Tab w.heap.size w) : Calls Tryz.prog 11 #[agg t v] w (ShowSay t w) := by
  have hsm := hS.sml
  obtain ⟨ao, c, ps, rfl, k1⟩ := hl.out
  have hlm := k1.len64
  have HB0 : Hid (Below w.heap.size w (w.alloc (.cells #[.int .u8 t.kind, .string t.text, .int .i64 t.num, .int .i64 t.pos, .slice ao t.kids.length c] 25))) := below_own _
  have KR : Hid (Calls Tryz.prog 24 #[agg t (.slice ao t.kids.length c)] (w.alloc (.cells #[.int .u8 t.kind, .string t.text, .int .i64 t.num, .int .i64 t.pos, .slice ao t.kids.length c] 25)) fun e w' => e = .returned (.bool (rightT t)) ∧ Below (w.alloc (.cells #[.int .u8 t.kind, .string t.text, .int .i64 t.num, .int .i64 t.pos, .slice ao t.kids.length c] 25)).heap.size (w.alloc (.cells #[.int .u8 t.kind, .string t.text, .int .i64 t.num, .int .i64 t.pos, .slice ao t.kids.length c] 25)) w') := (refRight_any t (w.alloc (.cells #[.int .u8 t.kind, .string t.text, .int .i64 t.num, .int .i64 t.pos, .slice ao t.kids.length c] 25)) _ (hl.up HB0.out HB0.out.size) hS (by omega)).mono fun _ _ h => ⟨h.1, h.2.below⟩
  have HLi := Lib.hid hl
  have HTb := Lib.hid ht
  have HSm := Lib.hid hsm
  unfold ShowSay
  cases hr : rightT t with
  | true =>
    rw [hr] at KR
    have HLn := Lib.hid (show_len t hsm hr)
    have HD := Lib.hid (decls_of hr)
    simp only [if_true]
    clear hl hS hsm hm hr k1 ht
    unfold agg at *
    obtain ⟨n, hn⟩ : ∃ n, n = t.kids.length := ⟨_, rfl⟩
    have HN := Lib.hid hn
    rw [← hn] at hlm HLi HB0 KR ⊢
    clear hn
    go_enter Tryz.func11, Tryz.ntmps11
    go_wp2_with (go_at_call 24; go_must (refine (KR.out).mono ?_; rintro e w1 ⟨rfl, hb⟩; have HD1 : Hid (Below (w.alloc (.cells #[.int .u8 t.kind, .string t.text, .int .i64 t.num, .int .i64 t.pos, .slice ao n c] 25)).heap.size (w.alloc (.cells #[.int .u8 t.kind, .string t.text, .int .i64 t.num, .int .i64 t.pos, .slice ao n c] 25)) w1) := hb; clear hb; refine Hid.out ?_))
    refine Lib.hid ?_
    go_wp2_with fail
    go_loopw [4, 5] (fun sv i wr => ∃ (j : Nat) (b : ByteArray), j ≤ n ∧ i = .int .i64 j ∧ sv = .string b ∧ Hid (b = BA (eachT declT [10] (t.kids.take j))) ∧ Hid (Below (w.alloc (.cells #[.int .u8 t.kind, .string t.text, .int .i64 t.num, .int .i64 t.pos, .slice ao n c] 25)).heap.size (w.alloc (.cells #[.int .u8 t.kind, .string t.text, .int .i64 t.num, .int .i64 t.pos, .slice ao n c] 25)) wr)) (fun _ i _ => n - (intOf i).toNat)
    case atStart =>
      refine ⟨0, _, Nat.zero_le _, rfl, rfl, ?_, HD1⟩
      unfold Hid
      rw [List.take_zero]
      rfl
    case round =>
      obtain ⟨j, b, hj, rfl, rfl, HBb, HDw⟩ := hrel
      have HB : Hid (Below w.heap.size w wr) := HB0.out.trans (HDw.out.mono HB0.out.size)
      have b4 : wr.cell? ⟨w.heap.size, 4, none⟩ = some (.slice ao n c) := one_bel HDw.out 4
      by_cases hlt : j < n
      · have hjn : (j : Int) < (n : Int) := by omega
        have hjl : j < t.kids.length := by rw [← HN.out]; exact hlt
        obtain ⟨ao', c', ps, he, k1⟩ := (HLi.out.up HB.out HB.out.size).out
        obtain ⟨sb, off, e1, hsb, hc⟩ := k1.kid (by omega)
        obtain ⟨u, hkc, hkl⟩ := hc j t.kids[j] (List.getElem?_eq_getElem hjl)
        injection he with he1 he2 he3
        subst he1 e1 he3
        have hle := eachT_take_le declT [10] t.kids (j + 1)
        have HT : Hid (eachT declT [10] (t.kids.take (j + 1)) = eachT declT [10] (t.kids.take j) ++ (declT t.kids[j] ++ [10])) := eachT_take _ _ _ _ hjl
        rw [HT.out] at hle
        simp only [List.length_append, List.length_cons, List.length_nil] at hle
        have hdq := HD.out _ (List.getElem_mem hjl)
        obtain ⟨d0, d1, d2, d3, d4⟩ := hkc
        have hbs := ba_size_of HBb.out
        have hb : (eachT declT [10] t.kids).length ≤ 400000000 := HLn.out
        have KF : Hid ((declT t.kids[j]).length ≤ 140737488355328 → Calls Tryz.prog 25 #[agg t.kids[j] u] wr (Sd (declT t.kids[j]) wr)) := fun hlen => refDecl_any _ hdq wr u hkl (fun W hb => HTb.out W (HB.out.trans (hb.mono HB.out.size))) hlen
        have KF2 := Lib.hid (KF.out (by omega))
        clear hc he2 k1 hkl ps hdq KF
        generalize t.kids[j] = q at *
        generalize hyy : eachT declT [10] (t.kids.take j) = y at *
        generalize declT q = x at *
        obtain ⟨z, hz⟩ : ∃ z, z = BA x := ⟨_, rfl⟩
        have hzs := ba_size_of hz
        have HZ := Lib.hid hz
        unfold agg Sd at *
        rw [← hz] at KF2
        have l1 : ¬ 9223372036854775807 < b.size + z.size := by omega
        have l2 : ¬ 9223372036854775807 < b.size + z.size + 1 := by omega
        clear hyy hle hb hz hzs hbs
        go_wp2_with (go_at_call 25; go_must (refine (KF2.out).mono ?_; rintro e w2 ⟨rfl, hg⟩; have HDn : Hid (Below (w.alloc (.cells #[.int .u8 t.kind, .string t.text, .int .i64 t.num, .int .i64 t.pos, .slice (some ⟨sb, off, none⟩) n c] 25)).heap.size (w.alloc (.cells #[.int .u8 t.kind, .string t.text, .int .i64 t.num, .int .i64 t.pos, .slice (some ⟨sb, off, none⟩) n c] 25)) w2) := HDw.out.trans (hg.mono HDw.out.size); clear hg))
        clear KF2 d0 d1 d2 d3 d4 HB HDw b4
        go_roundw
        case rel =>
          refine ⟨j + 1, _, by omega, by go_num, rfl, ?_, HDn⟩
          unfold Hid
          rw [HBb.out, HZ.out, HT.out]
          apply ByteArray.ext
          apply Array.ext'
          simp [ByteArray.data_append]
        case measure => simp [intOf]; omega
      · obtain hjn : j = n := by omega
        have HR : Hid (b = BA (showT t)) := by
          have := HBb.out
          rw [hjn, HN.out, List.take_length] at this
          exact this
        have hjn' : ¬ (j : Int) < (n : Int) := by omega
        clear hjn
        go_wp2_with fail
        go_ret2
        exact ⟨ret_sz HR.out, HB.out⟩
  | false =>
    rw [hr] at KR
    simp only [Bool.false_eq_true, if_false]
    clear hl hS hsm hm hr k1 ht HLi
    unfold agg at *
    go_enter Tryz.func11, Tryz.ntmps11
    go_wp2_with (go_at_call 24; go_must (refine (KR.out).mono ?_; rintro e w1 ⟨rfl, hb⟩; have HB1 : Hid (Below w.heap.size w w1) := HB0.out.trans (hb.mono HB0.out.size); clear hb))
    go_ret2
    exact ⟨rfl, HB1.out⟩

set_option maxRecDepth 100000 in
set_option maxHeartbeats 1000000 in
theorem showTells_any (t : T) (v : Value) (w : World) (hk : Lies w.heap.size w t v) (hx : Txt t) (hL : Laid w) (hT : Tab w.heap.size w) :
    Calls Tryz.prog 3 #[agg t v] w fun e w' => e = .returned (.bool true) ∧ Below w.heap.size w w' := by
  have HK := Lib.hid hk
  have HL := Lib.hid hL
  have HTb := Lib.hid hT
  have KA := Lib.hid (fun W (hb : Below w.heap.size w W) => awake7_any W (hL.below hb) (fun W' hb' => hT W' (hb.trans (hb'.mono hb.size))))
  have KN := Lib.hid (fun W (hb : Below w.heap.size w W) => nodesOf_any t W v 9000 (hk.up hb hb.size) hx (by omega) (by omega))
  have KL := Lib.hid (fun W (hb : Below w.heap.size w W) (hS : Small 9000 t) => lent_any t W v (hk.up hb hb.size) (hS.fits (by omega)))
  obtain ⟨ao, c, ps, rfl, k1⟩ := hk.out
  have hmany := nodes_many t 9000
  have hsmall := nodes_small t 9000
  clear hk hx hL hT k1
  have HBx : Hid (Below w.heap.size w (w.alloc (.cells #[.int .u8 t.kind, .string t.text, .int .i64 t.num, .int .i64 t.pos, .slice ao t.kids.length c] 25))) := below_own _
  unfold agg at *
  go_enter Tryz.func3, Tryz.ntmps3
  generalize t.nodes 9000 = m at *
  by_cases hm : m ≤ 9000
  · have HSm := Lib.hid (hsmall hm)
    have HMy := Lib.hid (hmany hm)
    clear hmany hsmall
    have hm' : ¬ (9000 : Int) < m := by omega
    go_wp2_with (first
      | (go_at_call 7; go_must (refine (KN.out _ HBx.out).mono ?_; rintro e w1 ⟨rfl, hg⟩; have b1 := one_bel hg.below; have HG1 : Hid (Below (w.alloc (.cells #[.int .u8 t.kind, .string t.text, .int .i64 t.num, .int .i64 t.pos, .slice ao t.kids.length c] 25)).heap.size (w.alloc (.cells #[.int .u8 t.kind, .string t.text, .int .i64 t.num, .int .i64 t.pos, .slice ao t.kids.length c] 25)) w1) := hg.below; have HB1 := Lib.hid (HBx.out.trans (hg.below.mono HBx.out.size)); clear hg))
      | (go_at_call 9; go_must (refine (KL.out _ HB1.out HSm.out).mono ?_; rintro e w2 ⟨v', rfl, hl, hb⟩; obtain ⟨g, rfl, hgb, hgl⟩ := hl.addr; obtain ⟨c1, f2⟩ := bone (g := w.heap.size) hb (by have := HG1.out.size; simp at this; omega); have HLt := Lib.hid hl; have HB2 := Lib.hid hb; clear hl hb; refine Hid.out ?_)))
    refine Lib.hid ?_
    have hw1 : w.heap.size < w1.heap.size := by have := HG1.out.size; simp at this; omega
    have hw2 : w1.heap.size ≤ w2.heap.size := HB2.out.size
    have HX : Hid (Below w.heap.size w (w2.alloc (.cells #[.int .u8 t.kind, .string t.text, .int .i64 t.num, .int .i64 t.pos, .slice (some ⟨g, 0, none⟩) t.kids.length (t.kids.length + 12)] 25))) := below_new (HB1.out.trans (HB2.out.mono (by omega))) _
    have hX : Below w2.heap.size w2 (w2.alloc (.cells #[.int .u8 t.kind, .string t.text, .int .i64 t.num, .int .i64 t.pos, .slice (some ⟨g, 0, none⟩) t.kids.length (t.kids.length + 12)] 25)) := below_own _
    have HU : Hid (∀ W, Below (w2.alloc (.cells #[.int .u8 t.kind, .string t.text, .int .i64 t.num, .int .i64 t.pos, .slice (some ⟨g, 0, none⟩) t.kids.length (t.kids.length + 12)] 25)).heap.size (w2.alloc (.cells #[.int .u8 t.kind, .string t.text, .int .i64 t.num, .int .i64 t.pos, .slice (some ⟨g, 0, none⟩) t.kids.length (t.kids.length + 12)] 25)) W → Below w.heap.size w W) := fun W hb => HX.out.trans (hb.mono HX.out.size)
    have HN1 : Hid (∀ W, Below (w2.alloc (.cells #[.int .u8 t.kind, .string t.text, .int .i64 t.num, .int .i64 t.pos, .slice (some ⟨g, 0, none⟩) t.kids.length (t.kids.length + 12)] 25)).heap.size (w2.alloc (.cells #[.int .u8 t.kind, .string t.text, .int .i64 t.num, .int .i64 t.pos, .slice (some ⟨g, 0, none⟩) t.kids.length (t.kids.length + 12)] 25)) W → ∀ j, W.cell? ⟨w.heap.size, j, none⟩ = (#[.int .u8 t.kind, .string t.text, .int .i64 t.num, .int .i64 t.pos, .slice ao t.kids.length c] : Array Value)[j]?) := fun W hb j => by
      rw [(bone hb (by simp; omega)).1 j, (bone hX (by omega)).1 j, c1 j]
      exact b1 j
    have HN2 : Hid (∀ W, Below (w2.alloc (.cells #[.int .u8 t.kind, .string t.text, .int .i64 t.num, .int .i64 t.pos, .slice (some ⟨g, 0, none⟩) t.kids.length (t.kids.length + 12)] 25)).heap.size (w2.alloc (.cells #[.int .u8 t.kind, .string t.text, .int .i64 t.num, .int .i64 t.pos, .slice (some ⟨g, 0, none⟩) t.kids.length (t.kids.length + 12)] 25)) W → ∀ j, W.cell? ⟨w2.heap.size, j, none⟩ = (#[.int .u8 t.kind, .string t.text, .int .i64 t.num, .int .i64 t.pos, .slice (some ⟨g, 0, none⟩) t.kids.length (t.kids.length + 12)] : Array Value)[j]?) := fun W hb => one_bel hb
    have hmy : t.many ≤ 9000 := by have := HMy.out; omega
    have hLt2 := HLt.out.old hX
    have KP := Lib.hid (program7_any t (.slice (some ⟨g, 0, none⟩) t.kids.length (t.kids.length + 12)) (w2.alloc (.cells #[.int .u8 t.kind, .string t.text, .int .i64 t.num, .int .i64 t.pos, .slice (some ⟨g, 0, none⟩) t.kids.length (t.kids.length + 12)] 25)) hLt2.lies (HL.out.below HX.out) HSm.out (fun W hb => HTb.out W (HU.out W hb)))
    have KQ : Hid (∀ W, Below (w2.alloc (.cells #[.int .u8 t.kind, .string t.text, .int .i64 t.num, .int .i64 t.pos, .slice (some ⟨g, 0, none⟩) t.kids.length (t.kids.length + 12)] 25)).heap.size (w2.alloc (.cells #[.int .u8 t.kind, .string t.text, .int .i64 t.num, .int .i64 t.pos, .slice (some ⟨g, 0, none⟩) t.kids.length (t.kids.length + 12)] 25)) W → Calls Tryz.prog 11 #[agg t (.slice ao t.kids.length c)] W (ShowSay t W)) := fun W hb => refProgram_any t _ W (HK.out.up (HU.out W hb) (HU.out W hb).size) HSm.out (by omega) (fun W' hb' => HTb.out W' ((HU.out W hb).trans (hb'.mono (HU.out W hb).size)))
    have KK : Hid (∀ W, Below (w2.alloc (.cells #[.int .u8 t.kind, .string t.text, .int .i64 t.num, .int .i64 t.pos, .slice (some ⟨g, 0, none⟩) t.kids.length (t.kids.length + 12)] 25)).heap.size (w2.alloc (.cells #[.int .u8 t.kind, .string t.text, .int .i64 t.num, .int .i64 t.pos, .slice (some ⟨g, 0, none⟩) t.kids.length (t.kids.length + 12)] 25)) W → Calls Tryz.prog 12 #[agg t (.slice (some ⟨g, 0, none⟩) t.kids.length (t.kids.length + 12)), agg t (.slice ao t.kids.length c)] W fun e w' => e = .returned (.bool true) ∧ Below W.heap.size W w') := fun W hb => (kept_any t W _ _ _ (hLt2.old hb) (HK.out.up (HU.out W hb) (HU.out W hb).size)).mono fun _ _ h => ⟨h.1, h.2.below⟩
    have KW : Hid (∀ W, Below (w2.alloc (.cells #[.int .u8 t.kind, .string t.text, .int .i64 t.num, .int .i64 t.pos, .slice (some ⟨g, 0, none⟩) t.kids.length (t.kids.length + 12)] 25)).heap.size (w2.alloc (.cells #[.int .u8 t.kind, .string t.text, .int .i64 t.num, .int .i64 t.pos, .slice (some ⟨g, 0, none⟩) t.kids.length (t.kids.length + 12)] 25)) W → Calls Tryz.prog 8 #[] W fun e w' => e = .returned (.bool true) ∧ Below W.heap.size W w') := fun W hb => KA.out W (HU.out W hb)
    unfold ShowSay at KP KQ
    obtain ⟨z, hz⟩ : ∃ z, z = BA (if rightT t then showT t else []) := ⟨_, rfl⟩
    obtain ⟨ez, hez⟩ : ∃ ez : Int, ez = if rightT t then 0 else 4 := ⟨_, rfl⟩
    rw [← hz, ← hez] at KP KQ
    have hzs : (z.toList == z.toList) = true := beq_self_eq_true _
    have hes : (ez == ez) = true := beq_self_eq_true _
    clear hz hez KN KL hLt2 hX c1 f2 b1
    unfold agg at *
    go_wp2_with (go_at_call 10; go_must (refine (KP.out).mono ?_; rintro e w3 ⟨rfl, hb⟩; have n1 := HN1.out _ hb; have n2 := HN2.out _ hb; have HB3 := Lib.hid hb; clear hb; refine Hid.out ?_))
    refine Lib.hid ?_
    go_wp2_with (go_at_call 11; go_must (refine (KQ.out _ HB3.out).mono ?_; rintro e w4 ⟨rfl, hb⟩; have HB4 := Lib.hid (HB3.out.trans (hb.mono HB3.out.size)); have m1 := HN1.out _ HB4.out; have m2 := HN2.out _ HB4.out; clear hb n1 n2; refine Hid.out ?_))
    refine Lib.hid ?_
    go_wp2_with (first
      | (go_at_call 12; go_must (refine (KK.out _ HB4.out).mono ?_; rintro e w5 ⟨rfl, hb⟩; have HB5 := Lib.hid (HB4.out.trans (hb.mono HB4.out.size)); clear hb))
      | (go_at_call 8; go_must (refine (KW.out _ HB5.out).mono ?_; rintro e w6 ⟨rfl, hb⟩; have HB6 := Lib.hid (HB5.out.trans (hb.mono HB5.out.size)); clear hb)))
    go_ret
    exact ⟨rfl, HU.out _ HB6.out⟩
  · clear hmany hsmall
    have hm' : (9000 : Int) < m := by omega
    go_wp2_with (first
      | (go_at_call 7; go_must (refine (KN.out _ HBx.out).mono ?_; rintro e w1 ⟨rfl, hg⟩; have HB1 := Lib.hid (HBx.out.trans (hg.below.mono HBx.out.size)); clear hg))
      | (go_at_call 8; go_must (refine (KA.out _ HB1.out).mono ?_; rintro e w2 ⟨rfl, hb⟩; have HB2 := Lib.hid (HB1.out.trans (hb.mono HB1.out.size)); clear hb)))
    go_ret
    exact ⟨rfl, HB2.out⟩
end Go.Proofs.YtfmjhbaenpbfoaaGreatDoor

namespace Go.Proofs.YtfmjhbaenpbfoaaGreatDoor
open Go.RowKit

/-- A piece that goes through: where I holds it comes to its end, and J holds there. -/
def Tri (c : Code) (I J : Act → World → Prop) : Prop := ∀ (Q : Exit → Act → World → Prop) (a : Act) (w : World), I a w → (∀ a' w', J a' w' → Q .normal a' w') → c.wp Tryz.prog Q a w
theorem Tri.seq {x y : Code} {I J K : Act → World → Prop} (h : Tri x I J) (k : Tri y J K) : Tri (x.seq y) I K := fun Q a w hI hQ => wp_seq (h _ a w hI fun a' w' hJ => k Q a' w' hJ hQ)
theorem Tri.pre {x : Code} {I I' J : Act → World → Prop} (h : Tri x I J) (hp : ∀ a w, I' a w → I a w) : Tri x I' J := fun _ a w hI hQ => h _ a w (hp a w hI) hQ
theorem Tri.post {x : Code} {I J J' : Act → World → Prop} (h : Tri x I J) (hp : ∀ a w, J a w → J' a w) : Tri x I J' := fun _ a w hI hQ => h _ a w hI fun a' w' hJ => hQ a' w' (hp a' w' hJ)
theorem Tri.block {b : Nat} {x : Code} {I J : Act → World → Prop} (h : Tri x I J) : Tri (Code.block b x) I J := fun _ a w hI hQ => wp_block (h _ a w hI fun a' w' hJ => hQ a' w' hJ)
theorem Tri.no {t : Nat} {x : Code} {I : Act → World → Prop} (ht : ∀ a w, I a w → a.eval (.tmp t) = .bool false) : Tri (Code.cond (.tmp t) x .skip) I I := fun _ a w hI hQ => wp_cond_false (ht a w hI) (wp_skip (hQ a w hI))
/-- A loop that counts: its head says whether there is a round more; cnt reads the count off. -/
theorem Tri.count {b n t : Nat} {head rest : Code} (I : Nat → Act → World → Prop) (cnt : Act → Nat) (hc : ∀ j a w, I j a w → cnt a = j)
    (hh : ∀ j, j ≤ n → Tri head (I j) (fun a w => I j a w ∧ a.eval (.tmp t) = .bool (decide (j < n))))
    (hr : ∀ j, j < n → Tri rest (I j) (I (j + 1))) : Tri (Code.block b (Code.loop ((head.seq (Code.cond (.tmp t) .skip (.exit b))).seq rest))) (I 0) (I n) := by
  intro Q a w hI hQ
  refine wp_block (wp_loop (fun a w => ∃ j, j ≤ n ∧ I j a w) (fun a _ => n - cnt a) ⟨0, Nat.zero_le _, hI⟩ fun a w ⟨j, hj, hIj⟩ => ?_)
  refine wp_seq (wp_seq (hh j hj _ a w hIj fun a' w' hJ => ?_))
  by_cases hlt : j < n
  · refine wp_cond_true (by rw [hJ.2, decide_eq_true hlt]) (wp_skip ?_)
    refine hr j hlt _ a' w' hJ.1 fun a2 w2 h2 => ⟨⟨j + 1, by omega, h2⟩, ?_⟩
    show n - cnt a2 < n - cnt a
    rw [hc _ _ _ h2, hc _ _ _ hIj]
    omega
  · refine wp_cond_false (by rw [hJ.2, decide_eq_false hlt]) (wp_exit ?_)
    show (if b = b then Q .normal a' w' else Q (.exit b) a' w')
    rw [if_pos rfl]
    obtain rfl : j = n := by omega
    exact hQ a' w' hJ.1

theorem txt0 {k : Int} {s : ByteArray} {n p : Int} (h : s.size ≤ maxLen) : Txt (.mk k s n p []) := .mk _ h fun k hk => by cases hk
theorem txt1 {k : Int} {s : ByteArray} {n p : Int} {a : T} (h : s.size ≤ maxLen) (ha : Txt a) : Txt (.mk k s n p [a]) := .mk _ h fun k hk => by
  rw [List.mem_singleton.1 hk]
  exact ha
theorem txt2 {k : Int} {s : ByteArray} {n p : Int} {a b : T} (h : s.size ≤ maxLen) (ha : Txt a) (hb : Txt b) : Txt (.mk k s n p [a, b]) := .mk _ h fun k hk => by
  have hk' : k = a ∨ k = b := by simpa [T.kids] using hk
  rcases hk' with rfl | rfl
  · exact ha
  · exact hb
theorem txt3 {k : Int} {s : ByteArray} {n p : Int} {a b c : T} (h : s.size ≤ maxLen) (ha : Txt a) (hb : Txt b) (hc : Txt c) : Txt (.mk k s n p [a, b, c]) := .mk _ h fun k hk => by
  have hk' : k = a ∨ k = b ∨ k = c := by simpa [T.kids] using hk
  rcases hk' with rfl | rfl | rfl
  · exact ha
  · exact hb
  · exact hc
theorem txt4 {k : Int} {s : ByteArray} {n p : Int} {a b c d : T} (h : s.size ≤ maxLen) (ha : Txt a) (hb : Txt b) (hc : Txt c) (hd : Txt d) : Txt (.mk k s n p [a, b, c, d]) := .mk _ h fun k hk => by
  have hk' : k = a ∨ k = b ∨ k = c ∨ k = d := by simpa [T.kids] using hk
  rcases hk' with rfl | rfl | rfl | rfl
  · exact ha
  · exact hb
  · exact hc
  · exact hd

section
variable {ops : Array Oper} {Q : Exit → Act → World → Prop} {K : Act → World → Prop} {a : Act} {w : World} {i d : Nat} {ty : TypeId} {pos : String} {after : Array Edge} {g : Option (Nat × Bool)} {ts : Array TypeId} {r : Nat} {w0 : World} {bs n : Nat} {F : List (Option Nat × Nat × Fx)} {listed : Array Bool}
/-- Where all that is known lies below lo. -/
theorem startL {lo : Nat} (hsz : a.tmps.size = n) (hdf : a.defers = []) (hlo : lo ≤ w.heap.size) (hr : r ≤ w.heap.size) (hF : ∀ f, f ∈ F → f.1 = none → f.2.2.holds (fun k => k < lo ∧ r ≤ k) w (a.eval (.tmp f.2.1))) (hbs : ∀ k, (k < lo ∨ w.heap.size ≤ k) → a.eval (.tmp bs) ≠ .pointer (some ⟨k, 0, none⟩)) (m : Nat) : Reg r w bs n F (Array.replicate m false) a w.drew where
  size := hsz
  defers := hdf
  bel := RowKit_drewN (Below.refl _ _) 1
  low := hr
  fresh := fun k hk => hbs k (Or.inr hk)
  facts := fun f hf hdone => by
    cases hc : f.1 with
    | none => exact Fx.keep (hF f hf hc) (RowKit_drewN (Below.refl _ _) 1) (fun _ hk => Nat.lt_of_lt_of_le hk.1 hlo) (fun k hk => ⟨Nat.lt_of_lt_of_le hk.1 hlo, hk.2, hbs k (Or.inl hk.1)⟩)
    | some j =>
      have := hdone j hc
      simp [Array.getElem?_replicate] at this
      split at this <;> simp at this
theorem Reg.tells (h : Reg r w0 bs n F listed a w) {x : Operand} {t : T} (hi : ops[i]? = some { dst := some d, op := .call { callee := .value (.func 3), args := #[x], argTypes := ts }, type := ty, pos := pos, after := after, guard := g })
    (hg : Region.wanted { dst := some d, op := .call { callee := .value (.func 3), args := #[x], argTypes := ts }, type := ty, pos := pos, after := after, guard := g } (yielded ops a.tmps) = true) (hx : (Fx.tree t).holds (PB r bs a w) w (a.eval x)) (hL : Laid w0) (hT : Tab w0.heap.size w0) (ht : Txt t) (hU : F.filter (fun f => f.1 == some i) = [(some i, d, .bool true)]) (hA : (F.all fun f => f.1 == some i || f.2.1 != d) = true) (hd : d < n) (hbs : d ≠ bs) : wpOp Tryz.prog ops Q i (Reg r w0 bs n F (listed.setIfInBounds i true)) a w := by
  obtain ⟨u, hv, hst⟩ := hx
  refine wpOp_call (vs := #[agg t u]) hi hg (enters_of Tryz.func3 (by kernel_rfl) rfl) (by simp only [List.map_toArray, List.map_cons, List.map_nil, hv]) ?_
  refine (showTells_any t u w (hst.lies fun k hk => hk.1) ht (hL.below h.bel) (fun W hb => hT W (h.bel.trans (hb.mono h.bel.size)))).mono ?_
  rintro e w' ⟨rfl, hb'⟩
  exact ⟨_, rfl, h.one hb' _ hU hA hd (fun e => absurd e hbs) rfl⟩
theorem Reg.awake (h : Reg r w0 bs n F listed a w) (hi : ops[i]? = some { dst := some d, op := .call { callee := .value (.func 8), args := #[], argTypes := ts }, type := ty, pos := pos, after := after, guard := g })
    (hg : Region.wanted { dst := some d, op := .call { callee := .value (.func 8), args := #[], argTypes := ts }, type := ty, pos := pos, after := after, guard := g } (yielded ops a.tmps) = true) (hL : Laid w0) (hT : Tab w0.heap.size w0) (hU : F.filter (fun f => f.1 == some i) = [(some i, d, .bool true)]) (hA : (F.all fun f => f.1 == some i || f.2.1 != d) = true) (hd : d < n) (hbs : d ≠ bs) : wpOp Tryz.prog ops Q i (Reg r w0 bs n F (listed.setIfInBounds i true)) a w := by
  refine wpOp_call (vs := #[]) hi hg (enters_of Tryz.func8 (by kernel_rfl) rfl) (by simp) ?_
  refine (awake7_any w (hL.below h.bel) (fun W hb => hT W (h.bel.trans (hb.mono h.bel.size)))).mono ?_
  rintro e w' ⟨rfl, hb'⟩
  exact ⟨_, rfl, h.one hb' _ hU hA hd (fun e => absurd e hbs) rfl⟩
theorem Reg.len (h : Reg r w0 bs n F listed a w) {x : Operand} {ao : Option Addr} {m c : Nat} {te : TypeId} (hte : te = 34 ∨ te = 37) (hi : ops[i]? = some { dst := some d, op := .call { callee := .builtin .len, args := #[x], argTypes := #[te] }, type := ty, pos := pos, after := after, guard := g })
    (hg : Region.wanted { dst := some d, op := .call { callee := .builtin .len, args := #[x], argTypes := #[te] }, type := ty, pos := pos, after := after, guard := g } (yielded ops a.tmps) = true) (hx : a.eval x = .slice ao m c) (hU : F.filter (fun f => f.1 == some i) = [(some i, d, .val (.int .i64 m))]) (hA : (F.all fun f => f.1 == some i || f.2.1 != d) = true) (hd : d < n) (hbs : d ≠ bs) : wpOp Tryz.prog ops Q i (Reg r w0 bs n F (listed.setIfInBounds i true)) a w := by
  have hK := h.one (i := i) (d := d) (Below.refl _ _) _ hU hA hd (fun e => absurd e hbs) rfl
  refine wpOp_go hi hg ?_
  unfold Oper.wp
  have KK := Lib.hid hK
  clear hK hg hi hU hA
  generalize a.eval = ρ at *
  rcases hte with rfl | rfl
  · go_simp
    exact KK.out
  · go_simp
    exact KK.out
theorem Reg.less (h : Reg r w0 bs n F listed a w) {x y : Operand} {p q : Int} {b : Bool} (hi : ops[i]? = some { dst := some d, op := .binOp .lss 3 x y 3, type := ty, pos := pos, after := after, guard := g })
    (hg : Region.wanted { dst := some d, op := .binOp .lss 3 x y 3, type := ty, pos := pos, after := after, guard := g } (yielded ops a.tmps) = true) (hx : a.eval x = .int .i64 p) (hy : a.eval y = .int .i64 q) (hb : decide (p < q) = b) (hU : F.filter (fun f => f.1 == some i) = [(some i, d, .bool b)]) (hA : (F.all fun f => f.1 == some i || f.2.1 != d) = true) (hd : d < n) (hbs : d ≠ bs) : wpOp Tryz.prog ops Q i (Reg r w0 bs n F (listed.setIfInBounds i true)) a w := by
  have hK := h.one (i := i) (d := d) (Below.refl _ _) _ hU hA hd (fun e => absurd e hbs) rfl
  subst hb
  refine wpOp_go hi hg ?_
  unfold Oper.wp
  have KK := Lib.hid hK
  clear hK hg hi hU hA
  generalize a.eval = ρ at *
  go_simp
  exact KK.out
theorem Reg.addOne (h : Reg r w0 bs n F listed a w) {x : Operand} {p : Nat} (hi : ops[i]? = some { dst := some d, op := .binOp .add 3 x (.const (.int .i64 1)) 3, type := ty, pos := pos, after := after, guard := g })
    (hg : Region.wanted { dst := some d, op := .binOp .add 3 x (.const (.int .i64 1)) 3, type := ty, pos := pos, after := after, guard := g } (yielded ops a.tmps) = true) (hx : a.eval x = .int .i64 p) (hp : p ≤ 1000000) (hU : F.filter (fun f => f.1 == some i) = [(some i, d, .val (.int .i64 ((p + 1 : Nat) : Int)))]) (hA : (F.all fun f => f.1 == some i || f.2.1 != d) = true) (hd : d < n) (hbs : d ≠ bs) : wpOp Tryz.prog ops Q i (Reg r w0 bs n F (listed.setIfInBounds i true)) a w := by
  have hK := h.one (i := i) (d := d) (Below.refl _ _) _ hU hA hd (fun e => absurd e hbs) rfl
  refine wpOp_go hi hg ?_
  unfold Oper.wp
  have e1 : a.eval (.const (.int .i64 1)) = .int .i64 1 := rfl
  have hv : (Value.int .i64 ((p + 1 : Nat) : Int)) = .int .i64 ((p : Int) + 1) := by rw [Int.natCast_succ]
  rw [hv] at hK
  have KK := Lib.hid hK
  have hr1 : wrap64 ((p : Int) + 1) = (p : Int) + 1 := by unfold wrap64; omega
  have hwr : IntKind.i64.wrap ((p : Int) + 1) = (p : Int) + 1 := (IntWalk.i64_left _).trans hr1
  clear hr1
  clear hK hg hi hU hA hv
  generalize a.eval = ρ at *
  go_simp
  exact KK.out
theorem Reg.idx (h : Reg r w0 bs n F listed a w) {x y : Operand} {b j m c : Nat} {te : TypeId} (hte : te = 34 ∨ te = 37) (hi : ops[i]? = some { dst := some d, op := .indexAddr te x y, type := ty, pos := pos, after := after, guard := g })
    (hg : Region.wanted { dst := some d, op := .indexAddr te x y, type := ty, pos := pos, after := after, guard := g } (yielded ops a.tmps) = true) (hx : a.eval x = .slice (some ⟨b, 0, none⟩) m c) (hy : a.eval y = .int .i64 j) (hj : j < m) (hU : F.filter (fun f => f.1 == some i) = [(some i, d, .val (.pointer (some ⟨b, j, none⟩)))]) (hA : (F.all fun f => f.1 == some i || f.2.1 != d) = true) (hd : d < n) (hbs : d ≠ bs) : wpOp Tryz.prog ops Q i (Reg r w0 bs n F (listed.setIfInBounds i true)) a w := by
  have hK := h.one (i := i) (d := d) (Below.refl _ _) _ hU hA hd (fun e => absurd e hbs) rfl
  refine wpOp_go hi hg ?_
  unfold Oper.wp
  have KK := Lib.hid hK
  have hj' : (j : Int) < (m : Int) := by omega
  clear hK hg hi hU hA
  generalize a.eval = ρ at *
  rcases hte with rfl | rfl
  · go_simp
    exact KK.out
  · go_simp
    exact KK.out
theorem Reg.ldv (h : Reg r w0 bs n F listed a w) {x : Operand} {b j : Nat} {v : Value} {te : TypeId} (hte : te = 9 ∨ te = 3) (hi : ops[i]? = some { dst := some d, op := .load te x, type := ty, pos := pos, after := after, guard := g })
    (hg : Region.wanted { dst := some d, op := .load te x, type := ty, pos := pos, after := after, guard := g } (yielded ops a.tmps) = true) (hx : a.eval x = .pointer (some ⟨b, j, none⟩)) (hb : b < w0.heap.size) (hc : w0.cell? ⟨b, j, none⟩ = some v) (hU : F.filter (fun f => f.1 == some i) = [(some i, d, .val v)]) (hA : (F.all fun f => f.1 == some i || f.2.1 != d) = true) (hd : d < n) (hbs : d ≠ bs) : wpOp Tryz.prog ops Q i (Reg r w0 bs n F (listed.setIfInBounds i true)) a w := by
  have hK := h.one (i := i) (d := d) (Below.refl _ _) v hU hA hd (fun e => absurd e hbs) rfl
  have hcw : w.cell? ⟨b, j, none⟩ = some v := (h.bel.cell (p := ⟨b, j, none⟩) hb).trans hc
  refine wpOp_go hi hg ?_
  unfold Oper.wp
  have KK := Lib.hid hK
  clear hK hg hi hU hA hc
  generalize a.eval = ρ at *
  rcases hte with rfl | rfl
  · go_simp
    exact KK.out
  · go_simp
    exact KK.out
theorem wpOp_mv7 {x : Operand} {v : Value} (hi : ops[i]? = some { dst := some d, op := .move x, type := ty, pos := pos, after := after, guard := g })
    (hg : Region.wanted { dst := some d, op := .move x, type := ty, pos := pos, after := after, guard := g } (yielded ops a.tmps) = true) (hx : a.eval x = v) (hK : K (a.put (some d) v) w) : wpOp Tryz.prog ops Q i K a w := by
  refine wpOp_go hi hg ?_
  unfold Oper.wp
  have KK := Lib.hid hK
  clear hK hg hi
  generalize a.eval = ρ at *
  go_simp
  subst hx
  exact KK.out
theorem wpOp_idx7 {x y : Operand} {b j m c : Nat} (hi : ops[i]? = some { dst := some d, op := .indexAddr 34 x y, type := ty, pos := pos, after := after, guard := g })
    (hg : Region.wanted { dst := some d, op := .indexAddr 34 x y, type := ty, pos := pos, after := after, guard := g } (yielded ops a.tmps) = true) (hx : a.eval x = .slice (some ⟨b, 0, none⟩) m c) (hy : a.eval y = .int .i64 j) (hj : j < m) (hK : K (a.put (some d) (.pointer (some ⟨b, j, none⟩))) w) : wpOp Tryz.prog ops Q i K a w := by
  refine wpOp_go hi hg ?_
  unfold Oper.wp
  have KK := Lib.hid hK
  have hj' : (j : Int) < (m : Int) := by omega
  clear hK hg hi
  generalize a.eval = ρ at *
  go_simp
  exact KK.out
theorem wpOp_ldS7 {x : Operand} {b j : Nat} {s : ByteArray} (hi : ops[i]? = some { dst := some d, op := .load 9 x, type := ty, pos := pos, after := after, guard := g })
    (hg : Region.wanted { dst := some d, op := .load 9 x, type := ty, pos := pos, after := after, guard := g } (yielded ops a.tmps) = true) (hx : a.eval x = .pointer (some ⟨b, j, none⟩)) (hc : w.cell? ⟨b, j, none⟩ = some (.string s)) (hK : K (a.put (some d) (.string s)) w) : wpOp Tryz.prog ops Q i K a w := by
  refine wpOp_go hi hg ?_
  unfold Oper.wp
  have KK := Lib.hid hK
  clear hK hg hi
  generalize a.eval = ρ at *
  go_simp
  exact KK.out
theorem wpOp_strs27 {s0 s1 : ByteArray} (hi : ops[i]? = some { dst := some d, op := .buildSlice 34 2 #[(0, .const (.string s0)), (1, .const (.string s1))], type := ty, pos := pos, after := after, guard := g })
    (hg : Region.wanted { dst := some d, op := .buildSlice 34 2 #[(0, .const (.string s0)), (1, .const (.string s1))], type := ty, pos := pos, after := after, guard := g } (yielded ops a.tmps) = true) (hK : K (a.put (some d) (.slice (some ⟨w.heap.size, 0, none⟩) 2 2)) (w.alloc (.cells #[.string s0, .string s1] 9))) : wpOp Tryz.prog ops Q i K a w := by
  refine wpOp_go hi hg ?_
  unfold Oper.wp
  have KK := Lib.hid hK
  have e0 : a.eval (.const (.string s0)) = .string s0 := rfl
  have e1 : a.eval (.const (.string s1)) = .string s1 := rfl
  clear hK hg hi
  generalize a.eval = ρ at *
  go_simp
  exact KK.out
theorem wpOp_ints57 {z0 z1 z2 z3 z4 : Int} (hi : ops[i]? = some { dst := some d, op := .buildSlice 37 5 #[(0, .const (.int .i64 z0)), (1, .const (.int .i64 z1)), (2, .const (.int .i64 z2)), (3, .const (.int .i64 z3)), (4, .const (.int .i64 z4))], type := ty, pos := pos, after := after, guard := g })
    (hg : Region.wanted { dst := some d, op := .buildSlice 37 5 #[(0, .const (.int .i64 z0)), (1, .const (.int .i64 z1)), (2, .const (.int .i64 z2)), (3, .const (.int .i64 z3)), (4, .const (.int .i64 z4))], type := ty, pos := pos, after := after, guard := g } (yielded ops a.tmps) = true) (hK : K (a.put (some d) (.slice (some ⟨w.heap.size, 0, none⟩) 5 5)) (w.alloc (.cells #[.int .i64 z0, .int .i64 z1, .int .i64 z2, .int .i64 z3, .int .i64 z4] 3))) : wpOp Tryz.prog ops Q i K a w := by
  refine wpOp_go hi hg ?_
  unfold Oper.wp
  have KK := Lib.hid hK
  have e0 : a.eval (.const (.int .i64 z0)) = .int .i64 z0 := rfl
  have e1 : a.eval (.const (.int .i64 z1)) = .int .i64 z1 := rfl
  have e2 : a.eval (.const (.int .i64 z2)) = .int .i64 z2 := rfl
  have e3 : a.eval (.const (.int .i64 z3)) = .int .i64 z3 := rfl
  have e4 : a.eval (.const (.int .i64 z4)) = .int .i64 z4 := rfl
  clear hK hg hi
  generalize a.eval = ρ at *
  go_simp
  exact KK.out
end
theorem own_var {P : Nat → Prop} {w : World} {v : Value} {lo : Nat} {t : T} (h : (Fx.own lo t).holds P w v) : (Fx.var t).holds P w v := by
  obtain ⟨b, u, h1, -, h2, h3, h4⟩ := h
  exact ⟨b, u, h1, h2, h3, h4.keep (fun _ _ => rfl) fun k hk => hk.1⟩
/-- A value that is no pointer to a block below lo, nor to one that is not there. -/
def Old (lo : Nat) (v : Value) (w : World) : Prop := ∀ k, (k < lo ∨ w.heap.size ≤ k) → v ≠ .pointer (some ⟨k, 0, none⟩)
theorem Old.up {lo : Nat} {v : Value} {w w' : World} (h : Old lo v w) (hs : w.heap.size ≤ w'.heap.size) : Old lo v w' := fun k hk => h k (by omega)
/-- What the slots hold, and slot 6, whatever it is. -/
def St (wv : World) (S : List (Nat × Fx)) (a : Act) (w : World) : Prop := ∃ v6, Old wv.heap.size v6 w ∧ Mid 0 wv 153 ((6, .val v6) :: S) a w
/-- .. with a variable of the round in slot 6. -/
def StO (wv : World) (t : T) (S : List (Nat × Fx)) (a : Act) (w : World) : Prop := ∃ lo, wv.heap.size ≤ lo ∧ Mid 0 wv 153 ((6, .own lo t) :: S) a w
theorem Mid.sub {r : Nat} {w0 : World} {n : Nat} {S S' : List (Nat × Fx)} {a : Act} {w : World} (h : Mid r w0 n S a w) (hs : ∀ f, f ∈ S' → f ∈ S) : Mid r w0 n S' a w := ⟨h.size, h.defers, h.bel, h.low, fun f hf => h.facts f (hs f hf)⟩
theorem StO.old {wv : World} {t : T} {S S' : List (Nat × Fx)} {a : Act} {w : World} (h : StO wv t S a w) (hs : ∀ f, f ∈ S' → f ∈ S) : St wv S' a w := by
  obtain ⟨lo, hlo, hm⟩ := h
  obtain ⟨b, u, hv, hlb, hbs, -, -⟩ := hm.facts (6, .own lo t) (List.mem_cons_self ..)
  refine ⟨.pointer (some ⟨b, 0, none⟩), fun k hk e => ?_, hm.size, hm.defers, hm.bel, hm.low, fun f hf => ?_⟩
  · injection e with e
    injection e with e
    injection e with e
    have := hbs.1
    omega
  · rcases List.mem_cons.1 hf with rfl | hf
    · exact hv
    · exact hm.facts f (List.mem_cons_of_mem _ (hs f hf))
theorem St.sub {wv : World} {S S' : List (Nat × Fx)} {a : Act} {w : World} (h : St wv S a w) (hs : ∀ f, f ∈ S' → f ∈ S) : St wv S' a w := by
  obtain ⟨v6, ho, hm⟩ := h
  exact ⟨v6, ho, hm.sub fun f hf => by
    rcases List.mem_cons.1 hf with rfl | hf
    · exact List.mem_cons_self ..
    · exact List.mem_cons_of_mem _ (hs f hf)⟩
end Go.Proofs.YtfmjhbaenpbfoaaGreatDoor

namespace Go.Proofs.YtfmjhbaenpbfoaaGreatDoor
open Go.RowKit

theorem Tri.go {c : Code} {I J : Act → World → Prop} {Q : Exit → Act → World → Prop} {a : Act} {w : World} (h : Tri c I J) (hI : I a w) (hQ : ∀ a' w', J a' w' → Q .normal a' w') : c.wp Tryz.prog Q a w := h Q a w hI hQ

section
variable {ops : Array Oper} {Q : Exit → Act → World → Prop} {K : Act → World → Prop} {a : Act} {w : World} {i d : Nat} {ty : TypeId} {pos : String} {after : Array Edge} {g : Option (Nat × Bool)} {r n : Nat} {w0 : World}

theorem Mid.put {S : List (Nat × Fx)} (h : Mid r w0 n S a w) (v : Value) (hd : d < n) (hS : (S.all fun f => f.1 != d) = true) : Mid r w0 n ((d, .val v) :: S) (a.put (some d) v) w := by
  refine ⟨?_, h.defers, h.bel, h.low, fun f hf => ?_⟩
  · show (a.tmps.setIfInBounds d v).size = n
    rw [Array.size_setIfInBounds]
    exact h.size
  · rcases List.mem_cons.1 hf with rfl | hf
    · exact eval_put_same a d v (by rw [h.size]; exact hd)
    · have hne : f.1 ≠ d := by
        have := List.all_eq_true.1 hS f hf
        simpa using this
      rw [eval_put_ne _ _ _ _ hne]
      exact h.facts f hf
theorem Mid.at {S : List (Nat × Fx)} (h : Mid r w0 n S a w) {x : Nat} {v : Value} (hx : (x, .val v) ∈ S) : a.eval (.tmp x) = v := h.facts (x, .val v) hx
theorem wpOp_len7 {x : Operand} {ao : Option Addr} {m c : Nat} {te : TypeId} (hte : te = 34 ∨ te = 37) (hi : ops[i]? = some { dst := some d, op := .call { callee := .builtin .len, args := #[x], argTypes := #[te] }, type := ty, pos := pos, after := after, guard := g })
    (hg : Region.wanted { dst := some d, op := .call { callee := .builtin .len, args := #[x], argTypes := #[te] }, type := ty, pos := pos, after := after, guard := g } (yielded ops a.tmps) = true) (hx : a.eval x = .slice ao m c) (hK : K (a.put (some d) (.int .i64 m)) w) : wpOp Tryz.prog ops Q i K a w := by
  refine wpOp_go hi hg ?_
  unfold Oper.wp
  have KK := Lib.hid hK
  clear hK hg hi
  generalize a.eval = ρ at *
  rcases hte with rfl | rfl
  · go_simp
    exact KK.out
  · go_simp
    exact KK.out
theorem wpOp_less7 {x y : Operand} {p q : Int} (hi : ops[i]? = some { dst := some d, op := .binOp .lss 3 x y 3, type := ty, pos := pos, after := after, guard := g })
    (hg : Region.wanted { dst := some d, op := .binOp .lss 3 x y 3, type := ty, pos := pos, after := after, guard := g } (yielded ops a.tmps) = true) (hx : a.eval x = .int .i64 p) (hy : a.eval y = .int .i64 q) (hK : K (a.put (some d) (.bool (decide (p < q)))) w) : wpOp Tryz.prog ops Q i K a w := by
  refine wpOp_go hi hg ?_
  unfold Oper.wp
  have KK := Lib.hid hK
  clear hK hg hi
  generalize a.eval = ρ at *
  go_simp
  exact KK.out
theorem wpOp_addOne7 {x : Operand} {p : Nat} (hi : ops[i]? = some { dst := some d, op := .binOp .add 3 x (.const (.int .i64 1)) 3, type := ty, pos := pos, after := after, guard := g })
    (hg : Region.wanted { dst := some d, op := .binOp .add 3 x (.const (.int .i64 1)) 3, type := ty, pos := pos, after := after, guard := g } (yielded ops a.tmps) = true) (hx : a.eval x = .int .i64 p) (hp : p ≤ 1000000) (hK : K (a.put (some d) (.int .i64 ((p + 1 : Nat) : Int))) w) : wpOp Tryz.prog ops Q i K a w := by
  refine wpOp_go hi hg ?_
  unfold Oper.wp
  have e1 : a.eval (.const (.int .i64 1)) = .int .i64 1 := rfl
  have hv : (Value.int .i64 ((p + 1 : Nat) : Int)) = .int .i64 ((p : Int) + 1) := by rw [Int.natCast_succ]
  rw [hv] at hK
  have KK := Lib.hid hK
  have hr1 : wrap64 ((p : Int) + 1) = (p : Int) + 1 := by unfold wrap64; omega
  have hwr : IntKind.i64.wrap ((p : Int) + 1) = (p : Int) + 1 := (IntWalk.i64_left _).trans hr1
  clear hr1
  clear hK hg hi hv
  generalize a.eval = ρ at *
  go_simp
  exact KK.out
theorem wpOp_not7 {x : Operand} (hi : ops[i]? = some { dst := some d, op := .unOp .not 4 x, type := ty, pos := pos, after := after, guard := g })
    (hg : Region.wanted { dst := some d, op := .unOp .not 4 x, type := ty, pos := pos, after := after, guard := g } (yielded ops a.tmps) = true) (hx : a.eval x = .bool true) (hK : K (a.put (some d) (.bool false)) w) : wpOp Tryz.prog ops Q i K a w := by
  refine wpOp_go hi hg ?_
  unfold Oper.wp
  have KK := Lib.hid hK
  clear hK hg hi
  generalize a.eval = ρ at *
  go_simp
  exact KK.out
end

/-- What the slots hold, and slot q, whatever it is. -/
def StG (q r : Nat) (wv : World) (S : List (Nat × Fx)) (a : Act) (w : World) : Prop := ∃ v, Old wv.heap.size v w ∧ Mid r wv 153 ((q, .val v) :: S) a w
/-- .. with a variable of the round in slot q. -/
def StV (q r : Nat) (wv : World) (t : T) (S : List (Nat × Fx)) (a : Act) (w : World) : Prop := ∃ lo, wv.heap.size ≤ lo ∧ Mid r wv 153 ((q, .own lo t) :: S) a w
theorem StV.old {q r : Nat} {wv : World} {t : T} {S S' : List (Nat × Fx)} {a : Act} {w : World} (h : StV q r wv t S a w) (hs : ∀ f, f ∈ S' → f ∈ S) : StG q r wv S' a w := by
  obtain ⟨lo, hlo, hm⟩ := h
  obtain ⟨b, u, hv, hlb, hbs, -, -⟩ := hm.facts (q, .own lo t) (List.mem_cons_self ..)
  refine ⟨.pointer (some ⟨b, 0, none⟩), fun k hk e => ?_, hm.size, hm.defers, hm.bel, hm.low, fun f hf => ?_⟩
  · injection e with e
    injection e with e
    injection e with e
    have := hbs.1
    omega
  · rcases List.mem_cons.1 hf with rfl | hf
    · exact hv
    · exact hm.facts f (List.mem_cons_of_mem _ (hs f hf))
theorem StG.sub {q r : Nat} {wv : World} {S S' : List (Nat × Fx)} {a : Act} {w : World} (h : StG q r wv S a w) (hs : ∀ f, f ∈ S' → f ∈ S) : StG q r wv S' a w := by
  obtain ⟨v6, ho, hm⟩ := h
  exact ⟨v6, ho, hm.sub fun f hf => by
    rcases List.mem_cons.1 hf with rfl | hf
    · exact List.mem_cons_self ..
    · exact List.mem_cons_of_mem _ (hs f hf)⟩
theorem StG.at {q r : Nat} {wv : World} {S : List (Nat × Fx)} {a : Act} {w : World} (h : StG q r wv S a w) {x : Nat} {v : Value} (hx : (x, .val v) ∈ S) : a.eval (.tmp x) = v := by
  obtain ⟨v6, ho, hm⟩ := h
  exact hm.at (List.mem_cons_of_mem _ hx)
/-- The number in a slot. -/
def cntA (x : Nat) (a : Act) : Nat := match a.eval (.tmp x) with | .int _ z => z.toNat | _ => 0
theorem StG.cnt {q r : Nat} {wv : World} {S : List (Nat × Fx)} {a : Act} {w : World} (h : StG q r wv S a w) {x k : Nat} (hx : (x, .val (.int .i64 ((k : Nat) : Int))) ∈ S) : cntA x a = k := by
  unfold cntA
  rw [h.at hx]
  exact Int.toNat_natCast k

section
variable {q r : Nat} {wv : World} {S : List (Nat × Fx)} {id : Nat}
/-- A slot is set to 0. -/
theorem tri_zero {x : Nat} {ty : TypeId} {pos : String} {after : Array Edge} (hx : x < 153) (hS : (((q, Fx.no) :: S).all fun f => f.1 != x) = true) :
    Tri (Code.region id #[{ dst := some x, op := .assign (.const (.int .i64 0)), type := ty, pos := pos, after := after, guard := none }] false) (StG q r wv S) (StG q r wv ((x, .val (.int .i64 ((0 : Nat) : Int))) :: S)) := by
  intro Q a w ⟨v, ho, hm⟩ hQ
  refine wp_region ?_
  show wpOps _ _ Q [0] a w
  rw [wpOps_cons]
  refine wpOp_asg7 (v := .int .i64 ((0 : Nat) : Int)) rfl rfl rfl (hQ _ _ ⟨v, ho, ?_⟩)
  have h1 := hm.put (.int .i64 ((0 : Nat) : Int)) hx hS
  exact h1.sub fun f hf => by
    rcases List.mem_cons.1 hf with rfl | hf
    · exact List.mem_cons_of_mem _ (List.mem_cons_self ..)
    · rcases List.mem_cons.1 hf with rfl | hf
      · exact List.mem_cons_self ..
      · exact List.mem_cons_of_mem _ (List.mem_cons_of_mem _ hf)
/-- A count goes on. -/
theorem tri_inc {x t1 t2 k : Nat} {ty1 ty2 ty3 : TypeId} {p1 p2 p3 : String} {f1 f2 f3 : Array Edge} (hx : x < 153) (ht1 : t1 < 153) (ht2 : t2 < 153) (hk : k ≤ 1000000) (hS : (((q, Fx.no) :: S).all fun f => f.1 != x) = true) (h1 : (((q, Fx.no) :: (x, Fx.no) :: S).all fun f => f.1 != t1) = true) (h2 : (((t1, Fx.no) :: (q, Fx.no) :: (x, Fx.no) :: S).all fun f => f.1 != t2) = true) :
    Tri (Code.region id #[{ dst := some t1, op := .move (.tmp x), type := ty1, pos := p1, after := f1, guard := none }, { dst := some t2, op := .binOp .add 3 (.tmp t1) (.const (.int .i64 1)) 3, type := ty2, pos := p2, after := f2, guard := none }, { dst := some x, op := .assign (.tmp t2), type := ty3, pos := p3, after := f3, guard := none }] false)
      (StG q r wv ((x, .val (.int .i64 ((k : Nat) : Int))) :: S)) (StG q r wv ((x, .val (.int .i64 ((k + 1 : Nat) : Int))) :: S)) := by
  intro Q a w ⟨v, ho, hm⟩ hQ
  have hall : ∀ {d : Nat} {f : Nat × Fx}, f ∈ S → ∀ {L : List (Nat × Fx)}, (L.all fun f => f.1 != d) = true → f ∈ L → f.1 ≠ d := fun {d f} _ {L} hL hf => by simpa using List.all_eq_true.1 hL f hf
  have e1 : a.eval (.tmp x) = .int .i64 ((k : Nat) : Int) := hm.at (List.mem_cons_of_mem _ (List.mem_cons_self ..))
  have m1 := hm.put (d := t1) (.int .i64 ((k : Nat) : Int)) ht1 (by simpa using h1)
  have m2 := m1.put (d := t2) (.int .i64 ((k + 1 : Nat) : Int)) ht2 (by simpa using h2)
  refine wp_region ?_
  show wpOps _ _ Q [0, 1, 2] a w
  rw [wpOps_cons]
  refine wpOp_mv7 rfl rfl e1 ?_
  rw [wpOps_cons]
  refine wpOp_addOne7 rfl rfl (m1.at (List.mem_cons_self ..)) hk ?_
  rw [wpOps_cons]
  refine wpOp_asg7 rfl rfl (m2.at (List.mem_cons_self ..)) (hQ _ _ ⟨v, ho, ?_⟩)
  have m3 := (m2.sub (S' := (q, .val v) :: S) (fun f hf => by
    rcases List.mem_cons.1 hf with rfl | hf
    · exact List.mem_cons_of_mem _ (List.mem_cons_of_mem _ (List.mem_cons_self ..))
    · exact List.mem_cons_of_mem _ (List.mem_cons_of_mem _ (List.mem_cons_of_mem _ (List.mem_cons_of_mem _ hf))))).put (d := x) (.int .i64 ((k + 1 : Nat) : Int)) hx (by simpa using hS)
  exact m3.sub fun f hf => by
    rcases List.mem_cons.1 hf with rfl | hf
    · exact List.mem_cons_of_mem _ (List.mem_cons_self ..)
    · rcases List.mem_cons.1 hf with rfl | hf
      · exact List.mem_cons_self ..
      · exact List.mem_cons_of_mem _ (List.mem_cons_of_mem _ hf)
theorem StG.put {a : Act} {w : World} (h : StG q r wv S a w) {d : Nat} (v : Value) (hd : d < 153) (hS : (((q, Fx.no) :: S).all fun f => f.1 != d) = true) : StG q r wv ((d, .val v) :: S) (a.put (some d) v) w := by
  obtain ⟨v6, ho, hm⟩ := h
  refine ⟨v6, ho, (hm.put v hd (by simpa using hS)).sub fun f hf => ?_⟩
  rcases List.mem_cons.1 hf with rfl | hf
  · exact List.mem_cons_of_mem _ (List.mem_cons_self ..)
  · rcases List.mem_cons.1 hf with rfl | hf
    · exact List.mem_cons_self ..
    · exact List.mem_cons_of_mem _ (List.mem_cons_of_mem _ hf)
/-- Is the count less than a slice is long? -/
theorem tri_head {x sl t1 t2 t3 t4 k m c : Nat} {ao : Option Addr} {te ty1 ty2 ty3 ty4 : TypeId} {p1 p2 p3 p4 : String} {f1 f2 f3 f4 : Array Edge} (hte : te = 34 ∨ te = 37)
    (hx : (x, .val (.int .i64 ((k : Nat) : Int))) ∈ S) (hsl : (sl, .val (.slice ao m c)) ∈ S) (ht1 : t1 < 153) (ht2 : t2 < 153) (ht3 : t3 < 153) (ht4 : t4 < 153)
    (h1 : (((q, Fx.no) :: S).all fun f => f.1 != t1) = true) (h2 : (((q, Fx.no) :: (t1, Fx.no) :: S).all fun f => f.1 != t2) = true) (h3 : (((q, Fx.no) :: (t2, Fx.no) :: (t1, Fx.no) :: S).all fun f => f.1 != t3) = true) (h4 : (((q, Fx.no) :: (t3, Fx.no) :: (t2, Fx.no) :: (t1, Fx.no) :: S).all fun f => f.1 != t4) = true) :
    Tri (Code.region id #[{ dst := some t1, op := .move (.tmp x), type := ty1, pos := p1, after := f1, guard := none }, { dst := some t2, op := .move (.tmp sl), type := ty2, pos := p2, after := f2, guard := none }, { dst := some t3, op := .call { callee := .builtin .len, args := #[.tmp t2], argTypes := #[te] }, type := ty3, pos := p3, after := f3, guard := none }, { dst := some t4, op := .binOp .lss 3 (.tmp t1) (.tmp t3) 3, type := ty4, pos := p4, after := f4, guard := none }] false)
      (StG q r wv S) (fun a w => StG q r wv S a w ∧ a.eval (.tmp t4) = .bool (decide (k < m))) := by
  intro Q a w h hQ
  have m1 := h.put (d := t1) (.int .i64 ((k : Nat) : Int)) ht1 h1
  have m2 := m1.put (d := t2) (.slice ao m c) ht2 (by simpa using h2)
  have m3 := m2.put (d := t3) (.int .i64 ((m : Nat) : Int)) ht3 (by simpa using h3)
  have m4 := m3.put (d := t4) (.bool (decide ((k : Int) < (m : Int)))) ht4 (by simpa using h4)
  refine wp_region ?_
  show wpOps _ _ Q [0, 1, 2, 3] a w
  rw [wpOps_cons]
  refine wpOp_mv7 rfl rfl (h.at hx) ?_
  rw [wpOps_cons]
  refine wpOp_mv7 rfl rfl (m1.at (List.mem_cons_of_mem _ hsl)) ?_
  rw [wpOps_cons]
  refine wpOp_len7 hte rfl rfl (m2.at (List.mem_cons_self ..)) ?_
  rw [wpOps_cons]
  refine wpOp_less7 rfl rfl (m3.at (List.mem_cons_of_mem _ (List.mem_cons_of_mem _ (List.mem_cons_self ..)))) (m3.at (List.mem_cons_self ..)) (hQ _ _ ⟨m4.sub fun f hf => ?_, ?_⟩)
  · exact List.mem_cons_of_mem _ (List.mem_cons_of_mem _ (List.mem_cons_of_mem _ (List.mem_cons_of_mem _ hf)))
  · rw [m4.at (List.mem_cons_self ..)]
    exact congrArg _ (decide_eq_decide.2 (by omega))
/-- Is the count less than 2? -/
theorem tri_head2 {x t1 t4 k : Nat} {ty1 ty4 : TypeId} {p1 p4 : String} {f1 f4 : Array Edge}
    (hx : (x, .val (.int .i64 ((k : Nat) : Int))) ∈ S) (ht1 : t1 < 153) (ht4 : t4 < 153)
    (h1 : (((q, Fx.no) :: S).all fun f => f.1 != t1) = true) (h4 : (((q, Fx.no) :: (t1, Fx.no) :: S).all fun f => f.1 != t4) = true) :
    Tri (Code.region id #[{ dst := some t1, op := .move (.tmp x), type := ty1, pos := p1, after := f1, guard := none }, { dst := some t4, op := .binOp .lss 3 (.tmp t1) (.const (.int .i64 2)) 3, type := ty4, pos := p4, after := f4, guard := none }] false)
      (StG q r wv S) (fun a w => StG q r wv S a w ∧ a.eval (.tmp t4) = .bool (decide (k < 2))) := by
  intro Q a w h hQ
  have m1 := h.put (d := t1) (.int .i64 ((k : Nat) : Int)) ht1 h1
  have m4 := m1.put (d := t4) (.bool (decide ((k : Int) < (2 : Int)))) ht4 (by simpa using h4)
  refine wp_region ?_
  show wpOps _ _ Q [0, 1] a w
  rw [wpOps_cons]
  refine wpOp_mv7 rfl rfl (h.at hx) ?_
  rw [wpOps_cons]
  refine wpOp_less7 rfl rfl (m1.at (List.mem_cons_self ..)) rfl (hQ _ _ ⟨m4.sub fun f hf => ?_, ?_⟩)
  · exact List.mem_cons_of_mem _ (List.mem_cons_of_mem _ hf)
  · rw [m4.at (List.mem_cons_self ..)]
    exact congrArg _ (decide_eq_decide.2 (by omega))
end
/-- A region that goes in its own order, its last operation apart. -/
theorem wp_region_seqL {P : Program} {ops : Array Oper} {Q : Exit → Act → World → Prop} {id : Nat} {a : Act} {w : World} (last : Nat) (I : Array Bool → Act → World → Prop) (he : earlier7 ops = true) (hl : ops.size = last + 1)
    (start : I (Array.replicate ops.size false) a w)
    (step : ∀ (listed : Array Bool) (a : Act) (w : World) (i : Nat), I listed a w → i ∈ Region.ready .any ops listed → i < last → wpOp P ops Q i (I (listed.setIfInBounds i true)) a w)
    (fin : ∀ (listed : Array Bool) (a : Act) (w : World), I listed a w → last ∈ Region.ready .any ops listed → wpOp P ops Q last (Q .normal) a w) : (Code.region id ops false).wp P Q a w := by
  refine wp_region ?_
  have gen : ∀ (m k : Nat) (listed : Array Bool) (a : Act) (w : World), k + m = last → (∀ j, j < k → listed.getD j false = true) → (∀ j, k ≤ j → j < ops.size → listed.getD j true = false) → listed.size = ops.size → I listed a w → wpOps P ops Q (List.range' k (m + 1)) a w := by
    intro m
    induction m with
    | zero =>
      intro k listed a w hk h1 h2 hs hI
      rw [List.range'_succ, wpOps_cons]
      have hks : k < ops.size := by omega
      have hr : k ∈ Region.ready .any ops listed := by
        refine mem_ready.2 ⟨h2 k (Nat.le_refl _) hks, ops[k], Array.getElem?_eq_getElem hks, fun e hm hbd => ?_⟩
        have h3 := List.all_eq_true.1 he k (List.mem_range.2 hks)
        rw [Array.getElem?_eq_getElem hks] at h3
        have h4 := List.all_eq_true.1 h3 e (by simpa using hm)
        rw [hbd] at h4
        exact h1 e.on (of_decide_eq_true (by simpa using h4))
      obtain rfl : k = last := by omega
      exact wpOp_mono (fun a' w' h' => wpOps_nil7 a' w' h') (fin listed a w hI hr)
    | succ m ih =>
      intro k listed a w hk h1 h2 hs hI
      rw [List.range'_succ, wpOps_cons]
      have hks : k < ops.size := by omega
      have hr : k ∈ Region.ready .any ops listed := by
        refine mem_ready.2 ⟨h2 k (Nat.le_refl _) hks, ops[k], Array.getElem?_eq_getElem hks, fun e hm hbd => ?_⟩
        have h3 := List.all_eq_true.1 he k (List.mem_range.2 hks)
        rw [Array.getElem?_eq_getElem hks] at h3
        have h4 := List.all_eq_true.1 h3 e (by simpa using hm)
        rw [hbd] at h4
        exact h1 e.on (of_decide_eq_true (by simpa using h4))
      refine wpOp_mono (fun a' w' h' => ih (k + 1) _ a' w' (by omega) (fun j hj => ?_) (fun j hj hjs => ?_) (by rw [Array.size_setIfInBounds]; exact hs) h') (step listed a w k hI hr (by omega))
      · by_cases e : j = k
        · subst e
          have : j < listed.size := by omega
          simp [this]
        · rw [getD_set_ne false (fun h => e h.symm)]
          exact h1 j (by omega)
      · rw [getD_set_ne true (by omega)]
        exact h2 j (by omega) hjs
  have := gen last 0 (Array.replicate ops.size false) a w (by omega) (fun j hj => absurd hj (Nat.not_lt_zero _)) (fun j _ hj => by simp [hj]) (by simp) start
  rwa [← List.range_eq_range', ← hl] at this
/-- What stays where the world grows. -/
theorem Mid.up {r n : Nat} {w0 w w' : World} {S : List (Nat × Fx)} {a : Act} (h : Mid r w0 n S a w) (b : Below w.heap.size w w') : Mid r w0 n S a w' :=
  ⟨h.size, h.defers, h.bel.trans (b.mono h.bel.size), Nat.le_trans h.low b.size, fun f hf => Fx.keep (h.facts f hf) b (fun _ hk => hk.1) (fun _ hk => ⟨Nat.lt_of_lt_of_le hk.1 b.size, hk.2⟩)⟩
theorem StG.up {q r : Nat} {wv w w' : World} {S : List (Nat × Fx)} {a : Act} (h : StG q r wv S a w) (b : Below w.heap.size w w') : StG q r wv S a w' := by
  obtain ⟨v, ho, hm⟩ := h
  exact ⟨v, ho.up b.size, hm.up b⟩
/-- Where all that is known lies below lo: a region that goes in its own order begins. -/
theorem startL0 {r bs n lo : Nat} {F : List (Option Nat × Nat × Fx)} {a : Act} {w : World} (hsz : a.tmps.size = n) (hdf : a.defers = []) (hlo : lo ≤ w.heap.size) (hr : r ≤ w.heap.size) (hF : ∀ f, f ∈ F → f.1 = none → f.2.2.holds (fun k => k < lo ∧ r ≤ k) w (a.eval (.tmp f.2.1))) (hbs : ∀ k, (k < lo ∨ w.heap.size ≤ k) → a.eval (.tmp bs) ≠ .pointer (some ⟨k, 0, none⟩)) (m : Nat) : Reg r w bs n F (Array.replicate m false) a w where
  size := hsz
  defers := hdf
  bel := Below.refl _ _
  low := hr
  fresh := fun k hk => hbs k (Or.inr hk)
  facts := fun f hf hdone => by
    cases hc : f.1 with
    | none => exact Fx.keep (hF f hf hc) (Below.refl _ _) (fun _ hk => Nat.lt_of_lt_of_le hk.1 hlo) (fun k hk => ⟨Nat.lt_of_lt_of_le hk.1 hlo, hk.2, hbs k (Or.inl hk.1)⟩)
    | some j =>
      have := hdone j hc
      simp [Array.getElem?_replicate] at this
      split at this <;> simp at this
/-- A program of one rule lies in variable b; its rule's number is set where it lies. -/
theorem kid_set {w : World} {r b : Nat} {u : Value} {e : ByteArray} {k0 m : Int} {q : T} (hst : Stood True (fun j => (j < w.heap.size ∧ r ≤ j) ∧ j ≠ b) w (.mk k0 e 0 0 [q]) u) (hq : q.kids = []) :
    ∃ kb off c, u = .slice (some ⟨kb, off, none⟩) 1 c ∧ r ≤ kb ∧ kb < w.heap.size ∧ kb ≠ b ∧ w.cell? ⟨kb, off + 2, none⟩ = some (.int .i64 q.num) ∧ w.frozen? ⟨kb, off + 2, none⟩ = false ∧
      Lies (w.setCell ⟨kb, off + 2, none⟩ (.int .i64 m)).heap.size (w.setCell ⟨kb, off + 2, none⟩ (.int .i64 m)) (.mk k0 e 0 0 [.mk q.kind q.text m q.pos q.kids]) u := by
  obtain ⟨ao, c, ps, rfl, hk⟩ := hst.out
  obtain ⟨kb, off, rfl, ⟨⟨hlt, hr⟩, hne⟩, hc⟩ := hk.sl (cellsN_ne (by rw [hk.len]; exact Nat.zero_lt_one))
  obtain ⟨hf, cs, ty, fr, hh, hfr⟩ := hk.good Nat.zero_lt_one _ rfl
  obtain rfl := hfr trivial
  obtain ⟨p, rfl⟩ : ∃ p, ps = [p] := by
    have h1 := hk.len
    match ps, h1 with
    | [p], _ => exact ⟨p, rfl⟩
  have hp1 : p.1 = q := by
    have := hk.kids
    simpa [T.kids] using this
  have hcell : ∀ j, w.cell? ⟨kb, j, none⟩ = cs[j]? := Lib.cell_of_heap hh
  have c2 : w.cell? ⟨kb, off + 2, none⟩ = some (.int .i64 q.num) := by
    rw [← hp1]
    exact hc 2 _ rfl
  have hin : off + 2 < cs.size := by
    rw [hcell] at c2
    exact (Array.getElem?_eq_some_iff.1 c2).1
  have hh' := Lib.heap_setCell_same (i := off + 2) hh (.int .i64 m)
  have hcell' : ∀ j, (w.setCell ⟨kb, off + 2, none⟩ (.int .i64 m)).cell? ⟨kb, j, none⟩ = (cs.setIfInBounds (off + 2) (.int .i64 m))[j]? := Lib.cell_of_heap hh'
  have hsz : (w.setCell ⟨kb, off + 2, none⟩ (.int .i64 m)).heap.size = w.heap.size := by simp [World.setCell]
  refine ⟨kb, off, c, rfl, hr, hlt, hne, c2, Lib.frozen_of_heap hh _, ?_⟩
  refine .mk (.mk k0 e 0 0 [.mk q.kind q.text m q.pos q.kids]) (some ⟨kb, off, none⟩) c [(.mk q.kind q.text m q.pos q.kids, p.2)] rfl (fun _ => ⟨kb, off, rfl, by rw [hsz]; exact hlt, fun j v hv => ?_⟩) (fun h => by cases h) hk.cap hk.top (fun p' hp' => ?_)
  · rw [hcell']
    by_cases hj : j = 2
    · subst hj
      have hv' : v = .int .i64 m := (Option.some.inj hv).symm
      rw [hv']
      simp [hin]
    · have h1 : (cellsN [p])[j]? = some v := by
        rw [← hv]
        have hp1' := hp1
        match j, hj with
        | 0, _ => simp [cellsN, hp1', T.kind]
        | 1, _ => simp [cellsN, hp1', T.text]
        | 3, _ => simp [cellsN, hp1', T.pos]
        | 4, _ => simp [cellsN]
        | (j + 5), _ => simp [cellsN]
      have h2 := hc j v h1
      rw [hcell] at h2
      rw [Array.getElem?_setIfInBounds_ne (by omega)]
      exact h2
  · obtain rfl := List.mem_singleton.1 hp'
    have hp := hk.each p (List.mem_cons_self ..)
    rw [hp1] at hp
    obtain ⟨ao', c', ps', hu, hk'⟩ := hp.out
    have hl0 : q.kids.length = 0 := by rw [hq]; rfl
    have hps : ps' = [] := by
      have := hk'.len
      rw [hl0] at this
      exact List.eq_nil_of_length_eq_zero this
    subst hps
    show Lies _ _ _ p.2
    rw [hu]
    have := Lies.mk (B := (w.setCell ⟨kb, off + 2, none⟩ (.int .i64 m)).heap.size) (w := w.setCell ⟨kb, off + 2, none⟩ (.int .i64 m)) (.mk q.kind q.text m q.pos q.kids) ao' c' [] (by rw [hq]; rfl) (fun hn => absurd rfl hn) hk'.nil hk'.cap hk'.top (fun p hp => by cases hp)
    exact this
section
variable {ops : Array Oper} {Q : Exit → Act → World → Prop} {K : Act → World → Prop} {a : Act} {w : World} {i d : Nat} {ty : TypeId} {pos : String} {after : Array Edge} {g : Option (Nat × Bool)} {ts : Array TypeId} {r : Nat} {w0 : World} {bs n : Nat} {F : List (Option Nat × Nat × Fx)} {listed : Array Bool}
set_option maxRecDepth 100000 in
theorem Reg.fld (h : Reg r w0 bs n F listed a w) {x : Operand} {b j k : Nat} (hk : k = 2 ∨ k = 4) (hi : ops[i]? = some { dst := some d, op := .fieldAddr 25 x k, type := ty, pos := pos, after := after, guard := g })
    (hg : Region.wanted { dst := some d, op := .fieldAddr 25 x k, type := ty, pos := pos, after := after, guard := g } (yielded ops a.tmps) = true) (hx : a.eval x = .pointer (some ⟨b, j, none⟩)) (hU : F.filter (fun f => f.1 == some i) = [(some i, d, .val (.pointer (some ⟨b, j + k, none⟩)))]) (hA : (F.all fun f => f.1 == some i || f.2.1 != d) = true) (hd : d < n) (hbs : d ≠ bs) : wpOp Tryz.prog ops Q i (Reg r w0 bs n F (listed.setIfInBounds i true)) a w := by
  have hK := h.one (i := i) (d := d) (Below.refl _ _) _ hU hA hd (fun e => absurd e hbs) rfl
  refine wpOp_go hi hg ?_
  unfold Oper.wp
  have KK := Lib.hid hK
  clear hK hg hi hU hA
  generalize a.eval = ρ at *
  rcases hk with rfl | rfl
  · go_simp
    exact KK.out
  · go_simp
    exact KK.out
theorem Reg.ldr (h : Reg r w0 bs n F listed a w) {x : Operand} {b j : Nat} {v : Value} (hi : ops[i]? = some { dst := some d, op := .load 23 x, type := ty, pos := pos, after := after, guard := g })
    (hg : Region.wanted { dst := some d, op := .load 23 x, type := ty, pos := pos, after := after, guard := g } (yielded ops a.tmps) = true) (hx : a.eval x = .pointer (some ⟨b, j, none⟩)) (hb : b < w0.heap.size) (hc : w0.cell? ⟨b, j, none⟩ = some v) (hU : F.filter (fun f => f.1 == some i) = [(some i, d, .val v)]) (hA : (F.all fun f => f.1 == some i || f.2.1 != d) = true) (hd : d < n) (hbs : d ≠ bs) : wpOp Tryz.prog ops Q i (Reg r w0 bs n F (listed.setIfInBounds i true)) a w := by
  have hK := h.one (i := i) (d := d) (Below.refl _ _) v hU hA hd (fun e => absurd e hbs) rfl
  have hcw : w.cell? ⟨b, j, none⟩ = some v := (h.bel.cell (p := ⟨b, j, none⟩) hb).trans hc
  refine wpOp_go hi hg ?_
  unfold Oper.wp
  have KK := Lib.hid hK
  clear hK hg hi hU hA hc
  generalize a.eval = ρ at *
  go_simp
  exact KK.out
theorem Reg.idx0 (h : Reg r w0 bs n F listed a w) {x : Operand} {b j c : Nat} (hi : ops[i]? = some { dst := some d, op := .indexAddr 23 x (.const (.int .i64 0)), type := ty, pos := pos, after := after, guard := g })
    (hg : Region.wanted { dst := some d, op := .indexAddr 23 x (.const (.int .i64 0)), type := ty, pos := pos, after := after, guard := g } (yielded ops a.tmps) = true) (hx : a.eval x = .slice (some ⟨b, j, none⟩) 1 c) (hU : F.filter (fun f => f.1 == some i) = [(some i, d, .val (.pointer (some ⟨b, j, none⟩)))]) (hA : (F.all fun f => f.1 == some i || f.2.1 != d) = true) (hd : d < n) (hbs : d ≠ bs) : wpOp Tryz.prog ops Q i (Reg r w0 bs n F (listed.setIfInBounds i true)) a w := by
  have hK := h.one (i := i) (d := d) (Below.refl _ _) _ hU hA hd (fun e => absurd e hbs) rfl
  refine wpOp_go hi hg ?_
  unfold Oper.wp
  have e1 : a.eval (.const (.int .i64 0)) = .int .i64 0 := rfl
  have KK := Lib.hid hK
  clear hK hg hi hU hA
  generalize a.eval = ρ at *
  go_simp
  exact KK.out
theorem wpOp_storeInt {x y : Operand} {b j : Nat} {z z0 : Int} (hi : ops[i]? = some { dst := none, op := .store 3 x y, type := ty, pos := pos, after := after, guard := g })
    (hg : Region.wanted { dst := none, op := .store 3 x y, type := ty, pos := pos, after := after, guard := g } (yielded ops a.tmps) = true) (hx : a.eval x = .pointer (some ⟨b, j, none⟩)) (hy : a.eval y = .int .i64 z) (hc : w.cell? ⟨b, j, none⟩ = some (.int .i64 z0)) (hf : w.frozen? ⟨b, j, none⟩ = false)
    (hK : K a (w.setCell ⟨b, j, none⟩ (.int .i64 z))) : wpOp Tryz.prog ops Q i K a w := by
  refine wpOp_go hi hg ?_
  unfold Oper.wp
  have KK := Lib.hid hK
  clear hK hg hi
  generalize a.eval = ρ at *
  go_simp
  exact KK.out
end
/-- A region whose last operation waits for all others, at one remove too. -/
theorem wp_region_reg2 {ops : Array Oper} {Q : Exit → Act → World → Prop} {a : Act} {w : World} {r bs n : Nat} {w0 : World} {F : List (Option Nat × Nat × Fx)} {id last : Nat} {P : Program} (hm : P.follows .mixedOrders = true) (he : earlier ops = true) (hl : last < ops.size) (hlast : ((List.range ops.size).all fun j => j == last || waitsFor ops last j || (List.range ops.size).any fun m => waitsFor ops last m && waitsFor ops m j) = true)
    (start : Reg r w0 bs n F (Array.replicate ops.size false) a w.drew)
    (step : ∀ (listed : Array Bool) (a : Act) (w : World) (i : Nat), Reg r w0 bs n F listed a w → i ∈ Region.ready .any ops listed → i < ops.size → i ≠ last → wpOp P ops Q i (Reg r w0 bs n F (listed.setIfInBounds i true)) a w)
    (fin : ∀ (listed : Array Bool) (a : Act) (w : World), Reg r w0 bs n F listed a w → last ∈ Region.ready .any ops listed → wpOp P ops Q last (Q .normal) a w) : (Code.region id ops true).wp P Q a w := by
  refine wp_region_inv (fun listed a w => (∀ m j, waitsFor ops m j = true → listed.getD m false = true → listed.getD j false = true) ∧ ((listed.getD last false = false ∧ Reg r w0 bs n F listed a w) ∨ ((∀ j, j < ops.size → listed.getD j false = true) ∧ Q .normal a w))) hm he ⟨fun m j _ hd => ?_, Or.inl ⟨by simp [hl], start⟩⟩ (fun l a w i hs h hi => ?_) (fun l a w h hall => ?_)
  · simp [Array.getElem?_replicate] at hd
    split at hd <;> simp at hd
  · have hlt : i < ops.size := by
      obtain ⟨-, o, ho, -⟩ := mem_ready.1 hi
      exact (Array.getElem?_eq_some_iff.1 ho).1
    obtain ⟨hc, h⟩ := h
    have hc' : ∀ m j, waitsFor ops m j = true → (l.setIfInBounds i true).getD m false = true → (l.setIfInBounds i true).getD j false = true := fun m j hw hd => by
      by_cases hmi : m = i
      · subst hmi
        exact getD_set_true (waits_done hi hw)
      · rw [getD_set_ne false (fun e => hmi e.symm)] at hd
        exact getD_set_true (hc m j hw hd)
    rcases h with ⟨h0, h⟩ | ⟨h0, -⟩
    · by_cases hil : i = last
      · subst hil
        refine wpOp_mono (fun a' w' h' => ⟨hc', Or.inr ⟨fun j hj => ?_, h'⟩⟩) (fin l a w h hi)
        by_cases hji : j = i
        · subst hji
          have : j < l.size := by omega
          simp [this]
        · have h1 := List.all_eq_true.1 hlast j (List.mem_range.2 hj)
          rw [beq_eq_false_iff_ne.2 hji, Bool.false_or, Bool.or_eq_true] at h1
          rcases h1 with h1 | h1
          · exact getD_set_true (waits_done hi h1)
          · obtain ⟨m, -, h2⟩ := List.any_eq_true.1 h1
            rw [Bool.and_eq_true] at h2
            exact getD_set_true (hc m j h2.2 (waits_done hi h2.1))
      · refine wpOp_mono (fun a' w' h' => ⟨hc', Or.inl ⟨?_, h'⟩⟩) (step l a w i h hi hlt hil)
        rw [getD_set_ne false hil]
        exact h0
    · have h1 := (mem_ready.1 hi).1
      have h2 := h0 i hlt
      have : i < l.size := by omega
      simp [this] at h1 h2
      rw [h1] at h2
      cases h2
  · rcases h.2 with ⟨h0, -⟩ | ⟨-, h⟩
    · rw [hall last hl] at h0
      cases h0
    · exact h
end Go.Proofs.YtfmjhbaenpbfoaaGreatDoor

namespace Go.Proofs.YtfmjhbaenpbfoaaGreatDoor
open Go.RowKit

abbrev xN : T := .mk 13 ⟨#[120]⟩ 0 0 []
abbrev yN : T := .mk 14 ⟨#[50]⟩ 0 0 []
abbrev ruleN : T := .mk 4 ⟨#[114]⟩ 0 0 []
abbrev progN : T := .mk 1 ⟨#[]⟩ 0 0 [ruleN]
theorem txtxN : Txt xN := txt0 (by decide)
theorem txtyN : Txt yN := txt0 (by decide)
def opsN : List ByteArray := [⟨#[111, 114]⟩, ⟨#[97, 110, 100]⟩, ⟨#[61]⟩, ⟨#[33, 61]⟩, ⟨#[60]⟩, ⟨#[60, 61]⟩, ⟨#[62]⟩, ⟨#[62, 61]⟩, ⟨#[43]⟩, ⟨#[45]⟩, ⟨#[42]⟩]
def sgnN : List ByteArray := [⟨#[45]⟩, ⟨#[110, 111, 116]⟩]
def numN : List Int := [-2147483647, -1, 1, 2147483647, 2147483648]
theorem opsN_get (j : Nat) (h : j < 11) : ∃ s, opsN[j]? = some s ∧ s.size ≤ maxLen := by
  obtain rfl | rfl | rfl | rfl | rfl | rfl | rfl | rfl | rfl | rfl | rfl : j = 0 ∨ j = 1 ∨ j = 2 ∨ j = 3 ∨ j = 4 ∨ j = 5 ∨ j = 6 ∨ j = 7 ∨ j = 8 ∨ j = 9 ∨ j = 10 := by omega
  all_goals exact ⟨_, rfl, by decide⟩
theorem sgnN_get (j : Nat) (h : j < 2) : ∃ s, sgnN[j]? = some s ∧ s.size ≤ maxLen := by
  obtain rfl | rfl : j = 0 ∨ j = 1 := by omega
  all_goals exact ⟨_, rfl, by decide⟩
theorem numN_get (j : Nat) (h : j < 5) : ∃ z, numN[j]? = some z := by
  obtain rfl | rfl | rfl | rfl | rfl : j = 0 ∨ j = 1 ∨ j = 2 ∨ j = 3 ∨ j = 4 := by omega
  all_goals exact ⟨_, rfl⟩
theorem sgn_cell {w : World} {b : Nat} (h : w.heap[b]? = some (.cells #[.string ⟨#[45]⟩, .string ⟨#[110, 111, 116]⟩] 9 (0, 0))) (j : Nat) (s : ByteArray) (hs : sgnN[j]? = some s) : w.cell? ⟨b, j, none⟩ = some (.string s) := by
  rw [Lib.cell_of_heap h]
  match j, hs with
  | 0, hs => cases hs; rfl
  | 1, hs => cases hs; rfl
theorem ops_cell (j : Nat) (s : ByteArray) (hs : opsN[j]? = some s) : (#[.string ⟨#[111, 114]⟩, .string ⟨#[97, 110, 100]⟩, .string ⟨#[61]⟩, .string ⟨#[33, 61]⟩, .string ⟨#[60]⟩, .string ⟨#[60, 61]⟩, .string ⟨#[62]⟩, .string ⟨#[62, 61]⟩, .string ⟨#[43]⟩, .string ⟨#[45]⟩, .string ⟨#[42]⟩] : Array Value)[j]? = some (.string s) := by
  match j, hs with
  | 0, hs => cases hs; rfl
  | 1, hs => cases hs; rfl
  | 2, hs => cases hs; rfl
  | 3, hs => cases hs; rfl
  | 4, hs => cases hs; rfl
  | 5, hs => cases hs; rfl
  | 6, hs => cases hs; rfl
  | 7, hs => cases hs; rfl
  | 8, hs => cases hs; rfl
  | 9, hs => cases hs; rfl
  | 10, hs => cases hs; rfl
theorem num_cell {w : World} {b : Nat} (h : w.heap[b]? = some (.cells #[.int .i64 (-2147483647), .int .i64 (-1), .int .i64 1, .int .i64 2147483647, .int .i64 2147483648] 3 (0, 0))) (j : Nat) (z : Int) (hz : numN[j]? = some z) : w.cell? ⟨b, j, none⟩ = some (.int .i64 z) := by
  rw [Lib.cell_of_heap h]
  match j, hz with
  | 0, hz => cases hz; rfl
  | 1, hz => cases hz; rfl
  | 2, hz => cases hz; rfl
  | 3, hz => cases hz; rfl
  | 4, hz => cases hz; rfl
/-- What the law's first statements lay. -/
structure Lain (wv : World) (g1 b2 b3 : Nat) : Prop where
  laid : Laid wv
  tab : Tab wv.heap.size wv
  lt1 : g1 < wv.heap.size
  lt2 : b2 < wv.heap.size
  lt3 : b3 < wv.heap.size
  ops : ∀ (j : Nat) (s : ByteArray), opsN[j]? = some s → wv.cell? ⟨g1, j, none⟩ = some (.string s)
  vx : wv.heap[b2]? = some (boxN xN (.slice none 0 0))
  vy : wv.heap[b3]? = some (boxN yN (.slice none 0 0))
theorem Lain.varX {wv : World} {g1 b2 b3 : Nat} (L : Lain wv g1 b2 b3) {W : World} (hb : Below wv.heap.size wv W) {v : Value} (hv : v = .pointer (some ⟨b2, 0, none⟩)) : (Fx.var xN).holds (fun k => k < wv.heap.size ∧ 0 ≤ k) W v := ⟨_, _, hv, ⟨L.lt2, Nat.zero_le _⟩, (hb.block _ L.lt2).trans L.vx, stood_nil _ rfl⟩
theorem Lain.varY {wv : World} {g1 b2 b3 : Nat} (L : Lain wv g1 b2 b3) {W : World} (hb : Below wv.heap.size wv W) {v : Value} (hv : v = .pointer (some ⟨b3, 0, none⟩)) : (Fx.var yN).holds (fun k => k < wv.heap.size ∧ 0 ≤ k) W v := ⟨_, _, hv, ⟨L.lt3, Nat.zero_le _⟩, (hb.block _ L.lt3).trans L.vy, stood_nil _ rfl⟩
theorem Lain.vars {wv : World} {g1 b2 b3 : Nat} (L : Lain wv g1 b2 b3) (a : Act) (W : World) (S : List (Nat × Fx)) (h : Mid 0 wv 153 S a W) (hS : ∀ f, f ∈ ([(2, .val (.pointer (some ⟨b2, 0, none⟩))), (3, .val (.pointer (some ⟨b3, 0, none⟩)))] : List (Nat × Fx)) → f ∈ S) : Mid 0 wv 153 (S ++ [(2, .var xN), (3, .var yN)]) a W := by
  refine ⟨h.size, h.defers, h.bel, h.low, fun f hf => ?_⟩
  have e2 := h.at (hS _ (List.mem_cons_self ..))
  have e3 := h.at (hS _ (List.mem_cons_of_mem _ (List.mem_cons_self ..)))
  have hs := h.bel.size
  rcases List.mem_append.1 hf with hf | hf
  · exact h.facts f hf
  · simp only [List.mem_cons, List.not_mem_nil, or_false] at hf
    rcases hf with rfl | rfl
    · exact Fx.keepP (L.varX h.bel e2) rfl (fun _ _ => rfl) (fun k hk => ⟨by omega, Nat.zero_le _⟩)
    · exact Fx.keepP (L.varY h.bel e3) rfl (fun _ _ => rfl) (fun k hk => ⟨by omega, Nat.zero_le _⟩)
theorem Mid.low0 {r n : Nat} {w0 w : World} {S : List (Nat × Fx)} {a : Act} (h : Mid r w0 n S a w) : Mid 0 w0 n S a w := ⟨h.size, h.defers, h.bel, Nat.zero_le _, fun f hf => Fx.keep (h.facts f hf) (Below.refl _ _) (fun _ hk => hk.1) (fun _ hk => ⟨hk.1, Nat.zero_le _⟩)⟩
abbrev progZ (z : Int) : T := .mk 1 ⟨#[]⟩ 0 0 [.mk 4 ⟨#[114]⟩ z 0 []]
theorem txtZ (z : Int) : Txt (progZ z) := txt1 (by decide) (txt0 (by decide))

set_option maxRecDepth 100000 in
set_option maxHeartbeats 8000000 in
theorem showNumbers_any (w00 : World) (hL : Laid w00) (hT : Tab w00.heap.size w00) :
    Calls Tryz.prog 4 #[] w00 fun e w' => e = .returned (.bool true) ∧ Below w00.heap.size w00 w' := by
  have HLw := Lib.hid hL
  have HTb := Lib.hid hT
  clear hL hT
  have HM0 : Hid (Mem w00 w00 []) := ⟨HLw.out, Below.refl _ _, fun p hp => by cases hp⟩
  have HMa := Lib.hid (HM0.out.up (below_own (.cells #[.string ⟨#[111, 114]⟩, .string ⟨#[97, 110, 100]⟩, .string ⟨#[61]⟩, .string ⟨#[33, 61]⟩, .string ⟨#[60]⟩, .string ⟨#[60, 61]⟩, .string ⟨#[62]⟩, .string ⟨#[62, 61]⟩, .string ⟨#[43]⟩, .string ⟨#[45]⟩, .string ⟨#[42]⟩] 9)))
  go_enter Tryz.func4, Tryz.ntmps4
  go_wp2_with (go_at_call 13; go_must (refine (of_mem w00 _ _ HMa.out 13 ⟨#[120]⟩ none 0 0).mono ?_; rintro e w1 ⟨rfl, hm, hb⟩; have HM1 := Lib.hid (hm.leaf xN rfl); have HB1 := Lib.hid hb; clear hm hb; refine Hid.out ?_))
  refine Lib.hid ?_
  go_wp2_with (go_at_call 13; go_must (refine (of_mem w00 _ _ HM1.out 14 ⟨#[50]⟩ none 0 0).mono ?_; rintro e w2 ⟨rfl, hm, hb⟩; have HM2 := Lib.hid (hm.leaf yN rfl); have HB2 := Lib.hid hb; clear hm hb; refine Hid.out ?_))
  refine Lib.hid ?_
  go_upto_region 3 with fail
  obtain ⟨wv, hwv⟩ : ∃ wv, wv = (w2.alloc (.cells #[.int .u8 13, .string ⟨#[120]⟩, .int .i64 0, .int .i64 0, .slice none 0 0] 25)).alloc (.cells #[.int .u8 14, .string ⟨#[50]⟩, .int .i64 0, .int .i64 0, .slice none 0 0] 25) := ⟨_, rfl⟩
  rw [← hwv]
  obtain ⟨b3, hb3⟩ : ∃ b, b = w2.heap.size + 1 := ⟨_, rfl⟩
  rw [← hb3]
  obtain ⟨b2, hb2⟩ : ∃ b, b = w2.heap.size := ⟨_, rfl⟩
  rw [← hb2]
  obtain ⟨g1, hg1⟩ : ∃ g, g = w00.heap.size := ⟨_, rfl⟩
  rw [← hg1]
  have hB3 : Below w2.heap.size w2 wv := hwv ▸ (below_own (w := w2) (.cells #[.int .u8 13, .string ⟨#[120]⟩, .int .i64 0, .int .i64 0, .slice none 0 0] 25)).alloc (by simp) (.cells #[.int .u8 14, .string ⟨#[50]⟩, .int .i64 0, .int .i64 0, .slice none 0 0] 25)
  have HU := HM2.out.up hB3
  have HL : Hid (Laid wv) := HU.laid
  have HB0 : Hid (Below w00.heap.size w00 wv) := HU.bel
  have HT : Hid (Tab wv.heap.size wv) := fun W hb => HTb.out W (HB0.out.trans (hb.mono HB0.out.size))
  have hz1 := HB1.out.size
  have hz2 := HB2.out.size
  have hz3 : wv.heap.size = w2.heap.size + 2 := by rw [hwv]; simp
  have HC : Hid (wv.heap[g1]? = some (.cells #[.string ⟨#[111, 114]⟩, .string ⟨#[97, 110, 100]⟩, .string ⟨#[61]⟩, .string ⟨#[33, 61]⟩, .string ⟨#[60]⟩, .string ⟨#[60, 61]⟩, .string ⟨#[62]⟩, .string ⟨#[62, 61]⟩, .string ⟨#[43]⟩, .string ⟨#[45]⟩, .string ⟨#[42]⟩] 9 (0, 0))) := by
    unfold Hid
    have e0 : (w00.alloc (.cells #[.string ⟨#[111, 114]⟩, .string ⟨#[97, 110, 100]⟩, .string ⟨#[61]⟩, .string ⟨#[33, 61]⟩, .string ⟨#[60]⟩, .string ⟨#[60, 61]⟩, .string ⟨#[62]⟩, .string ⟨#[62, 61]⟩, .string ⟨#[43]⟩, .string ⟨#[45]⟩, .string ⟨#[42]⟩] 9)).heap[g1]? = some (.cells #[.string ⟨#[111, 114]⟩, .string ⟨#[97, 110, 100]⟩, .string ⟨#[61]⟩, .string ⟨#[33, 61]⟩, .string ⟨#[60]⟩, .string ⟨#[60, 61]⟩, .string ⟨#[62]⟩, .string ⟨#[62, 61]⟩, .string ⟨#[43]⟩, .string ⟨#[45]⟩, .string ⟨#[42]⟩] 9 (0, 0)) := by rw [hg1]; exact heap_alloc_new w00 _
    have hlt : g1 < (w00.alloc (.cells #[.string ⟨#[111, 114]⟩, .string ⟨#[97, 110, 100]⟩, .string ⟨#[61]⟩, .string ⟨#[33, 61]⟩, .string ⟨#[60]⟩, .string ⟨#[60, 61]⟩, .string ⟨#[62]⟩, .string ⟨#[62, 61]⟩, .string ⟨#[43]⟩, .string ⟨#[45]⟩, .string ⟨#[42]⟩] 9)).heap.size := by rw [hg1]; simp
    rw [hB3.block g1 (by omega), HB2.out.block g1 (by omega), HB1.out.block g1 hlt]
    exact e0
  have LN : Hid (Lain wv g1 b2 b3) := by
    refine ⟨HL.out, HT.out, ?_, ?_, ?_, fun j s hs => ?_, ?_, ?_⟩
    · have : g1 < (w00.alloc (.cells #[.string ⟨#[111, 114]⟩, .string ⟨#[97, 110, 100]⟩, .string ⟨#[61]⟩, .string ⟨#[33, 61]⟩, .string ⟨#[60]⟩, .string ⟨#[60, 61]⟩, .string ⟨#[62]⟩, .string ⟨#[62, 61]⟩, .string ⟨#[43]⟩, .string ⟨#[45]⟩, .string ⟨#[42]⟩] 9)).heap.size := by rw [hg1]; simp
      omega
    · omega
    · omega
    · rw [Lib.cell_of_heap HC.out]
      exact ops_cell j s hs
    · rw [hwv, hb2, (below_own (w := w2.alloc (.cells #[.int .u8 13, .string ⟨#[120]⟩, .int .i64 0, .int .i64 0, .slice none 0 0] 25)) (.cells #[.int .u8 14, .string ⟨#[50]⟩, .int .i64 0, .int .i64 0, .slice none 0 0] 25)).block _ (by simp)]
      exact heap_alloc_new w2 _
    · rw [hwv, hb3, show w2.heap.size + 1 = (w2.alloc (.cells #[.int .u8 13, .string ⟨#[120]⟩, .int .i64 0, .int .i64 0, .slice none 0 0] 25)).heap.size by simp]
      exact heap_alloc_new _ _
  have HVars := Lib.hid LN.out.vars
  have HG1 := Lib.hid LN.out.lt1
  have HO := Lib.hid LN.out.ops
  clear hB3 HU hz1 hz2 hz3 HMa HM0 HM1 HM2 HB1 HB2 hwv hb3 hb2 hg1 HLw
  refine Tri.go (I := StG 6 0 wv [(0, .val (.bool false)), (1, .val (.slice (some ⟨g1, 0, none⟩) 11 11)), (2, .val (.pointer (some ⟨b2, 0, none⟩))), (3, .val (.pointer (some ⟨b3, 0, none⟩))), (11, .no)]) (tri_zero (x := 4) (by decide) rfl) ⟨undef, fun k _ e => (by cases e), rfl, rfl, Below.refl _ _, Nat.zero_le _, fun f hf => (by
    simp only [List.mem_cons, List.not_mem_nil, or_false] at hf
    rcases hf with rfl | rfl | rfl | rfl | rfl | rfl <;> exact rfl)⟩ (fun a0 w0 hJ0 => ?_)
  refine (by assumption : ∀ (a : Act) (w : World), Code.wp _ _ _ a w → _) a0 w0 ?_
  refine Tri.go (J := StG 6 0 wv [(0, .val (.bool false)), (1, .val (.slice (some ⟨g1, 0, none⟩) 11 11)), (2, .val (.pointer (some ⟨b2, 0, none⟩))), (3, .val (.pointer (some ⟨b3, 0, none⟩))), (11, .no)]) ?_ hJ0 (fun a1 w1 h1 => ?_)
  · refine Tri.post (Tri.count (n := 11) (fun i => StG 6 0 wv [(4, .val (.int .i64 ((i : Nat) : Int))), (0, .val (.bool false)), (1, .val (.slice (some ⟨g1, 0, none⟩) 11 11)), (2, .val (.pointer (some ⟨b2, 0, none⟩))), (3, .val (.pointer (some ⟨b3, 0, none⟩))), (11, .no)]) (cntA 4) (fun j a w h => h.cnt (by simp)) (fun j hj => tri_head (ao := some ⟨g1, 0, none⟩) (m := 11) (c := 11) (Or.inl rfl) (by simp) (sl := 1) (by simp) (by decide) (by decide) (by decide) (by decide) rfl rfl rfl rfl) (fun i hi => ?_)) (fun a w h => h.sub (fun f hf => by
        simp only [List.mem_cons, List.not_mem_nil, or_false] at hf ⊢
        rcases hf with rfl | rfl | rfl | rfl | rfl <;> simp))
    obtain ⟨si, his, hsi⟩ := opsN_get i hi
    refine Tri.seq (J := StG 6 0 wv [(4, .val (.int .i64 ((i : Nat) : Int))), (0, .val (.bool false)), (1, .val (.slice (some ⟨g1, 0, none⟩) 11 11)), (2, .val (.pointer (some ⟨b2, 0, none⟩))), (3, .val (.pointer (some ⟨b3, 0, none⟩))), (11, .no)]) (Tri.block (Tri.seq (J := StG 6 0 wv [(4, .val (.int .i64 ((i : Nat) : Int))), (0, .val (.bool false)), (1, .val (.slice (some ⟨g1, 0, none⟩) 11 11)), (2, .val (.pointer (some ⟨b2, 0, none⟩))), (3, .val (.pointer (some ⟨b3, 0, none⟩))), (11, .no)]) ?_ ?_)) (tri_inc (by decide) (by decide) (by decide) (by omega) rfl rfl rfl)
    · refine Tri.seq (tri_zero (x := 5) (by decide) rfl) ?_
      refine Tri.post (Tri.count (n := 11) (fun k => StG 6 0 wv [(5, .val (.int .i64 ((k : Nat) : Int))), (4, .val (.int .i64 ((i : Nat) : Int))), (0, .val (.bool false)), (1, .val (.slice (some ⟨g1, 0, none⟩) 11 11)), (2, .val (.pointer (some ⟨b2, 0, none⟩))), (3, .val (.pointer (some ⟨b3, 0, none⟩))), (11, .no)]) (cntA 5) (fun j a w h => h.cnt (by simp)) (fun j hj => tri_head (ao := some ⟨g1, 0, none⟩) (m := 11) (c := 11) (Or.inl rfl) (by simp) (sl := 1) (by simp) (by decide) (by decide) (by decide) (by decide) rfl rfl rfl rfl) (fun k hk => ?_)) (fun a w h => h.sub (fun f hf => by
        simp only [List.mem_cons, List.not_mem_nil, or_false] at hf ⊢
        rcases hf with rfl | rfl | rfl | rfl | rfl | rfl <;> simp))
      obtain ⟨sk, hks, hsk⟩ := opsN_get k hk
      refine Tri.seq (J := StG 6 0 wv [(5, .val (.int .i64 ((k : Nat) : Int))), (4, .val (.int .i64 ((i : Nat) : Int))), (0, .val (.bool false)), (1, .val (.slice (some ⟨g1, 0, none⟩) 11 11)), (2, .val (.pointer (some ⟨b2, 0, none⟩))), (3, .val (.pointer (some ⟨b3, 0, none⟩))), (11, .no)]) (Tri.block (Tri.seq (J := StV 6 0 wv (twoT7 sk yN xN) [(5, .val (.int .i64 ((k : Nat) : Int))), (4, .val (.int .i64 ((i : Nat) : Int))), (0, .val (.bool false)), (1, .val (.slice (some ⟨g1, 0, none⟩) 11 11)), (2, .val (.pointer (some ⟨b2, 0, none⟩))), (3, .val (.pointer (some ⟨b3, 0, none⟩))), (11, .no)]) ?_ (Tri.seq (J := StV 6 0 wv (twoT7 sk yN xN) [(67, .bool false), (5, .val (.int .i64 ((k : Nat) : Int))), (4, .val (.int .i64 ((i : Nat) : Int))), (0, .val (.bool false)), (1, .val (.slice (some ⟨g1, 0, none⟩) 11 11)), (2, .val (.pointer (some ⟨b2, 0, none⟩))), (3, .val (.pointer (some ⟨b3, 0, none⟩))), (11, .no)]) ?_ ?_))) (tri_inc (by decide) (by decide) (by decide) (by omega) rfl rfl rfl)
      ·
        intro Q a w ⟨v6, ho, hm⟩ hQ
        have HM := Lib.hid hm
        have HV6 := Lib.hid ho
        clear hm ho
        have HgW : Hid (g1 < w.heap.size) := Nat.lt_of_lt_of_le HG1.out HM.out.bel.size
        have HOw : Hid (∀ (j : Nat) (s : ByteArray), opsN[j]? = some s → w.cell? ⟨g1, j, none⟩ = some (.string s)) := fun j s hs => (HM.out.bel.cell (p := ⟨g1, j, none⟩) HG1.out).trans (HO.out j s hs)
        refine wp_region_reg (r := 0) (w0 := w) (bs := 6) (n := 153) (last := 8) (F := [(none, 5, .val (.int .i64 ((k : Nat) : Int))), (none, 4, .val (.int .i64 ((i : Nat) : Int))), (none, 0, .val (.bool false)), (none, 1, .val (.slice (some ⟨g1, 0, none⟩) 11 11)), (none, 2, .val (.pointer (some ⟨b2, 0, none⟩))), (none, 3, .val (.pointer (some ⟨b3, 0, none⟩))), (none, 11, .no), (none, 2, .var xN), (none, 3, .var yN), (some 0, 27, .val (.slice (some ⟨g1, 0, none⟩) 11 11)), (some 1, 28, .val (.int .i64 ((k : Nat) : Int))), (some 2, 29, .val (.pointer (some ⟨g1, k, none⟩))), (some 3, 30, .val (.string sk)), (some 4, 31, .tree yN), (some 5, 32, .tree xN), (some 6, 33, .tree (twoT7 sk yN xN)), (some 7, 6, .box w.heap.size)]) (by kernel_rfl) (by kernel_rfl) (by decide) (by kernel_rfl) (startL (lo := wv.heap.size) HM.out.size HM.out.defers HM.out.bel.size (Nat.zero_le _) (fun f hf hc => ?_) (fun k hk => by rw [show a.eval (.tmp 6) = v6 from HM.out.at (List.mem_cons_self ..)]; exact HV6.out k hk) _) (fun listed a W i0 h hr hi0 hl => ?_) (fun listed a W h hr => ?_)
        · simp only [List.mem_cons, List.not_mem_nil, or_false] at hf
          rcases hf with rfl | rfl | rfl | rfl | rfl | rfl | rfl | rfl | rfl | rfl | rfl | rfl | rfl | rfl | rfl | rfl | rfl
          · exact HM.out.at (x := 5) (by simp)
          · exact HM.out.at (x := 4) (by simp)
          · exact HM.out.at (x := 0) (by simp)
          · exact HM.out.at (x := 1) (by simp)
          · exact HM.out.at (x := 2) (by simp)
          · exact HM.out.at (x := 3) (by simp)
          · exact HM.out.facts (11, .no) (by simp)
          · exact LN.out.varX HM.out.bel (HM.out.at (x := 2) (by simp))
          · exact LN.out.varY HM.out.bel (HM.out.at (x := 3) (by simp))
          · cases hc
          · cases hc
          · cases hc
          · cases hc
          · cases hc
          · cases hc
          · cases hc
          · cases hc
        · have hi0' : i0 < 9 := hi0
          obtain rfl | rfl | rfl | rfl | rfl | rfl | rfl | rfl : i0 = 0 ∨ i0 = 1 ∨ i0 = 2 ∨ i0 = 3 ∨ i0 = 4 ∨ i0 = 5 ∨ i0 = 6 ∨ i0 = 7 := by omega
          · exact h.mv rfl rfl (h.got hr 3 rfl (by kernel_rfl)) rfl rfl (by decide) (by decide)
          · exact h.mv rfl rfl (h.got hr 0 rfl (by kernel_rfl)) rfl rfl (by decide) (by decide)
          · exact h.idx (Or.inl rfl) rfl rfl (h.got hr 9 rfl (by kernel_rfl)) (h.got hr 10 rfl (by kernel_rfl)) hk rfl rfl (by decide) (by decide)
          · exact h.ldv (Or.inl rfl) rfl rfl (h.got hr 11 rfl (by kernel_rfl)) HgW.out (HOw.out _ _ hks) rfl rfl (by decide) (by decide)
          · exact h.load rfl rfl (h.got hr 8 rfl (by kernel_rfl)) rfl rfl (by decide) (by decide)
          · exact h.load rfl rfl (h.got hr 7 rfl (by kernel_rfl)) rfl rfl (by decide) (by decide)
          · exact h.two rfl rfl (h.got hr 12 rfl (by kernel_rfl)) (h.got hr 13 rfl (by kernel_rfl)) (h.got hr 14 rfl (by kernel_rfl)) rfl rfl (by decide) (by decide)
          · exact h.alloc rfl rfl rfl rfl (by decide)
        · refine Reg.store (wS := wv) (S := [(6, .own w.heap.size (twoT7 sk yN xN)), (5, .val (.int .i64 ((k : Nat) : Int))), (4, .val (.int .i64 ((i : Nat) : Int))), (0, .val (.bool false)), (1, .val (.slice (some ⟨g1, 0, none⟩) 11 11)), (2, .val (.pointer (some ⟨b2, 0, none⟩))), (3, .val (.pointer (some ⟨b3, 0, none⟩))), (11, .no)]) h HM.out.bel rfl rfl (h.got hr 16 rfl (by kernel_rfl)) HM.out.bel.size (Nat.zero_le _) (h.got hr 15 rfl (by kernel_rfl)) (fun f hf => ?_) (fun w' hm' => hQ _ _ ⟨w.heap.size, HM.out.bel.size, hm'⟩)
          simp only [List.mem_cons, List.not_mem_nil, or_false] at hf
          rcases hf with rfl | rfl | rfl | rfl | rfl | rfl | rfl | rfl
          · exact Or.inl rfl
          · exact Or.inr (Or.inr ⟨by simp, Or.inl rfl⟩)
          · exact Or.inr (Or.inr ⟨by simp, Or.inl rfl⟩)
          · exact Or.inr (Or.inr ⟨by simp, Or.inl rfl⟩)
          · exact Or.inr (Or.inr ⟨by simp, Or.inl rfl⟩)
          · exact Or.inr (Or.inr ⟨by simp, Or.inl rfl⟩)
          · exact Or.inr (Or.inr ⟨by simp, Or.inl rfl⟩)
          · exact Or.inr (Or.inr ⟨by simp, Or.inl rfl⟩)
      ·
        intro Q a w hI hQ
        obtain ⟨lo, hlo, hm⟩ := hI
        have HM := Lib.hid (HVars.out a w _ hm (fun f hf => by
          simp only [List.mem_cons, List.not_mem_nil, or_false] at hf
          rcases hf with rfl | rfl <;> simp))
        clear hm
        have HLw : Hid (Laid w) := HL.out.below HM.out.bel
        have HTw : Hid (Tab w.heap.size w) := fun W hb => HT.out W (HM.out.bel.trans (hb.mono HM.out.bel.size))
        have HgW : Hid (g1 < w.heap.size) := Nat.lt_of_lt_of_le HG1.out HM.out.bel.size
        have HOw : Hid (∀ (j : Nat) (s : ByteArray), opsN[j]? = some s → w.cell? ⟨g1, j, none⟩ = some (.string s)) := fun j s hs => (HM.out.bel.cell (p := ⟨g1, j, none⟩) HG1.out).trans (HO.out j s hs)
        refine wp_region_inv (fun listed a W => Reg 0 w 0 153 [(none, 6, .own lo (twoT7 sk yN xN)), (none, 5, .val (.int .i64 ((k : Nat) : Int))), (none, 4, .val (.int .i64 ((i : Nat) : Int))), (none, 0, .val (.bool false)), (none, 1, .val (.slice (some ⟨g1, 0, none⟩) 11 11)), (none, 2, .val (.pointer (some ⟨b2, 0, none⟩))), (none, 3, .val (.pointer (some ⟨b3, 0, none⟩))), (none, 11, .no), (none, 2, .var xN), (none, 3, .var yN), (some 0, 34, .val (.slice (some ⟨g1, 0, none⟩) 11 11)), (some 1, 35, .val (.int .i64 ((i : Nat) : Int))), (some 2, 36, .val (.pointer (some ⟨g1, i, none⟩))), (some 3, 37, .val (.string si)), (some 4, 38, .tree (twoT7 sk yN xN)), (some 5, 39, .tree xN), (some 6, 40, .tree (twoT7 si (twoT7 sk yN xN) xN)), (some 7, 41, .tree (sayT (twoT7 si (twoT7 sk yN xN) xN))), (some 8, 42, .bool true), (some 9, 43, .bool false), (some 10, 44, .bool false), (some 11, 45, .val (.slice (some ⟨g1, 0, none⟩) 11 11)), (some 12, 46, .val (.int .i64 ((i : Nat) : Int))), (some 13, 47, .val (.pointer (some ⟨g1, i, none⟩))), (some 14, 48, .val (.string si)), (some 15, 49, .tree xN), (some 16, 50, .tree (twoT7 sk yN xN)), (some 17, 51, .tree (twoT7 si xN (twoT7 sk yN xN))), (some 18, 52, .tree (sayT (twoT7 si xN (twoT7 sk yN xN)))), (some 19, 53, .bool true), (some 20, 54, .bool false), (some 21, 55, .bool false), (some 22, 56, .bool false), (some 23, 57, .val (.slice (some ⟨g1, 0, none⟩) 11 11)), (some 24, 58, .val (.int .i64 ((i : Nat) : Int))), (some 25, 59, .val (.pointer (some ⟨g1, i, none⟩))), (some 26, 60, .val (.string si)), (some 27, 61, .tree (twoT7 sk yN xN)), (some 28, 62, .tree (twoT7 sk yN xN)), (some 29, 63, .tree (twoT7 si (twoT7 sk yN xN) (twoT7 sk yN xN))), (some 30, 64, .tree (sayT (twoT7 si (twoT7 sk yN xN) (twoT7 sk yN xN)))), (some 31, 65, .bool true), (some 32, 66, .bool false), (some 33, 67, .bool false)] listed a W) (by kernel_rfl) (by kernel_rfl) (Mid.start HM.out (fun k hk e => by rw [show a.eval (.tmp 0) = .bool false from HM.out.facts (0, .val (.bool false)) (by simp)] at e; cases e) (fun f hf hc => ?_) _) (fun listed a W i0 hs h hr => ?_) (fun listed a W h hall => ?_)
        · simp only [List.mem_cons, List.not_mem_nil, or_false] at hf
          rcases hf with rfl | rfl | rfl | rfl | rfl | rfl | rfl | rfl | rfl | rfl | rfl | rfl | rfl | rfl | rfl | rfl | rfl | rfl | rfl | rfl | rfl | rfl | rfl | rfl | rfl | rfl | rfl | rfl | rfl | rfl | rfl | rfl | rfl | rfl | rfl | rfl | rfl | rfl | rfl | rfl | rfl | rfl | rfl | rfl <;> first | (cases hc; done) | simp
        · have hi0 : i0 < 34 := by
            obtain ⟨-, o, ho', -⟩ := mem_ready.1 hr
            exact (Array.getElem?_eq_some_iff.1 ho').1
          obtain rfl | rfl | rfl | rfl | rfl | rfl | rfl | rfl | rfl | rfl | rfl | rfl | rfl | rfl | rfl | rfl | rfl | rfl | rfl | rfl | rfl | rfl | rfl | rfl | rfl | rfl | rfl | rfl | rfl | rfl | rfl | rfl | rfl | rfl : i0 = 0 ∨ i0 = 1 ∨ i0 = 2 ∨ i0 = 3 ∨ i0 = 4 ∨ i0 = 5 ∨ i0 = 6 ∨ i0 = 7 ∨ i0 = 8 ∨ i0 = 9 ∨ i0 = 10 ∨ i0 = 11 ∨ i0 = 12 ∨ i0 = 13 ∨ i0 = 14 ∨ i0 = 15 ∨ i0 = 16 ∨ i0 = 17 ∨ i0 = 18 ∨ i0 = 19 ∨ i0 = 20 ∨ i0 = 21 ∨ i0 = 22 ∨ i0 = 23 ∨ i0 = 24 ∨ i0 = 25 ∨ i0 = 26 ∨ i0 = 27 ∨ i0 = 28 ∨ i0 = 29 ∨ i0 = 30 ∨ i0 = 31 ∨ i0 = 32 ∨ i0 = 33 := by omega
          · exact h.mv rfl rfl (h.got hr 4 rfl (by kernel_rfl)) rfl rfl (by decide) (by decide)
          · exact h.mv rfl rfl (h.got hr 2 rfl (by kernel_rfl)) rfl rfl (by decide) (by decide)
          · exact h.idx (Or.inl rfl) rfl rfl (h.got hr 10 rfl (by kernel_rfl)) (h.got hr 11 rfl (by kernel_rfl)) hi rfl rfl (by decide) (by decide)
          · exact h.ldv (Or.inl rfl) rfl rfl (h.got hr 12 rfl (by kernel_rfl)) HgW.out (HOw.out _ _ his) rfl rfl (by decide) (by decide)
          · exact h.load rfl rfl (own_var (h.got hr 0 rfl (by kernel_rfl))) rfl rfl (by decide) (by decide)
          · exact h.load rfl rfl (h.got hr 8 rfl (by kernel_rfl)) rfl rfl (by decide) (by decide)
          · exact h.two rfl rfl (h.got hr 13 rfl (by kernel_rfl)) (h.got hr 14 rfl (by kernel_rfl)) (h.got hr 15 rfl (by kernel_rfl)) rfl rfl (by decide) (by decide)
          · exact h.says rfl rfl (h.got hr 16 rfl (by kernel_rfl)) rfl rfl (by decide) (by decide)
          · exact h.tells rfl rfl (h.got hr 17 rfl (by kernel_rfl)) HLw.out HTw.out (txt1 (by decide) (txt1 (by decide) (txt1 (by decide) (txt2 hsi (txt2 hsk txtyN txtxN) txtxN)))) rfl rfl (by decide) (by decide)
          · exact h.notT rfl rfl (h.got hr 18 rfl (by kernel_rfl)) rfl rfl (by decide) (by decide)
          · exact h.move rfl rfl (h.got hr 19 rfl (by kernel_rfl)) rfl rfl (by decide) (by decide)
          · exact h.mv rfl (wanted_of rfl (yields_of rfl rfl (h.got hr 20 rfl (by kernel_rfl)))) (h.got hr 4 rfl (by kernel_rfl)) rfl rfl (by decide) (by decide)
          · exact h.mv rfl (wanted_of rfl (yields_of rfl rfl (h.got hr 20 rfl (by kernel_rfl)))) (h.got hr 2 rfl (by kernel_rfl)) rfl rfl (by decide) (by decide)
          · exact h.idx (Or.inl rfl) rfl (wanted_of rfl (yields_of rfl rfl (h.got hr 20 rfl (by kernel_rfl)))) (h.got hr 21 rfl (by kernel_rfl)) (h.got hr 22 rfl (by kernel_rfl)) hi rfl rfl (by decide) (by decide)
          · exact h.ldv (Or.inl rfl) rfl (wanted_of rfl (yields_of rfl rfl (h.got hr 20 rfl (by kernel_rfl)))) (h.got hr 23 rfl (by kernel_rfl)) HgW.out (HOw.out _ _ his) rfl rfl (by decide) (by decide)
          · exact h.load rfl (wanted_of rfl (yields_of rfl rfl (h.got hr 20 rfl (by kernel_rfl)))) (h.got hr 8 rfl (by kernel_rfl)) rfl rfl (by decide) (by decide)
          · exact h.load rfl (wanted_of rfl (yields_of rfl rfl (h.got hr 20 rfl (by kernel_rfl)))) (own_var (h.got hr 0 rfl (by kernel_rfl))) rfl rfl (by decide) (by decide)
          · exact h.two rfl (wanted_of rfl (yields_of rfl rfl (h.got hr 20 rfl (by kernel_rfl)))) (h.got hr 24 rfl (by kernel_rfl)) (h.got hr 25 rfl (by kernel_rfl)) (h.got hr 26 rfl (by kernel_rfl)) rfl rfl (by decide) (by decide)
          · exact h.says rfl (wanted_of rfl (yields_of rfl rfl (h.got hr 20 rfl (by kernel_rfl)))) (h.got hr 27 rfl (by kernel_rfl)) rfl rfl (by decide) (by decide)
          · exact h.tells rfl (wanted_of rfl (yields_of rfl rfl (h.got hr 20 rfl (by kernel_rfl)))) (h.got hr 28 rfl (by kernel_rfl)) HLw.out HTw.out (txt1 (by decide) (txt1 (by decide) (txt1 (by decide) (txt2 hsi txtxN (txt2 hsk txtyN txtxN))))) rfl rfl (by decide) (by decide)
          · exact h.notT rfl (wanted_of rfl (yields_of rfl rfl (h.got hr 20 rfl (by kernel_rfl)))) (h.got hr 29 rfl (by kernel_rfl)) rfl rfl (by decide) (by decide)
          · exact h.pickF rfl rfl (h.got hr 20 rfl (by kernel_rfl)) (h.got hr 30 rfl (by kernel_rfl)) rfl rfl (by decide) (by decide)
          · exact h.move rfl rfl (h.got hr 31 rfl (by kernel_rfl)) rfl rfl (by decide) (by decide)
          · exact h.mv rfl (wanted_of rfl (yields_of rfl rfl (h.got hr 32 rfl (by kernel_rfl)))) (h.got hr 4 rfl (by kernel_rfl)) rfl rfl (by decide) (by decide)
          · exact h.mv rfl (wanted_of rfl (yields_of rfl rfl (h.got hr 32 rfl (by kernel_rfl)))) (h.got hr 2 rfl (by kernel_rfl)) rfl rfl (by decide) (by decide)
          · exact h.idx (Or.inl rfl) rfl (wanted_of rfl (yields_of rfl rfl (h.got hr 32 rfl (by kernel_rfl)))) (h.got hr 33 rfl (by kernel_rfl)) (h.got hr 34 rfl (by kernel_rfl)) hi rfl rfl (by decide) (by decide)
          · exact h.ldv (Or.inl rfl) rfl (wanted_of rfl (yields_of rfl rfl (h.got hr 32 rfl (by kernel_rfl)))) (h.got hr 35 rfl (by kernel_rfl)) HgW.out (HOw.out _ _ his) rfl rfl (by decide) (by decide)
          · exact h.load rfl (wanted_of rfl (yields_of rfl rfl (h.got hr 32 rfl (by kernel_rfl)))) (own_var (h.got hr 0 rfl (by kernel_rfl))) rfl rfl (by decide) (by decide)
          · exact h.load rfl (wanted_of rfl (yields_of rfl rfl (h.got hr 32 rfl (by kernel_rfl)))) (own_var (h.got hr 0 rfl (by kernel_rfl))) rfl rfl (by decide) (by decide)
          · exact h.two rfl (wanted_of rfl (yields_of rfl rfl (h.got hr 32 rfl (by kernel_rfl)))) (h.got hr 36 rfl (by kernel_rfl)) (h.got hr 37 rfl (by kernel_rfl)) (h.got hr 38 rfl (by kernel_rfl)) rfl rfl (by decide) (by decide)
          · exact h.says rfl (wanted_of rfl (yields_of rfl rfl (h.got hr 32 rfl (by kernel_rfl)))) (h.got hr 39 rfl (by kernel_rfl)) rfl rfl (by decide) (by decide)
          · exact h.tells rfl (wanted_of rfl (yields_of rfl rfl (h.got hr 32 rfl (by kernel_rfl)))) (h.got hr 40 rfl (by kernel_rfl)) HLw.out HTw.out (txt1 (by decide) (txt1 (by decide) (txt1 (by decide) (txt2 hsi (txt2 hsk txtyN txtxN) (txt2 hsk txtyN txtxN))))) rfl rfl (by decide) (by decide)
          · exact h.notT rfl (wanted_of rfl (yields_of rfl rfl (h.got hr 32 rfl (by kernel_rfl)))) (h.got hr 41 rfl (by kernel_rfl)) rfl rfl (by decide) (by decide)
          · exact h.pickF rfl rfl (h.got hr 32 rfl (by kernel_rfl)) (h.got hr 42 rfl (by kernel_rfl)) rfl rfl (by decide) (by decide)
        · have hm' : Mid 0 wv 153 [(6, .own lo (twoT7 sk yN xN)), (67, .bool false), (5, .val (.int .i64 ((k : Nat) : Int))), (4, .val (.int .i64 ((i : Nat) : Int))), (0, .val (.bool false)), (1, .val (.slice (some ⟨g1, 0, none⟩) 11 11)), (2, .val (.pointer (some ⟨b2, 0, none⟩))), (3, .val (.pointer (some ⟨b3, 0, none⟩))), (11, .no)] a W := h.mid HM.out.bel hall (fun f hf => by
            simp only [List.mem_cons, List.not_mem_nil, or_false] at hf
            rcases hf with rfl | rfl | rfl | rfl | rfl | rfl | rfl | rfl | rfl
            · exact ⟨none, by simp, fun j e => by cases e⟩
            · exact ⟨some 33, by simp, fun j e => by cases e; decide⟩
            · exact ⟨none, by simp, fun j e => by cases e⟩
            · exact ⟨none, by simp, fun j e => by cases e⟩
            · exact ⟨none, by simp, fun j e => by cases e⟩
            · exact ⟨none, by simp, fun j e => by cases e⟩
            · exact ⟨none, by simp, fun j e => by cases e⟩
            · exact ⟨none, by simp, fun j e => by cases e⟩
            · exact ⟨none, by simp, fun j e => by cases e⟩)
          exact hQ a W ⟨lo, hlo, hm'⟩
      · refine Tri.post (Tri.no (fun a w h => ?_)) (fun a w h => h.old (fun f hf => by
        simp only [List.mem_cons, List.not_mem_nil, or_false] at hf ⊢
        rcases hf with rfl | rfl | rfl | rfl | rfl | rfl | rfl <;> simp))
        obtain ⟨lo, hlo, hm⟩ := h
        exact hm.facts (67, .bool false) (by simp)
    · refine Tri.seq (tri_zero (x := 7) (by decide) rfl) ?_
      refine Tri.post (Tri.count (n := 2) (fun n => StG 6 0 wv [(7, .val (.int .i64 ((n : Nat) : Int))), (4, .val (.int .i64 ((i : Nat) : Int))), (0, .val (.bool false)), (1, .val (.slice (some ⟨g1, 0, none⟩) 11 11)), (2, .val (.pointer (some ⟨b2, 0, none⟩))), (3, .val (.pointer (some ⟨b3, 0, none⟩))), (11, .no)]) (cntA 7) (fun j a w h => h.cnt (by simp)) (fun j hj => tri_head2 (x := 7) (by simp) (by decide) (by decide) rfl rfl) (fun n hn => ?_)) (fun a w h => h.sub (fun f hf => by
        simp only [List.mem_cons, List.not_mem_nil, or_false] at hf ⊢
        rcases hf with rfl | rfl | rfl | rfl | rfl | rfl <;> simp))
      obtain ⟨sg, hns, hsg⟩ := sgnN_get n hn
      refine Tri.seq (J := StG 6 0 wv [(7, .val (.int .i64 ((n : Nat) : Int))), (4, .val (.int .i64 ((i : Nat) : Int))), (0, .val (.bool false)), (1, .val (.slice (some ⟨g1, 0, none⟩) 11 11)), (2, .val (.pointer (some ⟨b2, 0, none⟩))), (3, .val (.pointer (some ⟨b3, 0, none⟩))), (11, .no)]) (Tri.block (Tri.seq (J := StG 6 0 wv [(8, .val (.string sg)), (7, .val (.int .i64 ((n : Nat) : Int))), (4, .val (.int .i64 ((i : Nat) : Int))), (0, .val (.bool false)), (1, .val (.slice (some ⟨g1, 0, none⟩) 11 11)), (2, .val (.pointer (some ⟨b2, 0, none⟩))), (3, .val (.pointer (some ⟨b3, 0, none⟩))), (11, .no)]) ?_ (Tri.seq (J := StG 6 0 wv [(108, .bool false), (8, .val (.string sg)), (7, .val (.int .i64 ((n : Nat) : Int))), (4, .val (.int .i64 ((i : Nat) : Int))), (0, .val (.bool false)), (1, .val (.slice (some ⟨g1, 0, none⟩) 11 11)), (2, .val (.pointer (some ⟨b2, 0, none⟩))), (3, .val (.pointer (some ⟨b3, 0, none⟩))), (11, .no)]) ?_ ?_))) (tri_inc (by decide) (by decide) (by decide) (by omega) rfl rfl rfl)
      ·
        intro Q a w h hQ
        have hb := below_own (w := w) (.cells #[.string ⟨#[45]⟩, .string ⟨#[110, 111, 116]⟩] 9)
        have m1 := (h.up hb).put (d := 72) (.slice (some ⟨w.heap.size, 0, none⟩) 2 2) (by decide) rfl
        have m2 := m1.put (d := 73) (.int .i64 ((n : Nat) : Int)) (by decide) rfl
        have m3 := m2.put (d := 74) (.pointer (some ⟨w.heap.size, n, none⟩)) (by decide) rfl
        have m4 := m3.put (d := 75) (.string sg) (by decide) rfl
        have m5 := (m4.sub (S' := [(7, .val (.int .i64 ((n : Nat) : Int))), (4, .val (.int .i64 ((i : Nat) : Int))), (0, .val (.bool false)), (1, .val (.slice (some ⟨g1, 0, none⟩) 11 11)), (2, .val (.pointer (some ⟨b2, 0, none⟩))), (3, .val (.pointer (some ⟨b3, 0, none⟩))), (11, .no)]) (fun f hf => List.mem_cons_of_mem _ (List.mem_cons_of_mem _ (List.mem_cons_of_mem _ (List.mem_cons_of_mem _ hf))))).put (d := 8) (.string sg) (by decide) rfl
        refine wp_region ?_
        show wpOps _ _ Q [0, 1, 2, 3, 4] a w
        rw [wpOps_cons]
        refine wpOp_strs27 rfl rfl ?_
        rw [wpOps_cons]
        refine wpOp_mv7 (v := .int .i64 ((n : Nat) : Int)) rfl rfl (m1.at (x := 7) (by simp)) ?_
        rw [wpOps_cons]
        refine wpOp_idx7 (b := w.heap.size) (j := n) (m := 2) (c := 2) rfl rfl (m2.at (x := 72) (by simp)) (m2.at (x := 73) (by simp)) hn ?_
        rw [wpOps_cons]
        refine wpOp_ldS7 (b := w.heap.size) (j := n) rfl rfl (m3.at (x := 74) (by simp)) (sgn_cell (heap_alloc_new w _) n sg hns) ?_
        rw [wpOps_cons]
        exact wpOp_asg7 (v := .string sg) rfl rfl (m4.at (x := 75) (by simp)) (hQ _ _ m5)
      ·
        intro Q a w hI hQ
        obtain ⟨v6, ho, hm⟩ := hI
        have HM := Lib.hid (HVars.out a w _ hm (fun f hf => by
          simp only [List.mem_cons, List.not_mem_nil, or_false] at hf
          rcases hf with rfl | rfl <;> simp))
        clear hm
        have HLw : Hid (Laid w) := HL.out.below HM.out.bel
        have HTw : Hid (Tab w.heap.size w) := fun W hb => HT.out W (HM.out.bel.trans (hb.mono HM.out.bel.size))
        have HgW : Hid (g1 < w.heap.size) := Nat.lt_of_lt_of_le HG1.out HM.out.bel.size
        have HOw : Hid (∀ (j : Nat) (s : ByteArray), opsN[j]? = some s → w.cell? ⟨g1, j, none⟩ = some (.string s)) := fun j s hs => (HM.out.bel.cell (p := ⟨g1, j, none⟩) HG1.out).trans (HO.out j s hs)
        refine wp_region_inv (fun listed a W => Reg 0 w 0 153 [(none, 6, .val (v6)), (none, 8, .val (.string sg)), (none, 7, .val (.int .i64 ((n : Nat) : Int))), (none, 4, .val (.int .i64 ((i : Nat) : Int))), (none, 0, .val (.bool false)), (none, 1, .val (.slice (some ⟨g1, 0, none⟩) 11 11)), (none, 2, .val (.pointer (some ⟨b2, 0, none⟩))), (none, 3, .val (.pointer (some ⟨b3, 0, none⟩))), (none, 11, .no), (none, 2, .var xN), (none, 3, .var yN), (some 0, 76, .val (.string sg)), (some 1, 77, .val (.slice (some ⟨g1, 0, none⟩) 11 11)), (some 2, 78, .val (.int .i64 ((i : Nat) : Int))), (some 3, 79, .val (.pointer (some ⟨g1, i, none⟩))), (some 4, 80, .val (.string si)), (some 5, 81, .tree xN), (some 6, 82, .tree yN), (some 7, 83, .tree (twoT7 si xN yN)), (some 8, 84, .rows [twoT7 si xN yN]), (some 9, 85, .tree (.mk 16 sg 0 0 [twoT7 si xN yN])), (some 10, 86, .tree (sayT (T.mk 16 sg 0 0 [twoT7 si xN yN]))), (some 11, 87, .bool true), (some 12, 88, .bool false), (some 13, 89, .bool false), (some 14, 90, .val (.slice (some ⟨g1, 0, none⟩) 11 11)), (some 15, 91, .val (.int .i64 ((i : Nat) : Int))), (some 16, 92, .val (.pointer (some ⟨g1, i, none⟩))), (some 17, 93, .val (.string si)), (some 18, 94, .val (.string sg)), (some 19, 95, .tree xN), (some 20, 96, .rows [xN]), (some 21, 97, .tree (.mk 16 sg 0 0 [xN])), (some 22, 98, .val (.string sg)), (some 23, 99, .tree yN), (some 24, 100, .rows [yN]), (some 25, 101, .tree (.mk 16 ⟨#[45]⟩ 0 0 [yN])), (some 26, 102, .rows [.mk 16 ⟨#[45]⟩ 0 0 [yN]]), (some 27, 103, .tree (.mk 16 sg 0 0 [.mk 16 ⟨#[45]⟩ 0 0 [yN]])), (some 28, 104, .tree (twoT7 si (T.mk 16 sg 0 0 [xN]) (T.mk 16 sg 0 0 [.mk 16 ⟨#[45]⟩ 0 0 [yN]]))), (some 29, 105, .tree (sayT (twoT7 si (T.mk 16 sg 0 0 [xN]) (T.mk 16 sg 0 0 [.mk 16 ⟨#[45]⟩ 0 0 [yN]])))), (some 30, 106, .bool true), (some 31, 107, .bool false), (some 32, 108, .bool false)] listed a W) (by kernel_rfl) (by kernel_rfl) (Mid.start HM.out (fun k hk e => by rw [show a.eval (.tmp 0) = .bool false from HM.out.facts (0, .val (.bool false)) (by simp)] at e; cases e) (fun f hf hc => ?_) _) (fun listed a W i0 hs h hr => ?_) (fun listed a W h hall => ?_)
        · simp only [List.mem_cons, List.not_mem_nil, or_false] at hf
          rcases hf with rfl | rfl | rfl | rfl | rfl | rfl | rfl | rfl | rfl | rfl | rfl | rfl | rfl | rfl | rfl | rfl | rfl | rfl | rfl | rfl | rfl | rfl | rfl | rfl | rfl | rfl | rfl | rfl | rfl | rfl | rfl | rfl | rfl | rfl | rfl | rfl | rfl | rfl | rfl | rfl | rfl | rfl | rfl | rfl <;> first | (cases hc; done) | simp
        · have hi0 : i0 < 33 := by
            obtain ⟨-, o, ho', -⟩ := mem_ready.1 hr
            exact (Array.getElem?_eq_some_iff.1 ho').1
          obtain rfl | rfl | rfl | rfl | rfl | rfl | rfl | rfl | rfl | rfl | rfl | rfl | rfl | rfl | rfl | rfl | rfl | rfl | rfl | rfl | rfl | rfl | rfl | rfl | rfl | rfl | rfl | rfl | rfl | rfl | rfl | rfl | rfl : i0 = 0 ∨ i0 = 1 ∨ i0 = 2 ∨ i0 = 3 ∨ i0 = 4 ∨ i0 = 5 ∨ i0 = 6 ∨ i0 = 7 ∨ i0 = 8 ∨ i0 = 9 ∨ i0 = 10 ∨ i0 = 11 ∨ i0 = 12 ∨ i0 = 13 ∨ i0 = 14 ∨ i0 = 15 ∨ i0 = 16 ∨ i0 = 17 ∨ i0 = 18 ∨ i0 = 19 ∨ i0 = 20 ∨ i0 = 21 ∨ i0 = 22 ∨ i0 = 23 ∨ i0 = 24 ∨ i0 = 25 ∨ i0 = 26 ∨ i0 = 27 ∨ i0 = 28 ∨ i0 = 29 ∨ i0 = 30 ∨ i0 = 31 ∨ i0 = 32 := by omega
          · exact h.mv rfl rfl (h.got hr 1 rfl (by kernel_rfl)) rfl rfl (by decide) (by decide)
          · exact h.mv rfl rfl (h.got hr 5 rfl (by kernel_rfl)) rfl rfl (by decide) (by decide)
          · exact h.mv rfl rfl (h.got hr 3 rfl (by kernel_rfl)) rfl rfl (by decide) (by decide)
          · exact h.idx (Or.inl rfl) rfl rfl (h.got hr 12 rfl (by kernel_rfl)) (h.got hr 13 rfl (by kernel_rfl)) hi rfl rfl (by decide) (by decide)
          · exact h.ldv (Or.inl rfl) rfl rfl (h.got hr 14 rfl (by kernel_rfl)) HgW.out (HOw.out _ _ his) rfl rfl (by decide) (by decide)
          · exact h.load rfl rfl (h.got hr 9 rfl (by kernel_rfl)) rfl rfl (by decide) (by decide)
          · exact h.load rfl rfl (h.got hr 10 rfl (by kernel_rfl)) rfl rfl (by decide) (by decide)
          · exact h.two rfl rfl (h.got hr 15 rfl (by kernel_rfl)) (h.got hr 16 rfl (by kernel_rfl)) (h.got hr 17 rfl (by kernel_rfl)) rfl rfl (by decide) (by decide)
          · exact h.slice1 rfl rfl (h.got hr 18 rfl (by kernel_rfl)) rfl rfl (by decide) (by decide)
          · exact h.of2 rfl rfl (h.got hr 11 rfl (by kernel_rfl)) (h.got hr 19 rfl (by kernel_rfl)) rfl rfl (by decide) (by decide)
          · exact h.says rfl rfl (h.got hr 20 rfl (by kernel_rfl)) rfl rfl (by decide) (by decide)
          · exact h.tells rfl rfl (h.got hr 21 rfl (by kernel_rfl)) HLw.out HTw.out (txt1 (by decide) (txt1 (by decide) (txt1 (by decide) (txt1 hsg (txt2 hsi txtxN txtyN))))) rfl rfl (by decide) (by decide)
          · exact h.notT rfl rfl (h.got hr 22 rfl (by kernel_rfl)) rfl rfl (by decide) (by decide)
          · exact h.move rfl rfl (h.got hr 23 rfl (by kernel_rfl)) rfl rfl (by decide) (by decide)
          · exact h.mv rfl (wanted_of rfl (yields_of rfl rfl (h.got hr 24 rfl (by kernel_rfl)))) (h.got hr 5 rfl (by kernel_rfl)) rfl rfl (by decide) (by decide)
          · exact h.mv rfl (wanted_of rfl (yields_of rfl rfl (h.got hr 24 rfl (by kernel_rfl)))) (h.got hr 3 rfl (by kernel_rfl)) rfl rfl (by decide) (by decide)
          · exact h.idx (Or.inl rfl) rfl (wanted_of rfl (yields_of rfl rfl (h.got hr 24 rfl (by kernel_rfl)))) (h.got hr 25 rfl (by kernel_rfl)) (h.got hr 26 rfl (by kernel_rfl)) hi rfl rfl (by decide) (by decide)
          · exact h.ldv (Or.inl rfl) rfl (wanted_of rfl (yields_of rfl rfl (h.got hr 24 rfl (by kernel_rfl)))) (h.got hr 27 rfl (by kernel_rfl)) HgW.out (HOw.out _ _ his) rfl rfl (by decide) (by decide)
          · exact h.mv rfl (wanted_of rfl (yields_of rfl rfl (h.got hr 24 rfl (by kernel_rfl)))) (h.got hr 1 rfl (by kernel_rfl)) rfl rfl (by decide) (by decide)
          · exact h.load rfl (wanted_of rfl (yields_of rfl rfl (h.got hr 24 rfl (by kernel_rfl)))) (h.got hr 9 rfl (by kernel_rfl)) rfl rfl (by decide) (by decide)
          · exact h.slice1 rfl (wanted_of rfl (yields_of rfl rfl (h.got hr 24 rfl (by kernel_rfl)))) (h.got hr 30 rfl (by kernel_rfl)) rfl rfl (by decide) (by decide)
          · exact h.of2 rfl (wanted_of rfl (yields_of rfl rfl (h.got hr 24 rfl (by kernel_rfl)))) (h.got hr 29 rfl (by kernel_rfl)) (h.got hr 31 rfl (by kernel_rfl)) rfl rfl (by decide) (by decide)
          · exact h.mv rfl (wanted_of rfl (yields_of rfl rfl (h.got hr 24 rfl (by kernel_rfl)))) (h.got hr 1 rfl (by kernel_rfl)) rfl rfl (by decide) (by decide)
          · exact h.load rfl (wanted_of rfl (yields_of rfl rfl (h.got hr 24 rfl (by kernel_rfl)))) (h.got hr 10 rfl (by kernel_rfl)) rfl rfl (by decide) (by decide)
          · exact h.slice1 rfl (wanted_of rfl (yields_of rfl rfl (h.got hr 24 rfl (by kernel_rfl)))) (h.got hr 34 rfl (by kernel_rfl)) rfl rfl (by decide) (by decide)
          · exact h.of2 rfl (wanted_of rfl (yields_of rfl rfl (h.got hr 24 rfl (by kernel_rfl)))) rfl (h.got hr 35 rfl (by kernel_rfl)) rfl rfl (by decide) (by decide)
          · exact h.slice1 rfl (wanted_of rfl (yields_of rfl rfl (h.got hr 24 rfl (by kernel_rfl)))) (h.got hr 36 rfl (by kernel_rfl)) rfl rfl (by decide) (by decide)
          · exact h.of2 rfl (wanted_of rfl (yields_of rfl rfl (h.got hr 24 rfl (by kernel_rfl)))) (h.got hr 33 rfl (by kernel_rfl)) (h.got hr 37 rfl (by kernel_rfl)) rfl rfl (by decide) (by decide)
          · exact h.two rfl (wanted_of rfl (yields_of rfl rfl (h.got hr 24 rfl (by kernel_rfl)))) (h.got hr 28 rfl (by kernel_rfl)) (h.got hr 32 rfl (by kernel_rfl)) (h.got hr 38 rfl (by kernel_rfl)) rfl rfl (by decide) (by decide)
          · exact h.says rfl (wanted_of rfl (yields_of rfl rfl (h.got hr 24 rfl (by kernel_rfl)))) (h.got hr 39 rfl (by kernel_rfl)) rfl rfl (by decide) (by decide)
          · exact h.tells rfl (wanted_of rfl (yields_of rfl rfl (h.got hr 24 rfl (by kernel_rfl)))) (h.got hr 40 rfl (by kernel_rfl)) HLw.out HTw.out (txt1 (by decide) (txt1 (by decide) (txt1 (by decide) (txt2 hsi (txt1 hsg txtxN) (txt1 hsg (txt1 (by decide) txtyN)))))) rfl rfl (by decide) (by decide)
          · exact h.notT rfl (wanted_of rfl (yields_of rfl rfl (h.got hr 24 rfl (by kernel_rfl)))) (h.got hr 41 rfl (by kernel_rfl)) rfl rfl (by decide) (by decide)
          · exact h.pickF rfl rfl (h.got hr 24 rfl (by kernel_rfl)) (h.got hr 42 rfl (by kernel_rfl)) rfl rfl (by decide) (by decide)
        · have hm' : Mid 0 wv 153 [(6, .val (v6)), (108, .bool false), (8, .val (.string sg)), (7, .val (.int .i64 ((n : Nat) : Int))), (4, .val (.int .i64 ((i : Nat) : Int))), (0, .val (.bool false)), (1, .val (.slice (some ⟨g1, 0, none⟩) 11 11)), (2, .val (.pointer (some ⟨b2, 0, none⟩))), (3, .val (.pointer (some ⟨b3, 0, none⟩))), (11, .no)] a W := h.mid HM.out.bel hall (fun f hf => by
            simp only [List.mem_cons, List.not_mem_nil, or_false] at hf
            rcases hf with rfl | rfl | rfl | rfl | rfl | rfl | rfl | rfl | rfl | rfl
            · exact ⟨none, by simp, fun j e => by cases e⟩
            · exact ⟨some 32, by simp, fun j e => by cases e; decide⟩
            · exact ⟨none, by simp, fun j e => by cases e⟩
            · exact ⟨none, by simp, fun j e => by cases e⟩
            · exact ⟨none, by simp, fun j e => by cases e⟩
            · exact ⟨none, by simp, fun j e => by cases e⟩
            · exact ⟨none, by simp, fun j e => by cases e⟩
            · exact ⟨none, by simp, fun j e => by cases e⟩
            · exact ⟨none, by simp, fun j e => by cases e⟩
            · exact ⟨none, by simp, fun j e => by cases e⟩)
          exact hQ a W ⟨v6, ho.up h.bel.size, hm'⟩
      · refine Tri.post (Tri.no (fun a w h => ?_)) (fun a w h => h.sub (fun f hf => by
        simp only [List.mem_cons, List.not_mem_nil, or_false] at hf ⊢
        rcases hf with rfl | rfl | rfl | rfl | rfl | rfl | rfl <;> simp))
        obtain ⟨v6, ho, hm⟩ := h
        exact hm.facts (108, .bool false) (by simp)
  refine (by assumption : ∀ (a : Act) (w : World), Code.wp _ _ _ a w → _) a1 w1 ?_
  have hb := below_own (w := w1) (.cells #[.int .i64 (-2147483647), .int .i64 (-1), .int .i64 1, .int .i64 2147483647, .int .i64 2147483648] 3)
  have m1 := (h1.up hb).put (d := 109) (.slice (some ⟨w1.heap.size, 0, none⟩) 5 5) (by decide) rfl
  have m2 := m1.put (d := 9) (.slice (some ⟨w1.heap.size, 0, none⟩) 5 5) (by decide) rfl
  refine wp_seq (wp_region ?_)
  show wpOps _ _ _ [0, 1] a1 w1
  rw [wpOps_cons]
  refine wpOp_ints57 rfl rfl ?_
  rw [wpOps_cons]
  refine wpOp_asg7 rfl rfl (m1.at (x := 109) (List.mem_cons_self ..)) ?_
  obtain ⟨a2, ha2⟩ : ∃ a2, a2 = (a1.put (some 109) (.slice (some ⟨w1.heap.size, 0, none⟩) 5 5)).put (some 9) (.slice (some ⟨w1.heap.size, 0, none⟩) 5 5) := ⟨_, rfl⟩
  obtain ⟨wx, hwx⟩ : ∃ wx, wx = w1.alloc (.cells #[.int .i64 (-2147483647), .int .i64 (-1), .int .i64 1, .int .i64 2147483647, .int .i64 2147483648] 3) := ⟨_, rfl⟩
  obtain ⟨g9, hg9⟩ : ∃ g, g = w1.heap.size := ⟨_, rfl⟩
  have HC9 : Hid (∀ (j : Nat) (z : Int), numN[j]? = some z → wx.cell? ⟨g9, j, none⟩ = some (.int .i64 z)) := fun j z hz => num_cell (by rw [hwx, hg9]; exact heap_alloc_new w1 _) j z hz
  have HG9 : Hid (g9 < wx.heap.size) := by unfold Hid; rw [hwx, hg9]; simp
  rw [← ha2, ← hwx] at m2
  rw [← hg9] at m2
  obtain ⟨v6, -, mm⟩ := m2
  have HBx : Hid (Below w00.heap.size w00 wx) := HB0.out.trans (mm.bel.mono HB0.out.size)
  have HLx : Hid (Laid wx) := HL.out.below mm.bel
  have HTx : Hid (Tab wx.heap.size wx) := fun W hb => HTb.out W (HBx.out.trans (hb.mono HBx.out.size))
  have HS2 : Hid (StG 11 wx.heap.size wx [(9, .val (.slice (some ⟨g9, 0, none⟩) 5 5)), (0, .val (.bool false))] a2 wx) := by
    refine ⟨undef, fun k _ e => (by cases e), mm.size, mm.defers, Below.refl _ _, Nat.le_refl _, fun f hf => ?_⟩
    simp only [List.mem_cons, List.not_mem_nil, or_false] at hf
    rcases hf with rfl | rfl | rfl
    · exact mm.facts (11, .no) (by simp)
    · exact mm.at (x := 9) (by simp)
    · exact mm.at (x := 0) (by simp)
  clear HC HL HT LN HVars HG1 HO hJ0 h1 m1 mm hb
  rw [← ha2, ← hwx]
  clear ha2 hwx hg9
  have HL := HLx
  have HT := HTx
  obtain ⟨wv, hwv⟩ : ∃ wv, wv = wx := ⟨_, rfl⟩
  subst hwv
  refine wp_seq (Tri.go (J := StG 11 wv.heap.size wv [(9, .val (.slice (some ⟨g9, 0, none⟩) 5 5)), (0, .val (.bool false))]) ?_ HS2.out (fun a3 w3 h3 => ?_))
  · refine Tri.seq (tri_zero (x := 10) (by decide) rfl) ?_
    refine Tri.post (Tri.count (n := 5) (fun j => StG 11 wv.heap.size wv [(10, .val (.int .i64 ((j : Nat) : Int))), (9, .val (.slice (some ⟨g9, 0, none⟩) 5 5)), (0, .val (.bool false))]) (cntA 10) (fun j a w h => h.cnt (by simp)) (fun j hj => tri_head (ao := some ⟨g9, 0, none⟩) (m := 5) (c := 5) (Or.inr rfl) (by simp) (sl := 9) (by simp) (by decide) (by decide) (by decide) (by decide) rfl rfl rfl rfl) (fun j hj => ?_)) (fun a w h => h.sub (fun f hf => by
        simp only [List.mem_cons, List.not_mem_nil, or_false] at hf ⊢
        rcases hf with rfl | rfl <;> simp))
    obtain ⟨z, hz⟩ := numN_get j hj
    refine Tri.seq (J := StG 11 wv.heap.size wv [(10, .val (.int .i64 ((j : Nat) : Int))), (9, .val (.slice (some ⟨g9, 0, none⟩) 5 5)), (0, .val (.bool false))]) (Tri.block (Tri.seq (J := StV 11 wv.heap.size wv progN [(10, .val (.int .i64 ((j : Nat) : Int))), (9, .val (.slice (some ⟨g9, 0, none⟩) 5 5)), (0, .val (.bool false))]) ?_ (Tri.seq (J := (fun a w => ∃ b u, a.eval (.tmp 11) = .pointer (some ⟨b, 0, none⟩) ∧ wv.heap.size ≤ b ∧ b < w.heap.size ∧ w.heap[b]? = some (boxN (progZ z) u) ∧ Lies w.heap.size w (progZ z) u ∧ Mid wv.heap.size wv 153 ((11, .val (.pointer (some ⟨b, 0, none⟩))) :: [(10, .val (.int .i64 ((j : Nat) : Int))), (9, .val (.slice (some ⟨g9, 0, none⟩) 5 5)), (0, .val (.bool false))]) a w)) ?_ (Tri.seq (J := (fun a w => StG 11 wv.heap.size wv [(10, .val (.int .i64 ((j : Nat) : Int))), (9, .val (.slice (some ⟨g9, 0, none⟩) 5 5)), (0, .val (.bool false))] a w ∧ a.eval (.tmp 129) = .bool false)) ?_ ?_)))) (tri_inc (by decide) (by decide) (by decide) (by omega) rfl rfl rfl)
    ·
      intro Q a w ⟨v6, ho, hm⟩ hQ
      have HM := Lib.hid hm
      have HV6 := Lib.hid ho
      clear hm ho
      refine wp_region_seqL 4 (fun listed a W => Reg wv.heap.size w 11 153 [(none, 10, .val (.int .i64 ((j : Nat) : Int))), (none, 9, .val (.slice (some ⟨g9, 0, none⟩) 5 5)), (none, 0, .val (.bool false)), (some 0, 116, .tree ruleN), (some 1, 117, .rows [ruleN]), (some 2, 118, .tree progN), (some 3, 11, .box w.heap.size)] listed a W) (by kernel_rfl) rfl (startL0 (lo := wv.heap.size) HM.out.size HM.out.defers HM.out.bel.size HM.out.low (fun f hf hc => ?_) (fun k hk => by rw [show a.eval (.tmp 11) = v6 from HM.out.at (List.mem_cons_self ..)]; exact HV6.out k hk) _) (fun listed a W i0 h hr hi0 => ?_) (fun listed a W h hr => ?_)
      · simp only [List.mem_cons, List.not_mem_nil, or_false] at hf
        rcases hf with rfl | rfl | rfl | rfl | rfl | rfl | rfl
        · exact HM.out.at (x := 10) (by simp)
        · exact HM.out.at (x := 9) (by simp)
        · exact HM.out.at (x := 0) (by simp)
        · cases hc
        · cases hc
        · cases hc
        · cases hc
      · obtain rfl | rfl | rfl | rfl : i0 = 0 ∨ i0 = 1 ∨ i0 = 2 ∨ i0 = 3 := by omega
        · exact h.of2 rfl rfl rfl (stood_nil (.mk 0 ⟨#[]⟩ 0 0 []) rfl) rfl rfl (by decide) (by decide)
        · exact h.slice1 rfl rfl (h.got hr 3 rfl (by kernel_rfl)) rfl rfl (by decide) (by decide)
        · exact h.of2 rfl rfl rfl (h.got hr 4 rfl (by kernel_rfl)) rfl rfl (by decide) (by decide)
        · exact h.alloc rfl rfl rfl rfl (by decide)
      · refine Reg.store (wS := wv) (S := [(11, .own w.heap.size (progN)), (10, .val (.int .i64 ((j : Nat) : Int))), (9, .val (.slice (some ⟨g9, 0, none⟩) 5 5)), (0, .val (.bool false))]) h HM.out.bel rfl rfl (h.got hr 6 rfl (by kernel_rfl)) HM.out.bel.size HM.out.low (h.got hr 5 rfl (by kernel_rfl)) (fun f hf => ?_) (fun w' hm' => hQ _ _ ⟨w.heap.size, HM.out.bel.size, hm'⟩)
        simp only [List.mem_cons, List.not_mem_nil, or_false] at hf
        rcases hf with rfl | rfl | rfl | rfl
        · exact Or.inl rfl
        · exact Or.inr (Or.inr ⟨by simp, Or.inl rfl⟩)
        · exact Or.inr (Or.inr ⟨by simp, Or.inl rfl⟩)
        · exact Or.inr (Or.inr ⟨by simp, Or.inl rfl⟩)
    ·
      intro Q a w ⟨lo, hlo, hm⟩ hQ
      obtain ⟨b, u, hv, hlb, hP, hbx, hst⟩ := hm.facts (11, .own lo progN) (List.mem_cons_self ..)
      obtain ⟨kb, off, c, rfl, hrk, hklt, hkne, -, -, -⟩ := kid_set (m := z) hst rfl
      have HBw := Lib.hid hP.1
      have HC4 : Hid (w.cell? ⟨b, 0 + 4, none⟩ = some (.slice (some ⟨kb, off, none⟩) 1 c)) := (Lib.cell_of_heap hbx 4).trans rfl
      have HGw : Hid (g9 < w.heap.size) := Nat.lt_of_lt_of_le HG9.out hm.bel.size
      have HCw : Hid (w.cell? ⟨g9, j, none⟩ = some (.int .i64 z)) := (hm.bel.cell (p := ⟨g9, j, none⟩) HG9.out).trans (HC9.out j z hz)
      have HM : Hid (Mid wv.heap.size wv 153 [(11, .val (.pointer (some ⟨b, 0, none⟩))), (10, .val (.int .i64 ((j : Nat) : Int))), (9, .val (.slice (some ⟨g9, 0, none⟩) 5 5)), (0, .val (.bool false))] a w) := ⟨hm.size, hm.defers, hm.bel, hm.low, fun f hf => by
        rcases List.mem_cons.1 hf with rfl | hf
        · exact hv
        · exact hm.facts f (List.mem_cons_of_mem _ hf)⟩
      have HX := Lib.hid hbx
      have HStd := Lib.hid hst
      have HPb := Lib.hid hP
      clear hbx hst hm hv hP hlb hlo
      refine wp_region_reg2 (r := wv.heap.size) (w0 := w) (bs := 0) (n := 153) (last := 8) (F := [(none, 11, .val (.pointer (some ⟨b, 0, none⟩))), (none, 10, .val (.int .i64 ((j : Nat) : Int))), (none, 9, .val (.slice (some ⟨g9, 0, none⟩) 5 5)), (none, 0, .val (.bool false)), (some 0, 119, .val (.pointer (some ⟨b, 0 + 4, none⟩))), (some 1, 120, .val (.slice (some ⟨kb, off, none⟩) 1 c)), (some 2, 121, .val (.slice (some ⟨g9, 0, none⟩) 5 5)), (some 3, 122, .val (.int .i64 ((j : Nat) : Int))), (some 4, 123, .val (.pointer (some ⟨g9, j, none⟩))), (some 5, 124, .val (.int .i64 z)), (some 6, 125, .val (.pointer (some ⟨kb, off, none⟩))), (some 7, 126, .val (.pointer (some ⟨kb, off + 2, none⟩)))]) (by kernel_rfl) (by kernel_rfl) (by decide) (by kernel_rfl) (Mid.start HM.out (fun k hk e => by rw [show a.eval (.tmp 0) = .bool false from HM.out.facts (0, .val (.bool false)) (by simp)] at e; cases e) (fun f hf hc => ?_) _) (fun listed a W i0 h hr hi0 hl => ?_) (fun listed a W h hr => ?_)
      · simp only [List.mem_cons, List.not_mem_nil, or_false] at hf
        rcases hf with rfl | rfl | rfl | rfl | rfl | rfl | rfl | rfl | rfl | rfl | rfl | rfl <;> first | (cases hc; done) | simp
      · have hi0' : i0 < 9 := hi0
        obtain rfl | rfl | rfl | rfl | rfl | rfl | rfl | rfl : i0 = 0 ∨ i0 = 1 ∨ i0 = 2 ∨ i0 = 3 ∨ i0 = 4 ∨ i0 = 5 ∨ i0 = 6 ∨ i0 = 7 := by omega
        · exact h.fld (Or.inr rfl) rfl rfl (h.got hr 0 rfl (by kernel_rfl)) rfl rfl (by decide) (by decide)
        · exact h.ldr rfl rfl (h.got hr 4 rfl (by kernel_rfl)) HBw.out HC4.out rfl rfl (by decide) (by decide)
        · exact h.mv rfl rfl (h.got hr 2 rfl (by kernel_rfl)) rfl rfl (by decide) (by decide)
        · exact h.mv rfl rfl (h.got hr 1 rfl (by kernel_rfl)) rfl rfl (by decide) (by decide)
        · exact h.idx (Or.inr rfl) rfl rfl (h.got hr 6 rfl (by kernel_rfl)) (h.got hr 7 rfl (by kernel_rfl)) hj rfl rfl (by decide) (by decide)
        · exact h.ldv (Or.inr rfl) rfl rfl (h.got hr 8 rfl (by kernel_rfl)) HGw.out HCw.out rfl rfl (by decide) (by decide)
        · exact h.idx0 rfl rfl (h.got hr 5 rfl (by kernel_rfl)) rfl rfl (by decide) (by decide)
        · exact h.fld (Or.inl rfl) rfl rfl (h.got hr 10 rfl (by kernel_rfl)) rfl rfl (by decide) (by decide)
      · have hs2 : Stood True (fun k => (k < W.heap.size ∧ wv.heap.size ≤ k) ∧ k ≠ b) W progN (.slice (some ⟨kb, off, none⟩) 1 c) := HStd.out.keep (fun k hk => h.bel.block k hk.1.1) (fun k hk => ⟨⟨Nat.lt_of_lt_of_le hk.1.1 h.bel.size, hk.1.2⟩, hk.2⟩)
        obtain ⟨kb', off', c', he, hrk', hklt', hkne', hc2, hf2, hLs⟩ := kid_set (m := z) hs2 rfl
        injection he with he1 he2 he3
        injection he1 with he1
        injection he1 with e1 e2
        subst e1 e2 he3
        refine wpOp_storeInt rfl rfl (h.got hr 11 rfl (by kernel_rfl)) (h.got hr 9 rfl (by kernel_rfl)) hc2 hf2 (hQ _ _ ⟨b, _, ?_, HPb.out.2, ?_, ?_, hLs, ?_⟩)
        · exact h.got hr 0 rfl (by kernel_rfl)
        · exact Nat.lt_of_lt_of_le (Nat.lt_of_lt_of_le HBw.out h.bel.size) ((Fr.refl kb W).set (off + 2) (.int .i64 z)).size
        · exact ((Fr.refl kb W).set (off + 2) (.int .i64 z)).keep ((h.bel.block b HBw.out).trans HX.out) (Ne.symm hkne)
        · refine ⟨h.size, h.defers, (HM.out.bel.trans (h.bel.mono HM.out.bel.size)).trans (((Fr.refl kb W).set (off + 2) (.int .i64 z)).below (Nat.le_trans HM.out.bel.size h.bel.size) hrk), Nat.le_trans h.low ((Fr.refl kb W).set (off + 2) (.int .i64 z)).size, fun f hf => ?_⟩
          simp only [List.mem_cons, List.not_mem_nil, or_false] at hf
          rcases hf with rfl | rfl | rfl | rfl
          · exact h.got hr 0 rfl (by kernel_rfl)
          · exact h.got hr 1 rfl (by kernel_rfl)
          · exact h.got hr 2 rfl (by kernel_rfl)
          · exact h.got hr 3 rfl (by kernel_rfl)
    ·
      intro Q a w ⟨b, u, hv, hb1, hb2, hbx, hl, hm⟩ hQ
      have HK : Hid (∀ w', Below w.heap.size w w' → Lies w'.heap.size w' (progZ z) u) := fun w' hb => hl.up hb hb.size
      have hLw := HL.out.below hm.bel
      have hTw : Tab w.heap.size w := fun W hb => HT.out W (hm.bel.trans (hb.mono hm.bel.size))
      have m1 := hm.put (d := 127) (agg (progZ z) u) (by decide) rfl
      refine wp_region ?_
      show wpOps _ _ Q [0, 1, 2] a w
      rw [wpOps_cons]
      refine wpOp_load rfl rfl hv (Lib.cell_of_heap hbx) ?_
      rw [wpOps_cons]
      refine wpOp_call (vs := #[agg (progZ z) u]) rfl rfl (enters_of Tryz.func3 (by kernel_rfl) rfl) (by simp only [List.map_toArray, List.map_cons, List.map_nil]; rw [m1.at (x := 127) (List.mem_cons_self ..)]) ((showTells_any (progZ z) u w hl (txtZ z) hLw hTw).mono ?_)
      rintro e w' ⟨rfl, hb'⟩
      refine ⟨_, rfl, ?_⟩
      have m2 := (m1.up hb').put (d := 128) (.bool true) (by decide) rfl
      have m3 := m2.put (d := 129) (.bool false) (by decide) rfl
      rw [wpOps_cons]
      refine wpOp_not7 rfl rfl (m2.at (x := 128) (List.mem_cons_self ..)) (hQ _ _ ⟨⟨.pointer (some ⟨b, 0, none⟩), fun k hk e => ?_, m3.sub fun f hf => ?_⟩, m3.at (List.mem_cons_self ..)⟩)
      · injection e with e
        injection e with e
        injection e with e
        have := hb'.size
        omega
      · exact List.mem_cons_of_mem _ (List.mem_cons_of_mem _ (List.mem_cons_of_mem _ hf))
    · exact Tri.post (Tri.no (fun a w h => h.2)) (fun a w h => h.1)
  refine wp_seq (Tri.go (J := fun a w => a.eval (.tmp 0) = .bool true ∧ a.defers = [] ∧ Below wv.heap.size wv w) ?_ h3 (fun a4 w4 h4 => ?_))
  ·
    intro Q a w ⟨v6, ho, hm⟩ hQ
    have HM := Lib.hid hm
    clear hm ho
    have HLw : Hid (Laid w) := HL.out.below HM.out.bel
    have HTw : Hid (Tab w.heap.size w) := fun W hb => HT.out W (HM.out.bel.trans (hb.mono HM.out.bel.size))
    refine wp_region_seqL 23 (fun listed a W => Reg 0 w 0 153 [(none, 9, .val (.slice (some ⟨g9, 0, none⟩) 5 5)), (some 0, 130, .tree (.mk 1 ⟨#[]⟩ 0 0 [])), (some 1, 131, .bool true), (some 2, 132, .bool true), (some 3, 133, .tree (.mk 2 ⟨#[97]⟩ 0 0 [])), (some 4, 134, .tree (.mk 3 ⟨#[98]⟩ 0 0 [])), (some 5, 135, .tree (.mk 3 ⟨#[99]⟩ 0 0 [])), (some 6, 136, .rows [.mk 3 ⟨#[98]⟩ 0 0 [], .mk 3 ⟨#[99]⟩ 0 0 []]), (some 7, 137, .tree (.mk 2 ⟨#[97]⟩ 0 0 [.mk 3 ⟨#[98]⟩ 0 0 [], .mk 3 ⟨#[99]⟩ 0 0 []])), (some 8, 138, .tree (.mk 12 ⟨#[]⟩ 0 0 [])), (some 9, 139, .rows [.mk 12 ⟨#[]⟩ 0 0 []]), (some 10, 140, .tree (.mk 6 ⟨#[97]⟩ 0 0 [.mk 12 ⟨#[]⟩ 0 0 []])), (some 11, 141, .tree (.mk 8 ⟨#[97]⟩ 0 0 [])), (some 12, 142, .tree (.mk 9 ⟨#[]⟩ 0 0 [])), (some 13, 143, .tree (.mk 11 ⟨#[]⟩ 0 0 [])), (some 14, 144, .rows [.mk 6 ⟨#[97]⟩ 0 0 [.mk 12 ⟨#[]⟩ 0 0 []], .mk 8 ⟨#[97]⟩ 0 0 [], .mk 9 ⟨#[]⟩ 0 0 [], .mk 11 ⟨#[]⟩ 0 0 []]), (some 15, 145, .tree (.mk 4 ⟨#[114]⟩ 0 0 [.mk 6 ⟨#[97]⟩ 0 0 [.mk 12 ⟨#[]⟩ 0 0 []], .mk 8 ⟨#[97]⟩ 0 0 [], .mk 9 ⟨#[]⟩ 0 0 [], .mk 11 ⟨#[]⟩ 0 0 []])), (some 16, 146, .rows [.mk 2 ⟨#[97]⟩ 0 0 [], .mk 2 ⟨#[97]⟩ 0 0 [.mk 3 ⟨#[98]⟩ 0 0 [], .mk 3 ⟨#[99]⟩ 0 0 []], .mk 4 ⟨#[114]⟩ 0 0 [.mk 6 ⟨#[97]⟩ 0 0 [.mk 12 ⟨#[]⟩ 0 0 []], .mk 8 ⟨#[97]⟩ 0 0 [], .mk 9 ⟨#[]⟩ 0 0 [], .mk 11 ⟨#[]⟩ 0 0 []]]), (some 17, 147, .tree (.mk 1 ⟨#[]⟩ 0 0 [.mk 2 ⟨#[97]⟩ 0 0 [], .mk 2 ⟨#[97]⟩ 0 0 [.mk 3 ⟨#[98]⟩ 0 0 [], .mk 3 ⟨#[99]⟩ 0 0 []], .mk 4 ⟨#[114]⟩ 0 0 [.mk 6 ⟨#[97]⟩ 0 0 [.mk 12 ⟨#[]⟩ 0 0 []], .mk 8 ⟨#[97]⟩ 0 0 [], .mk 9 ⟨#[]⟩ 0 0 [], .mk 11 ⟨#[]⟩ 0 0 []]])), (some 18, 148, .bool true), (some 19, 149, .bool true), (some 20, 150, .bool true), (some 21, 151, .bool true), (some 22, 152, .bool true)] listed a W) (by kernel_rfl) rfl (Mid.start0 (Mid.low0 HM.out) (fun k e => by rw [show a.eval (.tmp 0) = .bool false from HM.out.facts (0, .val (.bool false)) (by simp)] at e; cases e) (fun f hf hc => ?_) _) (fun listed a W i0 h hr hi0 => ?_) (fun listed a W h hr => ?_)
    · simp only [List.mem_cons, List.not_mem_nil, or_false] at hf
      rcases hf with rfl | rfl | rfl | rfl | rfl | rfl | rfl | rfl | rfl | rfl | rfl | rfl | rfl | rfl | rfl | rfl | rfl | rfl | rfl | rfl | rfl | rfl | rfl | rfl <;> first | (cases hc; done) | simp
    · obtain rfl | rfl | rfl | rfl | rfl | rfl | rfl | rfl | rfl | rfl | rfl | rfl | rfl | rfl | rfl | rfl | rfl | rfl | rfl | rfl | rfl | rfl | rfl : i0 = 0 ∨ i0 = 1 ∨ i0 = 2 ∨ i0 = 3 ∨ i0 = 4 ∨ i0 = 5 ∨ i0 = 6 ∨ i0 = 7 ∨ i0 = 8 ∨ i0 = 9 ∨ i0 = 10 ∨ i0 = 11 ∨ i0 = 12 ∨ i0 = 13 ∨ i0 = 14 ∨ i0 = 15 ∨ i0 = 16 ∨ i0 = 17 ∨ i0 = 18 ∨ i0 = 19 ∨ i0 = 20 ∨ i0 = 21 ∨ i0 = 22 := by omega
      · exact h.of2 rfl rfl rfl (stood_nil (.mk 0 ⟨#[]⟩ 0 0 []) rfl) rfl rfl (by decide) (by decide)
      · exact h.tells rfl rfl (h.got hr 1 rfl (by kernel_rfl)) HLw.out HTw.out (txt0 (by decide)) rfl rfl (by decide) (by decide)
      · exact h.move rfl rfl (h.got hr 2 rfl (by kernel_rfl)) rfl rfl (by decide) (by decide)
      · exact h.of2 rfl (wanted_of rfl (yields_of rfl rfl (h.got hr 3 rfl (by kernel_rfl)))) rfl (stood_nil (.mk 0 ⟨#[]⟩ 0 0 []) rfl) rfl rfl (by decide) (by decide)
      · exact h.of2 rfl (wanted_of rfl (yields_of rfl rfl (h.got hr 3 rfl (by kernel_rfl)))) rfl (stood_nil (.mk 0 ⟨#[]⟩ 0 0 []) rfl) rfl rfl (by decide) (by decide)
      · exact h.of2 rfl (wanted_of rfl (yields_of rfl rfl (h.got hr 3 rfl (by kernel_rfl)))) rfl (stood_nil (.mk 0 ⟨#[]⟩ 0 0 []) rfl) rfl rfl (by decide) (by decide)
      · exact h.slice2 rfl (wanted_of rfl (yields_of rfl rfl (h.got hr 3 rfl (by kernel_rfl)))) (h.got hr 5 rfl (by kernel_rfl)) (h.got hr 6 rfl (by kernel_rfl)) rfl rfl (by decide) (by decide)
      · exact h.of2 rfl (wanted_of rfl (yields_of rfl rfl (h.got hr 3 rfl (by kernel_rfl)))) rfl (h.got hr 7 rfl (by kernel_rfl)) rfl rfl (by decide) (by decide)
      · exact h.of2 rfl (wanted_of rfl (yields_of rfl rfl (h.got hr 3 rfl (by kernel_rfl)))) rfl (stood_nil (.mk 0 ⟨#[]⟩ 0 0 []) rfl) rfl rfl (by decide) (by decide)
      · exact h.slice1 rfl (wanted_of rfl (yields_of rfl rfl (h.got hr 3 rfl (by kernel_rfl)))) (h.got hr 9 rfl (by kernel_rfl)) rfl rfl (by decide) (by decide)
      · exact h.of2 rfl (wanted_of rfl (yields_of rfl rfl (h.got hr 3 rfl (by kernel_rfl)))) rfl (h.got hr 10 rfl (by kernel_rfl)) rfl rfl (by decide) (by decide)
      · exact h.of2 rfl (wanted_of rfl (yields_of rfl rfl (h.got hr 3 rfl (by kernel_rfl)))) rfl (stood_nil (.mk 0 ⟨#[]⟩ 0 0 []) rfl) rfl rfl (by decide) (by decide)
      · exact h.of2 rfl (wanted_of rfl (yields_of rfl rfl (h.got hr 3 rfl (by kernel_rfl)))) rfl (stood_nil (.mk 0 ⟨#[]⟩ 0 0 []) rfl) rfl rfl (by decide) (by decide)
      · exact h.of2 rfl (wanted_of rfl (yields_of rfl rfl (h.got hr 3 rfl (by kernel_rfl)))) rfl (stood_nil (.mk 0 ⟨#[]⟩ 0 0 []) rfl) rfl rfl (by decide) (by decide)
      · exact h.slice4 rfl (wanted_of rfl (yields_of rfl rfl (h.got hr 3 rfl (by kernel_rfl)))) (h.got hr 11 rfl (by kernel_rfl)) (h.got hr 12 rfl (by kernel_rfl)) (h.got hr 13 rfl (by kernel_rfl)) (h.got hr 14 rfl (by kernel_rfl)) rfl rfl (by decide) (by decide)
      · exact h.of2 rfl (wanted_of rfl (yields_of rfl rfl (h.got hr 3 rfl (by kernel_rfl)))) rfl (h.got hr 15 rfl (by kernel_rfl)) rfl rfl (by decide) (by decide)
      · exact h.slice3 rfl (wanted_of rfl (yields_of rfl rfl (h.got hr 3 rfl (by kernel_rfl)))) (h.got hr 4 rfl (by kernel_rfl)) (h.got hr 8 rfl (by kernel_rfl)) (h.got hr 16 rfl (by kernel_rfl)) rfl rfl (by decide) (by decide)
      · exact h.of2 rfl (wanted_of rfl (yields_of rfl rfl (h.got hr 3 rfl (by kernel_rfl)))) rfl (h.got hr 17 rfl (by kernel_rfl)) rfl rfl (by decide) (by decide)
      · exact h.tells rfl (wanted_of rfl (yields_of rfl rfl (h.got hr 3 rfl (by kernel_rfl)))) (h.got hr 18 rfl (by kernel_rfl)) HLw.out HTw.out (txt3 (by decide) (txt0 (by decide)) (txt2 (by decide) (txt0 (by decide)) (txt0 (by decide))) (txt4 (by decide) (txt1 (by decide) (txt0 (by decide))) (txt0 (by decide)) (txt0 (by decide)) (txt0 (by decide)))) rfl rfl (by decide) (by decide)
      · exact h.pick rfl rfl (h.got hr 3 rfl (by kernel_rfl)) (h.got hr 19 rfl (by kernel_rfl)) rfl rfl (by decide) (by decide)
      · exact h.move rfl rfl (h.got hr 20 rfl (by kernel_rfl)) rfl rfl (by decide) (by decide)
      · exact h.awake rfl (wanted_of rfl (yields_of rfl rfl (h.got hr 21 rfl (by kernel_rfl)))) HLw.out HTw.out rfl rfl (by decide) (by decide)
      · exact h.pick rfl rfl (h.got hr 21 rfl (by kernel_rfl)) (h.got hr 22 rfl (by kernel_rfl)) rfl rfl (by decide) (by decide)
    · have h0 : a.eval (.tmp 152) = .bool true := h.got hr 23 rfl (by kernel_rfl)
      exact wpOp_asg7 rfl rfl h0 (hQ _ _ ⟨eval_put_same _ _ _ (by rw [h.size]; decide), h.defers, HM.out.bel.trans (h.bel.mono HM.out.bel.size)⟩)
  obtain ⟨hv, hd, hb⟩ := h4
  refine wp_ret ?_
  refine bodyPost_ret (v := .bool true) ?_ hd ⟨rfl, HBx.out.trans (hb.mono HBx.out.size)⟩
  have hr := results_tmp (t := 0) Tryz.results4 a4.tmps Tryz.prog w4
  rw [show a4.tmps.getD 0 undef = .bool true from hv] at hr
  exact hr
end Go.Proofs.YtfmjhbaenpbfoaaGreatDoor

namespace Go.Proofs.YtfmjhbaenpbfoaaGreatDoor
open Go.ChangeShapes Go.WideShapes Go.ChangeAt Go.RowKit

instance : Inhabited T := ⟨.mk 0 ⟨#[]⟩ 0 0 []⟩
theorem cellsNode : Tryz.prog.cellsOf 25 = 5 := by kernel_rfl
set_option maxRecDepth 100000 in
theorem open_node {H : Type} {enc : TypeId × Value → H} {W : World} (fuel : Nat) : ∀ (cs : List Value) (x : DataW H × List MemPlace), DataW.trod enc Tryz.prog W 0 (fun _ => true) true fuel 25 cs = some x →
    ∃ t v, cs = [.int .u8 t.kind, .string t.text, .int .i64 t.num, .int .i64 t.pos, v] ∧ Lies W.heap.size W t v ∧ Txt t := by
  induction fuel using Nat.strongRecOn with
  | ind fuel ih =>
    intro cs x h
    obtain ⟨xs, n, rfl, rfl, hl, hlen, hf⟩ := DataW.trod_struct Tryz.underlying25 h
    rw [cellsNode] at hl
    have c0 : Tryz.prog.cellsOf 22 = 1 := by kernel_rfl
    have c1 : Tryz.prog.cellsOf 9 = 1 := by kernel_rfl
    have c2 : Tryz.prog.cellsOf 3 = 1 := by kernel_rfl
    have c4 : Tryz.prog.cellsOf 23 = 1 := by kernel_rfl
    match cs, hl, xs, hlen with
    | [v0, v1, v2, v3, v4], _, [y0, y1, y2, y3, y4], _ =>
      have g0 := hf 0 _ rfl
      have g1 := hf 1 _ rfl
      have g2 := hf 2 _ rfl
      have g3 := hf 3 _ rfl
      have g4 := hf 4 _ rfl
      simp [c0, c1, c2, c4] at g0 g1 g2 g3 g4
      obtain ⟨k0, e0, _, wk⟩ := DataW.trod_int Tryz.underlying22 g0
      obtain ⟨s0, e1, _, ws⟩ := DataW.trod_string Tryz.underlying9 g1
      obtain ⟨n0, e2, _, wn⟩ := DataW.trod_int Tryz.underlying3 g2
      obtain ⟨p0, e3, _, wp⟩ := DataW.trod_int Tryz.underlying3 g3
      simp at e0 e1 e2 e3
      subst e0 e1 e2 e3
      rcases DataW.trod_slice Tryz.underlying23 g4 with ⟨e4, _⟩ | ⟨a, len, cap, elems, rest, n', hn, e4, _, _, hlc, hcm, hel, hat, _, _⟩
      · simp at e4
        subst e4
        exact ⟨.mk k0 s0 n0 p0 [], .slice none 0 0, rfl, .mk (.mk k0 s0 n0 p0 []) none 0 [] rfl (fun e => absurd rfl e) (fun _ => rfl) (Nat.le_refl _) (by unfold maxLen; omega) (fun p hp => by cases hp), .mk (.mk k0 s0 n0 p0 []) ws fun k hk => by cases hk⟩
      · simp at e4
        subst e4 hn
        have each : ∀ i, i < len → ∃ q : T × Value, (Lies W.heap.size W q.1 q.2 ∧ Txt q.1) ∧ ∀ j, j < 5 → W.cell? ((a.add (i * 5)).add j) = [Value.int .u8 q.1.kind, .string q.1.text, .int .i64 q.1.num, .int .i64 q.1.pos, q.2][j]? := by
          intro i hi
          have h1 := hat i hi
          rw [cellsNode, List.getElem?_eq_getElem (by omega), Option.bind_eq_some_iff] at h1
          obtain ⟨cs', h2, h3⟩ := h1
          obtain ⟨t, v, rfl, h4, h5⟩ := ih n' (by omega) _ _ h3
          exact ⟨(t, v), ⟨h4, h5⟩, (World.cells?_some h2).2.2⟩
        obtain ⟨q, hq⟩ := Deep.choose_lt each
        have hps : ∀ p, p ∈ (List.range len).map q → Lies W.heap.size W p.1 p.2 ∧ Txt p.1 := by
          intro p hp
          simp only [List.mem_map, List.mem_range] at hp
          obtain ⟨i, hi, rfl⟩ := hp
          exact (hq i hi).1
        have hcell : ∀ (j : Nat) (u : Value), (cellsN ((List.range len).map q))[j]? = some u → W.cell? (a.add j) = some u := by
          intro j u hu
          have hj : j < len * 5 := by
            have := (List.getElem?_eq_some_iff.1 hu).1
            rw [cellsN_length] at this
            simpa using this
          have hi : j / 5 < len := by omega
          have hr : j % 5 < 5 := by omega
          have h1 := (hq (j / 5) hi).2 (j % 5) hr
          rw [Deep.add_add, show j / 5 * 5 + j % 5 = j by omega] at h1
          rw [h1, ← hu]
          obtain ⟨z0, z1, z2, z3, z4⟩ := cellsN_at ((List.range len).map q) (j / 5) (by simpa using hi)
          simp only [List.getElem_map, List.getElem_range] at z0 z1 z2 z3 z4
          have hjj : j = j / 5 * 5 + j % 5 := by omega
          generalize j / 5 = i at *
          generalize j % 5 = r at *
          subst hjj
          have hr' : r = 0 ∨ r = 1 ∨ r = 2 ∨ r = 3 ∨ r = 4 := by omega
          rcases hr' with rfl | rfl | rfl | rfl | rfl
          · exact z0.symm
          · exact z1.symm
          · exact z2.symm
          · exact z3.symm
          · exact z4.symm
        refine ⟨.mk k0 s0 n0 p0 (((List.range len).map q).map Prod.fst), .slice (some a) len cap, rfl, ?_, .mk (.mk k0 s0 n0 p0 (((List.range len).map q).map Prod.fst)) ws fun k hk => ?_⟩
        · have hlen2 : (T.mk k0 s0 n0 p0 (((List.range len).map q).map Prod.fst)).kids.length = len := by simp [T.kids]
          have := Lies.mk (B := W.heap.size) (w := W) (.mk k0 s0 n0 p0 (((List.range len).map q).map Prod.fst)) (some a) cap ((List.range len).map q) rfl ?_ (fun e => by cases e) (by rw [hlen2]; exact hlc) hcm (fun p hp => (hps p hp).1)
          · rw [hlen2] at this
            exact this
          · intro hne
            obtain ⟨b, off, path⟩ := a
            obtain ⟨u, hu⟩ : ∃ u, (cellsN ((List.range len).map q))[0]? = some u := by
              cases hz : cellsN ((List.range len).map q) with
              | nil => exact absurd hz hne
              | cons u l => exact ⟨u, rfl⟩
            have h0 := hcell 0 u hu
            have hp : path = none := by
              cases path with
              | none => rfl
              | some z => exfalso; revert h0; simp only [Addr.add, World.cell?]; split <;> simp
            subst hp
            refine ⟨b, off, rfl, ?_, fun j u hu => ?_⟩
            · apply Classical.byContradiction
              intro hn
              have hnone : W.heap[b]? = none := Array.getElem?_eq_none (by omega)
              revert h0
              simp [Addr.add, World.cell?, hnone]
            · have := hcell j u hu
              rwa [Addr.add_lit] at this
        · have hk' : k ∈ ((List.range len).map q).map Prod.fst := hk
          obtain ⟨p, hp, rfl⟩ := List.mem_map.1 hk'
          exact (hps p hp).2
end Go.Proofs.YtfmjhbaenpbfoaaGreatDoor

namespace Go.Proofs.YtfmjhbaenpbfoaaGreatDoor
open Go.ChangeShapes Go.WideShapes Go.ChangeAt Go.RowKit

theorem open_arg {H : Type} {enc : TypeId × Value → H} {W : World} {v : Value} {d : DataW H} {p : List MemPlace} (h : DataW.Trod enc Tryz.prog W 0 (fun _ => true) true 25 v d p) :
    ∃ t u, v = agg t u ∧ Lies W.heap.size W t u ∧ Txt t := by
  obtain ⟨fuel, hf⟩ := h
  obtain ⟨t, u, hcs, hl, hx⟩ := open_node fuel _ _ hf
  refine ⟨t, u, ?_, hl, hx⟩
  cases v with
  | agg cs =>
    have : cs.toList = [.int .u8 t.kind, .string t.text, .int .i64 t.num, .int .i64 t.pos, u] := hcs
    obtain ⟨l⟩ := cs
    simp only at this
    subst this
    rfl
  | _ => simp [Value.cells] at hcs

theorem cells_of_strs {H : Type} {enc : TypeId × Value → H} {P : Program} {w : World} {base : Nat} {sp : Nat → Bool} {held : Bool} {fuel : Nat} {t e : TypeId} {n : Nat} {cs : List Value} {zs : List ByteArray} {p : List MemPlace}
    (ht : P.underlying t = some (.array n e)) (he : P.underlying e = some .string) (hce : P.cellsOf e = 1) (hct : P.cellsOf t = n)
    (h : DataW.trod enc P w base sp held fuel t cs = some (.agg (zs.map fun z => .lit (.string z.data.toList)), p)) : cs = zs.map fun z => Value.string z := by
  cases fuel with
  | zero => simp [DataW.trod] at h
  | succ fuel =>
    simp only [DataW.trod, ht, hce, hct, Nat.mul_one] at h
    split at h
    · rename_i hl
      obtain ⟨xs, hm, hx⟩ := Option.map_eq_some_iff.1 h
      have hxs : xs.map (·.1) = zs.map fun z => (DataW.lit (.string z.data.toList) : DataW H) := by
        have := congrArg Prod.fst hx
        simpa using this
      have hxl : xs.length = n := by simpa using Lib.mapM_length hm
      have hzl : zs.length = n := by
        have := congrArg List.length hxs
        simp at this
        omega
      apply List.ext_getElem?
      intro i
      by_cases hi : i < n
      · obtain ⟨b, hb, hf⟩ := Lib.mapM_at hm i i (by simp [hi])
        obtain ⟨z, hc, rfl, _⟩ := DataW.trod_string he hf
        have h1 : cs[i]? = some (.string z) := by
          have := congrArg (·[0]?) hc
          simpa [List.getElem?_take, List.getElem?_drop] using this
        have h2 : (xs.map (·.1))[i]? = some (DataW.lit (.string z.data.toList) : DataW H) := by simp [hb]
        rw [hxs] at h2
        simp only [List.getElem?_map, Option.map_eq_some_iff, DataW.lit.injEq, Lit.string.injEq] at h2
        obtain ⟨z', hz', hzz⟩ := h2
        have : z' = z := by
          cases z'; cases z
          congr 1
          exact Array.toList_inj.1 hzz
        subst this
        simp [h1, hz']
      · rw [List.getElem?_eq_none (by omega), List.getElem?_eq_none (by simp; omega)]
    · cases h
theorem strs_of_head {P : Program} {W : World} {name : String} {zs : List ByteArray} {rest : List (String × DataW Unit)} {g : Nat} {t e : TypeId} {n : Nat}
    (hg : P.globalNamed name = some g) (hty : (P.globals[g]?).map (·.type) = some t) (ht : P.underlying t = some (.array n e)) (he : P.underlying e = some .string) (hce : P.cellsOf e = 1) (hct : P.cellsOf t = n)
    (h : laidMet P ((name, .agg (zs.map fun z => .lit (.string z.data.toList))) :: rest) W) : W.var? P name = some (zs.map fun z => Value.string z).toArray := by
  obtain ⟨ps, ⟨g', t', cs, fuel, p, q, hg', ht', hvar, hd, _, _⟩, _⟩ := h
  obtain rfl := Option.some.inj (hg.symm.trans hg')
  obtain rfl := Option.some.inj (hty.symm.trans ht')
  rw [hvar, ← cells_of_strs ht he hce hct hd]
end Go.Proofs.YtfmjhbaenpbfoaaGreatDoor

namespace Go.Proofs.YtfmjhbaenpbfoaaGreatDoor.showNumbers
open Go.ChangeShapes Go.WideShapes Go.ChangeAt Go.RowKit Go.Joins

theorem own : ownKnob Tryz.prog.godebug = none := by kernel_rfl

theorem laidOut : laidOutB Tryz.prog = true := by kernel_rfl

/-- The two errors of the library, as the row's condition gives them. -/
theorem errs {W : World} (h : laidMetH Tryz.prog Rows.showNumbersRow.laid W) : Errs W := by
  rw [MakeChecks.laidMetH_plain _ _ _ (by kernel_rfl)] at h
  have hr : laidMet Tryz.prog [("strconv.ErrRange", Rows.laid_strconv_ErrRange), ("strconv.ErrSyntax", Rows.laid_strconv_ErrSyntax), ("ropewalk/node.ofOne", Rows.laid_ropewalk_node_ofOne), ("ropewalk/node.ofTwo", Rows.laid_ropewalk_node_ofTwo), ("unicode/utf8.first", Rows.laid_unicode_utf8_first)] W := laidMet.tail (laidMet.tail (laidMet.tail (laidMet.tail h)))
  have star : "*" ++ "errors.errorString" = "*errors.errorString" := by decide
  have row : ∀ u, Tryz.prog.typeName? 3 u = some "*errors.errorString" → u = 228 := fun u hu =>
    typeName_ptr_named (nm := "errors.errorString") (by rw [star]; kernel_rfl) (by kernel_rfl) (by decide) u (by rw [star]; exact hu)
  obtain ⟨a1, s1, hv1, _⟩ := laid_sentinel hr (g := 4) (by kernel_rfl) (by kernel_rfl) Tryz.underlying117 row Tryz.underlying228 Tryz.underlying230 rfl rfl Tryz.underlying9 (by kernel_rfl) (by kernel_rfl)
  obtain ⟨a2, s2, hv2, _⟩ := laid_sentinel (laidMet.tail hr) (g := 3) (by kernel_rfl) (by kernel_rfl) Tryz.underlying117 row Tryz.underlying228 Tryz.underlying230 rfl rfl Tryz.underlying9 (by kernel_rfl) (by kernel_rfl)
  have c1 := World.var?_cell (show Tryz.prog.globalNamed "strconv.ErrRange" = some 4 by kernel_rfl) hv1 0
  have c2 := World.var?_cell (show Tryz.prog.globalNamed "strconv.ErrSyntax" = some 3 by kernel_rfl) hv2 0
  refine ⟨?_, ⟨_, _, c2⟩, ⟨_, _, c1⟩⟩
  apply Classical.byContradiction
  intro hn
  have hnone : W.heap[4]? = none := Array.getElem?_eq_none (by omega)
  simp [World.cell?, hnone] at c1

/-- What is laid, as the row's condition gives it. -/
theorem laidOf {W : World} (h : laidMetH Tryz.prog Rows.showNumbersRow.laid W) : Laid W := by
  have he := errs h
  rw [MakeChecks.laidMetH_plain _ _ _ (by kernel_rfl)] at h
  have h2 : laidMet Tryz.prog [("ropewalk/node.ofOne", Rows.laid_ropewalk_node_ofOne), ("ropewalk/node.ofTwo", Rows.laid_ropewalk_node_ofTwo), ("unicode/utf8.first", Rows.laid_unicode_utf8_first)] W := laidMet.tail (laidMet.tail (laidMet.tail (laidMet.tail (laidMet.tail (laidMet.tail h)))))
  have v1 := strs_of_head (zs := oneZ) (g := 0) (by kernel_rfl) (by kernel_rfl) Tryz.underlying129 Tryz.underlying9 (by kernel_rfl) (by kernel_rfl) h2
  have v2 := strs_of_head (zs := opsZ) (g := 1) (by kernel_rfl) (by kernel_rfl) Tryz.underlying130 Tryz.underlying9 (by kernel_rfl) (by kernel_rfl) (laidMet.tail h2)
  refine ⟨he, fun i s hs => ?_, fun i s hs => ?_⟩
  · have := World.var?_cell (show Tryz.prog.globalNamed "ropewalk/node.ofOne" = some 0 by kernel_rfl) v1 i
    rw [this]
    simp [hs]
  · have := World.var?_cell (show Tryz.prog.globalNamed "ropewalk/node.ofTwo" = some 1 by kernel_rfl) v2 i
    rw [this]
    simp [hs]

/-- The listed table of powers of ten, as the row's condition gives it. -/
theorem table {W : World} (h : laidMetH Tryz.prog Rows.showNumbersRow.laid W) : Tab W.heap.size W := by
  rw [MakeChecks.laidMetH_plain _ _ _ (by kernel_rfl)] at h
  have h3 : laidMet Tryz.prog [("internal/strconv.uint64pow10", Rows.laid_internal_strconv_uint64pow10), ("unicode/utf8.acceptRanges", Rows.laid_unicode_utf8_acceptRanges), ("strconv.ErrRange", Rows.laid_strconv_ErrRange), ("strconv.ErrSyntax", Rows.laid_strconv_ErrSyntax), ("ropewalk/node.ofOne", Rows.laid_ropewalk_node_ofOne), ("ropewalk/node.ofTwo", Rows.laid_ropewalk_node_ofTwo), ("unicode/utf8.first", Rows.laid_unicode_utf8_first)] W := laidMet.tail (laidMet.tail h)
  have e : (Rows.laid_internal_strconv_uint64pow10 : DataW Unit) = Lib.tabData .u64 Lib.pow10Tab := by kernel_rfl
  rw [e] at h3
  exact Lib.tabBelow_of_tabIs (Lib.tabIs_of_head (g := 2) (t := 193) (by kernel_rfl) (by kernel_rfl) Tryz.underlying193 Tryz.underlying171 (by kernel_rfl) (by kernel_rfl) h3)

set_option maxRecDepth 100000 in
theorem lifted (os : Os) (started : os.Started) (H : Type) (enc : TypeId × Value → H) :
    ReturnsInHanded {} Tryz.checked os 4 .any (fun w args => (Rows.showNumbersSpec.pre enc Tryz.prog Tryz.f4 Rows.showNumbersRow.domain false w args ∧ laidMetH Tryz.prog Rows.showNumbersRow.laid w) ∧ sizedMet enc Tryz.prog Tryz.f4 (OpenSpec.ofChange Rows.showNumbersSpec) false w args)
      (Rows.showNumbersSpec.post enc Tryz.prog Tryz.f4 false true false false) := by
  refine returnsInHanded_of_change_and (C := Tryz.checked) (X := fun w _ => laidMetH Tryz.prog Rows.showNumbersRow.laid w) (fun _ _ _ hh h => h.of_heap hh) own started (by kernel_rfl) Tryz.func4
    (ChangeSpec.witness_shaped (enc := enc) (C := Tryz.checked) (os := os) (X := fun w _ => laidMetH Tryz.prog Rows.showNumbersRow.laid w) false (World.laidAll Tryz.prog os Rows.showNumbersRow.laid) #[] 8 (World.laidAll_os _ _ _)
      (World.shaped_of_ZipB (by kernel_rfl) (by kernel_rfl)) (by kernel_rfl) (by kernel_rfl) (by kernel_rfl)
      (by rw [MakeChecks.laidMetH_plain _ _ _ (by kernel_rfl)]; exact laidMet_laidAll _ (by kernel_rfl) (by kernel_rfl))) ?_
  intro W base args ds gs before hval0 hW _ _ hL _
  have hval : ∀ (j : Nat) t v, Tryz.f4.params[j]? = some t → args[j]? = some v → Value.okWide Tryz.prog W .any base t v := hval0
  have hW' := hW
  obtain ⟨p, q, hA0, hV, rfl, _, _⟩ := hW
  have hA : DataW.TrodAll enc Tryz.prog W 0 (fun _ => true) true Tryz.f4.params.toList args.toList ds p := hA0
  rw [Tryz.params4] at hA hval
  obtain ⟨hargs, rfl, rfl⟩ := trodAll_none hA
  obtain rfl : args = #[] := by cases args; simp_all
  obtain ⟨rfl, rfl⟩ := trodVars_none hV
  clear hA0 hval0
  refine (showNumbers_any W (laidOf hL) (table hL)).mono fun e W' ⟨he, hg⟩ => ?_
  subst he
  refine ⟨_, rfl, _, _, _, [], [], [], hW', (trodAll_cons_mk (shut_bool Tryz.underlying4 _) trodAll_mk0), ?_, rfl, hg.frame _, fun h => by cases h⟩
  exact trodAll_mk0

theorem over : Rows.showNumbersRow.holds Tryz.pinned (OpenSpec.ofChange Rows.showNumbersSpec) :=
  OpenClaim.holds_of_wide 4 Tryz.f4 rfl rfl rfl rfl rfl rfl rfl ⟨rfl, rfl, rfl, rfl, rfl⟩ rfl rfl rfl rfl rfl (by kernel_rfl) Tryz.func4 (by kernel_rfl)
    (of_decide_eq_true (by kernel_rfl)) (by unfold Func.isWrapper; first | (rw [if_pos (by decide +kernel)]; kernel_rfl) | (rw [if_neg (by decide +kernel)]; exact ⟨rfl, rfl⟩))
    (fun os started H enc _ => lifted os started H enc)

/-- THE STATEMENT. -/
theorem proved : Rows.ShowNumbersCardSaid :=
  Claim7.holds_tied_plain_at .later [] [.data, .data, .data, .data, .sentinel, .sentinel, .data, .data, .pinned] true Rows.showNumbersCard.stood.harness true over (fun _ h => by cases h) (by kernel_rfl) (fun _ h => by cases h) showNumbers_row_tie rfl ⟨rfl, rfl⟩ (by kernel_rfl) rfl
    (fun f fn hf hfn => by
      obtain rfl : f = 4 := Option.some.inj ((show Tryz.prog.funcNamed Rows.showNumbersRow.func = some 4 by kernel_rfl).symm.trans hf) |>.symm
      obtain rfl : fn = Tryz.f4 := (Option.some.inj (Tryz.func4.symm.trans hfn)).symm
      exact ⟨by kernel_rfl, fun j t ht => by
        rw [Tryz.params4] at ht
        simp at ht⟩)
    (by kernel_rfl)
#print axioms proved
end Go.Proofs.YtfmjhbaenpbfoaaGreatDoor.showNumbers
