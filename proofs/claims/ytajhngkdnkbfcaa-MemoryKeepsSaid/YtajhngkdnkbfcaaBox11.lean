/- A block known whole; what it is behind stores. Facts that may be, plainly. -/
import Derived.Test.YtajhngkdnkbfcaaLeaf11
namespace Go.Proofs.Ytajhngkdnkbfcaa
open Go.RowKit

/-- A block that holds just these cells. -/
def Box (w : World) (g : Nat) (T : TypeId) (L : List Value) : Prop := w.heap[g]? = some (.cells L.toArray T (0, 0))
theorem Box.lt {w : World} {g : Nat} {T : TypeId} {L : List Value} (h : Box w g T L) : g < w.heap.size := lt_of_heap h
theorem Box.old {w w' : World} {g : Nat} {T : TypeId} {L : List Value} (h : Box w g T L) (b : Below w.heap.size w w') : Box w' g T L := (b.block g h.lt).trans h
theorem Box.new (w : World) (T : TypeId) (L : List Value) : Box (w.alloc (.cells L.toArray T)) w.heap.size T L := alloc_at rfl _
theorem Box.keep {w : World} {g : Nat} {T : TypeId} {L : List Value} (h : Box w g T L) (o : Obj) : Box (w.alloc o) g T L := alloc_keep h o
theorem Box.set {w : World} {g : Nat} {T : TypeId} {L : List Value} (h : Box w g T L) (i : Nat) (v : Value) : Box (w.setCell ⟨g, i, none⟩ v) g T (L.set i v) := by
  have := Joins.block_setCell (i := i) h v
  rw [List.setIfInBounds_toArray] at this
  exact this
theorem Box.far {w w' : World} {g : Nat} {T : TypeId} {L : List Value} {row : Option Nat} (h : Box w g T L) (b : w.grownBy w' row) (hne : some g ≠ row) : Box w' g T L := (b.block g h.lt hne).trans h
theorem Box.cell {w : World} {g : Nat} {T : TypeId} {L : List Value} (h : Box w g T L) (i : Nat) : w.cell? ⟨g, i, none⟩ = L[i]? := by
  have := Lib.cell_of_heap h i
  rw [this]
  simp
theorem Box.frozen {w : World} {g : Nat} {T : TypeId} {L : List Value} (h : Box w g T L) (i : Nat) : w.frozen? ⟨g, i, none⟩ = false := Lib.frozen_of_heap h i
theorem Box.range {w : World} {g : Nat} {T : TypeId} {L : List Value} (h : Box w g T L) : w.rangeAt g 0 L := fun j v hv => by
  rw [Nat.zero_add, h.cell]
  exact hv
theorem Box.rangeIn {w : World} {g : Nat} {T : TypeId} {L : List Value} (h : Box w g T L) (o : Nat) (M : List Value) (hm : ∀ j v, M[j]? = some v → L[o + j]? = some v) : w.rangeAt g o M := fun j v hv => by
  rw [h.cell]
  exact hm j v hv
theorem Box.there {w : World} {g : Nat} {T : TypeId} {L : List Value} (h : Box w g T L) (o n : Nat) (hn : o + n ≤ L.length) : w.there g o n := fun j hj => by
  refine ⟨?_, h.frozen _⟩
  rw [h.cell, List.getElem?_eq_getElem (by omega)]
  rfl
theorem Box.ne {w : World} {g g' : Nat} {T T' : TypeId} {L L' : List Value} (h : Box w g T L) (h' : Box w g' T' L') (hT : T ≠ T') : g ≠ g' := ne_block h h' hT
theorem grownBy_setCells (g : Nat) : ∀ (vs : List Value) (o : Nat) (w : World), w.grownBy (w.setCells g o vs) (some g)
  | [], _, w => World.grownBy.refl w _
  | v :: r, o, w => by
    rw [World.setCells]
    exact Lib.grownBy_trans (Lib.grownBy_setCell w g o v) (grownBy_setCells g r (o + 1) _)
/-- A list written over from a place on. -/
def over : List Value → Nat → List Value → List Value
  | L, _, [] => L
  | L, o, v :: r => over (L.set o v) (o + 1) r
theorem over_length : ∀ (vs : List Value) (L : List Value) (o : Nat), (over L o vs).length = L.length
  | [], _, _ => rfl
  | v :: r, L, o => by rw [over, over_length r]; simp
theorem over_get : ∀ (vs : List Value) (L : List Value) (o j : Nat), o + vs.length ≤ L.length → (over L o vs)[j]? = if o ≤ j ∧ j < o + vs.length then vs[j - o]? else L[j]?
  | [], L, o, j, _ => by
    rw [if_neg (by simp only [List.length_nil]; omega)]
    rfl
  | v :: r, L, o, j, h => by
    simp only [List.length_cons] at h ⊢
    rw [over, over_get r _ _ j (by simp; omega)]
    by_cases h1 : o + 1 ≤ j ∧ j < o + 1 + r.length
    · rw [if_pos h1, if_pos (by omega), show j - o = (j - (o + 1)) + 1 by omega]
      rfl
    · rw [if_neg h1]
      by_cases h2 : j = o
      · subst h2
        rw [if_pos (by omega), Nat.sub_self, List.getElem?_set_self (by omega)]
        rfl
      · rw [if_neg (by omega), List.getElem?_set_ne (by omega)]
theorem over_all {vs L : List Value} (h : vs.length = L.length) : over L 0 vs = vs := by
  apply List.ext_getElem?
  intro j
  rw [over_get vs L 0 j (by omega)]
  by_cases hj : j < vs.length
  · rw [if_pos (by omega), Nat.sub_zero]
  · rw [if_neg (by omega), List.getElem?_eq_none (by omega), List.getElem?_eq_none (by omega)]
theorem Box.setCells {g : Nat} {T : TypeId} : ∀ (vs : List Value) {w : World} {L : List Value} (o : Nat), Box w g T L → Box (w.setCells g o vs) g T (over L o vs)
  | [], _, _, _, h => h
  | v :: r, w, L, o, h => by
    rw [World.setCells, over]
    exact Box.setCells r (o + 1) (h.set o v)
theorem Box.setAll {w : World} {g : Nat} {T : TypeId} {L : List Value} (vs : List Value) (h : Box w g T L) (hl : vs.length = L.length) : Box (w.setCells g 0 vs) g T vs := by
  have := h.setCells vs 0
  rwa [over_all hl] at this
/-- A cell laid as it was. -/
theorem Box.same {w : World} {g : Nat} {T : TypeId} {L : List Value} (h : Box w g T L) (i : Nat) (v : Value) (hv : L[i]? = some v) : Box (w.setCell ⟨g, i, none⟩ v) g T L := by
  have := h.set i v
  rwa [list_set_same _ _ _ hv] at this

/-- The cells of what a fact says. -/
def sayL (kind n : Int) (l : List V3) : List Value := .int .i64 kind :: .int .i64 n :: cellsV l
def pad6 (vs : List V3) : List V3 := vs ++ List.replicate (6 - vs.length) zeroT
def rightV (v : V3) : Bool := rightB v.1 v.2.1 v.2.2
def mayB (kind : Int) (vs : List V3) : Bool := decide (0 ≤ kind) && decide (kind < 32) && decide (vs.length ≤ 6) && vs.all rightV
def zeros6 : List V3 := List.replicate 6 zeroT
theorem sayL_length (kind n : Int) (l : List V3) : (sayL kind n l).length = l.length * 3 + 2 := by
  unfold sayL
  simp only [List.length_cons, cellsV_length]
theorem pad6_length {vs : List V3} (h : vs.length ≤ 6) : (pad6 vs).length = 6 := by
  unfold pad6
  simp
  omega
theorem sayL_one (kind n : Int) (l : List V3) : ∀ u ∈ sayL kind n l, u.oneCell' = true := by
  intro u hu
  unfold sayL at hu
  simp only [List.mem_cons] at hu
  rcases hu with rfl | rfl | hu
  · rfl
  · rfl
  · exact cellsV_one l u hu
theorem sayL_set (kind n : Int) (l : List V3) (x : V3) (k : Nat) : sayL kind n (l.set k x) = (((sayL kind n l).set (2 + k * 3) (.int .u8 x.1)).set (2 + k * 3 + 1) (.int .i64 x.2.1)).set (2 + k * 3 + 2) (.string x.2.2) := by
  unfold sayL
  rw [show 2 + k * 3 + 2 = k * 3 + 2 + 1 + 1 by omega, show 2 + k * 3 + 1 = k * 3 + 1 + 1 + 1 by omega, show 2 + k * 3 = k * 3 + 1 + 1 by omega]
  simp only [List.set_cons_succ, cellsV_set]
theorem sayL_get (kind n : Int) (l : List V3) (k : Nat) (h : k < l.length) : (sayL kind n l)[2 + k * 3]? = some (.int .u8 (l.getD k zeroT).1) ∧ (sayL kind n l)[2 + k * 3 + 1]? = some (.int .i64 (l.getD k zeroT).2.1) ∧ (sayL kind n l)[2 + k * 3 + 2]? = some (.string (l.getD k zeroT).2.2) := by
  obtain ⟨h0, h1, h2⟩ := cellsV_get l k h
  unfold sayL
  rw [show 2 + k * 3 = k * 3 + 1 + 1 by omega]
  exact ⟨h0, h1, h2⟩
/-- On the way: the first k of the values, zero ones behind. -/
def part6 (vs : List V3) (k : Nat) : List V3 := pad6 (vs.take k)
theorem part6_succ {vs : List V3} {k : Nat} (hk : k < vs.length) (h6 : vs.length ≤ 6) : part6 vs (k + 1) = (part6 vs k).set k (vs.getD k zeroT) := by
  unfold part6 pad6
  have e1 : (vs.take k).length = k := by simp; omega
  have e2 : (vs.take (k + 1)).length = k + 1 := by simp; omega
  rw [List.set_append, if_neg (by omega), e1, e2, Nat.sub_self, show 6 - k = (6 - (k + 1)) + 1 by omega, List.replicate_succ, List.set_cons_zero, List.take_succ_eq_append_getElem hk, List.append_assoc]
  simp [List.getD_eq_getElem?_getD, hk]
theorem part6_all (vs : List V3) : part6 vs vs.length = pad6 vs := by unfold part6; rw [List.take_length]
theorem part6_zero (vs : List V3) : part6 vs 0 = zeros6 := rfl
theorem may_kind0 {kind : Int} {vs : List V3} (h : kind < 0) : mayB kind vs = false := by
  unfold mayB
  rw [show decide (0 ≤ kind) = false from decide_eq_false (by omega)]
  rfl
theorem may_kind1 {kind : Int} {vs : List V3} (h : 32 ≤ kind) : mayB kind vs = false := by
  unfold mayB
  rw [show decide (kind < 32) = false from decide_eq_false (by omega), Bool.and_false]
  rfl
theorem may_many {kind : Int} {vs : List V3} (h : 6 < vs.length) : mayB kind vs = false := by
  unfold mayB
  rw [show decide (vs.length ≤ 6) = false from decide_eq_false (by omega), Bool.and_false]
  rfl
theorem may_wrong {kind : Int} {vs : List V3} {k : Nat} (hk : k < vs.length) (h : rightV (vs.getD k zeroT) = false) : mayB kind vs = false := by
  have : vs.all rightV = false := by
    rw [Bool.eq_false_iff]
    intro ha
    rw [List.all_eq_true] at ha
    have := ha _ (List.getElem_mem hk)
    rw [List.getD_eq_getElem?_getD, List.getElem?_eq_getElem hk, Option.getD_some] at h
    rw [h] at this
    cases this
  unfold mayB
  rw [this, Bool.and_false]
theorem may_yes {kind : Int} {vs : List V3} (h0 : 0 ≤ kind) (h1 : kind < 32) (h6 : vs.length ≤ 6) (h : ∀ k, k < vs.length → rightV (vs.getD k zeroT) = true) : mayB kind vs = true := by
  unfold mayB
  rw [decide_eq_true h0, decide_eq_true h1, decide_eq_true h6, Bool.true_and, Bool.true_and, Bool.true_and, List.all_eq_true]
  intro x hx
  obtain ⟨k, hk, rfl⟩ := List.getElem_of_mem hx
  have := h k hk
  rwa [List.getD_eq_getElem?_getD, List.getElem?_eq_getElem hk, Option.getD_some] at this
/-- A function whose first result is what a fact says, in a cell, and its second one a truth. -/
theorem say_end {F : Func} {Q : Ending → World → Prop} {a : Act} {W : World} {g s1 s2 : Nat} {L : List Value} {b : Bool} (hr : F.results = #[ResultVar.cell s1 64, .tmp s2]) (hp : a.tmps[s1]?.getD undef = .pointer (some ⟨g, 0, none⟩)) (he : a.tmps[s2]?.getD undef = .bool b) (hd : a.defers = []) (h : Box W g 64 L) (hl : L.length = 20)
    (hQ : Q (.returned (.tuple #[.agg L.toArray, .bool b])) W) : bodyPost Try.prog F Q .ret a W := by
  have hi : (Try.prog.info? 64).map (·.size) = some L.length := by rw [hl]; kernel_rfl
  have hrun := run_loadVar_mid (P := Try.prog) W g 0 64 L _ h.range Try.underlying64 rfl hi
  refine bodyPost_ret (v := .tuple #[.agg L.toArray, .bool b]) ?_ hd hQ
  simp [results, hr, hp, he, asAddr, hrun]
/-- A function whose result is what a fact says, in a cell. -/
theorem say_end1 {F : Func} {Q : Ending → World → Prop} {a : Act} {W : World} {g s1 : Nat} {L : List Value} (hr : F.results = #[ResultVar.cell s1 64]) (hp : a.tmps[s1]?.getD undef = .pointer (some ⟨g, 0, none⟩)) (hd : a.defers = []) (h : Box W g 64 L) (hl : L.length = 20)
    (hQ : Q (.returned (.agg L.toArray)) W) : bodyPost Try.prog F Q .ret a W := by
  have hi : (Try.prog.info? 64).map (·.size) = some L.length := by rw [hl]; kernel_rfl
  have hrun := run_loadVar_mid (P := Try.prog) W g 0 64 L _ h.range Try.underlying64 rfl hi
  refine bodyPost_ret (v := .agg L.toArray) ?_ hd hQ
  simp [results, hr, hp, asAddr, hrun]
end Go.Proofs.Ytajhngkdnkbfcaa
