/- What all walks of this folder lean on: frames, rows of values in memory. -/
import Derived.Test.YtmocfielcllfmaaDoorForms
import Derived.Test.YtmocfielcllfmaaDoorChecked
import Derived.WalkKit
import Derived.WalkLawsBesides
import Derived.WalkSpells
import Derived.Below
import Derived.BigQuiet
import Derived.Deep.QuietTactic
import Derived.LoopTactic
import Derived.Lib.Hide
import Derived.Lib.ByteType
import Derived.Lib.BufferWrite
import Derived.Lib.BufferOwn
import Derived.IntWalk
import Derived.Outline
import Derived.OwnWalk
import Derived.Laws.OwnMore
import Derived.Laws.StructEq
import Derived.Deep.LoopGhost
import Derived.Deep.RegionHeld3
import Derived.Deep.RegionWith
import Derived.Sort.Grow
import Derived.Lib.SliceRun
import Derived.Lib.SmallJoins
import Derived.Shelf.SlSortCmp.QuietGrown
import Derived.BigCall
import Derived.Lib.AppendIntMem
namespace Go.Proofs.YtmocfielcllfmaaDoor
open Go.RowKit

theorem bcell {W w1 : World} (hb : Below W.heap.size W w1) : (∀ b o, b < W.heap.size → w1.cell? ⟨b, o, none⟩ = W.cell? ⟨b, o, none⟩) ∧ (∀ b o, b < W.heap.size → w1.frozen? ⟨b, o, none⟩ = W.frozen? ⟨b, o, none⟩) :=
  ⟨fun b o h => hb.cell (p := ⟨b, o, none⟩) h, fun b o h => hb.frozen (p := ⟨b, o, none⟩) h⟩
theorem below_own {w : World} (o : Obj) : Below w.heap.size w (w.alloc o) := (Below.refl _ w).alloc (Nat.le_refl _) o
theorem below_step {w W w1 : World} (h : Below w.heap.size w W) (h1 : Below W.heap.size W w1) : Below w.heap.size w w1 := h.trans (h1.mono h.size)
theorem below_new {w W : World} (h : Below w.heap.size w W) (o : Obj) : Below w.heap.size w (W.alloc o) := h.alloc h.size o
theorem bret {W w1 : World} {o : Obj} (hb : Below (W.alloc o).heap.size (W.alloc o) w1) : (∀ j, w1.cell? ⟨W.heap.size, j, none⟩ = (W.alloc o).cell? ⟨W.heap.size, j, none⟩) ∧ (∀ j, w1.frozen? ⟨W.heap.size, j, none⟩ = (W.alloc o).frozen? ⟨W.heap.size, j, none⟩) :=
  ⟨fun j => hb.cell (p := ⟨W.heap.size, j, none⟩) (by simp), fun j => hb.frozen (p := ⟨W.heap.size, j, none⟩) (by simp)⟩
theorem bone {W w1 : World} {g : Nat} (hb : Below W.heap.size W w1) (h : g < W.heap.size) : (∀ j, w1.cell? ⟨g, j, none⟩ = W.cell? ⟨g, j, none⟩) ∧ (∀ j, w1.frozen? ⟨g, j, none⟩ = W.frozen? ⟨g, j, none⟩) :=
  ⟨fun j => hb.cell (p := ⟨g, j, none⟩) h, fun j => hb.frozen (p := ⟨g, j, none⟩) h⟩

/-- Nothing but one block, and new ones. -/
abbrev Fr (pb : Nat) (w w' : World) : Prop := w.grownBy w' (some pb)
theorem Fr.refl (pb : Nat) (w : World) : Fr pb w w := World.grownBy.refl w _
theorem Fr.trans {pb : Nat} {a b c : World} (h : Fr pb a b) (k : Fr pb b c) : Fr pb a c := Lib.grownBy_trans h k
theorem Fr.alloc {pb : Nat} {a w : World} (h : Fr pb a w) (o : Obj) : Fr pb a (w.alloc o) := h.trans (World.grownBy_alloc w o _)
theorem Fr.set {pb : Nat} {a w : World} (h : Fr pb a w) (i : Nat) (v : Value) : Fr pb a (w.setCell ⟨pb, i, none⟩ v) := h.trans (Lib.grownBy_setCell w pb i v)
theorem Fr.of_below {pb : Nat} {w w' : World} (h : Below w.heap.size w w') : Fr pb w w' := ⟨h.os, h.tape, h.output, h.size, fun k hk _ => h.block k hk⟩
theorem Fr.below {pb B : Nat} {w w' : World} (h : Fr pb w w') (hB : B ≤ w.heap.size) (hp : B ≤ pb) : Below B w w' := ⟨h.os, h.tape, h.output, h.size, fun k hk => h.block k (by omega) (fun e => by cases e; omega)⟩
theorem Fr.keep {pb : Nat} {w w' : World} (h : Fr pb w w') {k : Nat} {o : Obj} (hk : w.heap[k]? = some o) (hne : k ≠ pb) : w'.heap[k]? = some o :=
  (h.block k (Array.getElem?_eq_some_iff.1 hk).1 (fun e => hne (Option.some.inj e))).trans hk
theorem Fr.cell {pb : Nat} {w w' : World} (h : Fr pb w w') {b o : Nat} {v : Value} (hc : w.cell? ⟨b, o, none⟩ = some v) (hne : b ≠ pb) : w'.cell? ⟨b, o, none⟩ = some v :=
  World.grownBy.cell h hc (fun e => hne (Option.some.inj e))
theorem Fr.drew {pb : Nat} {a w : World} (h : Fr pb a w) : Fr pb a w.drew := h.trans ⟨rfl, rfl, rfl, Nat.le_refl _, fun _ _ _ => rfl⟩
theorem Fr.drewN {pb : Nat} {a w : World} (h : Fr pb a w) (n : Nat) : Fr pb a (w.drewN n) := h.trans ⟨rfl, rfl, rfl, Nat.le_refl _, fun _ _ _ => rfl⟩

/-- Only draws and new blocks. -/
def Gr (w W : World) : Prop := ∃ n os, W = Sort.grow (w.drewN n) os
theorem Gr.refl (w : World) : Gr w w := ⟨0, #[], by rw [Sort.grow_empty]; rfl⟩
theorem Gr.trans {a b c : World} (h : Gr a b) (k : Gr b c) : Gr a c := by
  obtain ⟨n, os, rfl⟩ := h
  obtain ⟨m, os', rfl⟩ := k
  refine ⟨n + m, os ++ os', ?_⟩
  show Sort.grow (Sort.grow ((a.drewN n).drewN m) os) os' = _
  rw [Sort.grow_grow, World.drewN_drewN]
theorem Gr.alloc {a b : World} (h : Gr a b) (x : Obj) : Gr a (b.alloc x) := h.trans ⟨0, #[x], by rw [Sort.alloc_eq_grow]; rfl⟩
theorem Gr.drew {a b : World} (h : Gr a b) : Gr a b.drew := h.trans ⟨1, #[], by rw [Sort.grow_empty]; rfl⟩
theorem Gr.drewN {a b : World} (h : Gr a b) (n : Nat) : Gr a (b.drewN n) := h.trans ⟨n, #[], by rw [Sort.grow_empty]⟩
theorem Gr.below {a b : World} (h : Gr a b) : Below a.heap.size a b := by
  obtain ⟨n, os, rfl⟩ := h
  exact Lib.below_grow _ _ (Nat.le_refl _) _ _
theorem Gr.out {a b : World} (h : Gr a b) : ∃ n os, b = Sort.grow (a.drewN n) os := h

def cellsV : List V3 → List Value
  | [] => []
  | x :: l => .int .u8 x.1 :: .int .i64 x.2.1 :: .string x.2.2 :: cellsV l

theorem cellsV_length (l : List V3) : (cellsV l).length = l.length * 3 := by
  induction l with
  | nil => rfl
  | cons x l ih => simp only [cellsV, List.length_cons, ih]; omega

theorem cellsV_append (l m : List V3) : cellsV (l ++ m) = cellsV l ++ cellsV m := by
  induction l with
  | nil => rfl
  | cons x l ih => simp only [cellsV, List.cons_append, ih]

theorem cellsV_one (l : List V3) : ∀ u ∈ cellsV l, u.oneCell' = true := by
  induction l with
  | nil => intro u hu; cases hu
  | cons x l ih =>
    intro u hu
    simp only [cellsV, List.mem_cons] at hu
    rcases hu with rfl | rfl | rfl | hu
    · rfl
    · rfl
    · rfl
    · exact ih u hu

theorem cells_made (w : World) (cs : Array Value) (t : TypeId) (j : Nat) (u : Value) (h : cs[j]? = some u) : (w.alloc (.cells cs t)).cell? ⟨w.heap.size, j, none⟩ = some u := by
  show (match (w.heap.push (Obj.cells cs t))[w.heap.size]? with | some (.cells c _ _) => if (none : Option _).isSome then none else c[j]? | _ => none) = _
  rw [Array.getElem?_push_size]
  exact h

/-- The cells of a row of bytes. -/
abbrev bcells (l : List UInt8) : List Value := Lib.byteCells l

/-- The cells of a slice of bytes, wherever it lies. -/
def RowB (w : World) (ao : Option Addr) (l : List UInt8) : Prop :=
  0 < l.length → ∃ sb off, ao = some ⟨sb, off, none⟩ ∧ sb < w.heap.size ∧ ∀ j, (h : j < l.length) → w.cell? ⟨sb, off + j, none⟩ = some (.int .u8 ((l[j]).toNat : Int))
end Go.Proofs.YtmocfielcllfmaaDoor
