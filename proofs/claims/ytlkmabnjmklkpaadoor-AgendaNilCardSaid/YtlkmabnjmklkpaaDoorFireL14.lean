/- The program's fire: one leaves the row of those that wait, and is kept. -/
import Derived.Test.YtlkmabnjmklkpaaDoorFireB14
namespace Go.Proofs.YtlkmabnjmklkpaaDoor
open Go.RowKit
set_option maxRecDepth 100000
def cpD (i : Nat) : Option Nat := ([some 12, some 13, some 14, some 15, some 16, some 17, some 18, some 19, some 20, some 21, some 22, some 23] : List (Option Nat)).getD i none
set_option linter.unusedVariables false in
def cpF (w9 : World) (lb g o n wc at_ : Nat) (vA : Option Addr) (cur cur2 : Array Value) (l : Nat → Bool) (i : Nat) (w : World) (v : Value) : Prop :=
  match i with
  | 0 => v = .pointer (some ⟨lb, 0, none⟩)
  | 1 => v = .pointer (some ⟨lb, 0, none⟩)
  | 2 => v = .pointer (some ⟨lb, 1, none⟩)
  | 3 => v = .slice (some ⟨g, o, none⟩) n wc
  | 4 => v = .slice vA (n - 1) (wc - 1)
  | 5 => v = .pointer (some ⟨lb, 0, none⟩)
  | 6 => v = .pointer (some ⟨lb, 0, none⟩)
  | 7 => v = .pointer (some ⟨lb, 1, none⟩)
  | 8 => v = .slice (some ⟨g, o, none⟩) n wc
  | 9 => v = .int .i64 (at_ : Nat)
  | 10 => v = .slice (some ⟨g, o, none⟩) at_ wc
  | 11 => v = .int .i64 (at_ : Nat)
  | _ => True
set_option linter.unusedVariables false in
def cpJ (w9 : World) (lb g o n wc at_ : Nat) (vA : Option Addr) (cur cur2 : Array Value) (l : Nat → Bool) (w : World) : Prop := Touch (fun b => b = g) w9 w ∧ (l 11 = false → w.heap[g]? = some (.cells cur 59 (0, 0))) ∧ (l 11 = true → w.heap[g]? = some (.cells cur2 59 (0, 0)))
set_option linter.unusedVariables false in
theorem cp_mild (w9 : World) (lb g o n wc at_ : Nat) (vA : Option Addr) (cur cur2 : Array Value) : MildX (cpF w9 lb g o n wc at_ vA cur cur2) (cpJ w9 lb g o n wc at_ vA cur cur2) 11 := by
  refine ⟨fun l i j w w' v hb h => ?_, fun l i w w' hne hb h => ?_⟩
  · match j with
    | 0 => exact h
    | 1 => exact h
    | 2 => exact h
    | 3 => exact h
    | 4 => exact h
    | 5 => exact h
    | 6 => exact h
    | 7 => exact h
    | 8 => exact h
    | 9 => exact h
    | 10 => exact h
    | 11 => exact h
    | k + 12 => trivial
  · have e11 : setL l i 11 = l 11 := setL_ne (Ne.symm hne)
    refine ⟨h.1.step hb, fun hl => ?_, fun hl => ?_⟩
    · rw [e11] at hl
      exact (hb.block _ (lt_of_heap (h.2.1 hl))).trans (h.2.1 hl)
    · rw [e11] at hl
      exact (hb.block _ (lt_of_heap (h.2.2 hl))).trans (h.2.2 hl)
set_option linter.unusedVariables false in
theorem cp_const (w9 : World) (lb g o n wc at_ : Nat) (vA : Option Addr) (cur cur2 : Array Value) (l l' : Nat → Bool) (j : Nat) (w w' : World) (v : Value) (h : cpF w9 lb g o n wc at_ vA cur cur2 l j w v) : cpF w9 lb g o n wc at_ vA cur cur2 l' j w' v := by
  match j with
  | 0 => exact h
  | 1 => exact h
  | 2 => exact h
  | 3 => exact h
  | 4 => exact h
  | 5 => exact h
  | 6 => exact h
  | 7 => exact h
  | 8 => exact h
  | 9 => exact h
  | 10 => exact h
  | 11 => exact h
  | k + 12 => trivial
set_option linter.unusedVariables false in
theorem cp_s0 (w9 : World) (lb g o n wc at_ : Nat) (vA : Option Addr) (cur cur2 : Array Value) {ops : Array Oper} {Q : Exit → Act → World → Prop} {a0 a : Act} {w : World} {l : Nat → Bool} {ty : TypeId} {pos : String} {after : Array Edge} (e_0 : a0.eval (.tmp 0) = .pointer (some ⟨lb, 0, none⟩)) (e_1 : a0.eval (.tmp 1) = .int .i64 (at_ : Nat)) (hv : (wc = 1 ∧ vA = some ⟨g, o, none⟩) ∨ (wc ≠ 1 ∧ vA = some ⟨g, o + 3, none⟩)) (hat : at_ < n) (hnc : n ≤ wc) (hm : ∀ W, Touch (fun b => b = g) w9 W → W.cell? ⟨lb, 1, none⟩ = some (.slice (some ⟨g, o, none⟩) n wc)) (hcp : ∀ W ty, W.heap[g]? = some (.cells cur 59 (0, 0)) → (Builtin.copy_ #[54, 54] ty #[.slice vA (n - 1) (wc - 1), .slice (some ⟨g, o, none⟩) at_ wc]).run Tryd.prog W = .ok (.int .i64 (at_ : Nat)) (W.setRow g cur2)) (hs : St ops cpD (cpF w9 lb g o n wc at_ vA cur cur2) (cpJ w9 lb g o n wc at_ vA cur cur2) 12 a0 l a w) (hi : ops[0]? = some { dst := some 12, op := Op.move (Operand.tmp 0), type := ty, pos := pos, after := after, guard := none }) (nl : l 0 = false)  : wpOp Tryd.prog ops Q 0 (Did cpD (cpF w9 lb g o n wc at_ vA cur cur2) (cpJ w9 lb g o n wc at_ vA cur cur2) 12 l 0 a) a w := by
  have e0 : a.eval (.tmp 0) = .pointer (some ⟨lb, 0, none⟩) := (hs.kept 0 (by decide)).trans (e_0)
  have hK := did' (by decide) (cp_mild w9 lb g o n wc at_ vA cur cur2) hs (v := .pointer (some ⟨lb, 0, none⟩)) (d := 12) (i := 0) rfl (Below.refl _ w) rfl
  refine wpOp_move hi ?_
  rw [e0]
  exact hK
set_option linter.unusedVariables false in
theorem cp_s1 (w9 : World) (lb g o n wc at_ : Nat) (vA : Option Addr) (cur cur2 : Array Value) {ops : Array Oper} {Q : Exit → Act → World → Prop} {a0 a : Act} {w : World} {l : Nat → Bool} {ty : TypeId} {pos : String} {after : Array Edge} (e_0 : a0.eval (.tmp 0) = .pointer (some ⟨lb, 0, none⟩)) (e_1 : a0.eval (.tmp 1) = .int .i64 (at_ : Nat)) (hv : (wc = 1 ∧ vA = some ⟨g, o, none⟩) ∨ (wc ≠ 1 ∧ vA = some ⟨g, o + 3, none⟩)) (hat : at_ < n) (hnc : n ≤ wc) (hm : ∀ W, Touch (fun b => b = g) w9 W → W.cell? ⟨lb, 1, none⟩ = some (.slice (some ⟨g, o, none⟩) n wc)) (hcp : ∀ W ty, W.heap[g]? = some (.cells cur 59 (0, 0)) → (Builtin.copy_ #[54, 54] ty #[.slice vA (n - 1) (wc - 1), .slice (some ⟨g, o, none⟩) at_ wc]).run Tryd.prog W = .ok (.int .i64 (at_ : Nat)) (W.setRow g cur2)) (hs : St ops cpD (cpF w9 lb g o n wc at_ vA cur cur2) (cpJ w9 lb g o n wc at_ vA cur cur2) 12 a0 l a w) (hi : ops[1]? = some { dst := some 13, op := Op.nilCheck (Operand.tmp 12), type := ty, pos := pos, after := after, guard := none }) (nl : l 1 = false) (q0 : l 0 = true) : wpOp Tryd.prog ops Q 1 (Did cpD (cpF w9 lb g o n wc at_ vA cur cur2) (cpJ w9 lb g o n wc at_ vA cur cur2) 12 l 1 a) a w := by
  have e12 : cpF w9 lb g o n wc at_ vA cur cur2 l 0 w (a.eval (.tmp 12)) := hs.get (by decide) q0 rfl
  have e12 : a.eval (.tmp 12) = .pointer (some ⟨lb, 0, none⟩) := e12
  have hK := did' (by decide) (cp_mild w9 lb g o n wc at_ vA cur cur2) hs (v := .pointer (some ⟨lb, 0, none⟩)) (d := 13) (i := 1) rfl (Below.refl _ w) rfl
  exact wpOp_nilCheck hi e12 hK
set_option linter.unusedVariables false in
theorem cp_s2 (w9 : World) (lb g o n wc at_ : Nat) (vA : Option Addr) (cur cur2 : Array Value) {ops : Array Oper} {Q : Exit → Act → World → Prop} {a0 a : Act} {w : World} {l : Nat → Bool} {ty : TypeId} {pos : String} {after : Array Edge} (e_0 : a0.eval (.tmp 0) = .pointer (some ⟨lb, 0, none⟩)) (e_1 : a0.eval (.tmp 1) = .int .i64 (at_ : Nat)) (hv : (wc = 1 ∧ vA = some ⟨g, o, none⟩) ∨ (wc ≠ 1 ∧ vA = some ⟨g, o + 3, none⟩)) (hat : at_ < n) (hnc : n ≤ wc) (hm : ∀ W, Touch (fun b => b = g) w9 W → W.cell? ⟨lb, 1, none⟩ = some (.slice (some ⟨g, o, none⟩) n wc)) (hcp : ∀ W ty, W.heap[g]? = some (.cells cur 59 (0, 0)) → (Builtin.copy_ #[54, 54] ty #[.slice vA (n - 1) (wc - 1), .slice (some ⟨g, o, none⟩) at_ wc]).run Tryd.prog W = .ok (.int .i64 (at_ : Nat)) (W.setRow g cur2)) (hs : St ops cpD (cpF w9 lb g o n wc at_ vA cur cur2) (cpJ w9 lb g o n wc at_ vA cur cur2) 12 a0 l a w) (hi : ops[2]? = some { dst := some 14, op := Op.fieldAddr 57 (Operand.tmp 13) 1, type := ty, pos := pos, after := after, guard := none }) (nl : l 2 = false) (q1 : l 1 = true) : wpOp Tryd.prog ops Q 2 (Did cpD (cpF w9 lb g o n wc at_ vA cur cur2) (cpJ w9 lb g o n wc at_ vA cur cur2) 12 l 2 a) a w := by
  have e13 : cpF w9 lb g o n wc at_ vA cur cur2 l 1 w (a.eval (.tmp 13)) := hs.get (by decide) q1 rfl
  have e13 : a.eval (.tmp 13) = .pointer (some ⟨lb, 0, none⟩) := e13
  have hK := did' (by decide) (cp_mild w9 lb g o n wc at_ vA cur cur2) hs (v := .pointer (some ⟨lb, 1, none⟩)) (d := 14) (i := 2) rfl (Below.refl _ w) rfl
  refine wpOp_go hi rfl ?_
  unfold Oper.wp
  have KK := Lib.hid hK
  clear hK hi
  generalize a.eval = ρ at *
  go_simp
  exact KK.out
set_option linter.unusedVariables false in
theorem cp_s3 (w9 : World) (lb g o n wc at_ : Nat) (vA : Option Addr) (cur cur2 : Array Value) {ops : Array Oper} {Q : Exit → Act → World → Prop} {a0 a : Act} {w : World} {l : Nat → Bool} {ty : TypeId} {pos : String} {after : Array Edge} (e_0 : a0.eval (.tmp 0) = .pointer (some ⟨lb, 0, none⟩)) (e_1 : a0.eval (.tmp 1) = .int .i64 (at_ : Nat)) (hv : (wc = 1 ∧ vA = some ⟨g, o, none⟩) ∨ (wc ≠ 1 ∧ vA = some ⟨g, o + 3, none⟩)) (hat : at_ < n) (hnc : n ≤ wc) (hm : ∀ W, Touch (fun b => b = g) w9 W → W.cell? ⟨lb, 1, none⟩ = some (.slice (some ⟨g, o, none⟩) n wc)) (hcp : ∀ W ty, W.heap[g]? = some (.cells cur 59 (0, 0)) → (Builtin.copy_ #[54, 54] ty #[.slice vA (n - 1) (wc - 1), .slice (some ⟨g, o, none⟩) at_ wc]).run Tryd.prog W = .ok (.int .i64 (at_ : Nat)) (W.setRow g cur2)) (hs : St ops cpD (cpF w9 lb g o n wc at_ vA cur cur2) (cpJ w9 lb g o n wc at_ vA cur cur2) 12 a0 l a w) (hi : ops[3]? = some { dst := some 15, op := Op.load 54 (Operand.tmp 14), type := ty, pos := pos, after := after, guard := none }) (nl : l 3 = false) (q2 : l 2 = true) : wpOp Tryd.prog ops Q 3 (Did cpD (cpF w9 lb g o n wc at_ vA cur cur2) (cpJ w9 lb g o n wc at_ vA cur cur2) 12 l 3 a) a w := by
  have e14 : cpF w9 lb g o n wc at_ vA cur cur2 l 2 w (a.eval (.tmp 14)) := hs.get (by decide) q2 rfl
  have f14 : a.eval (.tmp 14) = .pointer (some ⟨lb, 1, none⟩) := e14
  have hc := hm w hs.j.1
  have hK := did' (by decide) (cp_mild w9 lb g o n wc at_ vA cur cur2) hs (v := .slice (some ⟨g, o, none⟩) n wc) (d := 15) (i := 3) rfl (Below.refl _ w) rfl
  refine wpOp_go hi rfl ?_
  unfold Oper.wp
  have KK := Lib.hid hK
  clear hK hi e14 hs
  generalize a.eval = ρ at *
  go_simp
  exact KK.out
set_option linter.unusedVariables false in
theorem cp_s4 (w9 : World) (lb g o n wc at_ : Nat) (vA : Option Addr) (cur cur2 : Array Value) {ops : Array Oper} {Q : Exit → Act → World → Prop} {a0 a : Act} {w : World} {l : Nat → Bool} {ty : TypeId} {pos : String} {after : Array Edge} (e_0 : a0.eval (.tmp 0) = .pointer (some ⟨lb, 0, none⟩)) (e_1 : a0.eval (.tmp 1) = .int .i64 (at_ : Nat)) (hv : (wc = 1 ∧ vA = some ⟨g, o, none⟩) ∨ (wc ≠ 1 ∧ vA = some ⟨g, o + 3, none⟩)) (hat : at_ < n) (hnc : n ≤ wc) (hm : ∀ W, Touch (fun b => b = g) w9 W → W.cell? ⟨lb, 1, none⟩ = some (.slice (some ⟨g, o, none⟩) n wc)) (hcp : ∀ W ty, W.heap[g]? = some (.cells cur 59 (0, 0)) → (Builtin.copy_ #[54, 54] ty #[.slice vA (n - 1) (wc - 1), .slice (some ⟨g, o, none⟩) at_ wc]).run Tryd.prog W = .ok (.int .i64 (at_ : Nat)) (W.setRow g cur2)) (hs : St ops cpD (cpF w9 lb g o n wc at_ vA cur cur2) (cpJ w9 lb g o n wc at_ vA cur cur2) 12 a0 l a w) (hi : ops[4]? = some { dst := some 16, op := Op.slice 54 (Operand.tmp 15) (some (Operand.const (Value.int IntKind.i64 1))) none none, type := ty, pos := pos, after := after, guard := none }) (nl : l 4 = false) (q3 : l 3 = true) : wpOp Tryd.prog ops Q 4 (Did cpD (cpF w9 lb g o n wc at_ vA cur cur2) (cpJ w9 lb g o n wc at_ vA cur cur2) 12 l 4 a) a w := by
  have e15 : cpF w9 lb g o n wc at_ vA cur cur2 l 3 w (a.eval (.tmp 15)) := hs.get (by decide) q3 rfl
  have f15 : a.eval (.tmp 15) = .slice (some ⟨g, o, none⟩) n wc := e15
  have ec : a.eval (.const (.int .i64 1)) = .int .i64 1 := rfl
  have hn1 : (1 : Int) ≤ (n : Int) := by omega
  have hn2 : 1 ≤ n := by omega
  have hK := did' (by decide) (cp_mild w9 lb g o n wc at_ vA cur cur2) hs (v := .slice vA (n - 1) (wc - 1)) (d := 16) (i := 4) rfl (Below.refl _ w) rfl
  refine wpOp_go hi rfl ?_
  unfold Oper.wp
  have KK := Lib.hid hK
  clear hK hi e15 hs
  generalize a.eval = ρ at *
  rcases hv with ⟨rfl, rfl⟩ | ⟨h1, rfl⟩
  · obtain rfl : n = 1 := by omega
    go_simp
    exact KK.out
  · go_simp
    exact KK.out
set_option linter.unusedVariables false in
theorem cp_s5 (w9 : World) (lb g o n wc at_ : Nat) (vA : Option Addr) (cur cur2 : Array Value) {ops : Array Oper} {Q : Exit → Act → World → Prop} {a0 a : Act} {w : World} {l : Nat → Bool} {ty : TypeId} {pos : String} {after : Array Edge} (e_0 : a0.eval (.tmp 0) = .pointer (some ⟨lb, 0, none⟩)) (e_1 : a0.eval (.tmp 1) = .int .i64 (at_ : Nat)) (hv : (wc = 1 ∧ vA = some ⟨g, o, none⟩) ∨ (wc ≠ 1 ∧ vA = some ⟨g, o + 3, none⟩)) (hat : at_ < n) (hnc : n ≤ wc) (hm : ∀ W, Touch (fun b => b = g) w9 W → W.cell? ⟨lb, 1, none⟩ = some (.slice (some ⟨g, o, none⟩) n wc)) (hcp : ∀ W ty, W.heap[g]? = some (.cells cur 59 (0, 0)) → (Builtin.copy_ #[54, 54] ty #[.slice vA (n - 1) (wc - 1), .slice (some ⟨g, o, none⟩) at_ wc]).run Tryd.prog W = .ok (.int .i64 (at_ : Nat)) (W.setRow g cur2)) (hs : St ops cpD (cpF w9 lb g o n wc at_ vA cur cur2) (cpJ w9 lb g o n wc at_ vA cur cur2) 12 a0 l a w) (hi : ops[5]? = some { dst := some 17, op := Op.move (Operand.tmp 0), type := ty, pos := pos, after := after, guard := none }) (nl : l 5 = false)  : wpOp Tryd.prog ops Q 5 (Did cpD (cpF w9 lb g o n wc at_ vA cur cur2) (cpJ w9 lb g o n wc at_ vA cur cur2) 12 l 5 a) a w := by
  have e0 : a.eval (.tmp 0) = .pointer (some ⟨lb, 0, none⟩) := (hs.kept 0 (by decide)).trans (e_0)
  have hK := did' (by decide) (cp_mild w9 lb g o n wc at_ vA cur cur2) hs (v := .pointer (some ⟨lb, 0, none⟩)) (d := 17) (i := 5) rfl (Below.refl _ w) rfl
  refine wpOp_move hi ?_
  rw [e0]
  exact hK
set_option linter.unusedVariables false in
theorem cp_s6 (w9 : World) (lb g o n wc at_ : Nat) (vA : Option Addr) (cur cur2 : Array Value) {ops : Array Oper} {Q : Exit → Act → World → Prop} {a0 a : Act} {w : World} {l : Nat → Bool} {ty : TypeId} {pos : String} {after : Array Edge} (e_0 : a0.eval (.tmp 0) = .pointer (some ⟨lb, 0, none⟩)) (e_1 : a0.eval (.tmp 1) = .int .i64 (at_ : Nat)) (hv : (wc = 1 ∧ vA = some ⟨g, o, none⟩) ∨ (wc ≠ 1 ∧ vA = some ⟨g, o + 3, none⟩)) (hat : at_ < n) (hnc : n ≤ wc) (hm : ∀ W, Touch (fun b => b = g) w9 W → W.cell? ⟨lb, 1, none⟩ = some (.slice (some ⟨g, o, none⟩) n wc)) (hcp : ∀ W ty, W.heap[g]? = some (.cells cur 59 (0, 0)) → (Builtin.copy_ #[54, 54] ty #[.slice vA (n - 1) (wc - 1), .slice (some ⟨g, o, none⟩) at_ wc]).run Tryd.prog W = .ok (.int .i64 (at_ : Nat)) (W.setRow g cur2)) (hs : St ops cpD (cpF w9 lb g o n wc at_ vA cur cur2) (cpJ w9 lb g o n wc at_ vA cur cur2) 12 a0 l a w) (hi : ops[6]? = some { dst := some 18, op := Op.nilCheck (Operand.tmp 17), type := ty, pos := pos, after := after, guard := none }) (nl : l 6 = false) (q5 : l 5 = true) : wpOp Tryd.prog ops Q 6 (Did cpD (cpF w9 lb g o n wc at_ vA cur cur2) (cpJ w9 lb g o n wc at_ vA cur cur2) 12 l 6 a) a w := by
  have e17 : cpF w9 lb g o n wc at_ vA cur cur2 l 5 w (a.eval (.tmp 17)) := hs.get (by decide) q5 rfl
  have e17 : a.eval (.tmp 17) = .pointer (some ⟨lb, 0, none⟩) := e17
  have hK := did' (by decide) (cp_mild w9 lb g o n wc at_ vA cur cur2) hs (v := .pointer (some ⟨lb, 0, none⟩)) (d := 18) (i := 6) rfl (Below.refl _ w) rfl
  exact wpOp_nilCheck hi e17 hK
set_option linter.unusedVariables false in
theorem cp_s7 (w9 : World) (lb g o n wc at_ : Nat) (vA : Option Addr) (cur cur2 : Array Value) {ops : Array Oper} {Q : Exit → Act → World → Prop} {a0 a : Act} {w : World} {l : Nat → Bool} {ty : TypeId} {pos : String} {after : Array Edge} (e_0 : a0.eval (.tmp 0) = .pointer (some ⟨lb, 0, none⟩)) (e_1 : a0.eval (.tmp 1) = .int .i64 (at_ : Nat)) (hv : (wc = 1 ∧ vA = some ⟨g, o, none⟩) ∨ (wc ≠ 1 ∧ vA = some ⟨g, o + 3, none⟩)) (hat : at_ < n) (hnc : n ≤ wc) (hm : ∀ W, Touch (fun b => b = g) w9 W → W.cell? ⟨lb, 1, none⟩ = some (.slice (some ⟨g, o, none⟩) n wc)) (hcp : ∀ W ty, W.heap[g]? = some (.cells cur 59 (0, 0)) → (Builtin.copy_ #[54, 54] ty #[.slice vA (n - 1) (wc - 1), .slice (some ⟨g, o, none⟩) at_ wc]).run Tryd.prog W = .ok (.int .i64 (at_ : Nat)) (W.setRow g cur2)) (hs : St ops cpD (cpF w9 lb g o n wc at_ vA cur cur2) (cpJ w9 lb g o n wc at_ vA cur cur2) 12 a0 l a w) (hi : ops[7]? = some { dst := some 19, op := Op.fieldAddr 57 (Operand.tmp 18) 1, type := ty, pos := pos, after := after, guard := none }) (nl : l 7 = false) (q6 : l 6 = true) : wpOp Tryd.prog ops Q 7 (Did cpD (cpF w9 lb g o n wc at_ vA cur cur2) (cpJ w9 lb g o n wc at_ vA cur cur2) 12 l 7 a) a w := by
  have e18 : cpF w9 lb g o n wc at_ vA cur cur2 l 6 w (a.eval (.tmp 18)) := hs.get (by decide) q6 rfl
  have e18 : a.eval (.tmp 18) = .pointer (some ⟨lb, 0, none⟩) := e18
  have hK := did' (by decide) (cp_mild w9 lb g o n wc at_ vA cur cur2) hs (v := .pointer (some ⟨lb, 1, none⟩)) (d := 19) (i := 7) rfl (Below.refl _ w) rfl
  refine wpOp_go hi rfl ?_
  unfold Oper.wp
  have KK := Lib.hid hK
  clear hK hi
  generalize a.eval = ρ at *
  go_simp
  exact KK.out
set_option linter.unusedVariables false in
theorem cp_s8 (w9 : World) (lb g o n wc at_ : Nat) (vA : Option Addr) (cur cur2 : Array Value) {ops : Array Oper} {Q : Exit → Act → World → Prop} {a0 a : Act} {w : World} {l : Nat → Bool} {ty : TypeId} {pos : String} {after : Array Edge} (e_0 : a0.eval (.tmp 0) = .pointer (some ⟨lb, 0, none⟩)) (e_1 : a0.eval (.tmp 1) = .int .i64 (at_ : Nat)) (hv : (wc = 1 ∧ vA = some ⟨g, o, none⟩) ∨ (wc ≠ 1 ∧ vA = some ⟨g, o + 3, none⟩)) (hat : at_ < n) (hnc : n ≤ wc) (hm : ∀ W, Touch (fun b => b = g) w9 W → W.cell? ⟨lb, 1, none⟩ = some (.slice (some ⟨g, o, none⟩) n wc)) (hcp : ∀ W ty, W.heap[g]? = some (.cells cur 59 (0, 0)) → (Builtin.copy_ #[54, 54] ty #[.slice vA (n - 1) (wc - 1), .slice (some ⟨g, o, none⟩) at_ wc]).run Tryd.prog W = .ok (.int .i64 (at_ : Nat)) (W.setRow g cur2)) (hs : St ops cpD (cpF w9 lb g o n wc at_ vA cur cur2) (cpJ w9 lb g o n wc at_ vA cur cur2) 12 a0 l a w) (hi : ops[8]? = some { dst := some 20, op := Op.load 54 (Operand.tmp 19), type := ty, pos := pos, after := after, guard := none }) (nl : l 8 = false) (q7 : l 7 = true) : wpOp Tryd.prog ops Q 8 (Did cpD (cpF w9 lb g o n wc at_ vA cur cur2) (cpJ w9 lb g o n wc at_ vA cur cur2) 12 l 8 a) a w := by
  have e19 : cpF w9 lb g o n wc at_ vA cur cur2 l 7 w (a.eval (.tmp 19)) := hs.get (by decide) q7 rfl
  have f19 : a.eval (.tmp 19) = .pointer (some ⟨lb, 1, none⟩) := e19
  have hc := hm w hs.j.1
  have hK := did' (by decide) (cp_mild w9 lb g o n wc at_ vA cur cur2) hs (v := .slice (some ⟨g, o, none⟩) n wc) (d := 20) (i := 8) rfl (Below.refl _ w) rfl
  refine wpOp_go hi rfl ?_
  unfold Oper.wp
  have KK := Lib.hid hK
  clear hK hi e19 hs
  generalize a.eval = ρ at *
  go_simp
  exact KK.out
set_option linter.unusedVariables false in
theorem cp_s9 (w9 : World) (lb g o n wc at_ : Nat) (vA : Option Addr) (cur cur2 : Array Value) {ops : Array Oper} {Q : Exit → Act → World → Prop} {a0 a : Act} {w : World} {l : Nat → Bool} {ty : TypeId} {pos : String} {after : Array Edge} (e_0 : a0.eval (.tmp 0) = .pointer (some ⟨lb, 0, none⟩)) (e_1 : a0.eval (.tmp 1) = .int .i64 (at_ : Nat)) (hv : (wc = 1 ∧ vA = some ⟨g, o, none⟩) ∨ (wc ≠ 1 ∧ vA = some ⟨g, o + 3, none⟩)) (hat : at_ < n) (hnc : n ≤ wc) (hm : ∀ W, Touch (fun b => b = g) w9 W → W.cell? ⟨lb, 1, none⟩ = some (.slice (some ⟨g, o, none⟩) n wc)) (hcp : ∀ W ty, W.heap[g]? = some (.cells cur 59 (0, 0)) → (Builtin.copy_ #[54, 54] ty #[.slice vA (n - 1) (wc - 1), .slice (some ⟨g, o, none⟩) at_ wc]).run Tryd.prog W = .ok (.int .i64 (at_ : Nat)) (W.setRow g cur2)) (hs : St ops cpD (cpF w9 lb g o n wc at_ vA cur cur2) (cpJ w9 lb g o n wc at_ vA cur cur2) 12 a0 l a w) (hi : ops[9]? = some { dst := some 21, op := Op.move (Operand.tmp 1), type := ty, pos := pos, after := after, guard := none }) (nl : l 9 = false)  : wpOp Tryd.prog ops Q 9 (Did cpD (cpF w9 lb g o n wc at_ vA cur cur2) (cpJ w9 lb g o n wc at_ vA cur cur2) 12 l 9 a) a w := by
  have e1 : a.eval (.tmp 1) = .int .i64 (at_ : Nat) := (hs.kept 1 (by decide)).trans (e_1)
  have hK := did' (by decide) (cp_mild w9 lb g o n wc at_ vA cur cur2) hs (v := .int .i64 (at_ : Nat)) (d := 21) (i := 9) rfl (Below.refl _ w) rfl
  refine wpOp_move hi ?_
  rw [e1]
  exact hK
set_option linter.unusedVariables false in
theorem cp_s10 (w9 : World) (lb g o n wc at_ : Nat) (vA : Option Addr) (cur cur2 : Array Value) {ops : Array Oper} {Q : Exit → Act → World → Prop} {a0 a : Act} {w : World} {l : Nat → Bool} {ty : TypeId} {pos : String} {after : Array Edge} (e_0 : a0.eval (.tmp 0) = .pointer (some ⟨lb, 0, none⟩)) (e_1 : a0.eval (.tmp 1) = .int .i64 (at_ : Nat)) (hv : (wc = 1 ∧ vA = some ⟨g, o, none⟩) ∨ (wc ≠ 1 ∧ vA = some ⟨g, o + 3, none⟩)) (hat : at_ < n) (hnc : n ≤ wc) (hm : ∀ W, Touch (fun b => b = g) w9 W → W.cell? ⟨lb, 1, none⟩ = some (.slice (some ⟨g, o, none⟩) n wc)) (hcp : ∀ W ty, W.heap[g]? = some (.cells cur 59 (0, 0)) → (Builtin.copy_ #[54, 54] ty #[.slice vA (n - 1) (wc - 1), .slice (some ⟨g, o, none⟩) at_ wc]).run Tryd.prog W = .ok (.int .i64 (at_ : Nat)) (W.setRow g cur2)) (hs : St ops cpD (cpF w9 lb g o n wc at_ vA cur cur2) (cpJ w9 lb g o n wc at_ vA cur cur2) 12 a0 l a w) (hi : ops[10]? = some { dst := some 22, op := Op.slice 54 (Operand.tmp 20) none (some (Operand.tmp 21)) none, type := ty, pos := pos, after := after, guard := none }) (nl : l 10 = false) (q8 : l 8 = true) (q9 : l 9 = true) : wpOp Tryd.prog ops Q 10 (Did cpD (cpF w9 lb g o n wc at_ vA cur cur2) (cpJ w9 lb g o n wc at_ vA cur cur2) 12 l 10 a) a w := by
  have e20 : cpF w9 lb g o n wc at_ vA cur cur2 l 8 w (a.eval (.tmp 20)) := hs.get (by decide) q8 rfl
  have e21 : cpF w9 lb g o n wc at_ vA cur cur2 l 9 w (a.eval (.tmp 21)) := hs.get (by decide) q9 rfl
  have f20 : a.eval (.tmp 20) = .slice (some ⟨g, o, none⟩) n wc := e20
  have f21 : a.eval (.tmp 21) = .int .i64 (at_ : Nat) := e21
  have h0 : (0 : Int) ≤ (at_ : Int) := by omega
  have hn1 : (at_ : Int) ≤ (wc : Int) := by omega
  have hn2 : ¬ wc = 0 := by omega
  have hK := did' (by decide) (cp_mild w9 lb g o n wc at_ vA cur cur2) hs (v := .slice (some ⟨g, o, none⟩) at_ wc) (d := 22) (i := 10) rfl (Below.refl _ w) rfl
  refine wpOp_go hi rfl ?_
  unfold Oper.wp
  have KK := Lib.hid hK
  clear hK hi e20 e21 hs
  generalize a.eval = ρ at *
  go_simp
  exact KK.out
set_option linter.unusedVariables false in
theorem cp_s11 (w9 : World) (lb g o n wc at_ : Nat) (vA : Option Addr) (cur cur2 : Array Value) {ops : Array Oper} {Q : Exit → Act → World → Prop} {a0 a : Act} {w : World} {l : Nat → Bool} {ty : TypeId} {pos : String} {after : Array Edge} (e_0 : a0.eval (.tmp 0) = .pointer (some ⟨lb, 0, none⟩)) (e_1 : a0.eval (.tmp 1) = .int .i64 (at_ : Nat)) (hv : (wc = 1 ∧ vA = some ⟨g, o, none⟩) ∨ (wc ≠ 1 ∧ vA = some ⟨g, o + 3, none⟩)) (hat : at_ < n) (hnc : n ≤ wc) (hm : ∀ W, Touch (fun b => b = g) w9 W → W.cell? ⟨lb, 1, none⟩ = some (.slice (some ⟨g, o, none⟩) n wc)) (hcp : ∀ W ty, W.heap[g]? = some (.cells cur 59 (0, 0)) → (Builtin.copy_ #[54, 54] ty #[.slice vA (n - 1) (wc - 1), .slice (some ⟨g, o, none⟩) at_ wc]).run Tryd.prog W = .ok (.int .i64 (at_ : Nat)) (W.setRow g cur2)) (hs : St ops cpD (cpF w9 lb g o n wc at_ vA cur cur2) (cpJ w9 lb g o n wc at_ vA cur cur2) 12 a0 l a w) (hi : ops[11]? = some { dst := some 23, op := Op.call { callee := Callee.builtin Builtin.copy, args := #[Operand.tmp 16, Operand.tmp 22], argTypes := #[54, 54] }, type := ty, pos := pos, after := after, guard := none }) (nl : l 11 = false) (q4 : l 4 = true) (q10 : l 10 = true) : wpOp Tryd.prog ops Q 11 (Did cpD (cpF w9 lb g o n wc at_ vA cur cur2) (cpJ w9 lb g o n wc at_ vA cur cur2) 12 l 11 a) a w := by
  have e16 : cpF w9 lb g o n wc at_ vA cur cur2 l 4 w (a.eval (.tmp 16)) := hs.get (by decide) q4 rfl
  have e22 : cpF w9 lb g o n wc at_ vA cur cur2 l 10 w (a.eval (.tmp 22)) := hs.get (by decide) q10 rfl
  have f16 : a.eval (.tmp 16) = .slice vA (n - 1) (wc - 1) := e16
  have f22 : a.eval (.tmp 22) = .slice (some ⟨g, o, none⟩) at_ wc := e22
  have hg := hs.j.2.1 nl
  have hrun := fun ty => hcp w ty hg
  have hK := didK (fun l l' j w w' v h => cp_const w9 lb g o n wc at_ vA cur cur2 l l' j w w' v h) hs (v := .int .i64 (at_ : Nat)) (w' := w.setRow g cur2) (d := 23) (i := 11) rfl ⟨touch_setRow hs.j.1, fun h => by simp [setL] at h, fun _ => setRow_heap w g cur cur2 _ _ hg⟩ rfl
  refine wpOp_go hi rfl ?_
  unfold Oper.wp
  have KK := Lib.hid hK
  clear hK hi hs e16 e22
  generalize a.eval = ρ at *
  simp [execOp, resolve, invoke, builtin, f16, f22, hrun, Result.andThen]
  exact KK.out
def mpD (i : Nat) : Option Nat := ([some 32, some 33, some 34, some 35, some 36, some 37, some 38, none] : List (Option Nat)).getD i none
set_option linter.unusedVariables false in
def mpF (w9 : World) (lb mb b4 : Nat) (m : MV) (FF : List MV) (l : Nat → Bool) (i : Nat) (w : World) (v : Value) : Prop :=
  match i with
  | 0 => v = .pointer (some ⟨lb, 0, none⟩)
  | 1 => v = .pointer (some ⟨lb, 0, none⟩)
  | 2 => v = .pointer (some ⟨lb, 2, none⟩)
  | 3 => v = .map (some mb)
  | 4 => v = mval m
  | 5 => v = kv14 m.1
  | 6 => v = mval m
  | 7 => True
  | _ => True
set_option linter.unusedVariables false in
def mpJ (w9 : World) (lb mb b4 : Nat) (m : MV) (FF : List MV) (l : Nat → Bool) (w : World) : Prop := Touch (fun b => b = mb) w9 w ∧ (l 7 = false → PMap w mb FF) ∧ (l 7 = true → PMap w mb (FF ++ [m]))
set_option linter.unusedVariables false in
theorem mp_mild (w9 : World) (lb mb b4 : Nat) (m : MV) (FF : List MV) : MildX (mpF w9 lb mb b4 m FF) (mpJ w9 lb mb b4 m FF) 7 := by
  refine ⟨fun l i j w w' v hb h => ?_, fun l i w w' hne hb h => ?_⟩
  · match j with
    | 0 => exact h
    | 1 => exact h
    | 2 => exact h
    | 3 => exact h
    | 4 => exact h
    | 5 => exact h
    | 6 => exact h
    | 7 => exact h
    | k + 8 => trivial
  · have e7 : setL l i 7 = l 7 := setL_ne (Ne.symm hne)
    refine ⟨h.1.step hb, fun hl => ?_, fun hl => ?_⟩
    · rw [e7] at hl
      exact (h.2.1 hl).keep (hb.block _ (h.2.1 hl).lt)
    · rw [e7] at hl
      exact (h.2.2 hl).keep (hb.block _ (h.2.2 hl).lt)
set_option linter.unusedVariables false in
theorem mp_const (w9 : World) (lb mb b4 : Nat) (m : MV) (FF : List MV) (l l' : Nat → Bool) (j : Nat) (w w' : World) (v : Value) (h : mpF w9 lb mb b4 m FF l j w v) : mpF w9 lb mb b4 m FF l' j w' v := by
  match j with
  | 0 => exact h
  | 1 => exact h
  | 2 => exact h
  | 3 => exact h
  | 4 => exact h
  | 5 => exact h
  | 6 => exact h
  | 7 => exact h
  | k + 8 => trivial
set_option linter.unusedVariables false in
theorem mp_s0 (w9 : World) (lb mb b4 : Nat) (m : MV) (FF : List MV) {ops : Array Oper} {Q : Exit → Act → World → Prop} {a0 a : Act} {w : World} {l : Nat → Bool} {ty : TypeId} {pos : String} {after : Array Edge} (e_0 : a0.eval (.tmp 0) = .pointer (some ⟨lb, 0, none⟩)) (e_4 : a0.eval (.tmp 4) = .pointer (some ⟨b4, 0, none⟩)) (hm : ∀ W, Touch (fun b => b = mb) w9 W → W.cell? ⟨lb, 2, none⟩ = some (.map (some mb)) ∧ W.cell? ⟨b4, 0, none⟩ = some (.int .i64 m.1.1) ∧ W.cell? ⟨b4, 1, none⟩ = some (.slice m.2.1.1 m.1.2.length m.2.1.2) ∧ W.cell? ⟨b4, 2, none⟩ = some (.slice m.2.2.1 m.1.2.length m.2.2.2)) (hkey : ∀ W, Touch (fun b => b = mb) w9 W → Calls Tryd.prog 33 #[mval m] W fun r w' => r = .returned (kv14 m.1) ∧ Below W.heap.size W w') (hkl : (keyT m.1).length ≤ maxLen) (hnew : m.1 ∉ FF.map Prod.fst) (hFl : FF.length ≤ 1000000) (hs : St ops mpD (mpF w9 lb mb b4 m FF) (mpJ w9 lb mb b4 m FF) 8 a0 l a w) (hi : ops[0]? = some { dst := some 32, op := Op.move (Operand.tmp 0), type := ty, pos := pos, after := after, guard := none }) (nl : l 0 = false)  : wpOp Tryd.prog ops Q 0 (Did mpD (mpF w9 lb mb b4 m FF) (mpJ w9 lb mb b4 m FF) 8 l 0 a) a w := by
  have e0 : a.eval (.tmp 0) = .pointer (some ⟨lb, 0, none⟩) := (hs.kept 0 (by decide)).trans (e_0)
  have hK := did' (by decide) (mp_mild w9 lb mb b4 m FF) hs (v := .pointer (some ⟨lb, 0, none⟩)) (d := 32) (i := 0) rfl (Below.refl _ w) rfl
  refine wpOp_move hi ?_
  rw [e0]
  exact hK
set_option linter.unusedVariables false in
theorem mp_s1 (w9 : World) (lb mb b4 : Nat) (m : MV) (FF : List MV) {ops : Array Oper} {Q : Exit → Act → World → Prop} {a0 a : Act} {w : World} {l : Nat → Bool} {ty : TypeId} {pos : String} {after : Array Edge} (e_0 : a0.eval (.tmp 0) = .pointer (some ⟨lb, 0, none⟩)) (e_4 : a0.eval (.tmp 4) = .pointer (some ⟨b4, 0, none⟩)) (hm : ∀ W, Touch (fun b => b = mb) w9 W → W.cell? ⟨lb, 2, none⟩ = some (.map (some mb)) ∧ W.cell? ⟨b4, 0, none⟩ = some (.int .i64 m.1.1) ∧ W.cell? ⟨b4, 1, none⟩ = some (.slice m.2.1.1 m.1.2.length m.2.1.2) ∧ W.cell? ⟨b4, 2, none⟩ = some (.slice m.2.2.1 m.1.2.length m.2.2.2)) (hkey : ∀ W, Touch (fun b => b = mb) w9 W → Calls Tryd.prog 33 #[mval m] W fun r w' => r = .returned (kv14 m.1) ∧ Below W.heap.size W w') (hkl : (keyT m.1).length ≤ maxLen) (hnew : m.1 ∉ FF.map Prod.fst) (hFl : FF.length ≤ 1000000) (hs : St ops mpD (mpF w9 lb mb b4 m FF) (mpJ w9 lb mb b4 m FF) 8 a0 l a w) (hi : ops[1]? = some { dst := some 33, op := Op.nilCheck (Operand.tmp 32), type := ty, pos := pos, after := after, guard := none }) (nl : l 1 = false) (q0 : l 0 = true) : wpOp Tryd.prog ops Q 1 (Did mpD (mpF w9 lb mb b4 m FF) (mpJ w9 lb mb b4 m FF) 8 l 1 a) a w := by
  have e32 : mpF w9 lb mb b4 m FF l 0 w (a.eval (.tmp 32)) := hs.get (by decide) q0 rfl
  have e32 : a.eval (.tmp 32) = .pointer (some ⟨lb, 0, none⟩) := e32
  have hK := did' (by decide) (mp_mild w9 lb mb b4 m FF) hs (v := .pointer (some ⟨lb, 0, none⟩)) (d := 33) (i := 1) rfl (Below.refl _ w) rfl
  exact wpOp_nilCheck hi e32 hK
set_option linter.unusedVariables false in
theorem mp_s2 (w9 : World) (lb mb b4 : Nat) (m : MV) (FF : List MV) {ops : Array Oper} {Q : Exit → Act → World → Prop} {a0 a : Act} {w : World} {l : Nat → Bool} {ty : TypeId} {pos : String} {after : Array Edge} (e_0 : a0.eval (.tmp 0) = .pointer (some ⟨lb, 0, none⟩)) (e_4 : a0.eval (.tmp 4) = .pointer (some ⟨b4, 0, none⟩)) (hm : ∀ W, Touch (fun b => b = mb) w9 W → W.cell? ⟨lb, 2, none⟩ = some (.map (some mb)) ∧ W.cell? ⟨b4, 0, none⟩ = some (.int .i64 m.1.1) ∧ W.cell? ⟨b4, 1, none⟩ = some (.slice m.2.1.1 m.1.2.length m.2.1.2) ∧ W.cell? ⟨b4, 2, none⟩ = some (.slice m.2.2.1 m.1.2.length m.2.2.2)) (hkey : ∀ W, Touch (fun b => b = mb) w9 W → Calls Tryd.prog 33 #[mval m] W fun r w' => r = .returned (kv14 m.1) ∧ Below W.heap.size W w') (hkl : (keyT m.1).length ≤ maxLen) (hnew : m.1 ∉ FF.map Prod.fst) (hFl : FF.length ≤ 1000000) (hs : St ops mpD (mpF w9 lb mb b4 m FF) (mpJ w9 lb mb b4 m FF) 8 a0 l a w) (hi : ops[2]? = some { dst := some 34, op := Op.fieldAddr 57 (Operand.tmp 33) 2, type := ty, pos := pos, after := after, guard := none }) (nl : l 2 = false) (q1 : l 1 = true) : wpOp Tryd.prog ops Q 2 (Did mpD (mpF w9 lb mb b4 m FF) (mpJ w9 lb mb b4 m FF) 8 l 2 a) a w := by
  have e33 : mpF w9 lb mb b4 m FF l 1 w (a.eval (.tmp 33)) := hs.get (by decide) q1 rfl
  have e33 : a.eval (.tmp 33) = .pointer (some ⟨lb, 0, none⟩) := e33
  have hK := did' (by decide) (mp_mild w9 lb mb b4 m FF) hs (v := .pointer (some ⟨lb, 2, none⟩)) (d := 34) (i := 2) rfl (Below.refl _ w) rfl
  refine wpOp_go hi rfl ?_
  unfold Oper.wp
  have KK := Lib.hid hK
  clear hK hi
  generalize a.eval = ρ at *
  go_simp
  exact KK.out
set_option linter.unusedVariables false in
theorem mp_s3 (w9 : World) (lb mb b4 : Nat) (m : MV) (FF : List MV) {ops : Array Oper} {Q : Exit → Act → World → Prop} {a0 a : Act} {w : World} {l : Nat → Bool} {ty : TypeId} {pos : String} {after : Array Edge} (e_0 : a0.eval (.tmp 0) = .pointer (some ⟨lb, 0, none⟩)) (e_4 : a0.eval (.tmp 4) = .pointer (some ⟨b4, 0, none⟩)) (hm : ∀ W, Touch (fun b => b = mb) w9 W → W.cell? ⟨lb, 2, none⟩ = some (.map (some mb)) ∧ W.cell? ⟨b4, 0, none⟩ = some (.int .i64 m.1.1) ∧ W.cell? ⟨b4, 1, none⟩ = some (.slice m.2.1.1 m.1.2.length m.2.1.2) ∧ W.cell? ⟨b4, 2, none⟩ = some (.slice m.2.2.1 m.1.2.length m.2.2.2)) (hkey : ∀ W, Touch (fun b => b = mb) w9 W → Calls Tryd.prog 33 #[mval m] W fun r w' => r = .returned (kv14 m.1) ∧ Below W.heap.size W w') (hkl : (keyT m.1).length ≤ maxLen) (hnew : m.1 ∉ FF.map Prod.fst) (hFl : FF.length ≤ 1000000) (hs : St ops mpD (mpF w9 lb mb b4 m FF) (mpJ w9 lb mb b4 m FF) 8 a0 l a w) (hi : ops[3]? = some { dst := some 35, op := Op.load 55 (Operand.tmp 34), type := ty, pos := pos, after := after, guard := none }) (nl : l 3 = false) (q2 : l 2 = true) : wpOp Tryd.prog ops Q 3 (Did mpD (mpF w9 lb mb b4 m FF) (mpJ w9 lb mb b4 m FF) 8 l 3 a) a w := by
  have e34 : mpF w9 lb mb b4 m FF l 2 w (a.eval (.tmp 34)) := hs.get (by decide) q2 rfl
  have f34 : a.eval (.tmp 34) = .pointer (some ⟨lb, 2, none⟩) := e34
  obtain ⟨h1, h2, h3, h4⟩ := hm w hs.j.1
  have hK := did' (by decide) (mp_mild w9 lb mb b4 m FF) hs (v := .map (some mb)) (d := 35) (i := 3) rfl (Below.refl _ w) rfl
  refine wpOp_go hi rfl ?_
  unfold Oper.wp
  have KK := Lib.hid hK
  clear hK hi e34 hs
  generalize a.eval = ρ at *
  go_simp
  exact KK.out
set_option linter.unusedVariables false in
theorem mp_s4 (w9 : World) (lb mb b4 : Nat) (m : MV) (FF : List MV) {ops : Array Oper} {Q : Exit → Act → World → Prop} {a0 a : Act} {w : World} {l : Nat → Bool} {ty : TypeId} {pos : String} {after : Array Edge} (e_0 : a0.eval (.tmp 0) = .pointer (some ⟨lb, 0, none⟩)) (e_4 : a0.eval (.tmp 4) = .pointer (some ⟨b4, 0, none⟩)) (hm : ∀ W, Touch (fun b => b = mb) w9 W → W.cell? ⟨lb, 2, none⟩ = some (.map (some mb)) ∧ W.cell? ⟨b4, 0, none⟩ = some (.int .i64 m.1.1) ∧ W.cell? ⟨b4, 1, none⟩ = some (.slice m.2.1.1 m.1.2.length m.2.1.2) ∧ W.cell? ⟨b4, 2, none⟩ = some (.slice m.2.2.1 m.1.2.length m.2.2.2)) (hkey : ∀ W, Touch (fun b => b = mb) w9 W → Calls Tryd.prog 33 #[mval m] W fun r w' => r = .returned (kv14 m.1) ∧ Below W.heap.size W w') (hkl : (keyT m.1).length ≤ maxLen) (hnew : m.1 ∉ FF.map Prod.fst) (hFl : FF.length ≤ 1000000) (hs : St ops mpD (mpF w9 lb mb b4 m FF) (mpJ w9 lb mb b4 m FF) 8 a0 l a w) (hi : ops[4]? = some { dst := some 36, op := Op.load 59 (Operand.tmp 4), type := ty, pos := pos, after := after, guard := none }) (nl : l 4 = false)  : wpOp Tryd.prog ops Q 4 (Did mpD (mpF w9 lb mb b4 m FF) (mpJ w9 lb mb b4 m FF) 8 l 4 a) a w := by
  have e4 : a.eval (.tmp 4) = .pointer (some ⟨b4, 0, none⟩) := (hs.kept 4 (by decide)).trans (e_4)
  have f4 : a.eval (.tmp 4) = .pointer (some ⟨b4, 0, none⟩) := e4
  obtain ⟨h1, h2, h3, h4⟩ := hm w hs.j.1
  have hK := did' (by decide) (mp_mild w9 lb mb b4 m FF) hs (v := mval m) (d := 36) (i := 4) rfl (Below.refl _ w) rfl
  refine wpOp_go hi rfl ?_
  unfold Oper.wp
  have KK := Lib.hid hK
  clear hK hi e4 hs
  generalize a.eval = ρ at *
  go_simp
  exact KK.out
set_option linter.unusedVariables false in
theorem mp_s5 (w9 : World) (lb mb b4 : Nat) (m : MV) (FF : List MV) {ops : Array Oper} {Q : Exit → Act → World → Prop} {a0 a : Act} {w : World} {l : Nat → Bool} {ty : TypeId} {pos : String} {after : Array Edge} (e_0 : a0.eval (.tmp 0) = .pointer (some ⟨lb, 0, none⟩)) (e_4 : a0.eval (.tmp 4) = .pointer (some ⟨b4, 0, none⟩)) (hm : ∀ W, Touch (fun b => b = mb) w9 W → W.cell? ⟨lb, 2, none⟩ = some (.map (some mb)) ∧ W.cell? ⟨b4, 0, none⟩ = some (.int .i64 m.1.1) ∧ W.cell? ⟨b4, 1, none⟩ = some (.slice m.2.1.1 m.1.2.length m.2.1.2) ∧ W.cell? ⟨b4, 2, none⟩ = some (.slice m.2.2.1 m.1.2.length m.2.2.2)) (hkey : ∀ W, Touch (fun b => b = mb) w9 W → Calls Tryd.prog 33 #[mval m] W fun r w' => r = .returned (kv14 m.1) ∧ Below W.heap.size W w') (hkl : (keyT m.1).length ≤ maxLen) (hnew : m.1 ∉ FF.map Prod.fst) (hFl : FF.length ≤ 1000000) (hs : St ops mpD (mpF w9 lb mb b4 m FF) (mpJ w9 lb mb b4 m FF) 8 a0 l a w) (hi : ops[5]? = some { dst := some 37, op := Op.call { callee := Callee.value (Operand.func 33), args := #[Operand.tmp 36], argTypes := #[59] }, type := ty, pos := pos, after := after, guard := none }) (nl : l 5 = false) (q4 : l 4 = true) : wpOp Tryd.prog ops Q 5 (Did mpD (mpF w9 lb mb b4 m FF) (mpJ w9 lb mb b4 m FF) 8 l 5 a) a w := by
  have e36 : mpF w9 lb mb b4 m FF l 4 w (a.eval (.tmp 36)) := hs.get (by decide) q4 rfl
  have f36 : a.eval (.tmp 36) = mval m := e36
  refine wpOp_callW (vs := #[mval m]) hi rfl (enters_of Tryd.func33 (by kernel_rfl) rfl) (by simp [f36]) ?_
  refine (hkey w hs.j.1).mono ?_
  rintro e w' ⟨rfl, hb⟩
  exact ⟨_, rfl, did' (by decide) (mp_mild w9 lb mb b4 m FF) hs (d := 37) (i := 5) rfl hb rfl⟩
set_option linter.unusedVariables false in
theorem mp_s6 (w9 : World) (lb mb b4 : Nat) (m : MV) (FF : List MV) {ops : Array Oper} {Q : Exit → Act → World → Prop} {a0 a : Act} {w : World} {l : Nat → Bool} {ty : TypeId} {pos : String} {after : Array Edge} (e_0 : a0.eval (.tmp 0) = .pointer (some ⟨lb, 0, none⟩)) (e_4 : a0.eval (.tmp 4) = .pointer (some ⟨b4, 0, none⟩)) (hm : ∀ W, Touch (fun b => b = mb) w9 W → W.cell? ⟨lb, 2, none⟩ = some (.map (some mb)) ∧ W.cell? ⟨b4, 0, none⟩ = some (.int .i64 m.1.1) ∧ W.cell? ⟨b4, 1, none⟩ = some (.slice m.2.1.1 m.1.2.length m.2.1.2) ∧ W.cell? ⟨b4, 2, none⟩ = some (.slice m.2.2.1 m.1.2.length m.2.2.2)) (hkey : ∀ W, Touch (fun b => b = mb) w9 W → Calls Tryd.prog 33 #[mval m] W fun r w' => r = .returned (kv14 m.1) ∧ Below W.heap.size W w') (hkl : (keyT m.1).length ≤ maxLen) (hnew : m.1 ∉ FF.map Prod.fst) (hFl : FF.length ≤ 1000000) (hs : St ops mpD (mpF w9 lb mb b4 m FF) (mpJ w9 lb mb b4 m FF) 8 a0 l a w) (hi : ops[6]? = some { dst := some 38, op := Op.load 59 (Operand.tmp 4), type := ty, pos := pos, after := after, guard := none }) (nl : l 6 = false)  : wpOp Tryd.prog ops Q 6 (Did mpD (mpF w9 lb mb b4 m FF) (mpJ w9 lb mb b4 m FF) 8 l 6 a) a w := by
  have e4 : a.eval (.tmp 4) = .pointer (some ⟨b4, 0, none⟩) := (hs.kept 4 (by decide)).trans (e_4)
  have f4 : a.eval (.tmp 4) = .pointer (some ⟨b4, 0, none⟩) := e4
  obtain ⟨h1, h2, h3, h4⟩ := hm w hs.j.1
  have hK := did' (by decide) (mp_mild w9 lb mb b4 m FF) hs (v := mval m) (d := 38) (i := 6) rfl (Below.refl _ w) rfl
  refine wpOp_go hi rfl ?_
  unfold Oper.wp
  have KK := Lib.hid hK
  clear hK hi e4 hs
  generalize a.eval = ρ at *
  go_simp
  exact KK.out
set_option linter.unusedVariables false in
theorem mp_s7 (w9 : World) (lb mb b4 : Nat) (m : MV) (FF : List MV) {ops : Array Oper} {Q : Exit → Act → World → Prop} {a0 a : Act} {w : World} {l : Nat → Bool} {ty : TypeId} {pos : String} {after : Array Edge} (e_0 : a0.eval (.tmp 0) = .pointer (some ⟨lb, 0, none⟩)) (e_4 : a0.eval (.tmp 4) = .pointer (some ⟨b4, 0, none⟩)) (hm : ∀ W, Touch (fun b => b = mb) w9 W → W.cell? ⟨lb, 2, none⟩ = some (.map (some mb)) ∧ W.cell? ⟨b4, 0, none⟩ = some (.int .i64 m.1.1) ∧ W.cell? ⟨b4, 1, none⟩ = some (.slice m.2.1.1 m.1.2.length m.2.1.2) ∧ W.cell? ⟨b4, 2, none⟩ = some (.slice m.2.2.1 m.1.2.length m.2.2.2)) (hkey : ∀ W, Touch (fun b => b = mb) w9 W → Calls Tryd.prog 33 #[mval m] W fun r w' => r = .returned (kv14 m.1) ∧ Below W.heap.size W w') (hkl : (keyT m.1).length ≤ maxLen) (hnew : m.1 ∉ FF.map Prod.fst) (hFl : FF.length ≤ 1000000) (hs : St ops mpD (mpF w9 lb mb b4 m FF) (mpJ w9 lb mb b4 m FF) 8 a0 l a w) (hi : ops[7]? = some { dst := none, op := Op.mapUpdate 55 (Operand.tmp 35) (Operand.tmp 37) (Operand.tmp 38), type := ty, pos := pos, after := after, guard := none }) (nl : l 7 = false) (q0 : l 0 = true) (q1 : l 1 = true) (q2 : l 2 = true) (q3 : l 3 = true) (q4 : l 4 = true) (q5 : l 5 = true) (q6 : l 6 = true) : wpOp Tryd.prog ops Q 7 (Did mpD (mpF w9 lb mb b4 m FF) (mpJ w9 lb mb b4 m FF) 8 l 7 a) a w := by
  have e35 : mpF w9 lb mb b4 m FF l 3 w (a.eval (.tmp 35)) := hs.get (by decide) q3 rfl
  have e37 : mpF w9 lb mb b4 m FF l 5 w (a.eval (.tmp 37)) := hs.get (by decide) q5 rfl
  have e38 : mpF w9 lb mb b4 m FF l 6 w (a.eval (.tmp 38)) := hs.get (by decide) q6 rfl
  have f35 : a.eval (.tmp 35) = .map (some mb) := e35
  have f37 : a.eval (.tmp 37) = kv14 m.1 := e37
  have f38 : a.eval (.tmp 38) = mval m := e38
  obtain ⟨w', hrun, r1, r2⟩ := (hs.j.2.1 nl).put hkl hnew hFl
  have hK := didN (fun l l' j w w' v h => mp_const w9 lb mb b4 m FF l l' j w w' v h) hs (v := undef) (w' := w') (i := 7) rfl ⟨hs.j.1.grown r2 (fun q e => Or.inl (Option.some.inj e).symm), fun h => by simp [setL] at h, fun _ => r1⟩ trivial
  refine wpOp_go hi rfl ?_
  unfold Oper.wp
  have KK := Lib.hid hK
  clear hK hi hs e35 e37 e38
  generalize a.eval = ρ at *
  simp [execOp, f35, f37, f38, hrun, Result.andThen]
  exact KK.out
set_option maxHeartbeats 4000000 in
theorem fire_any (lb mb g o n wc at_ sl sc : Nat) (so : Option Addr) (ws FF : List MV) (m : MV) (cur : Array Value) (w : World) (hlb : w.heap[lb]? = some (.cells #[.slice so sl sc, .slice (some ⟨g, o, none⟩) n wc, .map (some mb)] 57 (0, 0))) (hg : w.heap[g]? = some (.cells cur 59 (0, 0))) (hmb : PMap w mb FF) (hn : ws.length = n) (hat : at_ < n) (hnc : n ≤ wc)
    (hcell : ∀ (j : Nat) (u : Value), (mcells ws)[j]? = some u → cur[o + j]? = some u) (hm : ws[at_]? = some m) (hids : SlS (fun b => b ≠ g ∧ b ≠ lb ∧ b ≠ mb) w m.2.1.1 (icells m.1.2)) (hfit : Fit14 m.1) (hnew : m.1 ∉ FF.map Prod.fst) (hFl : FF.length ≤ 1000000) (ht : Tab14 w) :
    Calls Tryd.prog 25 #[.pointer (some ⟨lb, 0, none⟩), .int .i64 (at_ : Nat)] w fun e w' => e = .returned (.tuple #[]) ∧ Touch (fun b => b = lb ∨ b = g ∨ b = mb) w w' ∧ ∃ vA : Option Addr, (wc = 1 ∨ vA = some ⟨g, o + 3, none⟩) ∧ vA ≠ none ∧ w'.heap[lb]? = some (.cells #[.slice so sl sc, .slice vA (n - 1) (wc - 1), .map (some mb)] 57 (0, 0)) ∧ w'.heap[g]? = some (.cells (moved14 cur o (mcells (ws.take at_))) 59 (0, 0)) ∧ PMap w' mb (FF ++ [m]) := by
  have mixed : Tryd.prog.follows .mixedOrders = true := by kernel_rfl
  obtain ⟨vA, hv⟩ : ∃ vA : Option Addr, (wc = 1 ∧ vA = some ⟨g, o, none⟩) ∨ (wc ≠ 1 ∧ vA = some ⟨g, o + 3, none⟩) := by
    by_cases h : wc = 1
    · exact ⟨_, Or.inl ⟨h, rfl⟩⟩
    · exact ⟨_, Or.inr ⟨h, rfl⟩⟩
  have hgl : g ≠ lb := fun e => by
    rw [e, hlb] at hg
    injection hg with hg
    injection hg with _ h5 _
    exact absurd h5 (by decide)
  have hml : mb ≠ lb := fun e => by
    obtain ⟨_, D, ⟨es, clock, h1, _⟩, _⟩ := hmb
    rw [e, hlb] at h1
    cases h1
  have hmg : mb ≠ g := fun e => by
    obtain ⟨_, D, ⟨es, clock, h1, _⟩, _⟩ := hmb
    rw [e, hg] at h1
    cases h1
  have hatw : at_ < ws.length := by omega
  have hmem : ws[at_] = m := (List.getElem?_eq_some_iff.1 hm).2
  obtain ⟨x0, x1, x2⟩ := mcells_at ws at_ hatw
  rw [hmem] at x0 x1 x2
  have hcl := (Array.getElem?_eq_some_iff.1 (hcell _ _ x2)).1
  have hsz : o + n * 3 ≤ cur.size := by
    have hl := mcells_length ws
    have h1 := hcell (ws.length * 3 - 1) _ (List.getElem?_eq_getElem (by omega))
    have := (Array.getElem?_eq_some_iff.1 h1).1
    omega
  have HCp : Hid (∀ W ty, W.heap[g]? = some (.cells cur 59 (0, 0)) → (Builtin.copy_ #[54, 54] ty #[.slice vA (n - 1) (wc - 1), .slice (some ⟨g, o, none⟩) at_ wc]).run Tryd.prog W = .ok (.int .i64 (at_ : Nat)) (W.setRow g (moved14 cur o (mcells (ws.take at_))))) := fun W ty hW => by
    have hck : (mcells (ws.take at_)).length = at_ * 3 := by rw [mcells_length, List.length_take]; omega
    refine run_copy14 ty W vA g o n wc at_ cur _ hW (fun h0 => ?_) hat hck (fun j u hu => ?_) (by omega) (mcells_one _)
    · rcases hv with ⟨h1, h2⟩ | ⟨h1, h2⟩
      · omega
      · exact h2
    · refine hcell j u ?_
      rw [mcells_take] at hu
      have hlt := (List.getElem?_eq_some_iff.1 hu).1
      rw [List.length_take] at hlt
      rwa [List.getElem?_take_of_lt (by omega)] at hu
  have HTb : Hid (∀ (T : Nat → Prop) W, Touch T w W → (∀ b, T b → b = lb ∨ b = g ∨ b = mb) → Tab14 W) := fun T W hW hT => ht.touch hW (fun b hb cs ty fz hq => by
    rcases hT b hb with rfl | rfl | rfl
    · rw [hlb] at hq
      injection hq with hq
      injection hq with h5 _ _
      subst h5
      exact ⟨0, _, rfl, fun z e => by cases e⟩
    · rw [hg] at hq
      injection hq with hq
      injection hq with h5 _ _
      subst h5
      exact ⟨o + at_ * 3, _, hcell _ _ x0, fun z e => by cases e⟩
    · obtain ⟨_, D, ⟨es, clock, h1, _⟩, _⟩ := hmb
      rw [h1] at hq
      cases hq)
  have HLB := Lib.hid hlb
  have HGR := Lib.hid hg
  have HMB := Lib.hid hmb
  have HIds := Lib.hid hids
  have HFit := Lib.hid hfit
  have HNew := Lib.hid hnew
  have HFl := Lib.hid hFl
  have g0 : w.cell? ⟨g, o + at_ * 3, none⟩ = some (.int .i64 m.1.1) := (Lib.cell_of_heap hg _).trans (hcell _ _ x0)
  have g1 : w.cell? ⟨g, o + at_ * 3 + 1, none⟩ = some (.slice m.2.1.1 m.1.2.length m.2.1.2) := by rw [Nat.add_assoc]; exact (Lib.cell_of_heap hg _).trans (hcell _ _ x1)
  have g2 : w.cell? ⟨g, o + at_ * 3 + 2, none⟩ = some (.slice m.2.2.1 m.1.2.length m.2.2.2) := by rw [Nat.add_assoc]; exact (Lib.cell_of_heap hg _).trans (hcell _ _ x2)
  have c1 : w.cell? ⟨lb, 1, none⟩ = some (.slice (some ⟨g, o, none⟩) n wc) := Lib.cell_of_heap hlb 1
  have i1 : (0 : Int) ≤ (at_ : Int) := by omega
  have i2 : (at_ : Int) < (n : Int) := by omega
  have i3 : ((at_ : Nat) : Int).toNat = at_ := by omega
  have HB0 : Hid (Below w.heap.size w (w.alloc (.cells #[.int .i64 m.1.1, .slice m.2.1.1 m.1.2.length m.2.1.2, .slice m.2.2.1 m.1.2.length m.2.2.2] 59))) := below_own _
  have HQ0 : Hid ((w.alloc (.cells #[.int .i64 m.1.1, .slice m.2.1.1 m.1.2.length m.2.1.2, .slice m.2.2.1 m.1.2.length m.2.2.2] 59)).heap[w.heap.size]? = some (.cells #[.int .i64 m.1.1, .slice m.2.1.1 m.1.2.length m.2.1.2, .slice m.2.2.1 m.1.2.length m.2.2.2] 59 (0, 0))) := heap_alloc_new w _
  clear hlb hg hmb hn hcell hm hids hfit hnew hFl ht x0 x1 x2 hcl hsz hmem hatw
  go_enter Tryd.func25, Tryd.ntmps25
  go_wp2_with fail
  generalize hW : (w.alloc (.cells #[.int .i64 m.1.1, .slice m.2.1.1 m.1.2.length m.2.1.2, .slice m.2.2.1 m.1.2.length m.2.2.2] 59)) = W0 at HB0 HQ0 ⊢
  clear hW
  have HL0 : Hid (W0.heap[lb]? = _) := (HB0.out.block _ (lt_of_heap HLB.out)).trans HLB.out
  have HG0 : Hid (W0.heap[g]? = _) := (HB0.out.block _ (lt_of_heap HGR.out)).trans HGR.out
  have hbx : w.heap.size < W0.heap.size := lt_of_heap HQ0.out
  generalize ha0 : ({ tmps := _, defers := _ } : Act) = a0
  have e_0 : a0.eval (.tmp 0) = .pointer (some ⟨lb, 0, none⟩) := by rw [← ha0]; rfl
  have e_1 : a0.eval (.tmp 1) = .int .i64 (at_ : Nat) := by rw [← ha0]; rfl
  have hsz : a0.tmps.size = 39 := by rw [← ha0]; rfl
  obtain ⟨cur2, hc2⟩ : ∃ cur2, cur2 = moved14 cur o (mcells (ws.take at_)) := ⟨_, rfl⟩
  rw [← hc2] at HCp
  have HC2 := Lib.hid hc2
  clear hc2
  have hcp := HCp.out
  have hm : ∀ W, Touch (fun b => b = g) W0 W → W.cell? ⟨lb, 1, none⟩ = some (.slice (some ⟨g, o, none⟩) n wc) := fun W hW => Lib.cell_of_heap ((hW.block lb (lt_of_heap HL0.out) (fun e => hgl e.symm)).trans HL0.out) 1
  refine wp_region_st cpD (cpF W0 lb g o n wc at_ vA cur cur2) (cpJ W0 lb g o n wc at_ vA cur cur2) 12 mixed (by kernel_rfl) rfl (by kernel_rfl) (by rw [hsz]; kernel_rfl) ⟨Touch.of_below (below_drew (Below.refl _ _)) _, fun _ => HG0.out, fun e => by cases e⟩
      (fun ll aa ww i hi hs nl hw => by
        have h : i = 0 ∨ i = 1 ∨ i = 2 ∨ i = 3 ∨ i = 4 ∨ i = 5 ∨ i = 6 ∨ i = 7 ∨ i = 8 ∨ i = 9 ∨ i = 10 ∨ i = 11 := by omega
        rcases h with rfl | rfl | rfl | rfl | rfl | rfl | rfl | rfl | rfl | rfl | rfl | rfl
        · exact cp_s0 _ lb g o n wc at_ vA cur cur2 e_0 e_1 hv hat hnc hm hcp hs rfl nl 
        · exact cp_s1 _ lb g o n wc at_ vA cur cur2 e_0 e_1 hv hat hnc hm hcp hs rfl nl (hw 0 (by kernel_rfl))
        · exact cp_s2 _ lb g o n wc at_ vA cur cur2 e_0 e_1 hv hat hnc hm hcp hs rfl nl (hw 1 (by kernel_rfl))
        · exact cp_s3 _ lb g o n wc at_ vA cur cur2 e_0 e_1 hv hat hnc hm hcp hs rfl nl (hw 2 (by kernel_rfl))
        · exact cp_s4 _ lb g o n wc at_ vA cur cur2 e_0 e_1 hv hat hnc hm hcp hs rfl nl (hw 3 (by kernel_rfl))
        · exact cp_s5 _ lb g o n wc at_ vA cur cur2 e_0 e_1 hv hat hnc hm hcp hs rfl nl 
        · exact cp_s6 _ lb g o n wc at_ vA cur cur2 e_0 e_1 hv hat hnc hm hcp hs rfl nl (hw 5 (by kernel_rfl))
        · exact cp_s7 _ lb g o n wc at_ vA cur cur2 e_0 e_1 hv hat hnc hm hcp hs rfl nl (hw 6 (by kernel_rfl))
        · exact cp_s8 _ lb g o n wc at_ vA cur cur2 e_0 e_1 hv hat hnc hm hcp hs rfl nl (hw 7 (by kernel_rfl))
        · exact cp_s9 _ lb g o n wc at_ vA cur cur2 e_0 e_1 hv hat hnc hm hcp hs rfl nl 
        · exact cp_s10 _ lb g o n wc at_ vA cur cur2 e_0 e_1 hv hat hnc hm hcp hs rfl nl (hw 8 (by kernel_rfl)) (hw 9 (by kernel_rfl))
        · exact cp_s11 _ lb g o n wc at_ vA cur cur2 e_0 e_1 hv hat hnc hm hcp hs rfl nl (hw 4 (by kernel_rfl)) (hw 10 (by kernel_rfl)))
    ?_
  intro ll aa W1 hall hst
  have HT1 := Lib.hid hst.j.1
  have HG1 := Lib.hid (hst.j.2.2 (hall 11 (by decide)))
  have hfr := frame_end [(12, .pointer (some ⟨lb, 0, none⟩)), (13, .pointer (some ⟨lb, 0, none⟩)), (14, .pointer (some ⟨lb, 1, none⟩)), (15, .slice (some ⟨g, o, none⟩) n wc), (16, .slice vA (n - 1) (wc - 1)), (17, .pointer (some ⟨lb, 0, none⟩)), (18, .pointer (some ⟨lb, 0, none⟩)), (19, .pointer (some ⟨lb, 1, none⟩)), (20, .slice (some ⟨g, o, none⟩) n wc), (21, .int .i64 (at_ : Nat)), (22, .slice (some ⟨g, o, none⟩) at_ wc), (23, .int .i64 (at_ : Nat))] aa a0 hst.size hst.defs (by
    intro p hp
    simp only [List.mem_cons, List.not_mem_nil, or_false] at hp
    rcases hp with rfl | rfl | rfl | rfl | rfl | rfl | rfl | rfl | rfl | rfl | rfl | rfl
    · exact hst.get (i := 0) (by decide) (hall 0 (by decide)) rfl
    · exact hst.get (i := 1) (by decide) (hall 1 (by decide)) rfl
    · exact hst.get (i := 2) (by decide) (hall 2 (by decide)) rfl
    · exact hst.get (i := 3) (by decide) (hall 3 (by decide)) rfl
    · exact hst.get (i := 4) (by decide) (hall 4 (by decide)) rfl
    · exact hst.get (i := 5) (by decide) (hall 5 (by decide)) rfl
    · exact hst.get (i := 6) (by decide) (hall 6 (by decide)) rfl
    · exact hst.get (i := 7) (by decide) (hall 7 (by decide)) rfl
    · exact hst.get (i := 8) (by decide) (hall 8 (by decide)) rfl
    · exact hst.get (i := 9) (by decide) (hall 9 (by decide)) rfl
    · exact hst.get (i := 10) (by decide) (hall 10 (by decide)) rfl
    · exact hst.get (i := 11) (by decide) (hall 11 (by decide)) rfl
    ) (fun t ht => hst.kept t (fun i hi => by
      have h : i = 0 ∨ i = 1 ∨ i = 2 ∨ i = 3 ∨ i = 4 ∨ i = 5 ∨ i = 6 ∨ i = 7 ∨ i = 8 ∨ i = 9 ∨ i = 10 ∨ i = 11 := by omega
      rcases h with rfl | rfl | rfl | rfl | rfl | rfl | rfl | rfl | rfl | rfl | rfl | rfl
      · exact fun e => ht (by have e1 := Option.some.inj e; subst e1; simp)
      · exact fun e => ht (by have e1 := Option.some.inj e; subst e1; simp)
      · exact fun e => ht (by have e1 := Option.some.inj e; subst e1; simp)
      · exact fun e => ht (by have e1 := Option.some.inj e; subst e1; simp)
      · exact fun e => ht (by have e1 := Option.some.inj e; subst e1; simp)
      · exact fun e => ht (by have e1 := Option.some.inj e; subst e1; simp)
      · exact fun e => ht (by have e1 := Option.some.inj e; subst e1; simp)
      · exact fun e => ht (by have e1 := Option.some.inj e; subst e1; simp)
      · exact fun e => ht (by have e1 := Option.some.inj e; subst e1; simp)
      · exact fun e => ht (by have e1 := Option.some.inj e; subst e1; simp)
      · exact fun e => ht (by have e1 := Option.some.inj e; subst e1; simp)
      · exact fun e => ht (by have e1 := Option.some.inj e; subst e1; simp)))
  rw [hfr, ← ha0]
  clear hfr
  simp only [List.foldl_cons, List.foldl_nil]
  go_simp

  clear hst hall hm hcp HCp e_0 e_1 hsz ha0 g0 g1 g2
  have HL1 : Hid (W1.heap[lb]? = _) := (HT1.out.block lb (lt_of_heap HL0.out) (fun e => hgl e.symm)).trans HL0.out
  have HQ1 : Hid (W1.heap[w.heap.size]? = _) := (HT1.out.block _ hbx (fun e => by have := lt_of_heap HGR.out; omega)).trans HQ0.out
  have c1 : W1.cell? ⟨lb, 1, none⟩ = some (.slice (some ⟨g, o, none⟩) n wc) := Lib.cell_of_heap HL1.out 1
  have f1 : W1.frozen? ⟨lb, 1, none⟩ = false := Lib.frozen_of_heap HL1.out 1
  have j1 : (1 : Int) ≤ (n : Int) := by omega
  have j2 : 1 ≤ n := by omega
  have HV : Hid ((wc = 1 ∨ vA = some ⟨g, o + 3, none⟩) ∧ vA ≠ none) := by
    rcases hv with ⟨h1, h2⟩ | ⟨h1, h2⟩
    · exact ⟨Or.inl h1, by rw [h2]; simp⟩
    · exact ⟨Or.inr h2, by rw [h2]; simp⟩
  have HSet : Hid (∀ v, (W1.setCell ⟨lb, 1, none⟩ v).heap[lb]? = some (.cells #[.slice so sl sc, v, .map (some mb)] 57 (0, 0)) ∧ (W1.setCell ⟨lb, 1, none⟩ v).heap[g]? = some (.cells cur2 59 (0, 0)) ∧ (W1.setCell ⟨lb, 1, none⟩ v).heap[w.heap.size]? = some (.cells #[.int .i64 m.1.1, .slice m.2.1.1 m.1.2.length m.2.1.2, .slice m.2.2.1 m.1.2.length m.2.2.2] 59 (0, 0)) ∧ PMap (W1.setCell ⟨lb, 1, none⟩ v) mb FF ∧ Touch (fun b => b = lb ∨ b = g ∨ b = mb) w (W1.setCell ⟨lb, 1, none⟩ v)) := fun v => by
    have hgr := Lib.grownBy_setCell W1 lb 1 v
    have hlbw := lt_of_heap HLB.out
    have ht : Touch (fun b => b = lb ∨ b = g ∨ b = mb) w W1 := ⟨HT1.out.os.trans HB0.out.os, HT1.out.tape.trans HB0.out.tape, HT1.out.output.trans HB0.out.output, Nat.le_trans HB0.out.size HT1.out.size, fun j hj hs => (HT1.out.block j (Nat.lt_of_lt_of_le hj HB0.out.size) (fun e => hs (Or.inr (Or.inl e)))).trans (HB0.out.block j hj)⟩
    refine ⟨Lib.heap_setCell_same (i := 1) HL1.out v, (hgr.block _ (lt_of_heap HG1.out) (fun e => hgl (Option.some.inj e))).trans HG1.out, (hgr.block _ (lt_of_heap HQ1.out) (fun e => by have := Option.some.inj e; omega)).trans HQ1.out, ?_, ht.grown hgr (fun q e => Or.inl (Or.inl (Option.some.inj e).symm))⟩
    have h0 : PMap W1 mb FF := HMB.out.keep ((HT1.out.block mb (Nat.lt_of_lt_of_le HMB.out.lt HB0.out.size) hmg).trans (HB0.out.block mb HMB.out.lt))
    exact h0.keep (hgr.block _ h0.lt (fun e => hml (Option.some.inj e)))
  have HLtw : Hid (lb < w.heap.size ∧ mb < w.heap.size) := ⟨lt_of_heap HLB.out, HMB.out.lt⟩
  clear HL1 HQ1 HG1 HT1 HL0 HG0 HLB HGR HMB HB0 HQ0
  rcases hv with ⟨rfl, rfl⟩ | ⟨hw1, rfl⟩
  · obtain rfl : n = 1 := by omega
    go_wp2_with fail
    obtain ⟨W2, hW2⟩ : ∃ W2, W2 = W1.setCell ⟨lb, 1, none⟩ (.slice (some ⟨g, o, none⟩) 0 0) := ⟨_, rfl⟩
    rw [← hW2]
    obtain ⟨L2, G2, Q2, M2, T2⟩ := HSet.out (.slice (some ⟨g, o, none⟩) 0 0)
    rw [← hW2] at L2 G2 Q2 M2 T2
    have HL2 := Lib.hid L2
    have HG2 := Lib.hid G2
    have HQ2 := Lib.hid Q2
    have HM2 := Lib.hid M2
    have HT2 := Lib.hid T2
    clear hW2 HSet L2 G2 Q2 M2 T2 c1 f1
    generalize ha0 : ({ tmps := _, defers := _ } : Act) = a0
    have e_0 : a0.eval (.tmp 0) = .pointer (some ⟨lb, 0, none⟩) := by rw [← ha0]; rfl
    have e_4 : a0.eval (.tmp 4) = .pointer (some ⟨w.heap.size, 0, none⟩) := by rw [← ha0]; rfl
    have hsz : a0.tmps.size = 39 := by rw [← ha0]; rfl
    have hTr : ∀ W, Touch (fun b => b = mb) W2 W → Touch (fun b => b = lb ∨ b = g ∨ b = mb) w W := fun W hW => ⟨hW.os.trans HT2.out.os, hW.tape.trans HT2.out.tape, hW.output.trans HT2.out.output, Nat.le_trans HT2.out.size hW.size, fun j hj hs => (hW.block j (Nat.lt_of_lt_of_le hj HT2.out.size) (fun e => hs (Or.inr (Or.inr e)))).trans (HT2.out.block j hj hs)⟩
    have hm : ∀ W, Touch (fun b => b = mb) W2 W → W.cell? ⟨lb, 2, none⟩ = some (.map (some mb)) ∧ W.cell? ⟨w.heap.size, 0, none⟩ = some (.int .i64 m.1.1) ∧ W.cell? ⟨w.heap.size, 1, none⟩ = some (.slice m.2.1.1 m.1.2.length m.2.1.2) ∧ W.cell? ⟨w.heap.size, 2, none⟩ = some (.slice m.2.2.1 m.1.2.length m.2.2.2) := fun W hW => by
      have h1 := (hW.block lb (lt_of_heap HL2.out) (fun e => hml e.symm)).trans HL2.out
      have h2 := (hW.block w.heap.size (lt_of_heap HQ2.out) (fun e => by have := HLtw.out.2; omega)).trans HQ2.out
      exact ⟨Lib.cell_of_heap h1 2, Lib.cell_of_heap h2 0, Lib.cell_of_heap h2 1, Lib.cell_of_heap h2 2⟩
    have hkey : ∀ W, Touch (fun b => b = mb) W2 W → Calls Tryd.prog 33 #[mval m] W fun r w' => r = .returned (kv14 m.1) ∧ Below W.heap.size W w' := fun W hW =>
      key_any m.1 m.2.1.1 m.2.2.1 m.2.1.2 m.2.2.2 W ((HIds.out.touch (hTr W hW) (fun b hb he => by
        rcases he with e | e | e
        · exact hb.2.1 e
        · exact hb.1 e
        · exact hb.2.2 e)).slG) HFit.out.len HFit.out.rule HFit.out.ids (HTb.out _ W (hTr W hW) (fun _ h => h))
    have hkl := HFit.out.key
    have hnew := HNew.out
    have hFl := HFl.out
    refine wp_region_st mpD (mpF W2 lb mb w.heap.size m FF) (mpJ W2 lb mb w.heap.size m FF) 8 mixed (by kernel_rfl) rfl (by kernel_rfl) (by rw [hsz]; kernel_rfl) ⟨Touch.of_below (below_drew (Below.refl _ _)) _, fun _ => HM2.out.keep rfl, fun e => by cases e⟩
        (fun ll aa ww i hi hs nl hw => by
          have h : i = 0 ∨ i = 1 ∨ i = 2 ∨ i = 3 ∨ i = 4 ∨ i = 5 ∨ i = 6 ∨ i = 7 := by omega
          rcases h with rfl | rfl | rfl | rfl | rfl | rfl | rfl | rfl
          · exact mp_s0 _ lb mb w.heap.size m FF e_0 e_4 hm hkey hkl hnew hFl hs rfl nl 
          · exact mp_s1 _ lb mb w.heap.size m FF e_0 e_4 hm hkey hkl hnew hFl hs rfl nl (hw 0 (by kernel_rfl))
          · exact mp_s2 _ lb mb w.heap.size m FF e_0 e_4 hm hkey hkl hnew hFl hs rfl nl (hw 1 (by kernel_rfl))
          · exact mp_s3 _ lb mb w.heap.size m FF e_0 e_4 hm hkey hkl hnew hFl hs rfl nl (hw 2 (by kernel_rfl))
          · exact mp_s4 _ lb mb w.heap.size m FF e_0 e_4 hm hkey hkl hnew hFl hs rfl nl 
          · exact mp_s5 _ lb mb w.heap.size m FF e_0 e_4 hm hkey hkl hnew hFl hs rfl nl (hw 4 (by kernel_rfl))
          · exact mp_s6 _ lb mb w.heap.size m FF e_0 e_4 hm hkey hkl hnew hFl hs rfl nl 
          · exact mp_s7 _ lb mb w.heap.size m FF e_0 e_4 hm hkey hkl hnew hFl hs rfl nl (hw 0 (by kernel_rfl)) (hw 1 (by kernel_rfl)) (hw 2 (by kernel_rfl)) (hw 3 (by kernel_rfl)) (hw 4 (by kernel_rfl)) (hw 5 (by kernel_rfl)) (hw 6 (by kernel_rfl)))
      ?_
    intro l3 aa W3 hall hst
    have HT3 := Lib.hid (hTr W3 hst.j.1)
    have HM3 := Lib.hid (hst.j.2.2 (hall 7 (by decide)))
    have HL3 : Hid (W3.heap[lb]? = _) := (hst.j.1.block lb (lt_of_heap HL2.out) (fun e => hml e.symm)).trans HL2.out
    have HG3 : Hid (W3.heap[g]? = _) := (hst.j.1.block g (lt_of_heap HG2.out) (fun e => hmg e.symm)).trans HG2.out
    have hfr := frame_end [(32, .pointer (some ⟨lb, 0, none⟩)), (33, .pointer (some ⟨lb, 0, none⟩)), (34, .pointer (some ⟨lb, 2, none⟩)), (35, .map (some mb)), (36, mval m), (37, kv14 m.1), (38, mval m)] aa a0 hst.size hst.defs (by
      intro p hp
      simp only [List.mem_cons, List.not_mem_nil, or_false] at hp
      rcases hp with rfl | rfl | rfl | rfl | rfl | rfl | rfl
      · exact hst.get (i := 0) (by decide) (hall 0 (by decide)) rfl
      · exact hst.get (i := 1) (by decide) (hall 1 (by decide)) rfl
      · exact hst.get (i := 2) (by decide) (hall 2 (by decide)) rfl
      · exact hst.get (i := 3) (by decide) (hall 3 (by decide)) rfl
      · exact hst.get (i := 4) (by decide) (hall 4 (by decide)) rfl
      · exact hst.get (i := 5) (by decide) (hall 5 (by decide)) rfl
      · exact hst.get (i := 6) (by decide) (hall 6 (by decide)) rfl
      ) (fun t ht => hst.kept t (fun i hi => by
        have h : i = 0 ∨ i = 1 ∨ i = 2 ∨ i = 3 ∨ i = 4 ∨ i = 5 ∨ i = 6 ∨ i = 7 := by omega
        rcases h with rfl | rfl | rfl | rfl | rfl | rfl | rfl | rfl
        · exact fun e => ht (by have e1 := Option.some.inj e; subst e1; simp)
        · exact fun e => ht (by have e1 := Option.some.inj e; subst e1; simp)
        · exact fun e => ht (by have e1 := Option.some.inj e; subst e1; simp)
        · exact fun e => ht (by have e1 := Option.some.inj e; subst e1; simp)
        · exact fun e => ht (by have e1 := Option.some.inj e; subst e1; simp)
        · exact fun e => ht (by have e1 := Option.some.inj e; subst e1; simp)
        · exact fun e => ht (by have e1 := Option.some.inj e; subst e1; simp)
        · exact fun e => by cases e))
    rw [hfr, ← ha0]
    clear hfr
    simp only [List.foldl_cons, List.foldl_nil]
    go_simp

    clear hst hall hm hkey hkl hnew hFl e_0 e_4 hsz ha0
    go_wp2
    go_end0
    have hg3 := HG3.out
    rw [HC2.out] at hg3
    first
    | exact ⟨rfl, HT3.out, _, by simp, HL3.out, hg3, HM3.out⟩
    | exact ⟨rfl, HT3.out, _, Or.inr rfl, by simp, HL3.out, hg3, HM3.out⟩
  · go_wp2_with fail
    obtain ⟨W2, hW2⟩ : ∃ W2, W2 = W1.setCell ⟨lb, 1, none⟩ (.slice (some ⟨g, o + 3, none⟩) (n - 1) (wc - 1)) := ⟨_, rfl⟩
    rw [← hW2]
    obtain ⟨L2, G2, Q2, M2, T2⟩ := HSet.out (.slice (some ⟨g, o + 3, none⟩) (n - 1) (wc - 1))
    rw [← hW2] at L2 G2 Q2 M2 T2
    have HL2 := Lib.hid L2
    have HG2 := Lib.hid G2
    have HQ2 := Lib.hid Q2
    have HM2 := Lib.hid M2
    have HT2 := Lib.hid T2
    clear hW2 HSet L2 G2 Q2 M2 T2 c1 f1
    generalize ha0 : ({ tmps := _, defers := _ } : Act) = a0
    have e_0 : a0.eval (.tmp 0) = .pointer (some ⟨lb, 0, none⟩) := by rw [← ha0]; rfl
    have e_4 : a0.eval (.tmp 4) = .pointer (some ⟨w.heap.size, 0, none⟩) := by rw [← ha0]; rfl
    have hsz : a0.tmps.size = 39 := by rw [← ha0]; rfl
    have hTr : ∀ W, Touch (fun b => b = mb) W2 W → Touch (fun b => b = lb ∨ b = g ∨ b = mb) w W := fun W hW => ⟨hW.os.trans HT2.out.os, hW.tape.trans HT2.out.tape, hW.output.trans HT2.out.output, Nat.le_trans HT2.out.size hW.size, fun j hj hs => (hW.block j (Nat.lt_of_lt_of_le hj HT2.out.size) (fun e => hs (Or.inr (Or.inr e)))).trans (HT2.out.block j hj hs)⟩
    have hm : ∀ W, Touch (fun b => b = mb) W2 W → W.cell? ⟨lb, 2, none⟩ = some (.map (some mb)) ∧ W.cell? ⟨w.heap.size, 0, none⟩ = some (.int .i64 m.1.1) ∧ W.cell? ⟨w.heap.size, 1, none⟩ = some (.slice m.2.1.1 m.1.2.length m.2.1.2) ∧ W.cell? ⟨w.heap.size, 2, none⟩ = some (.slice m.2.2.1 m.1.2.length m.2.2.2) := fun W hW => by
      have h1 := (hW.block lb (lt_of_heap HL2.out) (fun e => hml e.symm)).trans HL2.out
      have h2 := (hW.block w.heap.size (lt_of_heap HQ2.out) (fun e => by have := HLtw.out.2; omega)).trans HQ2.out
      exact ⟨Lib.cell_of_heap h1 2, Lib.cell_of_heap h2 0, Lib.cell_of_heap h2 1, Lib.cell_of_heap h2 2⟩
    have hkey : ∀ W, Touch (fun b => b = mb) W2 W → Calls Tryd.prog 33 #[mval m] W fun r w' => r = .returned (kv14 m.1) ∧ Below W.heap.size W w' := fun W hW =>
      key_any m.1 m.2.1.1 m.2.2.1 m.2.1.2 m.2.2.2 W ((HIds.out.touch (hTr W hW) (fun b hb he => by
        rcases he with e | e | e
        · exact hb.2.1 e
        · exact hb.1 e
        · exact hb.2.2 e)).slG) HFit.out.len HFit.out.rule HFit.out.ids (HTb.out _ W (hTr W hW) (fun _ h => h))
    have hkl := HFit.out.key
    have hnew := HNew.out
    have hFl := HFl.out
    refine wp_region_st mpD (mpF W2 lb mb w.heap.size m FF) (mpJ W2 lb mb w.heap.size m FF) 8 mixed (by kernel_rfl) rfl (by kernel_rfl) (by rw [hsz]; kernel_rfl) ⟨Touch.of_below (below_drew (Below.refl _ _)) _, fun _ => HM2.out.keep rfl, fun e => by cases e⟩
        (fun ll aa ww i hi hs nl hw => by
          have h : i = 0 ∨ i = 1 ∨ i = 2 ∨ i = 3 ∨ i = 4 ∨ i = 5 ∨ i = 6 ∨ i = 7 := by omega
          rcases h with rfl | rfl | rfl | rfl | rfl | rfl | rfl | rfl
          · exact mp_s0 _ lb mb w.heap.size m FF e_0 e_4 hm hkey hkl hnew hFl hs rfl nl 
          · exact mp_s1 _ lb mb w.heap.size m FF e_0 e_4 hm hkey hkl hnew hFl hs rfl nl (hw 0 (by kernel_rfl))
          · exact mp_s2 _ lb mb w.heap.size m FF e_0 e_4 hm hkey hkl hnew hFl hs rfl nl (hw 1 (by kernel_rfl))
          · exact mp_s3 _ lb mb w.heap.size m FF e_0 e_4 hm hkey hkl hnew hFl hs rfl nl (hw 2 (by kernel_rfl))
          · exact mp_s4 _ lb mb w.heap.size m FF e_0 e_4 hm hkey hkl hnew hFl hs rfl nl 
          · exact mp_s5 _ lb mb w.heap.size m FF e_0 e_4 hm hkey hkl hnew hFl hs rfl nl (hw 4 (by kernel_rfl))
          · exact mp_s6 _ lb mb w.heap.size m FF e_0 e_4 hm hkey hkl hnew hFl hs rfl nl 
          · exact mp_s7 _ lb mb w.heap.size m FF e_0 e_4 hm hkey hkl hnew hFl hs rfl nl (hw 0 (by kernel_rfl)) (hw 1 (by kernel_rfl)) (hw 2 (by kernel_rfl)) (hw 3 (by kernel_rfl)) (hw 4 (by kernel_rfl)) (hw 5 (by kernel_rfl)) (hw 6 (by kernel_rfl)))
      ?_
    intro l3 aa W3 hall hst
    have HT3 := Lib.hid (hTr W3 hst.j.1)
    have HM3 := Lib.hid (hst.j.2.2 (hall 7 (by decide)))
    have HL3 : Hid (W3.heap[lb]? = _) := (hst.j.1.block lb (lt_of_heap HL2.out) (fun e => hml e.symm)).trans HL2.out
    have HG3 : Hid (W3.heap[g]? = _) := (hst.j.1.block g (lt_of_heap HG2.out) (fun e => hmg e.symm)).trans HG2.out
    have hfr := frame_end [(32, .pointer (some ⟨lb, 0, none⟩)), (33, .pointer (some ⟨lb, 0, none⟩)), (34, .pointer (some ⟨lb, 2, none⟩)), (35, .map (some mb)), (36, mval m), (37, kv14 m.1), (38, mval m)] aa a0 hst.size hst.defs (by
      intro p hp
      simp only [List.mem_cons, List.not_mem_nil, or_false] at hp
      rcases hp with rfl | rfl | rfl | rfl | rfl | rfl | rfl
      · exact hst.get (i := 0) (by decide) (hall 0 (by decide)) rfl
      · exact hst.get (i := 1) (by decide) (hall 1 (by decide)) rfl
      · exact hst.get (i := 2) (by decide) (hall 2 (by decide)) rfl
      · exact hst.get (i := 3) (by decide) (hall 3 (by decide)) rfl
      · exact hst.get (i := 4) (by decide) (hall 4 (by decide)) rfl
      · exact hst.get (i := 5) (by decide) (hall 5 (by decide)) rfl
      · exact hst.get (i := 6) (by decide) (hall 6 (by decide)) rfl
      ) (fun t ht => hst.kept t (fun i hi => by
        have h : i = 0 ∨ i = 1 ∨ i = 2 ∨ i = 3 ∨ i = 4 ∨ i = 5 ∨ i = 6 ∨ i = 7 := by omega
        rcases h with rfl | rfl | rfl | rfl | rfl | rfl | rfl | rfl
        · exact fun e => ht (by have e1 := Option.some.inj e; subst e1; simp)
        · exact fun e => ht (by have e1 := Option.some.inj e; subst e1; simp)
        · exact fun e => ht (by have e1 := Option.some.inj e; subst e1; simp)
        · exact fun e => ht (by have e1 := Option.some.inj e; subst e1; simp)
        · exact fun e => ht (by have e1 := Option.some.inj e; subst e1; simp)
        · exact fun e => ht (by have e1 := Option.some.inj e; subst e1; simp)
        · exact fun e => ht (by have e1 := Option.some.inj e; subst e1; simp)
        · exact fun e => by cases e))
    rw [hfr, ← ha0]
    clear hfr
    simp only [List.foldl_cons, List.foldl_nil]
    go_simp

    clear hst hall hm hkey hkl hnew hFl e_0 e_4 hsz ha0
    go_wp2
    go_end0
    have hg3 := HG3.out
    rw [HC2.out] at hg3
    first
    | exact ⟨rfl, HT3.out, _, by simp, HL3.out, hg3, HM3.out⟩
    | exact ⟨rfl, HT3.out, _, Or.inr rfl, by simp, HL3.out, hg3, HM3.out⟩
end Go.Proofs.YtlkmabnjmklkpaaDoor
