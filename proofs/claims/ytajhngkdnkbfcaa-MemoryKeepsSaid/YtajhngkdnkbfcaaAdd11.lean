/- Add, Find: what is done, and what is told. -/
import Derived.Test.YtajhngkdnkbfcaaPut11
namespace Go.Proofs.Ytajhngkdnkbfcaa
open Go.RowKit

def addRD (i : Nat) : Option Nat := ([some 24, some 25, some 26, some 27, some 28, some 29, some 23, some 30, some 31, some 10, some 11] : List (Option Nat)).getD i none
set_option linter.unusedVariables false in
def addRF (w0 : World) (mb rb sb : Nat) (L : List Value) (x : Int) (b : Bool) (l : Nat → Bool) (i : Nat) (w : World) (v : Value) : Prop :=
  match i with
  | 0 => v = .pointer (some ⟨mb, 0, none⟩)
  | 1 => v = .pointer (some ⟨mb, 0, none⟩)
  | 2 => v = .pointer (some ⟨mb, 0, none⟩)
  | 3 => v = .pointer (some ⟨rb, 0, none⟩)
  | 4 => v = .agg L.toArray
  | 5 => v = .tuple #[.int .i64 x, .bool b]
  | 6 => v = .tuple #[.int .i64 x, .bool b]
  | 7 => v = .int .i64 x
  | 8 => v = .bool b
  | 9 => v = .int .i64 x
  | 10 => v = .bool b
  | _ => True
set_option linter.unusedVariables false in
def addRJ (w0 : World) (mb rb sb : Nat) (L : List Value) (x : Int) (b : Bool) (l : Nat → Bool) (w : World) : Prop := Below w0.heap.size w0 w
set_option linter.unusedVariables false in
theorem addR_mild (w0 : World) (mb rb sb : Nat) (L : List Value) (x : Int) (b : Bool) : Mild (addRF w0 mb rb sb L x b) (addRJ w0 mb rb sb L x b) := by
  refine ⟨fun l i j w w' v hb h => ?_, fun l i w w' hb h => ?_⟩
  · match j with
    | 0 => exact h
    | 1 => exact h
    | 2 => exact h
    | 3 => exact h
    | 4 => exact h
    | 5 => exact h
    | 6 => exact h
    | 7 => exact h
    | 8 => exact h
    | 9 => exact h
    | 10 => exact h
    | k + 11 => trivial
  · exact h.trans (hb.mono h.size)
set_option linter.unusedVariables false in
theorem addR_s0 (w0 : World) (mb rb sb : Nat) (L : List Value) (x : Int) (b : Bool) {ops : Array Oper} {Q : Exit → Act → World → Prop} {a0 a : Act} {w : World} {l : Nat → Bool} {ty : TypeId} {pos : String} {after : Array Edge} (hL : L.length = 20) (hm : ∀ W, Below w0.heap.size w0 W → W.cell? ⟨mb, 0, none⟩ = some (.pointer (some ⟨rb, 0, none⟩)) ∧ W.rangeAt sb 0 L) (hA : ∀ W, Below w0.heap.size w0 W → Calls Try.prog 26 #[.pointer (some ⟨rb, 0, none⟩), .agg L.toArray] W fun e w' => e = .returned (.tuple #[.int .i64 x, .bool b]) ∧ Below W.heap.size W w') (k0 : a0.eval (.tmp 0) = .pointer (some ⟨mb, 0, none⟩)) (k8 : a0.eval (.tmp 8) = .pointer (some ⟨sb, 0, none⟩)) (hs : St ops addRD (addRF w0 mb rb sb L x b) (addRJ w0 mb rb sb L x b) 11 a0 l a w) (hi : ops[0]? = some { dst := some 24, op := Op.move (Operand.tmp 0), type := ty, pos := pos, after := after, guard := none }) (nl : l 0 = false)  : wpOp Try.prog ops Q 0 (Did addRD (addRF w0 mb rb sb L x b) (addRJ w0 mb rb sb L x b) 11 l 0 a) a w := by
  have e0 : a.eval (.tmp 0) = .pointer (some ⟨mb, 0, none⟩) := (hs.kept 0 (by decide)).trans (k0)
  have hK := did (addR_mild w0 mb rb sb L x b) hs (v := .pointer (some ⟨mb, 0, none⟩)) (d := 24) (i := 0) rfl (Below.refl _ w) rfl
  refine wpOp_move hi ?_
  rw [e0]
  exact hK
set_option linter.unusedVariables false in
theorem addR_s1 (w0 : World) (mb rb sb : Nat) (L : List Value) (x : Int) (b : Bool) {ops : Array Oper} {Q : Exit → Act → World → Prop} {a0 a : Act} {w : World} {l : Nat → Bool} {ty : TypeId} {pos : String} {after : Array Edge} (hL : L.length = 20) (hm : ∀ W, Below w0.heap.size w0 W → W.cell? ⟨mb, 0, none⟩ = some (.pointer (some ⟨rb, 0, none⟩)) ∧ W.rangeAt sb 0 L) (hA : ∀ W, Below w0.heap.size w0 W → Calls Try.prog 26 #[.pointer (some ⟨rb, 0, none⟩), .agg L.toArray] W fun e w' => e = .returned (.tuple #[.int .i64 x, .bool b]) ∧ Below W.heap.size W w') (k0 : a0.eval (.tmp 0) = .pointer (some ⟨mb, 0, none⟩)) (k8 : a0.eval (.tmp 8) = .pointer (some ⟨sb, 0, none⟩)) (hs : St ops addRD (addRF w0 mb rb sb L x b) (addRJ w0 mb rb sb L x b) 11 a0 l a w) (hi : ops[1]? = some { dst := some 25, op := Op.nilCheck (Operand.tmp 24), type := ty, pos := pos, after := after, guard := none }) (nl : l 1 = false) (q0 : l 0 = true) : wpOp Try.prog ops Q 1 (Did addRD (addRF w0 mb rb sb L x b) (addRJ w0 mb rb sb L x b) 11 l 1 a) a w := by
  have e24 : addRF w0 mb rb sb L x b l 0 w (a.eval (.tmp 24)) := hs.get (by decide) q0 rfl
  have e24 : a.eval (.tmp 24) = .pointer (some ⟨mb, 0, none⟩) := e24
  have hK := did (addR_mild w0 mb rb sb L x b) hs (v := .pointer (some ⟨mb, 0, none⟩)) (d := 25) (i := 1) rfl (Below.refl _ w) rfl
  exact wpOp_nilCheck hi e24 hK
set_option linter.unusedVariables false in
theorem addR_s2 (w0 : World) (mb rb sb : Nat) (L : List Value) (x : Int) (b : Bool) {ops : Array Oper} {Q : Exit → Act → World → Prop} {a0 a : Act} {w : World} {l : Nat → Bool} {ty : TypeId} {pos : String} {after : Array Edge} (hL : L.length = 20) (hm : ∀ W, Below w0.heap.size w0 W → W.cell? ⟨mb, 0, none⟩ = some (.pointer (some ⟨rb, 0, none⟩)) ∧ W.rangeAt sb 0 L) (hA : ∀ W, Below w0.heap.size w0 W → Calls Try.prog 26 #[.pointer (some ⟨rb, 0, none⟩), .agg L.toArray] W fun e w' => e = .returned (.tuple #[.int .i64 x, .bool b]) ∧ Below W.heap.size W w') (k0 : a0.eval (.tmp 0) = .pointer (some ⟨mb, 0, none⟩)) (k8 : a0.eval (.tmp 8) = .pointer (some ⟨sb, 0, none⟩)) (hs : St ops addRD (addRF w0 mb rb sb L x b) (addRJ w0 mb rb sb L x b) 11 a0 l a w) (hi : ops[2]? = some { dst := some 26, op := Op.fieldAddr 26 (Operand.tmp 25) 0, type := ty, pos := pos, after := after, guard := none }) (nl : l 2 = false) (q1 : l 1 = true) : wpOp Try.prog ops Q 2 (Did addRD (addRF w0 mb rb sb L x b) (addRJ w0 mb rb sb L x b) 11 l 2 a) a w := by
  have e25 : addRF w0 mb rb sb L x b l 1 w (a.eval (.tmp 25)) := hs.get (by decide) q1 rfl
  have e25 : a.eval (.tmp 25) = .pointer (some ⟨mb, 0, none⟩) := e25
  have hK := did (addR_mild w0 mb rb sb L x b) hs (v := .pointer (some ⟨mb, 0, none⟩)) (d := 26) (i := 2) rfl (Below.refl _ w) rfl
  refine wpOp_go hi rfl ?_
  unfold Oper.wp
  have KK := Lib.hid hK
  clear hK hi
  have c0 := (hm w hs.j).1
  generalize a.eval = ρ at *
  go_simp
  exact KK.out
set_option linter.unusedVariables false in
theorem addR_s3 (w0 : World) (mb rb sb : Nat) (L : List Value) (x : Int) (b : Bool) {ops : Array Oper} {Q : Exit → Act → World → Prop} {a0 a : Act} {w : World} {l : Nat → Bool} {ty : TypeId} {pos : String} {after : Array Edge} (hL : L.length = 20) (hm : ∀ W, Below w0.heap.size w0 W → W.cell? ⟨mb, 0, none⟩ = some (.pointer (some ⟨rb, 0, none⟩)) ∧ W.rangeAt sb 0 L) (hA : ∀ W, Below w0.heap.size w0 W → Calls Try.prog 26 #[.pointer (some ⟨rb, 0, none⟩), .agg L.toArray] W fun e w' => e = .returned (.tuple #[.int .i64 x, .bool b]) ∧ Below W.heap.size W w') (k0 : a0.eval (.tmp 0) = .pointer (some ⟨mb, 0, none⟩)) (k8 : a0.eval (.tmp 8) = .pointer (some ⟨sb, 0, none⟩)) (hs : St ops addRD (addRF w0 mb rb sb L x b) (addRJ w0 mb rb sb L x b) 11 a0 l a w) (hi : ops[3]? = some { dst := some 27, op := Op.load 24 (Operand.tmp 26), type := ty, pos := pos, after := after, guard := none }) (nl : l 3 = false) (q2 : l 2 = true) : wpOp Try.prog ops Q 3 (Did addRD (addRF w0 mb rb sb L x b) (addRJ w0 mb rb sb L x b) 11 l 3 a) a w := by
  have e26 : addRF w0 mb rb sb L x b l 2 w (a.eval (.tmp 26)) := hs.get (by decide) q2 rfl
  have e26 : a.eval (.tmp 26) = .pointer (some ⟨mb, 0, none⟩) := e26
  have hK := did (addR_mild w0 mb rb sb L x b) hs (v := .pointer (some ⟨rb, 0, none⟩)) (d := 27) (i := 3) rfl (Below.refl _ w) rfl
  refine wpOp_go hi rfl ?_
  unfold Oper.wp
  have KK := Lib.hid hK
  clear hK hi
  have c0 := (hm w hs.j).1
  generalize a.eval = ρ at *
  go_simp
  exact KK.out
set_option linter.unusedVariables false in
theorem addR_s4 (w0 : World) (mb rb sb : Nat) (L : List Value) (x : Int) (b : Bool) {ops : Array Oper} {Q : Exit → Act → World → Prop} {a0 a : Act} {w : World} {l : Nat → Bool} {ty : TypeId} {pos : String} {after : Array Edge} (hL : L.length = 20) (hm : ∀ W, Below w0.heap.size w0 W → W.cell? ⟨mb, 0, none⟩ = some (.pointer (some ⟨rb, 0, none⟩)) ∧ W.rangeAt sb 0 L) (hA : ∀ W, Below w0.heap.size w0 W → Calls Try.prog 26 #[.pointer (some ⟨rb, 0, none⟩), .agg L.toArray] W fun e w' => e = .returned (.tuple #[.int .i64 x, .bool b]) ∧ Below W.heap.size W w') (k0 : a0.eval (.tmp 0) = .pointer (some ⟨mb, 0, none⟩)) (k8 : a0.eval (.tmp 8) = .pointer (some ⟨sb, 0, none⟩)) (hs : St ops addRD (addRF w0 mb rb sb L x b) (addRJ w0 mb rb sb L x b) 11 a0 l a w) (hi : ops[4]? = some { dst := some 28, op := Op.load 64 (Operand.tmp 8), type := ty, pos := pos, after := after, guard := none }) (nl : l 4 = false)  : wpOp Try.prog ops Q 4 (Did addRD (addRF w0 mb rb sb L x b) (addRJ w0 mb rb sb L x b) 11 l 4 a) a w := by
  have e8 : a.eval (.tmp 8) = .pointer (some ⟨sb, 0, none⟩) := (hs.kept 8 (by decide)).trans (k8)
  exact wpOp_load hi e8 (hm w hs.j).2 Try.underlying64 rfl (say_infoL hL) (did (addR_mild w0 mb rb sb L x b) hs (d := 28) (i := 4) rfl (Below.refl _ w) rfl)
set_option linter.unusedVariables false in
theorem addR_s5 (w0 : World) (mb rb sb : Nat) (L : List Value) (x : Int) (b : Bool) {ops : Array Oper} {Q : Exit → Act → World → Prop} {a0 a : Act} {w : World} {l : Nat → Bool} {ty : TypeId} {pos : String} {after : Array Edge} (hL : L.length = 20) (hm : ∀ W, Below w0.heap.size w0 W → W.cell? ⟨mb, 0, none⟩ = some (.pointer (some ⟨rb, 0, none⟩)) ∧ W.rangeAt sb 0 L) (hA : ∀ W, Below w0.heap.size w0 W → Calls Try.prog 26 #[.pointer (some ⟨rb, 0, none⟩), .agg L.toArray] W fun e w' => e = .returned (.tuple #[.int .i64 x, .bool b]) ∧ Below W.heap.size W w') (k0 : a0.eval (.tmp 0) = .pointer (some ⟨mb, 0, none⟩)) (k8 : a0.eval (.tmp 8) = .pointer (some ⟨sb, 0, none⟩)) (hs : St ops addRD (addRF w0 mb rb sb L x b) (addRJ w0 mb rb sb L x b) 11 a0 l a w) (hi : ops[5]? = some { dst := some 29, op := Op.call { callee := Callee.value (Operand.func 26), args := #[Operand.tmp 27, Operand.tmp 28], argTypes := #[24, 64] }, type := ty, pos := pos, after := after, guard := none }) (nl : l 5 = false) (q3 : l 3 = true) (q4 : l 4 = true) : wpOp Try.prog ops Q 5 (Did addRD (addRF w0 mb rb sb L x b) (addRJ w0 mb rb sb L x b) 11 l 5 a) a w := by
  have e27 : addRF w0 mb rb sb L x b l 3 w (a.eval (.tmp 27)) := hs.get (by decide) q3 rfl
  have e28 : addRF w0 mb rb sb L x b l 4 w (a.eval (.tmp 28)) := hs.get (by decide) q4 rfl
  have f1 : a.eval (.tmp 27) = .pointer (some ⟨rb, 0, none⟩) := e27
  have f2 : a.eval (.tmp 28) = .agg L.toArray := e28
  refine wpOp_call (vs := #[.pointer (some ⟨rb, 0, none⟩), .agg L.toArray]) hi (enters_of Try.func26 (by kernel_rfl) rfl) (by simp [f1, f2]) ?_
  refine (hA w hs.j).mono ?_
  rintro e w' ⟨rfl, hb⟩
  exact ⟨_, rfl, did (addR_mild w0 mb rb sb L x b) hs (d := 29) (i := 5) rfl hb rfl⟩
set_option linter.unusedVariables false in
theorem addR_s6 (w0 : World) (mb rb sb : Nat) (L : List Value) (x : Int) (b : Bool) {ops : Array Oper} {Q : Exit → Act → World → Prop} {a0 a : Act} {w : World} {l : Nat → Bool} {ty : TypeId} {pos : String} {after : Array Edge} (hL : L.length = 20) (hm : ∀ W, Below w0.heap.size w0 W → W.cell? ⟨mb, 0, none⟩ = some (.pointer (some ⟨rb, 0, none⟩)) ∧ W.rangeAt sb 0 L) (hA : ∀ W, Below w0.heap.size w0 W → Calls Try.prog 26 #[.pointer (some ⟨rb, 0, none⟩), .agg L.toArray] W fun e w' => e = .returned (.tuple #[.int .i64 x, .bool b]) ∧ Below W.heap.size W w') (k0 : a0.eval (.tmp 0) = .pointer (some ⟨mb, 0, none⟩)) (k8 : a0.eval (.tmp 8) = .pointer (some ⟨sb, 0, none⟩)) (hs : St ops addRD (addRF w0 mb rb sb L x b) (addRJ w0 mb rb sb L x b) 11 a0 l a w) (hi : ops[6]? = some { dst := some 23, op := Op.move (Operand.tmp 29), type := ty, pos := pos, after := after, guard := none }) (nl : l 6 = false) (q5 : l 5 = true) : wpOp Try.prog ops Q 6 (Did addRD (addRF w0 mb rb sb L x b) (addRJ w0 mb rb sb L x b) 11 l 6 a) a w := by
  have e29 : addRF w0 mb rb sb L x b l 5 w (a.eval (.tmp 29)) := hs.get (by decide) q5 rfl
  have e29 : a.eval (.tmp 29) = .tuple #[.int .i64 x, .bool b] := e29
  have hK := did (addR_mild w0 mb rb sb L x b) hs (v := .tuple #[.int .i64 x, .bool b]) (d := 23) (i := 6) rfl (Below.refl _ w) rfl
  refine wpOp_move hi ?_
  rw [e29]
  exact hK
set_option linter.unusedVariables false in
theorem addR_s7 (w0 : World) (mb rb sb : Nat) (L : List Value) (x : Int) (b : Bool) {ops : Array Oper} {Q : Exit → Act → World → Prop} {a0 a : Act} {w : World} {l : Nat → Bool} {ty : TypeId} {pos : String} {after : Array Edge} (hL : L.length = 20) (hm : ∀ W, Below w0.heap.size w0 W → W.cell? ⟨mb, 0, none⟩ = some (.pointer (some ⟨rb, 0, none⟩)) ∧ W.rangeAt sb 0 L) (hA : ∀ W, Below w0.heap.size w0 W → Calls Try.prog 26 #[.pointer (some ⟨rb, 0, none⟩), .agg L.toArray] W fun e w' => e = .returned (.tuple #[.int .i64 x, .bool b]) ∧ Below W.heap.size W w') (k0 : a0.eval (.tmp 0) = .pointer (some ⟨mb, 0, none⟩)) (k8 : a0.eval (.tmp 8) = .pointer (some ⟨sb, 0, none⟩)) (hs : St ops addRD (addRF w0 mb rb sb L x b) (addRJ w0 mb rb sb L x b) 11 a0 l a w) (hi : ops[7]? = some { dst := some 30, op := Op.extract (Operand.tmp 23) 0, type := ty, pos := pos, after := after, guard := none }) (nl : l 7 = false) (q6 : l 6 = true) : wpOp Try.prog ops Q 7 (Did addRD (addRF w0 mb rb sb L x b) (addRJ w0 mb rb sb L x b) 11 l 7 a) a w := by
  have e23 : addRF w0 mb rb sb L x b l 6 w (a.eval (.tmp 23)) := hs.get (by decide) q6 rfl
  exact wpOp_extract hi e23 rfl (did (addR_mild w0 mb rb sb L x b) hs (d := 30) (i := 7) rfl (Below.refl _ w) rfl)
set_option linter.unusedVariables false in
theorem addR_s8 (w0 : World) (mb rb sb : Nat) (L : List Value) (x : Int) (b : Bool) {ops : Array Oper} {Q : Exit → Act → World → Prop} {a0 a : Act} {w : World} {l : Nat → Bool} {ty : TypeId} {pos : String} {after : Array Edge} (hL : L.length = 20) (hm : ∀ W, Below w0.heap.size w0 W → W.cell? ⟨mb, 0, none⟩ = some (.pointer (some ⟨rb, 0, none⟩)) ∧ W.rangeAt sb 0 L) (hA : ∀ W, Below w0.heap.size w0 W → Calls Try.prog 26 #[.pointer (some ⟨rb, 0, none⟩), .agg L.toArray] W fun e w' => e = .returned (.tuple #[.int .i64 x, .bool b]) ∧ Below W.heap.size W w') (k0 : a0.eval (.tmp 0) = .pointer (some ⟨mb, 0, none⟩)) (k8 : a0.eval (.tmp 8) = .pointer (some ⟨sb, 0, none⟩)) (hs : St ops addRD (addRF w0 mb rb sb L x b) (addRJ w0 mb rb sb L x b) 11 a0 l a w) (hi : ops[8]? = some { dst := some 31, op := Op.extract (Operand.tmp 23) 1, type := ty, pos := pos, after := after, guard := none }) (nl : l 8 = false) (q6 : l 6 = true) : wpOp Try.prog ops Q 8 (Did addRD (addRF w0 mb rb sb L x b) (addRJ w0 mb rb sb L x b) 11 l 8 a) a w := by
  have e23 : addRF w0 mb rb sb L x b l 6 w (a.eval (.tmp 23)) := hs.get (by decide) q6 rfl
  exact wpOp_extract hi e23 rfl (did (addR_mild w0 mb rb sb L x b) hs (d := 31) (i := 8) rfl (Below.refl _ w) rfl)
set_option linter.unusedVariables false in
theorem addR_s9 (w0 : World) (mb rb sb : Nat) (L : List Value) (x : Int) (b : Bool) {ops : Array Oper} {Q : Exit → Act → World → Prop} {a0 a : Act} {w : World} {l : Nat → Bool} {ty : TypeId} {pos : String} {after : Array Edge} (hL : L.length = 20) (hm : ∀ W, Below w0.heap.size w0 W → W.cell? ⟨mb, 0, none⟩ = some (.pointer (some ⟨rb, 0, none⟩)) ∧ W.rangeAt sb 0 L) (hA : ∀ W, Below w0.heap.size w0 W → Calls Try.prog 26 #[.pointer (some ⟨rb, 0, none⟩), .agg L.toArray] W fun e w' => e = .returned (.tuple #[.int .i64 x, .bool b]) ∧ Below W.heap.size W w') (k0 : a0.eval (.tmp 0) = .pointer (some ⟨mb, 0, none⟩)) (k8 : a0.eval (.tmp 8) = .pointer (some ⟨sb, 0, none⟩)) (hs : St ops addRD (addRF w0 mb rb sb L x b) (addRJ w0 mb rb sb L x b) 11 a0 l a w) (hi : ops[9]? = some { dst := some 10, op := Op.assign (Operand.tmp 30), type := ty, pos := pos, after := after, guard := none }) (nl : l 9 = false) (q0 : l 0 = true) (q1 : l 1 = true) (q2 : l 2 = true) (q3 : l 3 = true) (q4 : l 4 = true) (q5 : l 5 = true) (q6 : l 6 = true) (q7 : l 7 = true) : wpOp Try.prog ops Q 9 (Did addRD (addRF w0 mb rb sb L x b) (addRJ w0 mb rb sb L x b) 11 l 9 a) a w := by
  have e30 : addRF w0 mb rb sb L x b l 7 w (a.eval (.tmp 30)) := hs.get (by decide) q7 rfl
  have e30 : a.eval (.tmp 30) = .int .i64 x := e30
  have hK := did (addR_mild w0 mb rb sb L x b) hs (v := .int .i64 x) (d := 10) (i := 9) rfl (Below.refl _ w) rfl
  refine wpOp_assign hi ?_
  rw [e30]
  exact hK
set_option linter.unusedVariables false in
theorem addR_s10 (w0 : World) (mb rb sb : Nat) (L : List Value) (x : Int) (b : Bool) {ops : Array Oper} {Q : Exit → Act → World → Prop} {a0 a : Act} {w : World} {l : Nat → Bool} {ty : TypeId} {pos : String} {after : Array Edge} (hL : L.length = 20) (hm : ∀ W, Below w0.heap.size w0 W → W.cell? ⟨mb, 0, none⟩ = some (.pointer (some ⟨rb, 0, none⟩)) ∧ W.rangeAt sb 0 L) (hA : ∀ W, Below w0.heap.size w0 W → Calls Try.prog 26 #[.pointer (some ⟨rb, 0, none⟩), .agg L.toArray] W fun e w' => e = .returned (.tuple #[.int .i64 x, .bool b]) ∧ Below W.heap.size W w') (k0 : a0.eval (.tmp 0) = .pointer (some ⟨mb, 0, none⟩)) (k8 : a0.eval (.tmp 8) = .pointer (some ⟨sb, 0, none⟩)) (hs : St ops addRD (addRF w0 mb rb sb L x b) (addRJ w0 mb rb sb L x b) 11 a0 l a w) (hi : ops[10]? = some { dst := some 11, op := Op.assign (Operand.tmp 31), type := ty, pos := pos, after := after, guard := none }) (nl : l 10 = false) (q0 : l 0 = true) (q1 : l 1 = true) (q2 : l 2 = true) (q3 : l 3 = true) (q4 : l 4 = true) (q5 : l 5 = true) (q6 : l 6 = true) (q7 : l 7 = true) (q8 : l 8 = true) (q9 : l 9 = true) : wpOp Try.prog ops Q 10 (Did addRD (addRF w0 mb rb sb L x b) (addRJ w0 mb rb sb L x b) 11 l 10 a) a w := by
  have e31 : addRF w0 mb rb sb L x b l 8 w (a.eval (.tmp 31)) := hs.get (by decide) q8 rfl
  have e31 : a.eval (.tmp 31) = .bool b := e31
  have hK := did (addR_mild w0 mb rb sb L x b) hs (v := .bool b) (d := 11) (i := 10) rfl (Below.refl _ w) rfl
  refine wpOp_assign hi ?_
  rw [e31]
  exact hK
def findRD (i : Nat) : Option Nat := ([some 23, some 24, some 25, some 26, some 27, some 28, some 29, some 30, some 6, some 7] : List (Option Nat)).getD i none
set_option linter.unusedVariables false in
def findRF (w0 : World) (mb rb sb : Nat) (L : List Value) (x : Int) (b : Bool) (l : Nat → Bool) (i : Nat) (w : World) (v : Value) : Prop :=
  match i with
  | 0 => v = .pointer (some ⟨mb, 0, none⟩)
  | 1 => v = .pointer (some ⟨mb, 0, none⟩)
  | 2 => v = .pointer (some ⟨mb, 0, none⟩)
  | 3 => v = .pointer (some ⟨rb, 0, none⟩)
  | 4 => v = .agg L.toArray
  | 5 => v = .tuple #[.int .i64 x, .bool b]
  | 6 => v = .int .i64 x
  | 7 => v = .bool b
  | 8 => v = .int .i64 x
  | 9 => v = .bool b
  | _ => True
set_option linter.unusedVariables false in
def findRJ (w0 : World) (mb rb sb : Nat) (L : List Value) (x : Int) (b : Bool) (l : Nat → Bool) (w : World) : Prop := Below w0.heap.size w0 w
set_option linter.unusedVariables false in
theorem findR_mild (w0 : World) (mb rb sb : Nat) (L : List Value) (x : Int) (b : Bool) : Mild (findRF w0 mb rb sb L x b) (findRJ w0 mb rb sb L x b) := by
  refine ⟨fun l i j w w' v hb h => ?_, fun l i w w' hb h => ?_⟩
  · match j with
    | 0 => exact h
    | 1 => exact h
    | 2 => exact h
    | 3 => exact h
    | 4 => exact h
    | 5 => exact h
    | 6 => exact h
    | 7 => exact h
    | 8 => exact h
    | 9 => exact h
    | k + 10 => trivial
  · exact h.trans (hb.mono h.size)
set_option linter.unusedVariables false in
theorem findR_s0 (w0 : World) (mb rb sb : Nat) (L : List Value) (x : Int) (b : Bool) {ops : Array Oper} {Q : Exit → Act → World → Prop} {a0 a : Act} {w : World} {l : Nat → Bool} {ty : TypeId} {pos : String} {after : Array Edge} (hL : L.length = 20) (hm : ∀ W, Below w0.heap.size w0 W → W.cell? ⟨mb, 0, none⟩ = some (.pointer (some ⟨rb, 0, none⟩)) ∧ W.rangeAt sb 0 L) (hA : ∀ W, Below w0.heap.size w0 W → Calls Try.prog 26 #[.pointer (some ⟨rb, 0, none⟩), .agg L.toArray] W fun e w' => e = .returned (.tuple #[.int .i64 x, .bool b]) ∧ Below W.heap.size W w') (k0 : a0.eval (.tmp 0) = .pointer (some ⟨mb, 0, none⟩)) (k8 : a0.eval (.tmp 8) = .pointer (some ⟨sb, 0, none⟩)) (hs : St ops findRD (findRF w0 mb rb sb L x b) (findRJ w0 mb rb sb L x b) 10 a0 l a w) (hi : ops[0]? = some { dst := some 23, op := Op.move (Operand.tmp 0), type := ty, pos := pos, after := after, guard := none }) (nl : l 0 = false)  : wpOp Try.prog ops Q 0 (Did findRD (findRF w0 mb rb sb L x b) (findRJ w0 mb rb sb L x b) 10 l 0 a) a w := by
  have e0 : a.eval (.tmp 0) = .pointer (some ⟨mb, 0, none⟩) := (hs.kept 0 (by decide)).trans (k0)
  have hK := did (findR_mild w0 mb rb sb L x b) hs (v := .pointer (some ⟨mb, 0, none⟩)) (d := 23) (i := 0) rfl (Below.refl _ w) rfl
  refine wpOp_move hi ?_
  rw [e0]
  exact hK
set_option linter.unusedVariables false in
theorem findR_s1 (w0 : World) (mb rb sb : Nat) (L : List Value) (x : Int) (b : Bool) {ops : Array Oper} {Q : Exit → Act → World → Prop} {a0 a : Act} {w : World} {l : Nat → Bool} {ty : TypeId} {pos : String} {after : Array Edge} (hL : L.length = 20) (hm : ∀ W, Below w0.heap.size w0 W → W.cell? ⟨mb, 0, none⟩ = some (.pointer (some ⟨rb, 0, none⟩)) ∧ W.rangeAt sb 0 L) (hA : ∀ W, Below w0.heap.size w0 W → Calls Try.prog 26 #[.pointer (some ⟨rb, 0, none⟩), .agg L.toArray] W fun e w' => e = .returned (.tuple #[.int .i64 x, .bool b]) ∧ Below W.heap.size W w') (k0 : a0.eval (.tmp 0) = .pointer (some ⟨mb, 0, none⟩)) (k8 : a0.eval (.tmp 8) = .pointer (some ⟨sb, 0, none⟩)) (hs : St ops findRD (findRF w0 mb rb sb L x b) (findRJ w0 mb rb sb L x b) 10 a0 l a w) (hi : ops[1]? = some { dst := some 24, op := Op.nilCheck (Operand.tmp 23), type := ty, pos := pos, after := after, guard := none }) (nl : l 1 = false) (q0 : l 0 = true) : wpOp Try.prog ops Q 1 (Did findRD (findRF w0 mb rb sb L x b) (findRJ w0 mb rb sb L x b) 10 l 1 a) a w := by
  have e23 : findRF w0 mb rb sb L x b l 0 w (a.eval (.tmp 23)) := hs.get (by decide) q0 rfl
  have e23 : a.eval (.tmp 23) = .pointer (some ⟨mb, 0, none⟩) := e23
  have hK := did (findR_mild w0 mb rb sb L x b) hs (v := .pointer (some ⟨mb, 0, none⟩)) (d := 24) (i := 1) rfl (Below.refl _ w) rfl
  exact wpOp_nilCheck hi e23 hK
set_option linter.unusedVariables false in
theorem findR_s2 (w0 : World) (mb rb sb : Nat) (L : List Value) (x : Int) (b : Bool) {ops : Array Oper} {Q : Exit → Act → World → Prop} {a0 a : Act} {w : World} {l : Nat → Bool} {ty : TypeId} {pos : String} {after : Array Edge} (hL : L.length = 20) (hm : ∀ W, Below w0.heap.size w0 W → W.cell? ⟨mb, 0, none⟩ = some (.pointer (some ⟨rb, 0, none⟩)) ∧ W.rangeAt sb 0 L) (hA : ∀ W, Below w0.heap.size w0 W → Calls Try.prog 26 #[.pointer (some ⟨rb, 0, none⟩), .agg L.toArray] W fun e w' => e = .returned (.tuple #[.int .i64 x, .bool b]) ∧ Below W.heap.size W w') (k0 : a0.eval (.tmp 0) = .pointer (some ⟨mb, 0, none⟩)) (k8 : a0.eval (.tmp 8) = .pointer (some ⟨sb, 0, none⟩)) (hs : St ops findRD (findRF w0 mb rb sb L x b) (findRJ w0 mb rb sb L x b) 10 a0 l a w) (hi : ops[2]? = some { dst := some 25, op := Op.fieldAddr 26 (Operand.tmp 24) 0, type := ty, pos := pos, after := after, guard := none }) (nl : l 2 = false) (q1 : l 1 = true) : wpOp Try.prog ops Q 2 (Did findRD (findRF w0 mb rb sb L x b) (findRJ w0 mb rb sb L x b) 10 l 2 a) a w := by
  have e24 : findRF w0 mb rb sb L x b l 1 w (a.eval (.tmp 24)) := hs.get (by decide) q1 rfl
  have e24 : a.eval (.tmp 24) = .pointer (some ⟨mb, 0, none⟩) := e24
  have hK := did (findR_mild w0 mb rb sb L x b) hs (v := .pointer (some ⟨mb, 0, none⟩)) (d := 25) (i := 2) rfl (Below.refl _ w) rfl
  refine wpOp_go hi rfl ?_
  unfold Oper.wp
  have KK := Lib.hid hK
  clear hK hi
  have c0 := (hm w hs.j).1
  generalize a.eval = ρ at *
  go_simp
  exact KK.out
set_option linter.unusedVariables false in
theorem findR_s3 (w0 : World) (mb rb sb : Nat) (L : List Value) (x : Int) (b : Bool) {ops : Array Oper} {Q : Exit → Act → World → Prop} {a0 a : Act} {w : World} {l : Nat → Bool} {ty : TypeId} {pos : String} {after : Array Edge} (hL : L.length = 20) (hm : ∀ W, Below w0.heap.size w0 W → W.cell? ⟨mb, 0, none⟩ = some (.pointer (some ⟨rb, 0, none⟩)) ∧ W.rangeAt sb 0 L) (hA : ∀ W, Below w0.heap.size w0 W → Calls Try.prog 26 #[.pointer (some ⟨rb, 0, none⟩), .agg L.toArray] W fun e w' => e = .returned (.tuple #[.int .i64 x, .bool b]) ∧ Below W.heap.size W w') (k0 : a0.eval (.tmp 0) = .pointer (some ⟨mb, 0, none⟩)) (k8 : a0.eval (.tmp 8) = .pointer (some ⟨sb, 0, none⟩)) (hs : St ops findRD (findRF w0 mb rb sb L x b) (findRJ w0 mb rb sb L x b) 10 a0 l a w) (hi : ops[3]? = some { dst := some 26, op := Op.load 24 (Operand.tmp 25), type := ty, pos := pos, after := after, guard := none }) (nl : l 3 = false) (q2 : l 2 = true) : wpOp Try.prog ops Q 3 (Did findRD (findRF w0 mb rb sb L x b) (findRJ w0 mb rb sb L x b) 10 l 3 a) a w := by
  have e25 : findRF w0 mb rb sb L x b l 2 w (a.eval (.tmp 25)) := hs.get (by decide) q2 rfl
  have e25 : a.eval (.tmp 25) = .pointer (some ⟨mb, 0, none⟩) := e25
  have hK := did (findR_mild w0 mb rb sb L x b) hs (v := .pointer (some ⟨rb, 0, none⟩)) (d := 26) (i := 3) rfl (Below.refl _ w) rfl
  refine wpOp_go hi rfl ?_
  unfold Oper.wp
  have KK := Lib.hid hK
  clear hK hi
  have c0 := (hm w hs.j).1
  generalize a.eval = ρ at *
  go_simp
  exact KK.out
set_option linter.unusedVariables false in
theorem findR_s4 (w0 : World) (mb rb sb : Nat) (L : List Value) (x : Int) (b : Bool) {ops : Array Oper} {Q : Exit → Act → World → Prop} {a0 a : Act} {w : World} {l : Nat → Bool} {ty : TypeId} {pos : String} {after : Array Edge} (hL : L.length = 20) (hm : ∀ W, Below w0.heap.size w0 W → W.cell? ⟨mb, 0, none⟩ = some (.pointer (some ⟨rb, 0, none⟩)) ∧ W.rangeAt sb 0 L) (hA : ∀ W, Below w0.heap.size w0 W → Calls Try.prog 26 #[.pointer (some ⟨rb, 0, none⟩), .agg L.toArray] W fun e w' => e = .returned (.tuple #[.int .i64 x, .bool b]) ∧ Below W.heap.size W w') (k0 : a0.eval (.tmp 0) = .pointer (some ⟨mb, 0, none⟩)) (k8 : a0.eval (.tmp 8) = .pointer (some ⟨sb, 0, none⟩)) (hs : St ops findRD (findRF w0 mb rb sb L x b) (findRJ w0 mb rb sb L x b) 10 a0 l a w) (hi : ops[4]? = some { dst := some 27, op := Op.load 64 (Operand.tmp 8), type := ty, pos := pos, after := after, guard := none }) (nl : l 4 = false)  : wpOp Try.prog ops Q 4 (Did findRD (findRF w0 mb rb sb L x b) (findRJ w0 mb rb sb L x b) 10 l 4 a) a w := by
  have e8 : a.eval (.tmp 8) = .pointer (some ⟨sb, 0, none⟩) := (hs.kept 8 (by decide)).trans (k8)
  exact wpOp_load hi e8 (hm w hs.j).2 Try.underlying64 rfl (say_infoL hL) (did (findR_mild w0 mb rb sb L x b) hs (d := 27) (i := 4) rfl (Below.refl _ w) rfl)
set_option linter.unusedVariables false in
theorem findR_s5 (w0 : World) (mb rb sb : Nat) (L : List Value) (x : Int) (b : Bool) {ops : Array Oper} {Q : Exit → Act → World → Prop} {a0 a : Act} {w : World} {l : Nat → Bool} {ty : TypeId} {pos : String} {after : Array Edge} (hL : L.length = 20) (hm : ∀ W, Below w0.heap.size w0 W → W.cell? ⟨mb, 0, none⟩ = some (.pointer (some ⟨rb, 0, none⟩)) ∧ W.rangeAt sb 0 L) (hA : ∀ W, Below w0.heap.size w0 W → Calls Try.prog 26 #[.pointer (some ⟨rb, 0, none⟩), .agg L.toArray] W fun e w' => e = .returned (.tuple #[.int .i64 x, .bool b]) ∧ Below W.heap.size W w') (k0 : a0.eval (.tmp 0) = .pointer (some ⟨mb, 0, none⟩)) (k8 : a0.eval (.tmp 8) = .pointer (some ⟨sb, 0, none⟩)) (hs : St ops findRD (findRF w0 mb rb sb L x b) (findRJ w0 mb rb sb L x b) 10 a0 l a w) (hi : ops[5]? = some { dst := some 28, op := Op.call { callee := Callee.value (Operand.func 26), args := #[Operand.tmp 26, Operand.tmp 27], argTypes := #[24, 64] }, type := ty, pos := pos, after := after, guard := none }) (nl : l 5 = false) (q3 : l 3 = true) (q4 : l 4 = true) : wpOp Try.prog ops Q 5 (Did findRD (findRF w0 mb rb sb L x b) (findRJ w0 mb rb sb L x b) 10 l 5 a) a w := by
  have e26 : findRF w0 mb rb sb L x b l 3 w (a.eval (.tmp 26)) := hs.get (by decide) q3 rfl
  have e27 : findRF w0 mb rb sb L x b l 4 w (a.eval (.tmp 27)) := hs.get (by decide) q4 rfl
  have f1 : a.eval (.tmp 26) = .pointer (some ⟨rb, 0, none⟩) := e26
  have f2 : a.eval (.tmp 27) = .agg L.toArray := e27
  refine wpOp_call (vs := #[.pointer (some ⟨rb, 0, none⟩), .agg L.toArray]) hi (enters_of Try.func26 (by kernel_rfl) rfl) (by simp [f1, f2]) ?_
  refine (hA w hs.j).mono ?_
  rintro e w' ⟨rfl, hb⟩
  exact ⟨_, rfl, did (findR_mild w0 mb rb sb L x b) hs (d := 28) (i := 5) rfl hb rfl⟩
set_option linter.unusedVariables false in
theorem findR_s6 (w0 : World) (mb rb sb : Nat) (L : List Value) (x : Int) (b : Bool) {ops : Array Oper} {Q : Exit → Act → World → Prop} {a0 a : Act} {w : World} {l : Nat → Bool} {ty : TypeId} {pos : String} {after : Array Edge} (hL : L.length = 20) (hm : ∀ W, Below w0.heap.size w0 W → W.cell? ⟨mb, 0, none⟩ = some (.pointer (some ⟨rb, 0, none⟩)) ∧ W.rangeAt sb 0 L) (hA : ∀ W, Below w0.heap.size w0 W → Calls Try.prog 26 #[.pointer (some ⟨rb, 0, none⟩), .agg L.toArray] W fun e w' => e = .returned (.tuple #[.int .i64 x, .bool b]) ∧ Below W.heap.size W w') (k0 : a0.eval (.tmp 0) = .pointer (some ⟨mb, 0, none⟩)) (k8 : a0.eval (.tmp 8) = .pointer (some ⟨sb, 0, none⟩)) (hs : St ops findRD (findRF w0 mb rb sb L x b) (findRJ w0 mb rb sb L x b) 10 a0 l a w) (hi : ops[6]? = some { dst := some 29, op := Op.extract (Operand.tmp 28) 0, type := ty, pos := pos, after := after, guard := none }) (nl : l 6 = false) (q5 : l 5 = true) : wpOp Try.prog ops Q 6 (Did findRD (findRF w0 mb rb sb L x b) (findRJ w0 mb rb sb L x b) 10 l 6 a) a w := by
  have e28 : findRF w0 mb rb sb L x b l 5 w (a.eval (.tmp 28)) := hs.get (by decide) q5 rfl
  exact wpOp_extract hi e28 rfl (did (findR_mild w0 mb rb sb L x b) hs (d := 29) (i := 6) rfl (Below.refl _ w) rfl)
set_option linter.unusedVariables false in
theorem findR_s7 (w0 : World) (mb rb sb : Nat) (L : List Value) (x : Int) (b : Bool) {ops : Array Oper} {Q : Exit → Act → World → Prop} {a0 a : Act} {w : World} {l : Nat → Bool} {ty : TypeId} {pos : String} {after : Array Edge} (hL : L.length = 20) (hm : ∀ W, Below w0.heap.size w0 W → W.cell? ⟨mb, 0, none⟩ = some (.pointer (some ⟨rb, 0, none⟩)) ∧ W.rangeAt sb 0 L) (hA : ∀ W, Below w0.heap.size w0 W → Calls Try.prog 26 #[.pointer (some ⟨rb, 0, none⟩), .agg L.toArray] W fun e w' => e = .returned (.tuple #[.int .i64 x, .bool b]) ∧ Below W.heap.size W w') (k0 : a0.eval (.tmp 0) = .pointer (some ⟨mb, 0, none⟩)) (k8 : a0.eval (.tmp 8) = .pointer (some ⟨sb, 0, none⟩)) (hs : St ops findRD (findRF w0 mb rb sb L x b) (findRJ w0 mb rb sb L x b) 10 a0 l a w) (hi : ops[7]? = some { dst := some 30, op := Op.extract (Operand.tmp 28) 1, type := ty, pos := pos, after := after, guard := none }) (nl : l 7 = false) (q5 : l 5 = true) : wpOp Try.prog ops Q 7 (Did findRD (findRF w0 mb rb sb L x b) (findRJ w0 mb rb sb L x b) 10 l 7 a) a w := by
  have e28 : findRF w0 mb rb sb L x b l 5 w (a.eval (.tmp 28)) := hs.get (by decide) q5 rfl
  exact wpOp_extract hi e28 rfl (did (findR_mild w0 mb rb sb L x b) hs (d := 30) (i := 7) rfl (Below.refl _ w) rfl)
set_option linter.unusedVariables false in
theorem findR_s8 (w0 : World) (mb rb sb : Nat) (L : List Value) (x : Int) (b : Bool) {ops : Array Oper} {Q : Exit → Act → World → Prop} {a0 a : Act} {w : World} {l : Nat → Bool} {ty : TypeId} {pos : String} {after : Array Edge} (hL : L.length = 20) (hm : ∀ W, Below w0.heap.size w0 W → W.cell? ⟨mb, 0, none⟩ = some (.pointer (some ⟨rb, 0, none⟩)) ∧ W.rangeAt sb 0 L) (hA : ∀ W, Below w0.heap.size w0 W → Calls Try.prog 26 #[.pointer (some ⟨rb, 0, none⟩), .agg L.toArray] W fun e w' => e = .returned (.tuple #[.int .i64 x, .bool b]) ∧ Below W.heap.size W w') (k0 : a0.eval (.tmp 0) = .pointer (some ⟨mb, 0, none⟩)) (k8 : a0.eval (.tmp 8) = .pointer (some ⟨sb, 0, none⟩)) (hs : St ops findRD (findRF w0 mb rb sb L x b) (findRJ w0 mb rb sb L x b) 10 a0 l a w) (hi : ops[8]? = some { dst := some 6, op := Op.assign (Operand.tmp 29), type := ty, pos := pos, after := after, guard := none }) (nl : l 8 = false) (q0 : l 0 = true) (q1 : l 1 = true) (q2 : l 2 = true) (q3 : l 3 = true) (q4 : l 4 = true) (q5 : l 5 = true) (q6 : l 6 = true) (q7 : l 7 = true) : wpOp Try.prog ops Q 8 (Did findRD (findRF w0 mb rb sb L x b) (findRJ w0 mb rb sb L x b) 10 l 8 a) a w := by
  have e29 : findRF w0 mb rb sb L x b l 6 w (a.eval (.tmp 29)) := hs.get (by decide) q6 rfl
  have e29 : a.eval (.tmp 29) = .int .i64 x := e29
  have hK := did (findR_mild w0 mb rb sb L x b) hs (v := .int .i64 x) (d := 6) (i := 8) rfl (Below.refl _ w) rfl
  refine wpOp_assign hi ?_
  rw [e29]
  exact hK
set_option linter.unusedVariables false in
theorem findR_s9 (w0 : World) (mb rb sb : Nat) (L : List Value) (x : Int) (b : Bool) {ops : Array Oper} {Q : Exit → Act → World → Prop} {a0 a : Act} {w : World} {l : Nat → Bool} {ty : TypeId} {pos : String} {after : Array Edge} (hL : L.length = 20) (hm : ∀ W, Below w0.heap.size w0 W → W.cell? ⟨mb, 0, none⟩ = some (.pointer (some ⟨rb, 0, none⟩)) ∧ W.rangeAt sb 0 L) (hA : ∀ W, Below w0.heap.size w0 W → Calls Try.prog 26 #[.pointer (some ⟨rb, 0, none⟩), .agg L.toArray] W fun e w' => e = .returned (.tuple #[.int .i64 x, .bool b]) ∧ Below W.heap.size W w') (k0 : a0.eval (.tmp 0) = .pointer (some ⟨mb, 0, none⟩)) (k8 : a0.eval (.tmp 8) = .pointer (some ⟨sb, 0, none⟩)) (hs : St ops findRD (findRF w0 mb rb sb L x b) (findRJ w0 mb rb sb L x b) 10 a0 l a w) (hi : ops[9]? = some { dst := some 7, op := Op.assign (Operand.tmp 30), type := ty, pos := pos, after := after, guard := none }) (nl : l 9 = false) (q0 : l 0 = true) (q1 : l 1 = true) (q2 : l 2 = true) (q3 : l 3 = true) (q4 : l 4 = true) (q5 : l 5 = true) (q6 : l 6 = true) (q7 : l 7 = true) (q8 : l 8 = true) : wpOp Try.prog ops Q 9 (Did findRD (findRF w0 mb rb sb L x b) (findRJ w0 mb rb sb L x b) 10 l 9 a) a w := by
  have e30 : findRF w0 mb rb sb L x b l 7 w (a.eval (.tmp 30)) := hs.get (by decide) q7 rfl
  have e30 : a.eval (.tmp 30) = .bool b := e30
  have hK := did (findR_mild w0 mb rb sb L x b) hs (v := .bool b) (d := 7) (i := 9) rfl (Below.refl _ w) rfl
  refine wpOp_assign hi ?_
  rw [e30]
  exact hK
def putMD (i : Nat) : Option Nat := ([some 39, some 40, some 41, some 42, some 43, some 44, some 6, some 7] : List (Option Nat)).getD i none
set_option linter.unusedVariables false in
def putMF (w0 : World) (mb rb sb : Nat) (L : List Value) (x : Int) (R : World → Prop) (l : Nat → Bool) (i : Nat) (w : World) (v : Value) : Prop :=
  match i with
  | 0 => v = .pointer (some ⟨mb, 0, none⟩)
  | 1 => v = .pointer (some ⟨mb, 0, none⟩)
  | 2 => v = .pointer (some ⟨mb, 0, none⟩)
  | 3 => v = .pointer (some ⟨rb, 0, none⟩)
  | 4 => v = .agg L.toArray
  | 5 => v = .int .i64 x
  | 6 => v = .int .i64 x
  | 7 => v = .int .i64 0
  | _ => True
set_option linter.unusedVariables false in
def putMJ (w0 : World) (mb rb sb : Nat) (L : List Value) (x : Int) (R : World → Prop) (l : Nat → Bool) (w : World) : Prop := (l 5 = false → Below w0.heap.size w0 w) ∧ (l 5 = true → ∃ wb, R wb ∧ Below wb.heap.size wb w)
set_option linter.unusedVariables false in
theorem putM_mild (w0 : World) (mb rb sb : Nat) (L : List Value) (x : Int) (R : World → Prop) : MildX (putMF w0 mb rb sb L x R) (putMJ w0 mb rb sb L x R) 5 := by
  refine ⟨fun l i j w w' v hb h => ?_, fun l i w w' hne hb h => ?_⟩
  · match j with
    | 0 => exact h
    | 1 => exact h
    | 2 => exact h
    | 3 => exact h
    | 4 => exact h
    | 5 => exact h
    | 6 => exact h
    | 7 => exact h
    | k + 8 => trivial
  · exact ⟨fun e => (h.1 (setL_no e)).trans (hb.mono (h.1 (setL_no e)).size), fun e => by
      rw [setL_ne (Ne.symm hne)] at e
      obtain ⟨wb, h1, h2⟩ := h.2 e
      exact ⟨wb, h1, h2.trans (hb.mono h2.size)⟩⟩
set_option linter.unusedVariables false in
theorem putM_s0 (w0 : World) (mb rb sb : Nat) (L : List Value) (x : Int) (R : World → Prop) {ops : Array Oper} {Q : Exit → Act → World → Prop} {a0 a : Act} {w : World} {l : Nat → Bool} {ty : TypeId} {pos : String} {after : Array Edge} (hw : waitsFor ops 5 3 = true) (hw4 : waitsFor ops 5 4 = true) (hL : L.length = 20) (hm : ∀ W, Below w0.heap.size w0 W → W.cell? ⟨mb, 0, none⟩ = some (.pointer (some ⟨rb, 0, none⟩)) ∧ W.rangeAt sb 0 L) (hA : ∀ W, Below w0.heap.size w0 W → Calls Try.prog 28 #[.pointer (some ⟨rb, 0, none⟩), .agg L.toArray] W fun e w' => e = .returned (.int .i64 x) ∧ R w') (k0 : a0.eval (.tmp 0) = .pointer (some ⟨mb, 0, none⟩)) (k8 : a0.eval (.tmp 8) = .pointer (some ⟨sb, 0, none⟩)) (hs : St ops putMD (putMF w0 mb rb sb L x R) (putMJ w0 mb rb sb L x R) 8 a0 l a w) (hi : ops[0]? = some { dst := some 39, op := Op.move (Operand.tmp 0), type := ty, pos := pos, after := after, guard := none }) (nl : l 0 = false)  : wpOp Try.prog ops Q 0 (Did putMD (putMF w0 mb rb sb L x R) (putMJ w0 mb rb sb L x R) 8 l 0 a) a w := by
  have e0 : a.eval (.tmp 0) = .pointer (some ⟨mb, 0, none⟩) := (hs.kept 0 (by decide)).trans (k0)
  have hK := did' (by decide) (putM_mild w0 mb rb sb L x R) hs (v := .pointer (some ⟨mb, 0, none⟩)) (d := 39) (i := 0) rfl (Below.refl _ w) rfl
  refine wpOp_move hi ?_
  rw [e0]
  exact hK
set_option linter.unusedVariables false in
theorem putM_s1 (w0 : World) (mb rb sb : Nat) (L : List Value) (x : Int) (R : World → Prop) {ops : Array Oper} {Q : Exit → Act → World → Prop} {a0 a : Act} {w : World} {l : Nat → Bool} {ty : TypeId} {pos : String} {after : Array Edge} (hw : waitsFor ops 5 3 = true) (hw4 : waitsFor ops 5 4 = true) (hL : L.length = 20) (hm : ∀ W, Below w0.heap.size w0 W → W.cell? ⟨mb, 0, none⟩ = some (.pointer (some ⟨rb, 0, none⟩)) ∧ W.rangeAt sb 0 L) (hA : ∀ W, Below w0.heap.size w0 W → Calls Try.prog 28 #[.pointer (some ⟨rb, 0, none⟩), .agg L.toArray] W fun e w' => e = .returned (.int .i64 x) ∧ R w') (k0 : a0.eval (.tmp 0) = .pointer (some ⟨mb, 0, none⟩)) (k8 : a0.eval (.tmp 8) = .pointer (some ⟨sb, 0, none⟩)) (hs : St ops putMD (putMF w0 mb rb sb L x R) (putMJ w0 mb rb sb L x R) 8 a0 l a w) (hi : ops[1]? = some { dst := some 40, op := Op.nilCheck (Operand.tmp 39), type := ty, pos := pos, after := after, guard := none }) (nl : l 1 = false) (q0 : l 0 = true) : wpOp Try.prog ops Q 1 (Did putMD (putMF w0 mb rb sb L x R) (putMJ w0 mb rb sb L x R) 8 l 1 a) a w := by
  have e39 : putMF w0 mb rb sb L x R l 0 w (a.eval (.tmp 39)) := hs.get (by decide) q0 rfl
  have e39 : a.eval (.tmp 39) = .pointer (some ⟨mb, 0, none⟩) := e39
  have hK := did' (by decide) (putM_mild w0 mb rb sb L x R) hs (v := .pointer (some ⟨mb, 0, none⟩)) (d := 40) (i := 1) rfl (Below.refl _ w) rfl
  exact wpOp_nilCheck hi e39 hK
set_option linter.unusedVariables false in
theorem putM_s2 (w0 : World) (mb rb sb : Nat) (L : List Value) (x : Int) (R : World → Prop) {ops : Array Oper} {Q : Exit → Act → World → Prop} {a0 a : Act} {w : World} {l : Nat → Bool} {ty : TypeId} {pos : String} {after : Array Edge} (hw : waitsFor ops 5 3 = true) (hw4 : waitsFor ops 5 4 = true) (hL : L.length = 20) (hm : ∀ W, Below w0.heap.size w0 W → W.cell? ⟨mb, 0, none⟩ = some (.pointer (some ⟨rb, 0, none⟩)) ∧ W.rangeAt sb 0 L) (hA : ∀ W, Below w0.heap.size w0 W → Calls Try.prog 28 #[.pointer (some ⟨rb, 0, none⟩), .agg L.toArray] W fun e w' => e = .returned (.int .i64 x) ∧ R w') (k0 : a0.eval (.tmp 0) = .pointer (some ⟨mb, 0, none⟩)) (k8 : a0.eval (.tmp 8) = .pointer (some ⟨sb, 0, none⟩)) (hs : St ops putMD (putMF w0 mb rb sb L x R) (putMJ w0 mb rb sb L x R) 8 a0 l a w) (hi : ops[2]? = some { dst := some 41, op := Op.fieldAddr 26 (Operand.tmp 40) 0, type := ty, pos := pos, after := after, guard := none }) (nl : l 2 = false) (q1 : l 1 = true) : wpOp Try.prog ops Q 2 (Did putMD (putMF w0 mb rb sb L x R) (putMJ w0 mb rb sb L x R) 8 l 2 a) a w := by
  have e40 : putMF w0 mb rb sb L x R l 1 w (a.eval (.tmp 40)) := hs.get (by decide) q1 rfl
  have e40 : a.eval (.tmp 40) = .pointer (some ⟨mb, 0, none⟩) := e40
  have hK := did' (by decide) (putM_mild w0 mb rb sb L x R) hs (v := .pointer (some ⟨mb, 0, none⟩)) (d := 41) (i := 2) rfl (Below.refl _ w) rfl
  refine wpOp_go hi rfl ?_
  unfold Oper.wp
  have KK := Lib.hid hK
  clear hK hi
  generalize a.eval = ρ at *
  go_simp
  exact KK.out
set_option linter.unusedVariables false in
theorem putM_s3 (w0 : World) (mb rb sb : Nat) (L : List Value) (x : Int) (R : World → Prop) {ops : Array Oper} {Q : Exit → Act → World → Prop} {a0 a : Act} {w : World} {l : Nat → Bool} {ty : TypeId} {pos : String} {after : Array Edge} (hw : waitsFor ops 5 3 = true) (hw4 : waitsFor ops 5 4 = true) (hL : L.length = 20) (hm : ∀ W, Below w0.heap.size w0 W → W.cell? ⟨mb, 0, none⟩ = some (.pointer (some ⟨rb, 0, none⟩)) ∧ W.rangeAt sb 0 L) (hA : ∀ W, Below w0.heap.size w0 W → Calls Try.prog 28 #[.pointer (some ⟨rb, 0, none⟩), .agg L.toArray] W fun e w' => e = .returned (.int .i64 x) ∧ R w') (k0 : a0.eval (.tmp 0) = .pointer (some ⟨mb, 0, none⟩)) (k8 : a0.eval (.tmp 8) = .pointer (some ⟨sb, 0, none⟩)) (hs : St ops putMD (putMF w0 mb rb sb L x R) (putMJ w0 mb rb sb L x R) 8 a0 l a w) (hi : ops[3]? = some { dst := some 42, op := Op.load 24 (Operand.tmp 41), type := ty, pos := pos, after := after, guard := none }) (nl : l 3 = false) (q2 : l 2 = true) : wpOp Try.prog ops Q 3 (Did putMD (putMF w0 mb rb sb L x R) (putMJ w0 mb rb sb L x R) 8 l 3 a) a w := by
  have e41 : putMF w0 mb rb sb L x R l 2 w (a.eval (.tmp 41)) := hs.get (by decide) q2 rfl
  have f41 : a.eval (.tmp 41) = .pointer (some ⟨mb, 0, none⟩) := e41
  have hJ := hs.j.1 (no_of hs (i := 5) (by decide) hw nl)
  have c0 := (hm w hJ).1
  have hK := did' (by decide) (putM_mild w0 mb rb sb L x R) hs (v := .pointer (some ⟨rb, 0, none⟩)) (d := 42) (i := 3) rfl (Below.refl _ w) rfl
  refine wpOp_go hi rfl ?_
  unfold Oper.wp
  have KK := Lib.hid hK
  clear hK hi e41
  generalize a.eval = ρ at *
  go_simp
  exact KK.out
set_option linter.unusedVariables false in
theorem putM_s4 (w0 : World) (mb rb sb : Nat) (L : List Value) (x : Int) (R : World → Prop) {ops : Array Oper} {Q : Exit → Act → World → Prop} {a0 a : Act} {w : World} {l : Nat → Bool} {ty : TypeId} {pos : String} {after : Array Edge} (hw : waitsFor ops 5 3 = true) (hw4 : waitsFor ops 5 4 = true) (hL : L.length = 20) (hm : ∀ W, Below w0.heap.size w0 W → W.cell? ⟨mb, 0, none⟩ = some (.pointer (some ⟨rb, 0, none⟩)) ∧ W.rangeAt sb 0 L) (hA : ∀ W, Below w0.heap.size w0 W → Calls Try.prog 28 #[.pointer (some ⟨rb, 0, none⟩), .agg L.toArray] W fun e w' => e = .returned (.int .i64 x) ∧ R w') (k0 : a0.eval (.tmp 0) = .pointer (some ⟨mb, 0, none⟩)) (k8 : a0.eval (.tmp 8) = .pointer (some ⟨sb, 0, none⟩)) (hs : St ops putMD (putMF w0 mb rb sb L x R) (putMJ w0 mb rb sb L x R) 8 a0 l a w) (hi : ops[4]? = some { dst := some 43, op := Op.load 64 (Operand.tmp 8), type := ty, pos := pos, after := after, guard := none }) (nl : l 4 = false)  : wpOp Try.prog ops Q 4 (Did putMD (putMF w0 mb rb sb L x R) (putMJ w0 mb rb sb L x R) 8 l 4 a) a w := by
  have e8 : a.eval (.tmp 8) = .pointer (some ⟨sb, 0, none⟩) := (hs.kept 8 (by decide)).trans (k8)
  have hJ := hs.j.1 (no_of hs (i := 5) (by decide) hw4 nl)
  exact wpOp_load hi e8 (hm w hJ).2 Try.underlying64 rfl (say_infoL hL) (did' (by decide) (putM_mild w0 mb rb sb L x R) hs (d := 43) (i := 4) rfl (Below.refl _ w) rfl)
set_option linter.unusedVariables false in
theorem putM_s5 (w0 : World) (mb rb sb : Nat) (L : List Value) (x : Int) (R : World → Prop) {ops : Array Oper} {Q : Exit → Act → World → Prop} {a0 a : Act} {w : World} {l : Nat → Bool} {ty : TypeId} {pos : String} {after : Array Edge} (hw : waitsFor ops 5 3 = true) (hw4 : waitsFor ops 5 4 = true) (hL : L.length = 20) (hm : ∀ W, Below w0.heap.size w0 W → W.cell? ⟨mb, 0, none⟩ = some (.pointer (some ⟨rb, 0, none⟩)) ∧ W.rangeAt sb 0 L) (hA : ∀ W, Below w0.heap.size w0 W → Calls Try.prog 28 #[.pointer (some ⟨rb, 0, none⟩), .agg L.toArray] W fun e w' => e = .returned (.int .i64 x) ∧ R w') (k0 : a0.eval (.tmp 0) = .pointer (some ⟨mb, 0, none⟩)) (k8 : a0.eval (.tmp 8) = .pointer (some ⟨sb, 0, none⟩)) (hs : St ops putMD (putMF w0 mb rb sb L x R) (putMJ w0 mb rb sb L x R) 8 a0 l a w) (hi : ops[5]? = some { dst := some 44, op := Op.call { callee := Callee.value (Operand.func 28), args := #[Operand.tmp 42, Operand.tmp 43], argTypes := #[24, 64] }, type := ty, pos := pos, after := after, guard := none }) (nl : l 5 = false) (q3 : l 3 = true) (q4 : l 4 = true) : wpOp Try.prog ops Q 5 (Did putMD (putMF w0 mb rb sb L x R) (putMJ w0 mb rb sb L x R) 8 l 5 a) a w := by
  have e42 : putMF w0 mb rb sb L x R l 3 w (a.eval (.tmp 42)) := hs.get (by decide) q3 rfl
  have e43 : putMF w0 mb rb sb L x R l 4 w (a.eval (.tmp 43)) := hs.get (by decide) q4 rfl
  have f1 : a.eval (.tmp 42) = .pointer (some ⟨rb, 0, none⟩) := e42
  have f2 : a.eval (.tmp 43) = .agg L.toArray := e43
  refine wpOp_call (vs := #[.pointer (some ⟨rb, 0, none⟩), .agg L.toArray]) hi (enters_of Try.func28 (by kernel_rfl) rfl) (by simp [f1, f2]) ?_
  refine (hA w (hs.j.1 nl)).mono ?_
  rintro e w' ⟨rfl, hR⟩
  refine ⟨_, rfl, _, rfl, ⟨fun e => absurd e (by simp [setL]), fun _ => ⟨w', hR, Below.refl _ _⟩⟩, fun j hj hl => ?_, rfl⟩
  match j, hj with
  | 0, _ => exact hs.get (i := 0) (by decide) hl rfl
  | 1, _ => exact hs.get (i := 1) (by decide) hl rfl
  | 2, _ => exact hs.get (i := 2) (by decide) hl rfl
  | 3, _ => exact hs.get (i := 3) (by decide) hl rfl
  | 4, _ => exact hs.get (i := 4) (by decide) hl rfl
  | 5, _ => rw [nl] at hl; cases hl
  | 6, _ => exact hs.get (i := 6) (by decide) hl rfl
  | 7, _ => exact hs.get (i := 7) (by decide) hl rfl
set_option linter.unusedVariables false in
theorem putM_s6 (w0 : World) (mb rb sb : Nat) (L : List Value) (x : Int) (R : World → Prop) {ops : Array Oper} {Q : Exit → Act → World → Prop} {a0 a : Act} {w : World} {l : Nat → Bool} {ty : TypeId} {pos : String} {after : Array Edge} (hw : waitsFor ops 5 3 = true) (hw4 : waitsFor ops 5 4 = true) (hL : L.length = 20) (hm : ∀ W, Below w0.heap.size w0 W → W.cell? ⟨mb, 0, none⟩ = some (.pointer (some ⟨rb, 0, none⟩)) ∧ W.rangeAt sb 0 L) (hA : ∀ W, Below w0.heap.size w0 W → Calls Try.prog 28 #[.pointer (some ⟨rb, 0, none⟩), .agg L.toArray] W fun e w' => e = .returned (.int .i64 x) ∧ R w') (k0 : a0.eval (.tmp 0) = .pointer (some ⟨mb, 0, none⟩)) (k8 : a0.eval (.tmp 8) = .pointer (some ⟨sb, 0, none⟩)) (hs : St ops putMD (putMF w0 mb rb sb L x R) (putMJ w0 mb rb sb L x R) 8 a0 l a w) (hi : ops[6]? = some { dst := some 6, op := Op.assign (Operand.tmp 44), type := ty, pos := pos, after := after, guard := none }) (nl : l 6 = false) (q0 : l 0 = true) (q1 : l 1 = true) (q2 : l 2 = true) (q3 : l 3 = true) (q4 : l 4 = true) (q5 : l 5 = true) : wpOp Try.prog ops Q 6 (Did putMD (putMF w0 mb rb sb L x R) (putMJ w0 mb rb sb L x R) 8 l 6 a) a w := by
  have e44 : putMF w0 mb rb sb L x R l 5 w (a.eval (.tmp 44)) := hs.get (by decide) q5 rfl
  have e44 : a.eval (.tmp 44) = .int .i64 x := e44
  have hK := did' (by decide) (putM_mild w0 mb rb sb L x R) hs (v := .int .i64 x) (d := 6) (i := 6) rfl (Below.refl _ w) rfl
  refine wpOp_assign hi ?_
  rw [e44]
  exact hK
set_option linter.unusedVariables false in
theorem putM_s7 (w0 : World) (mb rb sb : Nat) (L : List Value) (x : Int) (R : World → Prop) {ops : Array Oper} {Q : Exit → Act → World → Prop} {a0 a : Act} {w : World} {l : Nat → Bool} {ty : TypeId} {pos : String} {after : Array Edge} (hw : waitsFor ops 5 3 = true) (hw4 : waitsFor ops 5 4 = true) (hL : L.length = 20) (hm : ∀ W, Below w0.heap.size w0 W → W.cell? ⟨mb, 0, none⟩ = some (.pointer (some ⟨rb, 0, none⟩)) ∧ W.rangeAt sb 0 L) (hA : ∀ W, Below w0.heap.size w0 W → Calls Try.prog 28 #[.pointer (some ⟨rb, 0, none⟩), .agg L.toArray] W fun e w' => e = .returned (.int .i64 x) ∧ R w') (k0 : a0.eval (.tmp 0) = .pointer (some ⟨mb, 0, none⟩)) (k8 : a0.eval (.tmp 8) = .pointer (some ⟨sb, 0, none⟩)) (hs : St ops putMD (putMF w0 mb rb sb L x R) (putMJ w0 mb rb sb L x R) 8 a0 l a w) (hi : ops[7]? = some { dst := some 7, op := Op.assign (Operand.const (Value.int IntKind.i64 0)), type := ty, pos := pos, after := after, guard := none }) (nl : l 7 = false) (q0 : l 0 = true) (q1 : l 1 = true) (q2 : l 2 = true) (q3 : l 3 = true) (q4 : l 4 = true) (q5 : l 5 = true) (q6 : l 6 = true) : wpOp Try.prog ops Q 7 (Did putMD (putMF w0 mb rb sb L x R) (putMJ w0 mb rb sb L x R) 8 l 7 a) a w := by
  have hK := did' (by decide) (putM_mild w0 mb rb sb L x R) hs (v := .int .i64 0) (d := 7) (i := 7) rfl (Below.refl _ w) rfl
  refine wpOp_assign hi ?_
  exact hK
/-- A memory, as it stands. -/
structure Mm (w : World) (mb rb : Nat) (ao : Option Addr) (c : Nat) (l : List F11) (nx : Int) : Prop where
  ptr : Mp w mb rb
  row : Rw w rb ao c l nx
  rise : Rise l
  top : ∀ f ∈ l, f.id < nx
  lo : 1 ≤ nx
  hi : nx ≤ 1099511627777
  txt : ∀ f ∈ l, ∀ v ∈ f.args, v.2.2.size ≤ 140737488355328
theorem Mm.old {w w' : World} {mb rb : Nat} {ao : Option Addr} {c : Nat} {l : List F11} {nx : Int} (h : Mm w mb rb ao c l nx) (b : Below w.heap.size w w') : Mm w' mb rb ao c l nx := ⟨h.ptr.old b, h.row.old b, h.rise, h.top, h.lo, h.hi, h.txt⟩
theorem may_six {kind : Int} {vs : List V3} (h : mayB kind vs = true) : vs.length ≤ 6 := by
  apply Classical.byContradiction
  intro hn
  rw [may_many (by omega)] at h
  cases h
theorem Mp.far {w W : World} {mb rb : Nat} {ao : Option Addr} {c : Nat} {l : List F11} {nx : Int} (h : Mm w mb rb ao c l nx) (t : Touch (RowS rb ao) w W) : Mp W mb rb := by
  have hp := h.ptr
  refine (t.block mb hp.lt ?_).trans hp
  rintro (e | ⟨a, rfl, e⟩)
  · subst e
    have h2 : _ = _ := (show w.heap[mb]? = _ from hp).symm.trans h.row.box
    cases h2
  · obtain ⟨cs, fz, h1⟩ := owns_tag h.row.own a.block rfl
    rw [e] at h1
    have h2 : _ = _ := (show w.heap[mb]? = _ from hp).symm.trans h1
    cases h2
theorem Mm.more {w W : World} {mb rb : Nat} {ao ao' : Option Addr} {c c' : Nat} {l : List F11} {nx kind : Int} {vs : List V3} (h : Mm w mb rb ao c l nx) (hf : fullB l.length nx = false) (hp : Mp W mb rb) (hr : Rw W rb ao' c' (l ++ [⟨nx, kind, vs⟩]) (nx + 1)) (hx : ∀ v ∈ vs, v.2.2.size ≤ 140737488355328) : Mm W mb rb ao' c' (l ++ [⟨nx, kind, vs⟩]) (nx + 1) := by
  have hnx : nx ≤ 1099511627776 := by
    unfold fullB at hf
    simp at hf
    omega
  refine ⟨hp, hr, fun i j hij hj => ?_, fun f hf => ?_, by have := h.lo; omega, by omega, fun f hf => ?_⟩
  · rw [List.length_append, List.length_singleton] at hj
    have e1 : ∀ q, q < l.length → (l ++ [(⟨nx, kind, vs⟩ : F11)]).getD q default = l.getD q default := fun q hq => by
      rw [List.getD_eq_getElem?_getD, List.getD_eq_getElem?_getD, List.getElem?_append_left hq]
    rw [e1 i (by omega)]
    by_cases hj2 : j < l.length
    · rw [e1 j hj2]
      exact h.rise i j hij hj2
    · obtain rfl : j = l.length := by omega
      have e2 : (l ++ [(⟨nx, kind, vs⟩ : F11)]).getD l.length default = ⟨nx, kind, vs⟩ := by
        rw [List.getD_eq_getElem?_getD, List.getElem?_append_right (Nat.le_refl _), Nat.sub_self]
        rfl
      rw [e2]
      refine h.top _ ?_
      rw [List.getD_eq_getElem?_getD, List.getElem?_eq_getElem hij]
      exact List.getElem_mem hij
  · rcases List.mem_append.1 hf with h1 | h1
    · have := h.top f h1
      omega
    · obtain rfl := List.mem_singleton.1 h1
      show nx < nx + 1
      omega
  · rcases List.mem_append.1 hf with h1 | h1
    · exact h.txt f h1
    · obtain rfl := List.mem_singleton.1 h1
      exact hx
/-- What becomes of a memory: what is told, its facts, its next number. -/
structure M11 where
  tells : Value
  facts : List F11
  next : Int
def addM (l : List F11) (nx kind : Int) (vs : List V3) : M11 :=
  if mayB kind vs = false then ⟨.tuple #[.int .i64 0, .int .i64 2], l, nx⟩
  else match whoF l kind vs with
    | some i => ⟨.tuple #[.int .i64 i, .int .i64 7], l, nx⟩
    | none => if fullB l.length nx = true then ⟨.tuple #[.int .i64 0, .int .i64 5], l, nx⟩ else ⟨.tuple #[.int .i64 nx, .int .i64 0], l ++ [⟨nx, kind, vs⟩], nx + 1⟩
/-- The memory has become this, and told that. -/
def BecomesP (mb rb : Nat) (ao : Option Addr) (m : M11) (w : World) (e : Ending) (w' : World) : Prop := e = .returned m.tells ∧ ∃ ao' c', Mm w' mb rb ao' c' m.facts m.next ∧ Touch (RowS rb ao) w w' ∧ NewB ao ao' w.heap.size
theorem NewB.refl (ao : Option Addr) (B : Nat) : NewB ao ao B := fun a' e => Or.inl ⟨a', e, rfl⟩
set_option maxRecDepth 100000 in
set_option maxHeartbeats 4000000 in
theorem add_bad (kind : Int) (vs : List V3) (vo : Option Addr) (vc : Nat) (mb rb : Nat) (ao : Option Addr) (c : Nat) (l : List F11) (nx : Int) (w : World) (hM : Mm w mb rb ao c l nx) (hs : Sl10 w.heap.size w vs.length vo vc (cellsV vs)) (hx : ∀ v ∈ vs, v.2.2.size ≤ 140737488355328) (hn : vs.length ≤ 100000) (h : mayB kind vs = false) :
    Calls Try.prog 7 #[.pointer (some ⟨mb, 0, none⟩), .int .i64 kind, .slice vo vs.length vc] w (BecomesP mb rb ao ⟨.tuple #[.int .i64 0, .int .i64 2], l, nx⟩ w) := by
  have HSay := Lib.hid (say_any kind vs vo vc w hs (fun v hv => Nat.le_trans (hx v hv) (by unfold maxLen; decide)) hn)
  unfold SayP at HSay
  rw [sayA_no h] at HSay
  have HMade := Lib.hid (made_any mb rb w hM.ptr)
  have HMm := Lib.hid (fun W (b : Below w.heap.size w W) => hM.old b)
  clear hM hs hx hn
  generalize vs.length = n at *
  have HL : Hid ((sayL 0 0 zeros6).length = 20) := rfl
  have HL1 := Lib.hid (sayL_one 0 0 zeros6)
  generalize hLL : sayL 0 0 zeros6 = L at HSay HL HL1
  clear hLL
  unfold BecomesP
  go_enter Try.func7, Try.ntmps7
  go_upto_region 4 with (first
    | (go_at_call 24; refine (HMade.out).mono ?_; rintro e w2 ⟨rfl, rfl⟩)
    | (go_at_call 25; refine (HSay.out).mono ?_; rintro e w3 ⟨rfl, hb⟩; have HB := Lib.hid hb; clear hb)
    | (refine wpList_store_mid rfl 64 (.tmp 8) (.tmp 19) rfl w3.heap.size 0 L.toArray rfl rfl ((Box.new w3 64 (sayL 0 0 zeros6)).there 0 L.toArray.size (by show 0 + L.length ≤ 20; rw [HL.out]; decide)) (say_info HL.out) (all_oneCell_toArray HL1.out) ?_))
  have hb3 := (Box.new w3 64 (sayL 0 0 zeros6)).setAll L (by rw [HL.out]; rfl)
  have hl3 : Below w.heap.size w ((w3.alloc (.cells (sayL 0 0 zeros6).toArray 64)).setCells w3.heap.size 0 L) := (below_new HB.out _).grown (grownBy_setCells _ _ _ _) (below_new HB.out (.cells (sayL 0 0 zeros6).toArray 64)).size (fun j hj => by cases hj; exact HB.out.size)
  have H3 := Lib.hid hb3
  have HL3 := Lib.hid hl3
  clear hb3 hl3
  generalize hW4 : World.setCells _ _ _ _ = W4
  have HB4 : Hid (Box W4 w3.heap.size 64 L) := by rw [← hW4]; exact H3.out
  have HW4 : Hid (Below w.heap.size w W4) := by rw [← hW4]; exact HL3.out
  clear hW4 H3 HL3 HB HSay
  generalize w3.heap.size = sb at *
  go_wp2_with fail
  go_ret2
  exact ⟨rfl, ao, c, HMm.out _ HW4.out, (Touch.refl _ w).step HW4.out, NewB.refl _ _⟩
set_option maxRecDepth 100000 in
set_option maxHeartbeats 4000000 in
theorem add_good (kind : Int) (vs : List V3) (vo : Option Addr) (vc : Nat) (mb rb : Nat) (ao : Option Addr) (c : Nat) (l : List F11) (nx : Int) (w : World) (hM : Mm w mb rb ao c l nx) (hs : Sl10 w.heap.size w vs.length vo vc (cellsV vs)) (hx : ∀ v ∈ vs, v.2.2.size ≤ 140737488355328) (hn : vs.length ≤ 100000) (h : mayB kind vs = true) (m : M11) (hmm : addM l nx kind vs = m) :
    Calls Try.prog 7 #[.pointer (some ⟨mb, 0, none⟩), .int .i64 kind, .slice vo vs.length vc] w (BecomesP mb rb ao m w) := by
  have HSay := Lib.hid (say_any kind vs vo vc w hs (fun v hv => Nat.le_trans (hx v hv) (by unfold maxLen; decide)) hn)
  unfold SayP at HSay
  rw [sayA_yes h] at HSay
  have h6 : vs.length ≤ 6 := may_six h
  have HWho := Lib.hid (fun W (b : Below w.heap.size w W) => who_any kind vs h6 rb ao c l nx W (hM.row.old b))
  unfold WhoP at HWho
  have HFull := Lib.hid (fun W (b : Below w.heap.size w W) => full_any rb ao c l nx W (hM.row.old b))
  have HPut := Lib.hid (fun W (b : Below w.heap.size w W) (hl : l.length < 256) (hnx : 0 ≤ nx ∧ nx ≤ 1099511627776) => put_any kind vs h6 (fun v hv => Nat.le_trans (hx v hv) (by decide)) rb ao c l nx W (hM.row.old b) hl hnx)
  have HMnew : Hid (∀ W ao' c', fullB l.length nx = false → Mp W mb rb → Rw W rb ao' c' (l ++ [⟨nx, kind, vs⟩]) (nx + 1) → Mm W mb rb ao' c' (l ++ [⟨nx, kind, vs⟩]) (nx + 1)) := fun W ao' c' hf hp hr => Mm.more hM hf hp hr hx
  have HAdd : Hid (m = match whoF l kind vs with | some i => ⟨.tuple #[.int .i64 i, .int .i64 7], l, nx⟩ | none => if fullB l.length nx = true then ⟨.tuple #[.int .i64 0, .int .i64 5], l, nx⟩ else ⟨.tuple #[.int .i64 nx, .int .i64 0], l ++ [⟨nx, kind, vs⟩], nx + 1⟩) := by
    show m = _
    rw [← hmm]
    unfold addM
    rw [if_neg (by rw [h]; decide)]
  clear hmm
  have hrb : Hid (∀ W, Touch (RowS rb ao) w W → Mp W mb rb) := fun W hW => Mp.far hM hW
  have hlo := hM.lo
  have hmany := hM.row.many
  have HL : Hid ((sayL kind vs.length (pad6 vs)).length = 20) := by show _ = _; rw [sayL_length, pad6_length h6]
  have HL1 := Lib.hid (sayL_one kind vs.length (pad6 vs))
  have HPtr := Lib.hid (fun W (b : Below w.heap.size w W) => Mp.get (hM.ptr.old b))
  clear h6
  have HMade := Lib.hid (made_any mb rb w hM.ptr)
  have HMm := Lib.hid (fun W (b : Below w.heap.size w W) => hM.old b)
  clear hM hs hx hn
  obtain ⟨L, hLL⟩ : ∃ L, L = sayL kind vs.length (pad6 vs) := ⟨_, rfl⟩
  rw [← hLL] at HSay HL HL1 HWho HPut
  clear hLL h
  have HPM : Hid (∀ W, Below w.heap.size w W → l.length < 256 → (0 ≤ nx ∧ nx ≤ 1099511627776) → Calls Try.prog 28 #[.pointer (some ⟨rb, 0, none⟩), .agg L.toArray] W (PutP rb ao l nx ⟨nx, kind, vs⟩ W)) := HPut
  clear HPut
  unfold BecomesP
  obtain ⟨fb, hfb⟩ : ∃ fb, fb = fullB l.length nx := ⟨_, rfl⟩
  rw [← hfb] at HFull
  have HFb : Hid (fb = fullB l.length nx) := hfb
  have HFL : Hid (fb = false → l.length < 256 ∧ nx ≤ 1099511627776) := fun e => by
    rw [hfb] at e
    unfold fullB at e
    simp at e
    omega
  clear hfb
  have HNl : Hid (∃ n, n = vs.length) := ⟨_, rfl⟩
  obtain ⟨n, hnn⟩ := HNl.out
  rw [← hnn] at HSay ⊢
  clear HNl hnn hmany
  go_enter Try.func7, Try.ntmps7
  go_upto_region 4 with (first
    | (go_at_call 24; refine (HMade.out).mono ?_; rintro e w2 ⟨rfl, rfl⟩)
    | (go_at_call 25; refine (HSay.out).mono ?_; rintro e w3 ⟨rfl, hb⟩; have HB := Lib.hid hb; clear hb)
    | (refine wpList_store_mid rfl 64 (.tmp 8) (.tmp 19) rfl w3.heap.size 0 L.toArray rfl rfl ((Box.new w3 64 (sayL 0 0 zeros6)).there 0 L.toArray.size (by show 0 + L.length ≤ 20; rw [HL.out]; decide)) (say_info HL.out) (all_oneCell_toArray HL1.out) ?_))
  have hb3 := (Box.new w3 64 (sayL 0 0 zeros6)).setAll L (by rw [HL.out]; rfl)
  have hl3 : Below w.heap.size w ((w3.alloc (.cells (sayL 0 0 zeros6).toArray 64)).setCells w3.heap.size 0 L) := (below_new HB.out _).grown (grownBy_setCells _ _ _ _) (below_new HB.out (.cells (sayL 0 0 zeros6).toArray 64)).size (fun j hj => by cases hj; exact HB.out.size)
  have H3 := Lib.hid hb3
  have HL3 := Lib.hid hl3
  clear hb3 hl3
  generalize hW4 : World.setCells _ _ _ _ = W4
  have HB4 : Hid (Box W4 w3.heap.size 64 L) := by rw [← hW4]; exact H3.out
  have HW4 : Hid (Below w.heap.size w W4) := by rw [← hW4]; exact HL3.out
  clear hW4 H3 HL3 HB HSay
  generalize w3.heap.size = sb at *
  go_upto_region 6 with fail
  have hmT : ∀ W, Below W4.heap.size W4 W → Below w.heap.size w W := fun W hW => HW4.out.trans (hW.mono HW4.out.size)
  have hW : ∀ W, Below W4.heap.size W4 W → Calls Try.prog 26 #[.pointer (some ⟨rb, 0, none⟩), .agg L.toArray] W fun e w' => e = .returned (whoA l kind vs) ∧ Below W.heap.size W w' := fun W hW => HWho.out W (hmT W hW)
  have hm : ∀ W, Below W4.heap.size W4 W → W.cell? ⟨mb, 0, none⟩ = some (.pointer (some ⟨rb, 0, none⟩)) ∧ W.rangeAt sb 0 L := fun W hW => ⟨HPtr.out W (hmT W hW), (HB4.out.old hW).range⟩
  obtain ⟨x, b, hxb⟩ : ∃ (x : Int) (b : Bool), whoA l kind vs = .tuple #[.int .i64 x, .bool b] := by
    unfold whoA
    cases whoF l kind vs with
    | none => exact ⟨_, _, rfl⟩
    | some i => exact ⟨_, _, rfl⟩
  rw [hxb] at hW
  have hL := HL.out
  generalize ha0 : ({ tmps := _, defers := _ } : Act) = a0
  have k0 : a0.eval (.tmp 0) = .pointer (some ⟨mb, 0, none⟩) := by rw [← ha0]; rfl
  have k8 : a0.eval (.tmp 8) = .pointer (some ⟨sb, 0, none⟩) := by rw [← ha0]; rfl
  have hsz : a0.tmps.size = 45 := by rw [← ha0]; rfl
  refine wp_region_st addRD (addRF W4 mb rb sb L x b) (addRJ W4 mb rb sb L x b) 11 (by kernel_rfl) (by kernel_rfl) rfl (by kernel_rfl) (by rw [hsz]; kernel_rfl) (below_drew (Below.refl _ _))
      (fun ll aa ww i hi hs nl hw => by
        have h : i = 0 ∨ i = 1 ∨ i = 2 ∨ i = 3 ∨ i = 4 ∨ i = 5 ∨ i = 6 ∨ i = 7 ∨ i = 8 ∨ i = 9 ∨ i = 10 := by omega
        rcases h with rfl | rfl | rfl | rfl | rfl | rfl | rfl | rfl | rfl | rfl | rfl
        · exact addR_s0 _ mb rb _ L _ _ hL hm hW k0 k8 hs rfl nl 
        · exact addR_s1 _ mb rb _ L _ _ hL hm hW k0 k8 hs rfl nl (hw 0 (by kernel_rfl))
        · exact addR_s2 _ mb rb _ L _ _ hL hm hW k0 k8 hs rfl nl (hw 1 (by kernel_rfl))
        · exact addR_s3 _ mb rb _ L _ _ hL hm hW k0 k8 hs rfl nl (hw 2 (by kernel_rfl))
        · exact addR_s4 _ mb rb _ L _ _ hL hm hW k0 k8 hs rfl nl 
        · exact addR_s5 _ mb rb _ L _ _ hL hm hW k0 k8 hs rfl nl (hw 3 (by kernel_rfl)) (hw 4 (by kernel_rfl))
        · exact addR_s6 _ mb rb _ L _ _ hL hm hW k0 k8 hs rfl nl (hw 5 (by kernel_rfl))
        · exact addR_s7 _ mb rb _ L _ _ hL hm hW k0 k8 hs rfl nl (hw 6 (by kernel_rfl))
        · exact addR_s8 _ mb rb _ L _ _ hL hm hW k0 k8 hs rfl nl (hw 6 (by kernel_rfl))
        · exact addR_s9 _ mb rb _ L _ _ hL hm hW k0 k8 hs rfl nl (hw 0 (by kernel_rfl)) (hw 1 (by kernel_rfl)) (hw 2 (by kernel_rfl)) (hw 3 (by kernel_rfl)) (hw 4 (by kernel_rfl)) (hw 5 (by kernel_rfl)) (hw 6 (by kernel_rfl)) (hw 7 (by kernel_rfl))
        · exact addR_s10 _ mb rb _ L _ _ hL hm hW k0 k8 hs rfl nl (hw 0 (by kernel_rfl)) (hw 1 (by kernel_rfl)) (hw 2 (by kernel_rfl)) (hw 3 (by kernel_rfl)) (hw 4 (by kernel_rfl)) (hw 5 (by kernel_rfl)) (hw 6 (by kernel_rfl)) (hw 7 (by kernel_rfl)) (hw 8 (by kernel_rfl)) (hw 9 (by kernel_rfl)))
    ?_
  intro ll aa W5 hall hst
  have hJ := Lib.hid hst.j
  have hfr := frame_end [(24, .pointer (some ⟨mb, 0, none⟩)), (25, .pointer (some ⟨mb, 0, none⟩)), (26, .pointer (some ⟨mb, 0, none⟩)), (27, .pointer (some ⟨rb, 0, none⟩)), (28, .agg L.toArray), (29, .tuple #[.int .i64 x, .bool b]), (23, .tuple #[.int .i64 x, .bool b]), (30, .int .i64 x), (31, .bool b), (10, .int .i64 x), (11, .bool b)] aa a0 hst.size hst.defs (by
    intro p hp
    simp only [List.mem_cons, List.not_mem_nil, or_false] at hp
    rcases hp with rfl | rfl | rfl | rfl | rfl | rfl | rfl | rfl | rfl | rfl | rfl
    · exact hst.get (i := 0) (by decide) (hall 0 (by decide)) rfl
    · exact hst.get (i := 1) (by decide) (hall 1 (by decide)) rfl
    · exact hst.get (i := 2) (by decide) (hall 2 (by decide)) rfl
    · exact hst.get (i := 3) (by decide) (hall 3 (by decide)) rfl
    · exact hst.get (i := 4) (by decide) (hall 4 (by decide)) rfl
    · exact hst.get (i := 5) (by decide) (hall 5 (by decide)) rfl
    · exact hst.get (i := 6) (by decide) (hall 6 (by decide)) rfl
    · exact hst.get (i := 7) (by decide) (hall 7 (by decide)) rfl
    · exact hst.get (i := 8) (by decide) (hall 8 (by decide)) rfl
    · exact hst.get (i := 9) (by decide) (hall 9 (by decide)) rfl
    · exact hst.get (i := 10) (by decide) (hall 10 (by decide)) rfl
    ) (fun t ht => hst.kept t (fun i hi => by
      have h : i = 0 ∨ i = 1 ∨ i = 2 ∨ i = 3 ∨ i = 4 ∨ i = 5 ∨ i = 6 ∨ i = 7 ∨ i = 8 ∨ i = 9 ∨ i = 10 := by omega
      rcases h with rfl | rfl | rfl | rfl | rfl | rfl | rfl | rfl | rfl | rfl | rfl
      · exact fun e => ht (by have e1 := Option.some.inj e; subst e1; simp)
      · exact fun e => ht (by have e1 := Option.some.inj e; subst e1; simp)
      · exact fun e => ht (by have e1 := Option.some.inj e; subst e1; simp)
      · exact fun e => ht (by have e1 := Option.some.inj e; subst e1; simp)
      · exact fun e => ht (by have e1 := Option.some.inj e; subst e1; simp)
      · exact fun e => ht (by have e1 := Option.some.inj e; subst e1; simp)
      · exact fun e => ht (by have e1 := Option.some.inj e; subst e1; simp)
      · exact fun e => ht (by have e1 := Option.some.inj e; subst e1; simp)
      · exact fun e => ht (by have e1 := Option.some.inj e; subst e1; simp)
      · exact fun e => ht (by have e1 := Option.some.inj e; subst e1; simp)
      · exact fun e => ht (by have e1 := Option.some.inj e; subst e1; simp)))
  rw [hfr, ← ha0]
  clear hfr
  simp only [List.foldl_cons, List.foldl_nil, Act.put, List.setIfInBounds_toArray, List.set_cons_succ, List.set_cons_zero]
  have HW5 := Lib.hid (hmT _ hJ.out)
  have HB5 := Lib.hid (HB4.out.old hJ.out)
  have HXB := Lib.hid hxb
  clear hJ hst hall hL hm hW hmT hxb k0 k8 hsz ha0 HW4 HB4 HWho
  cases b with
  | true =>
    have HM7 : Hid (m = ⟨.tuple #[.int .i64 x, .int .i64 7], l, nx⟩) := by
      have h1 := HXB.out
      have h2 := HAdd.out
      unfold whoA at h1
      cases hq : whoF l kind vs with
      | none => rw [hq] at h1; cases h1
      | some i => rw [hq] at h1 h2; cases h1; exact h2
    clear HAdd HXB HFL HFb HFull HPM HMnew HMade HPtr
    go_wp2_with fail
    go_ret2
    rw [HM7.out]
    exact ⟨rfl, ao, c, HMm.out _ HW5.out, (Touch.refl _ w).step HW5.out, NewB.refl _ _⟩
  | false =>
    have HM7 : Hid (m = if fb = true then ⟨.tuple #[.int .i64 0, .int .i64 5], l, nx⟩ else ⟨.tuple #[.int .i64 nx, .int .i64 0], l ++ [⟨nx, kind, vs⟩], nx + 1⟩) := by
      have h1 := HXB.out
      have h2 := HAdd.out
      unfold whoA at h1
      cases hq : whoF l kind vs with
      | none =>
        rw [hq] at h2
        rw [HFb.out]
        exact h2
      | some i => rw [hq] at h1; cases h1
    clear HAdd HXB
    have hp5 := HPtr.out W5 HW5.out
    have HFu := HFull.out W5 HW5.out
    cases fb with
    | true =>
      have HM8 : Hid (m = ⟨.tuple #[.int .i64 0, .int .i64 5], l, nx⟩) := by
        have := HM7.out
        rwa [if_pos rfl] at this
      clear HM7 HFL HFb HFull HPM HMnew HMade HPtr
      go_wp2_with (go_at_call 27; refine (HFu).mono ?_; rintro e w6 ⟨rfl, rfl⟩)
      go_ret2
      rw [HM8.out]
      exact ⟨rfl, ao, c, HMm.out _ HW5.out, (Touch.refl _ w).step HW5.out, NewB.refl _ _⟩
    | false =>
      have HM8 : Hid (m = ⟨.tuple #[.int .i64 nx, .int .i64 0], l ++ [⟨nx, kind, vs⟩], nx + 1⟩) := by
        have := HM7.out
        rwa [if_neg (by decide)] at this
      obtain ⟨hl256, hnx⟩ := HFL.out rfl
      have HP5 := Lib.hid (fun W (hW : Below W5.heap.size W5 W) => HPM.out W (HW5.out.trans (hW.mono HW5.out.size)) hl256 ⟨by omega, hnx⟩)
      have HPt5 := Lib.hid (fun W (hW : Below W5.heap.size W5 W) => HPtr.out W (HW5.out.trans (hW.mono HW5.out.size)))
      clear HM7 HFL HFull HMade HPtr HPM hl256 hnx
      go_upto_region 11 with (go_at_call 27; refine (HFu).mono ?_; rintro e w6 ⟨rfl, rfl⟩)
      have hP : ∀ W, Below W5.heap.size W5 W → Calls Try.prog 28 #[.pointer (some ⟨rb, 0, none⟩), .agg L.toArray] W fun e w' => e = .returned (.int .i64 nx) ∧ ∃ ao' c', Rw w' rb ao' c' (l ++ [⟨nx, kind, vs⟩]) (nx + 1) ∧ Touch (RowS rb ao) w w' ∧ NewB ao ao' w.heap.size := fun W hW => (HP5.out W hW).mono (by
        rintro e w' ⟨he, ao', c', h1, h2, h3⟩
        have hbl := HW5.out.trans (hW.mono HW5.out.size)
        exact ⟨he, ao', c', h1, ((Touch.refl _ w).step hbl).trans h2, h3.up hbl.size⟩)
      have hm : ∀ W, Below W5.heap.size W5 W → W.cell? ⟨mb, 0, none⟩ = some (.pointer (some ⟨rb, 0, none⟩)) ∧ W.rangeAt sb 0 L := fun W hW => ⟨HPt5.out W hW, (HB5.out.old hW).range⟩
      have hL := HL.out
      generalize ha0 : ({ tmps := _, defers := _ } : Act) = a0
      have k0 : a0.eval (.tmp 0) = .pointer (some ⟨mb, 0, none⟩) := by rw [← ha0]; rfl
      have k8 : a0.eval (.tmp 8) = .pointer (some ⟨sb, 0, none⟩) := by rw [← ha0]; rfl
      have hsz : a0.tmps.size = 45 := by rw [← ha0]; rfl
      refine wp_region_st putMD (putMF W5 mb rb sb L nx (fun w' => ∃ ao' c', Rw w' rb ao' c' (l ++ [⟨nx, kind, vs⟩]) (nx + 1) ∧ Touch (RowS rb ao) w w' ∧ NewB ao ao' w.heap.size)) (putMJ W5 mb rb sb L nx (fun w' => ∃ ao' c', Rw w' rb ao' c' (l ++ [⟨nx, kind, vs⟩]) (nx + 1) ∧ Touch (RowS rb ao) w w' ∧ NewB ao ao' w.heap.size)) 8 (by kernel_rfl) (by kernel_rfl) rfl (by kernel_rfl) (by rw [hsz]; kernel_rfl) ⟨fun _ => below_drew (Below.refl _ _), fun e => by cases e⟩
          (fun ll aa ww i hi hs nl hw => by
            have h : i = 0 ∨ i = 1 ∨ i = 2 ∨ i = 3 ∨ i = 4 ∨ i = 5 ∨ i = 6 ∨ i = 7 := by omega
            rcases h with rfl | rfl | rfl | rfl | rfl | rfl | rfl | rfl
            · exact putM_s0 _ mb rb _ L _ _ (by kernel_rfl) (by kernel_rfl) hL hm hP k0 k8 hs rfl nl 
            · exact putM_s1 _ mb rb _ L _ _ (by kernel_rfl) (by kernel_rfl) hL hm hP k0 k8 hs rfl nl (hw 0 (by kernel_rfl))
            · exact putM_s2 _ mb rb _ L _ _ (by kernel_rfl) (by kernel_rfl) hL hm hP k0 k8 hs rfl nl (hw 1 (by kernel_rfl))
            · exact putM_s3 _ mb rb _ L _ _ (by kernel_rfl) (by kernel_rfl) hL hm hP k0 k8 hs rfl nl (hw 2 (by kernel_rfl))
            · exact putM_s4 _ mb rb _ L _ _ (by kernel_rfl) (by kernel_rfl) hL hm hP k0 k8 hs rfl nl 
            · exact putM_s5 _ mb rb _ L _ _ (by kernel_rfl) (by kernel_rfl) hL hm hP k0 k8 hs rfl nl (hw 3 (by kernel_rfl)) (hw 4 (by kernel_rfl))
            · exact putM_s6 _ mb rb _ L _ _ (by kernel_rfl) (by kernel_rfl) hL hm hP k0 k8 hs rfl nl (hw 0 (by kernel_rfl)) (hw 1 (by kernel_rfl)) (hw 2 (by kernel_rfl)) (hw 3 (by kernel_rfl)) (hw 4 (by kernel_rfl)) (hw 5 (by kernel_rfl))
            · exact putM_s7 _ mb rb _ L _ _ (by kernel_rfl) (by kernel_rfl) hL hm hP k0 k8 hs rfl nl (hw 0 (by kernel_rfl)) (hw 1 (by kernel_rfl)) (hw 2 (by kernel_rfl)) (hw 3 (by kernel_rfl)) (hw 4 (by kernel_rfl)) (hw 5 (by kernel_rfl)) (hw 6 (by kernel_rfl)))
        ?_
      intro ll aa W7 hall hst
      obtain ⟨wb, ⟨ao', c', hr7, ht7, hn7⟩, hb7⟩ := hst.j.2 (hall 5 (by decide))
      have hRow := Lib.hid (hr7.old hb7)
      have hTch := Lib.hid (ht7.step hb7)
      have hNew := Lib.hid hn7
      have hfr := frame_end [(39, .pointer (some ⟨mb, 0, none⟩)), (40, .pointer (some ⟨mb, 0, none⟩)), (41, .pointer (some ⟨mb, 0, none⟩)), (42, .pointer (some ⟨rb, 0, none⟩)), (43, .agg L.toArray), (44, .int .i64 nx), (6, .int .i64 nx), (7, .int .i64 0)] aa a0 hst.size hst.defs (by
        intro p hp
        simp only [List.mem_cons, List.not_mem_nil, or_false] at hp
        rcases hp with rfl | rfl | rfl | rfl | rfl | rfl | rfl | rfl
        · exact hst.get (i := 0) (by decide) (hall 0 (by decide)) rfl
        · exact hst.get (i := 1) (by decide) (hall 1 (by decide)) rfl
        · exact hst.get (i := 2) (by decide) (hall 2 (by decide)) rfl
        · exact hst.get (i := 3) (by decide) (hall 3 (by decide)) rfl
        · exact hst.get (i := 4) (by decide) (hall 4 (by decide)) rfl
        · exact hst.get (i := 5) (by decide) (hall 5 (by decide)) rfl
        · exact hst.get (i := 6) (by decide) (hall 6 (by decide)) rfl
        · exact hst.get (i := 7) (by decide) (hall 7 (by decide)) rfl
        ) (fun t ht => hst.kept t (fun i hi => by
          have h : i = 0 ∨ i = 1 ∨ i = 2 ∨ i = 3 ∨ i = 4 ∨ i = 5 ∨ i = 6 ∨ i = 7 := by omega
          rcases h with rfl | rfl | rfl | rfl | rfl | rfl | rfl | rfl
          · exact fun e => ht (by have e1 := Option.some.inj e; subst e1; simp)
          · exact fun e => ht (by have e1 := Option.some.inj e; subst e1; simp)
          · exact fun e => ht (by have e1 := Option.some.inj e; subst e1; simp)
          · exact fun e => ht (by have e1 := Option.some.inj e; subst e1; simp)
          · exact fun e => ht (by have e1 := Option.some.inj e; subst e1; simp)
          · exact fun e => ht (by have e1 := Option.some.inj e; subst e1; simp)
          · exact fun e => ht (by have e1 := Option.some.inj e; subst e1; simp)
          · exact fun e => ht (by have e1 := Option.some.inj e; subst e1; simp)))
      rw [hfr, ← ha0]
      clear hfr
      simp only [List.foldl_cons, List.foldl_nil, Act.put, List.setIfInBounds_toArray, List.set_cons_succ, List.set_cons_zero]
      clear hst hall hL hm hP k0 k8 hsz ha0 hr7 ht7 hn7 hb7 HW5 HB5 HP5 HPt5 hp5 HFu
      go_wp2_with fail
      go_ret2
      rw [HM8.out]
      exact ⟨rfl, ao', c', HMnew.out _ _ _ HFb.out.symm (hrb.out _ hTch.out) hRow.out, hTch.out, hNew.out⟩
theorem add_any (kind : Int) (vs : List V3) (vo : Option Addr) (vc : Nat) (mb rb : Nat) (ao : Option Addr) (c : Nat) (l : List F11) (nx : Int) (w : World) (hM : Mm w mb rb ao c l nx) (hs : Sl10 w.heap.size w vs.length vo vc (cellsV vs)) (hx : ∀ v ∈ vs, v.2.2.size ≤ 140737488355328) (hn : vs.length ≤ 100000) :
    Calls Try.prog 7 #[.pointer (some ⟨mb, 0, none⟩), .int .i64 kind, .slice vo vs.length vc] w (BecomesP mb rb ao (addM l nx kind vs) w) := by
  cases h : mayB kind vs with
  | true => exact add_good kind vs vo vc mb rb ao c l nx w hM hs hx hn h _ rfl
  | false =>
    have e : addM l nx kind vs = ⟨.tuple #[.int .i64 0, .int .i64 2], l, nx⟩ := by unfold addM; rw [if_pos h]
    rw [e]
    exact add_bad kind vs vo vc mb rb ao c l nx w hM hs hx hn h
end Go.Proofs.Ytajhngkdnkbfcaa
