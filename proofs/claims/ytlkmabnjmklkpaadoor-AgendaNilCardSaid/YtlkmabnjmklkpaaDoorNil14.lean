/- AgendaNil: no agenda, and one that nobody made. -/
import Derived.Test.YtlkmabnjmklkpaaDoorAwake14
namespace Go.Proofs.YtlkmabnjmklkpaaDoor
open Go.RowKit
set_option maxRecDepth 100000

/-- Nobody made it, now or later. -/
def NotMade (p : Option Addr) (w : World) : Prop := ∀ W, Below w.heap.size w W → Calls Tryd.prog 18 #[.pointer p] W fun e w' => e = .returned (.bool false) ∧ w' = W
theorem NotMade.on {p : Option Addr} {w w' : World} (h : NotMade p w) (b : Below w.heap.size w w') : NotMade p w' := fun W hW => h W (b.trans (hW.mono b.size))
theorem notMade_none (w : World) : NotMade none w := fun W _ => made_none W
theorem notMade_zero {w : World} {db : Nat} (h : w.heap[db]? = some (.cells #[.pointer none] 29 (0, 0))) : NotMade (some ⟨db, 0, none⟩) w := fun W hW =>
  made_zero db W (Lib.cell_of_heap ((hW.block db (lt_of_heap h)).trans h) 0)
theorem next_nil (p : Option Addr) (w : World) (h : NotMade p w) : Calls Tryd.prog 6 #[.pointer p] w fun e w' => e = .returned (.tuple #[.agg #[.int .i64 0, .slice none 0 0], .bool false]) ∧ Below w.heap.size w w' := by
  have HB0 := Lib.hid (below_own (w := w) (.cells #[.int .i64 0, .slice none 0 0] 24))
  have KM := Lib.hid (h _ HB0.out)
  clear h
  go_enter Tryd.func6, Tryd.ntmps6
  go_wp2_with (go_at_call 18; refine KM.out.mono ?_; rintro e w1 ⟨rfl, rfl⟩)
  exact bodyPost_ret (v := .tuple #[.agg #[.int .i64 0, .slice none 0 0], .bool false]) (by simp [results, Tryd.results6, go_sem]) rfl ⟨rfl, HB0.out⟩
theorem set_nil (p : Option Addr) (ao : Option Addr) (n c : Nat) (w : World) (h : NotMade p w) : Calls Tryd.prog 7 #[.pointer p, .slice ao n c] w fun e w' => e = .returned (.int .i64 1) ∧ Below w.heap.size w w' := by
  have KM := Lib.hid (h w (Below.refl _ _))
  clear h
  go_enter Tryd.func7, Tryd.ntmps7
  go_wp2_with (go_at_call 18; refine KM.out.mono ?_; rintro e w1 ⟨rfl, rfl⟩)
  go_ret
  exact ⟨rfl, Below.refl _ _⟩
theorem fire_nil (p : Option Addr) (k : Int) (ao : Option Addr) (n c : Nat) (w : World) (h : NotMade p w) : Calls Tryd.prog 9 #[.pointer p, .agg #[.int .i64 k, .slice ao n c]] w fun e w' => e = .returned (.int .i64 1) ∧ Below w.heap.size w w' := by
  have HB0 := Lib.hid (below_own (w := w) (.cells #[.int .i64 k, .slice ao n c] 24))
  have KM := Lib.hid (h _ HB0.out)
  clear h
  go_enter Tryd.func9, Tryd.ntmps9
  go_wp2_with (go_at_call 18; refine KM.out.mono ?_; rintro e w1 ⟨rfl, rfl⟩)
  go_ret
  exact ⟨rfl, HB0.out⟩
theorem fired_nil (p : Option Addr) (w : World) (h : NotMade p w) : Calls Tryd.prog 10 #[.pointer p] w fun e w' => e = .returned (.slice none 0 0) ∧ Below w.heap.size w w' := by
  have KM := Lib.hid (h w (Below.refl _ _))
  clear h
  go_enter Tryd.func10, Tryd.ntmps10
  go_wp2_with (go_at_call 18; refine KM.out.mono ?_; rintro e w1 ⟨rfl, rfl⟩)
  go_ret
  exact ⟨rfl, Below.refl _ _⟩
def nlD (i : Nat) : Option Nat := ([some 24, some 25, some 26, some 27, some 28, some 29, some 30, some 31, some 32, some 33, some 34, some 35, some 36, some 37, some 38, some 39, some 40, some 41, some 42, some 43, some 44, some 45, some 46, some 47, some 48, some 49, some 50, some 51, some 52, some 53, some 54, some 55, some 56, some 57, some 58, some 59, some 60, some 61, some 62, some 63, some 64, some 65, some 66] : List (Option Nat)).getD i none
set_option linter.unusedVariables false in
def nlF (w9 : World) (g b1 b5 ix : Nat) (p : Option Addr) (k : Int) (ao : Option Addr) (n c : Nat) (l : Nat → Bool) (i : Nat) (w : World) (v : Value) : Prop :=
  match i with
  | 0 => v = .slice (some ⟨g, 0, none⟩) 2 2
  | 1 => v = .int .i64 (ix : Nat)
  | 2 => v = .pointer (some ⟨g, ix, none⟩)
  | 3 => v = .pointer p
  | 4 => v = .agg #[.int .i64 k, .slice ao n c]
  | 5 => ∃ q, v = .slice (some ⟨q, 0, none⟩) 1 1
  | 6 => v = .int .i64 1
  | 7 => v = .bool false
  | 8 => v = .bool false
  | 9 => v = .slice (some ⟨g, 0, none⟩) 2 2
  | 10 => v = .int .i64 (ix : Nat)
  | 11 => v = .pointer (some ⟨g, ix, none⟩)
  | 12 => v = .pointer p
  | 13 => v = .int .i64 1
  | 14 => v = .bool false
  | 15 => v = .bool false
  | 16 => v = .bool false
  | 17 => v = .bool false
  | 18 => v = .bool false
  | 19 => v = .bool false
  | 20 => v = .agg #[.int .i64 0, .slice none 0 0]
  | 21 => v = .agg #[.int .i64 0, .slice none 0 0]
  | 22 => v = .bool true
  | 23 => v = .bool false
  | 24 => v = .bool false
  | 25 => v = .bool false
  | 26 => v = .slice (some ⟨g, 0, none⟩) 2 2
  | 27 => v = .int .i64 (ix : Nat)
  | 28 => v = .pointer (some ⟨g, ix, none⟩)
  | 29 => v = .pointer p
  | 30 => v = .agg #[.int .i64 k, .slice ao n c]
  | 31 => v = .int .i64 1
  | 32 => v = .bool false
  | 33 => v = .bool false
  | 34 => v = .bool false
  | 35 => v = .slice (some ⟨g, 0, none⟩) 2 2
  | 36 => v = .int .i64 (ix : Nat)
  | 37 => v = .pointer (some ⟨g, ix, none⟩)
  | 38 => v = .pointer p
  | 39 => v = .slice none 0 0
  | 40 => v = .int .i64 0
  | 41 => v = .bool false
  | 42 => v = .bool false
  | _ => True
set_option linter.unusedVariables false in
def nlJ (w9 : World) (g b1 b5 ix : Nat) (p : Option Addr) (k : Int) (ao : Option Addr) (n c : Nat) (l : Nat → Bool) (w : World) : Prop := Below w9.heap.size w9 w
set_option linter.unusedVariables false in
theorem nl_mild (w9 : World) (g b1 b5 ix : Nat) (p : Option Addr) (k : Int) (ao : Option Addr) (n c : Nat) : Mild (nlF w9 g b1 b5 ix p k ao n c) (nlJ w9 g b1 b5 ix p k ao n c) := by
  refine ⟨fun l i j w w' v hb h => ?_, fun l i w w' hb h => ?_⟩
  · match j with
    | 0 => exact h
    | 1 => exact h
    | 2 => exact h
    | 3 => exact h
    | 4 => exact h
    | 5 => exact h
    | 6 => exact h
    | 7 => exact h
    | 8 => exact h
    | 9 => exact h
    | 10 => exact h
    | 11 => exact h
    | 12 => exact h
    | 13 => exact h
    | 14 => exact h
    | 15 => exact h
    | 16 => exact h
    | 17 => exact h
    | 18 => exact h
    | 19 => exact h
    | 20 => exact h
    | 21 => exact h
    | 22 => exact h
    | 23 => exact h
    | 24 => exact h
    | 25 => exact h
    | 26 => exact h
    | 27 => exact h
    | 28 => exact h
    | 29 => exact h
    | 30 => exact h
    | 31 => exact h
    | 32 => exact h
    | 33 => exact h
    | 34 => exact h
    | 35 => exact h
    | 36 => exact h
    | 37 => exact h
    | 38 => exact h
    | 39 => exact h
    | 40 => exact h
    | 41 => exact h
    | 42 => exact h
    | k + 43 => trivial
  · exact h.trans (hb.mono h.size)
set_option linter.unusedVariables false in
theorem nl_s0 (w9 : World) (g b1 b5 ix : Nat) (p : Option Addr) (k : Int) (ao : Option Addr) (n c : Nat) {ops : Array Oper} {Q : Exit → Act → World → Prop} {a0 a : Act} {w : World} {l : Nat → Bool} {ty : TypeId} {pos : String} {after : Array Edge} (e_3 : a0.eval (.tmp 3) = .slice (some ⟨g, 0, none⟩) 2 2) (e_4 : a0.eval (.tmp 4) = .int .i64 (ix : Nat)) (e_1 : a0.eval (.tmp 1) = .pointer (some ⟨b1, 0, none⟩)) (e_5 : a0.eval (.tmp 5) = .pointer (some ⟨b5, 0, none⟩)) (e_6 : a0.eval (.tmp 6) = .bool false) (hi2 : ix = 0 ∨ ix = 1) (hm : ∀ W, Below w9.heap.size w9 W → W.cell? ⟨g, ix, none⟩ = some (.pointer p) ∧ W.heap[b1]? = some (.cells #[.int .i64 k, .slice ao n c] 24 (0, 0)) ∧ W.heap[b5]? = some (.cells #[.int .i64 0, .slice none 0 0] 24 (0, 0))) (hSet : ∀ W, Below w9.heap.size w9 W → ∀ (ao : Option Addr) (n c : Nat), Calls Tryd.prog 7 #[.pointer p, .slice ao n c] W fun e w' => e = .returned (.int .i64 1) ∧ Below W.heap.size W w') (hFire : ∀ W, Below w9.heap.size w9 W → ∀ (k : Int) (ao : Option Addr) (n c : Nat), Calls Tryd.prog 9 #[.pointer p, .agg #[.int .i64 k, .slice ao n c]] W fun e w' => e = .returned (.int .i64 1) ∧ Below W.heap.size W w') (hFired : ∀ W, Below w9.heap.size w9 W → Calls Tryd.prog 10 #[.pointer p] W fun e w' => e = .returned (.slice none 0 0) ∧ Below W.heap.size W w') (hs : St ops nlD (nlF w9 g b1 b5 ix p k ao n c) (nlJ w9 g b1 b5 ix p k ao n c) 43 a0 l a w) (hi : ops[0]? = some { dst := some 24, op := Op.move (Operand.tmp 3), type := ty, pos := pos, after := after, guard := none }) (nl : l 0 = false)  : wpOp Tryd.prog ops Q 0 (Did nlD (nlF w9 g b1 b5 ix p k ao n c) (nlJ w9 g b1 b5 ix p k ao n c) 43 l 0 a) a w := by
  have e3 : a.eval (.tmp 3) = .slice (some ⟨g, 0, none⟩) 2 2 := (hs.kept 3 (by decide)).trans (e_3)
  have hK := did (nl_mild w9 g b1 b5 ix p k ao n c) hs (v := .slice (some ⟨g, 0, none⟩) 2 2) (d := 24) (i := 0) rfl (Below.refl _ w) rfl
  refine wpOp_move hi ?_
  rw [e3]
  exact hK
set_option linter.unusedVariables false in
theorem nl_s1 (w9 : World) (g b1 b5 ix : Nat) (p : Option Addr) (k : Int) (ao : Option Addr) (n c : Nat) {ops : Array Oper} {Q : Exit → Act → World → Prop} {a0 a : Act} {w : World} {l : Nat → Bool} {ty : TypeId} {pos : String} {after : Array Edge} (e_3 : a0.eval (.tmp 3) = .slice (some ⟨g, 0, none⟩) 2 2) (e_4 : a0.eval (.tmp 4) = .int .i64 (ix : Nat)) (e_1 : a0.eval (.tmp 1) = .pointer (some ⟨b1, 0, none⟩)) (e_5 : a0.eval (.tmp 5) = .pointer (some ⟨b5, 0, none⟩)) (e_6 : a0.eval (.tmp 6) = .bool false) (hi2 : ix = 0 ∨ ix = 1) (hm : ∀ W, Below w9.heap.size w9 W → W.cell? ⟨g, ix, none⟩ = some (.pointer p) ∧ W.heap[b1]? = some (.cells #[.int .i64 k, .slice ao n c] 24 (0, 0)) ∧ W.heap[b5]? = some (.cells #[.int .i64 0, .slice none 0 0] 24 (0, 0))) (hSet : ∀ W, Below w9.heap.size w9 W → ∀ (ao : Option Addr) (n c : Nat), Calls Tryd.prog 7 #[.pointer p, .slice ao n c] W fun e w' => e = .returned (.int .i64 1) ∧ Below W.heap.size W w') (hFire : ∀ W, Below w9.heap.size w9 W → ∀ (k : Int) (ao : Option Addr) (n c : Nat), Calls Tryd.prog 9 #[.pointer p, .agg #[.int .i64 k, .slice ao n c]] W fun e w' => e = .returned (.int .i64 1) ∧ Below W.heap.size W w') (hFired : ∀ W, Below w9.heap.size w9 W → Calls Tryd.prog 10 #[.pointer p] W fun e w' => e = .returned (.slice none 0 0) ∧ Below W.heap.size W w') (hs : St ops nlD (nlF w9 g b1 b5 ix p k ao n c) (nlJ w9 g b1 b5 ix p k ao n c) 43 a0 l a w) (hi : ops[1]? = some { dst := some 25, op := Op.move (Operand.tmp 4), type := ty, pos := pos, after := after, guard := none }) (nl : l 1 = false)  : wpOp Tryd.prog ops Q 1 (Did nlD (nlF w9 g b1 b5 ix p k ao n c) (nlJ w9 g b1 b5 ix p k ao n c) 43 l 1 a) a w := by
  have e4 : a.eval (.tmp 4) = .int .i64 (ix : Nat) := (hs.kept 4 (by decide)).trans (e_4)
  have hK := did (nl_mild w9 g b1 b5 ix p k ao n c) hs (v := .int .i64 (ix : Nat)) (d := 25) (i := 1) rfl (Below.refl _ w) rfl
  refine wpOp_move hi ?_
  rw [e4]
  exact hK
set_option linter.unusedVariables false in
theorem nl_s2 (w9 : World) (g b1 b5 ix : Nat) (p : Option Addr) (k : Int) (ao : Option Addr) (n c : Nat) {ops : Array Oper} {Q : Exit → Act → World → Prop} {a0 a : Act} {w : World} {l : Nat → Bool} {ty : TypeId} {pos : String} {after : Array Edge} (e_3 : a0.eval (.tmp 3) = .slice (some ⟨g, 0, none⟩) 2 2) (e_4 : a0.eval (.tmp 4) = .int .i64 (ix : Nat)) (e_1 : a0.eval (.tmp 1) = .pointer (some ⟨b1, 0, none⟩)) (e_5 : a0.eval (.tmp 5) = .pointer (some ⟨b5, 0, none⟩)) (e_6 : a0.eval (.tmp 6) = .bool false) (hi2 : ix = 0 ∨ ix = 1) (hm : ∀ W, Below w9.heap.size w9 W → W.cell? ⟨g, ix, none⟩ = some (.pointer p) ∧ W.heap[b1]? = some (.cells #[.int .i64 k, .slice ao n c] 24 (0, 0)) ∧ W.heap[b5]? = some (.cells #[.int .i64 0, .slice none 0 0] 24 (0, 0))) (hSet : ∀ W, Below w9.heap.size w9 W → ∀ (ao : Option Addr) (n c : Nat), Calls Tryd.prog 7 #[.pointer p, .slice ao n c] W fun e w' => e = .returned (.int .i64 1) ∧ Below W.heap.size W w') (hFire : ∀ W, Below w9.heap.size w9 W → ∀ (k : Int) (ao : Option Addr) (n c : Nat), Calls Tryd.prog 9 #[.pointer p, .agg #[.int .i64 k, .slice ao n c]] W fun e w' => e = .returned (.int .i64 1) ∧ Below W.heap.size W w') (hFired : ∀ W, Below w9.heap.size w9 W → Calls Tryd.prog 10 #[.pointer p] W fun e w' => e = .returned (.slice none 0 0) ∧ Below W.heap.size W w') (hs : St ops nlD (nlF w9 g b1 b5 ix p k ao n c) (nlJ w9 g b1 b5 ix p k ao n c) 43 a0 l a w) (hi : ops[2]? = some { dst := some 26, op := Op.indexAddr 30 (Operand.tmp 24) (Operand.tmp 25), type := ty, pos := pos, after := after, guard := none }) (nl : l 2 = false) (q0 : l 0 = true) (q1 : l 1 = true) : wpOp Tryd.prog ops Q 2 (Did nlD (nlF w9 g b1 b5 ix p k ao n c) (nlJ w9 g b1 b5 ix p k ao n c) 43 l 2 a) a w := by
  have e24 : nlF w9 g b1 b5 ix p k ao n c l 0 w (a.eval (.tmp 24)) := hs.get (by decide) q0 rfl
  have e25 : nlF w9 g b1 b5 ix p k ao n c l 1 w (a.eval (.tmp 25)) := hs.get (by decide) q1 rfl
  have f24 : a.eval (.tmp 24) = .slice (some ⟨g, 0, none⟩) 2 2 := e24
  clear e24
  have f25 : a.eval (.tmp 25) = .int .i64 (ix : Nat) := e25
  clear e25
  have hK := did (nl_mild w9 g b1 b5 ix p k ao n c) hs (v := .pointer (some ⟨g, ix, none⟩)) (d := 26) (i := 2) rfl (Below.refl _ w) rfl
  refine wpOp_goW hi rfl ?_
  unfold Oper.wp
  have KK := Lib.hid hK
  clear hK hi hs
  generalize a.eval = ρ at *
  rcases hi2 with rfl | rfl
  · go_simp
    exact KK.out
  · go_simp
    exact KK.out
set_option linter.unusedVariables false in
theorem nl_s3 (w9 : World) (g b1 b5 ix : Nat) (p : Option Addr) (k : Int) (ao : Option Addr) (n c : Nat) {ops : Array Oper} {Q : Exit → Act → World → Prop} {a0 a : Act} {w : World} {l : Nat → Bool} {ty : TypeId} {pos : String} {after : Array Edge} (e_3 : a0.eval (.tmp 3) = .slice (some ⟨g, 0, none⟩) 2 2) (e_4 : a0.eval (.tmp 4) = .int .i64 (ix : Nat)) (e_1 : a0.eval (.tmp 1) = .pointer (some ⟨b1, 0, none⟩)) (e_5 : a0.eval (.tmp 5) = .pointer (some ⟨b5, 0, none⟩)) (e_6 : a0.eval (.tmp 6) = .bool false) (hi2 : ix = 0 ∨ ix = 1) (hm : ∀ W, Below w9.heap.size w9 W → W.cell? ⟨g, ix, none⟩ = some (.pointer p) ∧ W.heap[b1]? = some (.cells #[.int .i64 k, .slice ao n c] 24 (0, 0)) ∧ W.heap[b5]? = some (.cells #[.int .i64 0, .slice none 0 0] 24 (0, 0))) (hSet : ∀ W, Below w9.heap.size w9 W → ∀ (ao : Option Addr) (n c : Nat), Calls Tryd.prog 7 #[.pointer p, .slice ao n c] W fun e w' => e = .returned (.int .i64 1) ∧ Below W.heap.size W w') (hFire : ∀ W, Below w9.heap.size w9 W → ∀ (k : Int) (ao : Option Addr) (n c : Nat), Calls Tryd.prog 9 #[.pointer p, .agg #[.int .i64 k, .slice ao n c]] W fun e w' => e = .returned (.int .i64 1) ∧ Below W.heap.size W w') (hFired : ∀ W, Below w9.heap.size w9 W → Calls Tryd.prog 10 #[.pointer p] W fun e w' => e = .returned (.slice none 0 0) ∧ Below W.heap.size W w') (hs : St ops nlD (nlF w9 g b1 b5 ix p k ao n c) (nlJ w9 g b1 b5 ix p k ao n c) 43 a0 l a w) (hi : ops[3]? = some { dst := some 27, op := Op.load 26 (Operand.tmp 26), type := ty, pos := pos, after := after, guard := none }) (nl : l 3 = false) (q2 : l 2 = true) : wpOp Tryd.prog ops Q 3 (Did nlD (nlF w9 g b1 b5 ix p k ao n c) (nlJ w9 g b1 b5 ix p k ao n c) 43 l 3 a) a w := by
  have e26 : nlF w9 g b1 b5 ix p k ao n c l 2 w (a.eval (.tmp 26)) := hs.get (by decide) q2 rfl
  have f26 : a.eval (.tmp 26) = .pointer (some ⟨g, ix, none⟩) := e26
  clear e26
  have hc := (hm w hs.j).1
  have hK := did (nl_mild w9 g b1 b5 ix p k ao n c) hs (v := .pointer p) (d := 27) (i := 3) rfl (Below.refl _ w) rfl
  refine wpOp_goW hi rfl ?_
  unfold Oper.wp
  have KK := Lib.hid hK
  clear hK hi hs
  generalize a.eval = ρ at *
  go_simp
  exact KK.out
set_option linter.unusedVariables false in
theorem nl_s4 (w9 : World) (g b1 b5 ix : Nat) (p : Option Addr) (k : Int) (ao : Option Addr) (n c : Nat) {ops : Array Oper} {Q : Exit → Act → World → Prop} {a0 a : Act} {w : World} {l : Nat → Bool} {ty : TypeId} {pos : String} {after : Array Edge} (e_3 : a0.eval (.tmp 3) = .slice (some ⟨g, 0, none⟩) 2 2) (e_4 : a0.eval (.tmp 4) = .int .i64 (ix : Nat)) (e_1 : a0.eval (.tmp 1) = .pointer (some ⟨b1, 0, none⟩)) (e_5 : a0.eval (.tmp 5) = .pointer (some ⟨b5, 0, none⟩)) (e_6 : a0.eval (.tmp 6) = .bool false) (hi2 : ix = 0 ∨ ix = 1) (hm : ∀ W, Below w9.heap.size w9 W → W.cell? ⟨g, ix, none⟩ = some (.pointer p) ∧ W.heap[b1]? = some (.cells #[.int .i64 k, .slice ao n c] 24 (0, 0)) ∧ W.heap[b5]? = some (.cells #[.int .i64 0, .slice none 0 0] 24 (0, 0))) (hSet : ∀ W, Below w9.heap.size w9 W → ∀ (ao : Option Addr) (n c : Nat), Calls Tryd.prog 7 #[.pointer p, .slice ao n c] W fun e w' => e = .returned (.int .i64 1) ∧ Below W.heap.size W w') (hFire : ∀ W, Below w9.heap.size w9 W → ∀ (k : Int) (ao : Option Addr) (n c : Nat), Calls Tryd.prog 9 #[.pointer p, .agg #[.int .i64 k, .slice ao n c]] W fun e w' => e = .returned (.int .i64 1) ∧ Below W.heap.size W w') (hFired : ∀ W, Below w9.heap.size w9 W → Calls Tryd.prog 10 #[.pointer p] W fun e w' => e = .returned (.slice none 0 0) ∧ Below W.heap.size W w') (hs : St ops nlD (nlF w9 g b1 b5 ix p k ao n c) (nlJ w9 g b1 b5 ix p k ao n c) 43 a0 l a w) (hi : ops[4]? = some { dst := some 28, op := Op.load 24 (Operand.tmp 1), type := ty, pos := pos, after := after, guard := none }) (nl : l 4 = false)  : wpOp Tryd.prog ops Q 4 (Did nlD (nlF w9 g b1 b5 ix p k ao n c) (nlJ w9 g b1 b5 ix p k ao n c) 43 l 4 a) a w := by
  have e1 : a.eval (.tmp 1) = .pointer (some ⟨b1, 0, none⟩) := (hs.kept 1 (by decide)).trans (e_1)
  exact wpOp_ldK hi rfl e1 ((hm w hs.j).2.1) (did (nl_mild w9 g b1 b5 ix p k ao n c) hs (d := 28) (i := 4) rfl (Below.refl _ w) rfl)
set_option linter.unusedVariables false in
theorem nl_s5 (w9 : World) (g b1 b5 ix : Nat) (p : Option Addr) (k : Int) (ao : Option Addr) (n c : Nat) {ops : Array Oper} {Q : Exit → Act → World → Prop} {a0 a : Act} {w : World} {l : Nat → Bool} {ty : TypeId} {pos : String} {after : Array Edge} (e_3 : a0.eval (.tmp 3) = .slice (some ⟨g, 0, none⟩) 2 2) (e_4 : a0.eval (.tmp 4) = .int .i64 (ix : Nat)) (e_1 : a0.eval (.tmp 1) = .pointer (some ⟨b1, 0, none⟩)) (e_5 : a0.eval (.tmp 5) = .pointer (some ⟨b5, 0, none⟩)) (e_6 : a0.eval (.tmp 6) = .bool false) (hi2 : ix = 0 ∨ ix = 1) (hm : ∀ W, Below w9.heap.size w9 W → W.cell? ⟨g, ix, none⟩ = some (.pointer p) ∧ W.heap[b1]? = some (.cells #[.int .i64 k, .slice ao n c] 24 (0, 0)) ∧ W.heap[b5]? = some (.cells #[.int .i64 0, .slice none 0 0] 24 (0, 0))) (hSet : ∀ W, Below w9.heap.size w9 W → ∀ (ao : Option Addr) (n c : Nat), Calls Tryd.prog 7 #[.pointer p, .slice ao n c] W fun e w' => e = .returned (.int .i64 1) ∧ Below W.heap.size W w') (hFire : ∀ W, Below w9.heap.size w9 W → ∀ (k : Int) (ao : Option Addr) (n c : Nat), Calls Tryd.prog 9 #[.pointer p, .agg #[.int .i64 k, .slice ao n c]] W fun e w' => e = .returned (.int .i64 1) ∧ Below W.heap.size W w') (hFired : ∀ W, Below w9.heap.size w9 W → Calls Tryd.prog 10 #[.pointer p] W fun e w' => e = .returned (.slice none 0 0) ∧ Below W.heap.size W w') (hs : St ops nlD (nlF w9 g b1 b5 ix p k ao n c) (nlJ w9 g b1 b5 ix p k ao n c) 43 a0 l a w) (hi : ops[5]? = some { dst := some 29, op := Op.buildSlice 37 1 #[(0, Operand.tmp 28)], type := ty, pos := pos, after := after, guard := none }) (nl : l 5 = false) (q4 : l 4 = true) : wpOp Tryd.prog ops Q 5 (Did nlD (nlF w9 g b1 b5 ix p k ao n c) (nlJ w9 g b1 b5 ix p k ao n c) 43 l 5 a) a w := by
  have e28 : nlF w9 g b1 b5 ix p k ao n c l 4 w (a.eval (.tmp 28)) := hs.get (by decide) q4 rfl
  have f28 : a.eval (.tmp 28) = .agg #[.int .i64 k, .slice ao n c] := e28
  clear e28
  have hK := did (nl_mild w9 g b1 b5 ix p k ao n c) hs (v := .slice (some ⟨w.heap.size, 0, none⟩) 1 1) (d := 29) (i := 5) rfl (below_own (.cells #[.int .i64 k, .slice ao n c] 24)) ⟨w.heap.size, rfl⟩
  refine wpOp_goW hi rfl ?_
  unfold Oper.wp
  have KK := Lib.hid hK
  clear hK hi hs
  generalize a.eval = ρ at *
  go_simp
  exact KK.out
set_option linter.unusedVariables false in
theorem nl_s6 (w9 : World) (g b1 b5 ix : Nat) (p : Option Addr) (k : Int) (ao : Option Addr) (n c : Nat) {ops : Array Oper} {Q : Exit → Act → World → Prop} {a0 a : Act} {w : World} {l : Nat → Bool} {ty : TypeId} {pos : String} {after : Array Edge} (e_3 : a0.eval (.tmp 3) = .slice (some ⟨g, 0, none⟩) 2 2) (e_4 : a0.eval (.tmp 4) = .int .i64 (ix : Nat)) (e_1 : a0.eval (.tmp 1) = .pointer (some ⟨b1, 0, none⟩)) (e_5 : a0.eval (.tmp 5) = .pointer (some ⟨b5, 0, none⟩)) (e_6 : a0.eval (.tmp 6) = .bool false) (hi2 : ix = 0 ∨ ix = 1) (hm : ∀ W, Below w9.heap.size w9 W → W.cell? ⟨g, ix, none⟩ = some (.pointer p) ∧ W.heap[b1]? = some (.cells #[.int .i64 k, .slice ao n c] 24 (0, 0)) ∧ W.heap[b5]? = some (.cells #[.int .i64 0, .slice none 0 0] 24 (0, 0))) (hSet : ∀ W, Below w9.heap.size w9 W → ∀ (ao : Option Addr) (n c : Nat), Calls Tryd.prog 7 #[.pointer p, .slice ao n c] W fun e w' => e = .returned (.int .i64 1) ∧ Below W.heap.size W w') (hFire : ∀ W, Below w9.heap.size w9 W → ∀ (k : Int) (ao : Option Addr) (n c : Nat), Calls Tryd.prog 9 #[.pointer p, .agg #[.int .i64 k, .slice ao n c]] W fun e w' => e = .returned (.int .i64 1) ∧ Below W.heap.size W w') (hFired : ∀ W, Below w9.heap.size w9 W → Calls Tryd.prog 10 #[.pointer p] W fun e w' => e = .returned (.slice none 0 0) ∧ Below W.heap.size W w') (hs : St ops nlD (nlF w9 g b1 b5 ix p k ao n c) (nlJ w9 g b1 b5 ix p k ao n c) 43 a0 l a w) (hi : ops[6]? = some { dst := some 30, op := Op.call { callee := Callee.value (Operand.func 7), args := #[Operand.tmp 27, Operand.tmp 29], argTypes := #[26, 37] }, type := ty, pos := pos, after := after, guard := none }) (nl : l 6 = false) (q3 : l 3 = true) (q5 : l 5 = true) : wpOp Tryd.prog ops Q 6 (Did nlD (nlF w9 g b1 b5 ix p k ao n c) (nlJ w9 g b1 b5 ix p k ao n c) 43 l 6 a) a w := by
  have e27 : nlF w9 g b1 b5 ix p k ao n c l 3 w (a.eval (.tmp 27)) := hs.get (by decide) q3 rfl
  have e29 : nlF w9 g b1 b5 ix p k ao n c l 5 w (a.eval (.tmp 29)) := hs.get (by decide) q5 rfl
  have f27 : a.eval (.tmp 27) = .pointer p := e27
  clear e27
  obtain ⟨q, f29⟩ := e29
  refine wpOp_callW (vs := #[.pointer p, .slice (some ⟨q, 0, none⟩) 1 1]) hi rfl (enters_of Tryd.func7 (by kernel_rfl) rfl) (by simp [f27, f29]) ?_
  refine (hSet w hs.j _ _ _).mono ?_
  rintro e w' ⟨rfl, hb⟩
  exact ⟨_, rfl, did (nl_mild w9 g b1 b5 ix p k ao n c) hs (d := 30) (i := 6) rfl hb rfl⟩
set_option linter.unusedVariables false in
theorem nl_s7 (w9 : World) (g b1 b5 ix : Nat) (p : Option Addr) (k : Int) (ao : Option Addr) (n c : Nat) {ops : Array Oper} {Q : Exit → Act → World → Prop} {a0 a : Act} {w : World} {l : Nat → Bool} {ty : TypeId} {pos : String} {after : Array Edge} (e_3 : a0.eval (.tmp 3) = .slice (some ⟨g, 0, none⟩) 2 2) (e_4 : a0.eval (.tmp 4) = .int .i64 (ix : Nat)) (e_1 : a0.eval (.tmp 1) = .pointer (some ⟨b1, 0, none⟩)) (e_5 : a0.eval (.tmp 5) = .pointer (some ⟨b5, 0, none⟩)) (e_6 : a0.eval (.tmp 6) = .bool false) (hi2 : ix = 0 ∨ ix = 1) (hm : ∀ W, Below w9.heap.size w9 W → W.cell? ⟨g, ix, none⟩ = some (.pointer p) ∧ W.heap[b1]? = some (.cells #[.int .i64 k, .slice ao n c] 24 (0, 0)) ∧ W.heap[b5]? = some (.cells #[.int .i64 0, .slice none 0 0] 24 (0, 0))) (hSet : ∀ W, Below w9.heap.size w9 W → ∀ (ao : Option Addr) (n c : Nat), Calls Tryd.prog 7 #[.pointer p, .slice ao n c] W fun e w' => e = .returned (.int .i64 1) ∧ Below W.heap.size W w') (hFire : ∀ W, Below w9.heap.size w9 W → ∀ (k : Int) (ao : Option Addr) (n c : Nat), Calls Tryd.prog 9 #[.pointer p, .agg #[.int .i64 k, .slice ao n c]] W fun e w' => e = .returned (.int .i64 1) ∧ Below W.heap.size W w') (hFired : ∀ W, Below w9.heap.size w9 W → Calls Tryd.prog 10 #[.pointer p] W fun e w' => e = .returned (.slice none 0 0) ∧ Below W.heap.size W w') (hs : St ops nlD (nlF w9 g b1 b5 ix p k ao n c) (nlJ w9 g b1 b5 ix p k ao n c) 43 a0 l a w) (hi : ops[7]? = some { dst := some 31, op := Op.binOp BinOp.neq 3 (Operand.tmp 30) (Operand.const (Value.int IntKind.i64 1)) 3, type := ty, pos := pos, after := after, guard := none }) (nl : l 7 = false) (q6 : l 6 = true) : wpOp Tryd.prog ops Q 7 (Did nlD (nlF w9 g b1 b5 ix p k ao n c) (nlJ w9 g b1 b5 ix p k ao n c) 43 l 7 a) a w := by
  have e30 : nlF w9 g b1 b5 ix p k ao n c l 6 w (a.eval (.tmp 30)) := hs.get (by decide) q6 rfl
  have e30 : a.eval (.tmp 30) = .int .i64 1 := e30
  have hK := did (nl_mild w9 g b1 b5 ix p k ao n c) hs (v := .bool false) (d := 31) (i := 7) rfl (Below.refl _ w) rfl
  refine wpOp_go hi rfl ?_
  unfold Oper.wp
  have KK := Lib.hid hK
  clear hK hi
  have ec1 : a.eval (.const (.bool true)) = .bool true := rfl
  have ec2 : a.eval (.const (.int .i64 1)) = .int .i64 1 := rfl
  have ec3 : a.eval (.const (.int .i64 0)) = .int .i64 0 := rfl
  generalize a.eval = ρ at *
  go_simp
  exact KK.out
set_option linter.unusedVariables false in
theorem nl_s8 (w9 : World) (g b1 b5 ix : Nat) (p : Option Addr) (k : Int) (ao : Option Addr) (n c : Nat) {ops : Array Oper} {Q : Exit → Act → World → Prop} {a0 a : Act} {w : World} {l : Nat → Bool} {ty : TypeId} {pos : String} {after : Array Edge} (e_3 : a0.eval (.tmp 3) = .slice (some ⟨g, 0, none⟩) 2 2) (e_4 : a0.eval (.tmp 4) = .int .i64 (ix : Nat)) (e_1 : a0.eval (.tmp 1) = .pointer (some ⟨b1, 0, none⟩)) (e_5 : a0.eval (.tmp 5) = .pointer (some ⟨b5, 0, none⟩)) (e_6 : a0.eval (.tmp 6) = .bool false) (hi2 : ix = 0 ∨ ix = 1) (hm : ∀ W, Below w9.heap.size w9 W → W.cell? ⟨g, ix, none⟩ = some (.pointer p) ∧ W.heap[b1]? = some (.cells #[.int .i64 k, .slice ao n c] 24 (0, 0)) ∧ W.heap[b5]? = some (.cells #[.int .i64 0, .slice none 0 0] 24 (0, 0))) (hSet : ∀ W, Below w9.heap.size w9 W → ∀ (ao : Option Addr) (n c : Nat), Calls Tryd.prog 7 #[.pointer p, .slice ao n c] W fun e w' => e = .returned (.int .i64 1) ∧ Below W.heap.size W w') (hFire : ∀ W, Below w9.heap.size w9 W → ∀ (k : Int) (ao : Option Addr) (n c : Nat), Calls Tryd.prog 9 #[.pointer p, .agg #[.int .i64 k, .slice ao n c]] W fun e w' => e = .returned (.int .i64 1) ∧ Below W.heap.size W w') (hFired : ∀ W, Below w9.heap.size w9 W → Calls Tryd.prog 10 #[.pointer p] W fun e w' => e = .returned (.slice none 0 0) ∧ Below W.heap.size W w') (hs : St ops nlD (nlF w9 g b1 b5 ix p k ao n c) (nlJ w9 g b1 b5 ix p k ao n c) 43 a0 l a w) (hi : ops[8]? = some { dst := some 32, op := Op.move (Operand.tmp 31), type := ty, pos := pos, after := after, guard := none }) (nl : l 8 = false) (q6 : l 6 = true) (q7 : l 7 = true) : wpOp Tryd.prog ops Q 8 (Did nlD (nlF w9 g b1 b5 ix p k ao n c) (nlJ w9 g b1 b5 ix p k ao n c) 43 l 8 a) a w := by
  have e31 : nlF w9 g b1 b5 ix p k ao n c l 7 w (a.eval (.tmp 31)) := hs.get (by decide) q7 rfl
  have e31 : a.eval (.tmp 31) = .bool false := e31
  have hK := did (nl_mild w9 g b1 b5 ix p k ao n c) hs (v := .bool false) (d := 32) (i := 8) rfl (Below.refl _ w) rfl
  refine wpOp_move hi ?_
  rw [e31]
  exact hK
set_option linter.unusedVariables false in
theorem nl_s9 (w9 : World) (g b1 b5 ix : Nat) (p : Option Addr) (k : Int) (ao : Option Addr) (n c : Nat) {ops : Array Oper} {Q : Exit → Act → World → Prop} {a0 a : Act} {w : World} {l : Nat → Bool} {ty : TypeId} {pos : String} {after : Array Edge} (e_3 : a0.eval (.tmp 3) = .slice (some ⟨g, 0, none⟩) 2 2) (e_4 : a0.eval (.tmp 4) = .int .i64 (ix : Nat)) (e_1 : a0.eval (.tmp 1) = .pointer (some ⟨b1, 0, none⟩)) (e_5 : a0.eval (.tmp 5) = .pointer (some ⟨b5, 0, none⟩)) (e_6 : a0.eval (.tmp 6) = .bool false) (hi2 : ix = 0 ∨ ix = 1) (hm : ∀ W, Below w9.heap.size w9 W → W.cell? ⟨g, ix, none⟩ = some (.pointer p) ∧ W.heap[b1]? = some (.cells #[.int .i64 k, .slice ao n c] 24 (0, 0)) ∧ W.heap[b5]? = some (.cells #[.int .i64 0, .slice none 0 0] 24 (0, 0))) (hSet : ∀ W, Below w9.heap.size w9 W → ∀ (ao : Option Addr) (n c : Nat), Calls Tryd.prog 7 #[.pointer p, .slice ao n c] W fun e w' => e = .returned (.int .i64 1) ∧ Below W.heap.size W w') (hFire : ∀ W, Below w9.heap.size w9 W → ∀ (k : Int) (ao : Option Addr) (n c : Nat), Calls Tryd.prog 9 #[.pointer p, .agg #[.int .i64 k, .slice ao n c]] W fun e w' => e = .returned (.int .i64 1) ∧ Below W.heap.size W w') (hFired : ∀ W, Below w9.heap.size w9 W → Calls Tryd.prog 10 #[.pointer p] W fun e w' => e = .returned (.slice none 0 0) ∧ Below W.heap.size W w') (hs : St ops nlD (nlF w9 g b1 b5 ix p k ao n c) (nlJ w9 g b1 b5 ix p k ao n c) 43 a0 l a w) (hi : ops[9]? = some { dst := some 33, op := Op.move (Operand.tmp 3), type := ty, pos := pos, after := after, guard := some (8, false) }) (hg : Region.wanted { dst := some 33, op := Op.move (Operand.tmp 3), type := ty, pos := pos, after := after, guard := some (8, false) } (yielded ops a.tmps) = true) (nl : l 9 = false) (q8 : l 8 = true) : wpOp Tryd.prog ops Q 9 (Did nlD (nlF w9 g b1 b5 ix p k ao n c) (nlJ w9 g b1 b5 ix p k ao n c) 43 l 9 a) a w := by
  have e3 : a.eval (.tmp 3) = .slice (some ⟨g, 0, none⟩) 2 2 := (hs.kept 3 (by decide)).trans (e_3)
  have hK := did (nl_mild w9 g b1 b5 ix p k ao n c) hs (v := .slice (some ⟨g, 0, none⟩) 2 2) (d := 33) (i := 9) rfl (Below.refl _ w) rfl
  refine wpOp_goW hi hg ?_
  unfold Oper.wp
  have KK := Lib.hid hK
  clear hK hi hg
  have ec1 : a.eval (.const (.bool true)) = .bool true := rfl
  have ec2 : a.eval (.const (.int .i64 1)) = .int .i64 1 := rfl
  have ec3 : a.eval (.const (.int .i64 0)) = .int .i64 0 := rfl
  generalize a.eval = ρ at *
  go_simp
  exact KK.out
set_option linter.unusedVariables false in
theorem nl_s10 (w9 : World) (g b1 b5 ix : Nat) (p : Option Addr) (k : Int) (ao : Option Addr) (n c : Nat) {ops : Array Oper} {Q : Exit → Act → World → Prop} {a0 a : Act} {w : World} {l : Nat → Bool} {ty : TypeId} {pos : String} {after : Array Edge} (e_3 : a0.eval (.tmp 3) = .slice (some ⟨g, 0, none⟩) 2 2) (e_4 : a0.eval (.tmp 4) = .int .i64 (ix : Nat)) (e_1 : a0.eval (.tmp 1) = .pointer (some ⟨b1, 0, none⟩)) (e_5 : a0.eval (.tmp 5) = .pointer (some ⟨b5, 0, none⟩)) (e_6 : a0.eval (.tmp 6) = .bool false) (hi2 : ix = 0 ∨ ix = 1) (hm : ∀ W, Below w9.heap.size w9 W → W.cell? ⟨g, ix, none⟩ = some (.pointer p) ∧ W.heap[b1]? = some (.cells #[.int .i64 k, .slice ao n c] 24 (0, 0)) ∧ W.heap[b5]? = some (.cells #[.int .i64 0, .slice none 0 0] 24 (0, 0))) (hSet : ∀ W, Below w9.heap.size w9 W → ∀ (ao : Option Addr) (n c : Nat), Calls Tryd.prog 7 #[.pointer p, .slice ao n c] W fun e w' => e = .returned (.int .i64 1) ∧ Below W.heap.size W w') (hFire : ∀ W, Below w9.heap.size w9 W → ∀ (k : Int) (ao : Option Addr) (n c : Nat), Calls Tryd.prog 9 #[.pointer p, .agg #[.int .i64 k, .slice ao n c]] W fun e w' => e = .returned (.int .i64 1) ∧ Below W.heap.size W w') (hFired : ∀ W, Below w9.heap.size w9 W → Calls Tryd.prog 10 #[.pointer p] W fun e w' => e = .returned (.slice none 0 0) ∧ Below W.heap.size W w') (hs : St ops nlD (nlF w9 g b1 b5 ix p k ao n c) (nlJ w9 g b1 b5 ix p k ao n c) 43 a0 l a w) (hi : ops[10]? = some { dst := some 34, op := Op.move (Operand.tmp 4), type := ty, pos := pos, after := after, guard := some (8, false) }) (hg : Region.wanted { dst := some 34, op := Op.move (Operand.tmp 4), type := ty, pos := pos, after := after, guard := some (8, false) } (yielded ops a.tmps) = true) (nl : l 10 = false) (q8 : l 8 = true) : wpOp Tryd.prog ops Q 10 (Did nlD (nlF w9 g b1 b5 ix p k ao n c) (nlJ w9 g b1 b5 ix p k ao n c) 43 l 10 a) a w := by
  have e4 : a.eval (.tmp 4) = .int .i64 (ix : Nat) := (hs.kept 4 (by decide)).trans (e_4)
  have hK := did (nl_mild w9 g b1 b5 ix p k ao n c) hs (v := .int .i64 (ix : Nat)) (d := 34) (i := 10) rfl (Below.refl _ w) rfl
  refine wpOp_goW hi hg ?_
  unfold Oper.wp
  have KK := Lib.hid hK
  clear hK hi hg
  have ec1 : a.eval (.const (.bool true)) = .bool true := rfl
  have ec2 : a.eval (.const (.int .i64 1)) = .int .i64 1 := rfl
  have ec3 : a.eval (.const (.int .i64 0)) = .int .i64 0 := rfl
  generalize a.eval = ρ at *
  go_simp
  exact KK.out
set_option linter.unusedVariables false in
theorem nl_s11 (w9 : World) (g b1 b5 ix : Nat) (p : Option Addr) (k : Int) (ao : Option Addr) (n c : Nat) {ops : Array Oper} {Q : Exit → Act → World → Prop} {a0 a : Act} {w : World} {l : Nat → Bool} {ty : TypeId} {pos : String} {after : Array Edge} (e_3 : a0.eval (.tmp 3) = .slice (some ⟨g, 0, none⟩) 2 2) (e_4 : a0.eval (.tmp 4) = .int .i64 (ix : Nat)) (e_1 : a0.eval (.tmp 1) = .pointer (some ⟨b1, 0, none⟩)) (e_5 : a0.eval (.tmp 5) = .pointer (some ⟨b5, 0, none⟩)) (e_6 : a0.eval (.tmp 6) = .bool false) (hi2 : ix = 0 ∨ ix = 1) (hm : ∀ W, Below w9.heap.size w9 W → W.cell? ⟨g, ix, none⟩ = some (.pointer p) ∧ W.heap[b1]? = some (.cells #[.int .i64 k, .slice ao n c] 24 (0, 0)) ∧ W.heap[b5]? = some (.cells #[.int .i64 0, .slice none 0 0] 24 (0, 0))) (hSet : ∀ W, Below w9.heap.size w9 W → ∀ (ao : Option Addr) (n c : Nat), Calls Tryd.prog 7 #[.pointer p, .slice ao n c] W fun e w' => e = .returned (.int .i64 1) ∧ Below W.heap.size W w') (hFire : ∀ W, Below w9.heap.size w9 W → ∀ (k : Int) (ao : Option Addr) (n c : Nat), Calls Tryd.prog 9 #[.pointer p, .agg #[.int .i64 k, .slice ao n c]] W fun e w' => e = .returned (.int .i64 1) ∧ Below W.heap.size W w') (hFired : ∀ W, Below w9.heap.size w9 W → Calls Tryd.prog 10 #[.pointer p] W fun e w' => e = .returned (.slice none 0 0) ∧ Below W.heap.size W w') (hs : St ops nlD (nlF w9 g b1 b5 ix p k ao n c) (nlJ w9 g b1 b5 ix p k ao n c) 43 a0 l a w) (hi : ops[11]? = some { dst := some 35, op := Op.indexAddr 30 (Operand.tmp 33) (Operand.tmp 34), type := ty, pos := pos, after := after, guard := some (8, false) }) (hg : Region.wanted { dst := some 35, op := Op.indexAddr 30 (Operand.tmp 33) (Operand.tmp 34), type := ty, pos := pos, after := after, guard := some (8, false) } (yielded ops a.tmps) = true) (nl : l 11 = false) (q8 : l 8 = true) (q9 : l 9 = true) (q10 : l 10 = true) : wpOp Tryd.prog ops Q 11 (Did nlD (nlF w9 g b1 b5 ix p k ao n c) (nlJ w9 g b1 b5 ix p k ao n c) 43 l 11 a) a w := by
  have e33 : nlF w9 g b1 b5 ix p k ao n c l 9 w (a.eval (.tmp 33)) := hs.get (by decide) q9 rfl
  have e34 : nlF w9 g b1 b5 ix p k ao n c l 10 w (a.eval (.tmp 34)) := hs.get (by decide) q10 rfl
  have f33 : a.eval (.tmp 33) = .slice (some ⟨g, 0, none⟩) 2 2 := e33
  clear e33
  have f34 : a.eval (.tmp 34) = .int .i64 (ix : Nat) := e34
  clear e34
  have hK := did (nl_mild w9 g b1 b5 ix p k ao n c) hs (v := .pointer (some ⟨g, ix, none⟩)) (d := 35) (i := 11) rfl (Below.refl _ w) rfl
  refine wpOp_goW hi hg ?_
  unfold Oper.wp
  have KK := Lib.hid hK
  clear hK hi hg hs
  generalize a.eval = ρ at *
  rcases hi2 with rfl | rfl
  · go_simp
    exact KK.out
  · go_simp
    exact KK.out
set_option linter.unusedVariables false in
theorem nl_s12 (w9 : World) (g b1 b5 ix : Nat) (p : Option Addr) (k : Int) (ao : Option Addr) (n c : Nat) {ops : Array Oper} {Q : Exit → Act → World → Prop} {a0 a : Act} {w : World} {l : Nat → Bool} {ty : TypeId} {pos : String} {after : Array Edge} (e_3 : a0.eval (.tmp 3) = .slice (some ⟨g, 0, none⟩) 2 2) (e_4 : a0.eval (.tmp 4) = .int .i64 (ix : Nat)) (e_1 : a0.eval (.tmp 1) = .pointer (some ⟨b1, 0, none⟩)) (e_5 : a0.eval (.tmp 5) = .pointer (some ⟨b5, 0, none⟩)) (e_6 : a0.eval (.tmp 6) = .bool false) (hi2 : ix = 0 ∨ ix = 1) (hm : ∀ W, Below w9.heap.size w9 W → W.cell? ⟨g, ix, none⟩ = some (.pointer p) ∧ W.heap[b1]? = some (.cells #[.int .i64 k, .slice ao n c] 24 (0, 0)) ∧ W.heap[b5]? = some (.cells #[.int .i64 0, .slice none 0 0] 24 (0, 0))) (hSet : ∀ W, Below w9.heap.size w9 W → ∀ (ao : Option Addr) (n c : Nat), Calls Tryd.prog 7 #[.pointer p, .slice ao n c] W fun e w' => e = .returned (.int .i64 1) ∧ Below W.heap.size W w') (hFire : ∀ W, Below w9.heap.size w9 W → ∀ (k : Int) (ao : Option Addr) (n c : Nat), Calls Tryd.prog 9 #[.pointer p, .agg #[.int .i64 k, .slice ao n c]] W fun e w' => e = .returned (.int .i64 1) ∧ Below W.heap.size W w') (hFired : ∀ W, Below w9.heap.size w9 W → Calls Tryd.prog 10 #[.pointer p] W fun e w' => e = .returned (.slice none 0 0) ∧ Below W.heap.size W w') (hs : St ops nlD (nlF w9 g b1 b5 ix p k ao n c) (nlJ w9 g b1 b5 ix p k ao n c) 43 a0 l a w) (hi : ops[12]? = some { dst := some 36, op := Op.load 26 (Operand.tmp 35), type := ty, pos := pos, after := after, guard := some (8, false) }) (hg : Region.wanted { dst := some 36, op := Op.load 26 (Operand.tmp 35), type := ty, pos := pos, after := after, guard := some (8, false) } (yielded ops a.tmps) = true) (nl : l 12 = false) (q8 : l 8 = true) (q11 : l 11 = true) : wpOp Tryd.prog ops Q 12 (Did nlD (nlF w9 g b1 b5 ix p k ao n c) (nlJ w9 g b1 b5 ix p k ao n c) 43 l 12 a) a w := by
  have e35 : nlF w9 g b1 b5 ix p k ao n c l 11 w (a.eval (.tmp 35)) := hs.get (by decide) q11 rfl
  have f35 : a.eval (.tmp 35) = .pointer (some ⟨g, ix, none⟩) := e35
  clear e35
  have hc := (hm w hs.j).1
  have hK := did (nl_mild w9 g b1 b5 ix p k ao n c) hs (v := .pointer p) (d := 36) (i := 12) rfl (Below.refl _ w) rfl
  refine wpOp_goW hi hg ?_
  unfold Oper.wp
  have KK := Lib.hid hK
  clear hK hi hg hs
  generalize a.eval = ρ at *
  go_simp
  exact KK.out
set_option linter.unusedVariables false in
theorem nl_s13 (w9 : World) (g b1 b5 ix : Nat) (p : Option Addr) (k : Int) (ao : Option Addr) (n c : Nat) {ops : Array Oper} {Q : Exit → Act → World → Prop} {a0 a : Act} {w : World} {l : Nat → Bool} {ty : TypeId} {pos : String} {after : Array Edge} (e_3 : a0.eval (.tmp 3) = .slice (some ⟨g, 0, none⟩) 2 2) (e_4 : a0.eval (.tmp 4) = .int .i64 (ix : Nat)) (e_1 : a0.eval (.tmp 1) = .pointer (some ⟨b1, 0, none⟩)) (e_5 : a0.eval (.tmp 5) = .pointer (some ⟨b5, 0, none⟩)) (e_6 : a0.eval (.tmp 6) = .bool false) (hi2 : ix = 0 ∨ ix = 1) (hm : ∀ W, Below w9.heap.size w9 W → W.cell? ⟨g, ix, none⟩ = some (.pointer p) ∧ W.heap[b1]? = some (.cells #[.int .i64 k, .slice ao n c] 24 (0, 0)) ∧ W.heap[b5]? = some (.cells #[.int .i64 0, .slice none 0 0] 24 (0, 0))) (hSet : ∀ W, Below w9.heap.size w9 W → ∀ (ao : Option Addr) (n c : Nat), Calls Tryd.prog 7 #[.pointer p, .slice ao n c] W fun e w' => e = .returned (.int .i64 1) ∧ Below W.heap.size W w') (hFire : ∀ W, Below w9.heap.size w9 W → ∀ (k : Int) (ao : Option Addr) (n c : Nat), Calls Tryd.prog 9 #[.pointer p, .agg #[.int .i64 k, .slice ao n c]] W fun e w' => e = .returned (.int .i64 1) ∧ Below W.heap.size W w') (hFired : ∀ W, Below w9.heap.size w9 W → Calls Tryd.prog 10 #[.pointer p] W fun e w' => e = .returned (.slice none 0 0) ∧ Below W.heap.size W w') (hs : St ops nlD (nlF w9 g b1 b5 ix p k ao n c) (nlJ w9 g b1 b5 ix p k ao n c) 43 a0 l a w) (hi : ops[13]? = some { dst := some 37, op := Op.call { callee := Callee.value (Operand.func 7), args := #[Operand.tmp 36, Operand.const (Value.slice none 0 0)], argTypes := #[26, 37] }, type := ty, pos := pos, after := after, guard := some (8, false) }) (hg : Region.wanted { dst := some 37, op := Op.call { callee := Callee.value (Operand.func 7), args := #[Operand.tmp 36, Operand.const (Value.slice none 0 0)], argTypes := #[26, 37] }, type := ty, pos := pos, after := after, guard := some (8, false) } (yielded ops a.tmps) = true) (nl : l 13 = false) (q8 : l 8 = true) (q12 : l 12 = true) : wpOp Tryd.prog ops Q 13 (Did nlD (nlF w9 g b1 b5 ix p k ao n c) (nlJ w9 g b1 b5 ix p k ao n c) 43 l 13 a) a w := by
  have e36 : nlF w9 g b1 b5 ix p k ao n c l 12 w (a.eval (.tmp 36)) := hs.get (by decide) q12 rfl
  have f36 : a.eval (.tmp 36) = .pointer p := e36
  clear e36
  have ec4 : a.eval (.const (.slice none 0 0)) = .slice none 0 0 := rfl
  refine wpOp_callW (vs := #[.pointer p, .slice none 0 0]) hi hg (enters_of Tryd.func7 (by kernel_rfl) rfl) (by simp [f36, ec4]) ?_
  refine (hSet w hs.j _ _ _).mono ?_
  rintro e w' ⟨rfl, hb⟩
  exact ⟨_, rfl, did (nl_mild w9 g b1 b5 ix p k ao n c) hs (d := 37) (i := 13) rfl hb rfl⟩
set_option linter.unusedVariables false in
theorem nl_s14 (w9 : World) (g b1 b5 ix : Nat) (p : Option Addr) (k : Int) (ao : Option Addr) (n c : Nat) {ops : Array Oper} {Q : Exit → Act → World → Prop} {a0 a : Act} {w : World} {l : Nat → Bool} {ty : TypeId} {pos : String} {after : Array Edge} (e_3 : a0.eval (.tmp 3) = .slice (some ⟨g, 0, none⟩) 2 2) (e_4 : a0.eval (.tmp 4) = .int .i64 (ix : Nat)) (e_1 : a0.eval (.tmp 1) = .pointer (some ⟨b1, 0, none⟩)) (e_5 : a0.eval (.tmp 5) = .pointer (some ⟨b5, 0, none⟩)) (e_6 : a0.eval (.tmp 6) = .bool false) (hi2 : ix = 0 ∨ ix = 1) (hm : ∀ W, Below w9.heap.size w9 W → W.cell? ⟨g, ix, none⟩ = some (.pointer p) ∧ W.heap[b1]? = some (.cells #[.int .i64 k, .slice ao n c] 24 (0, 0)) ∧ W.heap[b5]? = some (.cells #[.int .i64 0, .slice none 0 0] 24 (0, 0))) (hSet : ∀ W, Below w9.heap.size w9 W → ∀ (ao : Option Addr) (n c : Nat), Calls Tryd.prog 7 #[.pointer p, .slice ao n c] W fun e w' => e = .returned (.int .i64 1) ∧ Below W.heap.size W w') (hFire : ∀ W, Below w9.heap.size w9 W → ∀ (k : Int) (ao : Option Addr) (n c : Nat), Calls Tryd.prog 9 #[.pointer p, .agg #[.int .i64 k, .slice ao n c]] W fun e w' => e = .returned (.int .i64 1) ∧ Below W.heap.size W w') (hFired : ∀ W, Below w9.heap.size w9 W → Calls Tryd.prog 10 #[.pointer p] W fun e w' => e = .returned (.slice none 0 0) ∧ Below W.heap.size W w') (hs : St ops nlD (nlF w9 g b1 b5 ix p k ao n c) (nlJ w9 g b1 b5 ix p k ao n c) 43 a0 l a w) (hi : ops[14]? = some { dst := some 38, op := Op.binOp BinOp.neq 3 (Operand.tmp 37) (Operand.const (Value.int IntKind.i64 1)) 3, type := ty, pos := pos, after := after, guard := some (8, false) }) (hg : Region.wanted { dst := some 38, op := Op.binOp BinOp.neq 3 (Operand.tmp 37) (Operand.const (Value.int IntKind.i64 1)) 3, type := ty, pos := pos, after := after, guard := some (8, false) } (yielded ops a.tmps) = true) (nl : l 14 = false) (q8 : l 8 = true) (q13 : l 13 = true) : wpOp Tryd.prog ops Q 14 (Did nlD (nlF w9 g b1 b5 ix p k ao n c) (nlJ w9 g b1 b5 ix p k ao n c) 43 l 14 a) a w := by
  have e37 : nlF w9 g b1 b5 ix p k ao n c l 13 w (a.eval (.tmp 37)) := hs.get (by decide) q13 rfl
  have e37 : a.eval (.tmp 37) = .int .i64 1 := e37
  have hK := did (nl_mild w9 g b1 b5 ix p k ao n c) hs (v := .bool false) (d := 38) (i := 14) rfl (Below.refl _ w) rfl
  refine wpOp_goW hi hg ?_
  unfold Oper.wp
  have KK := Lib.hid hK
  clear hK hi hg
  have ec1 : a.eval (.const (.bool true)) = .bool true := rfl
  have ec2 : a.eval (.const (.int .i64 1)) = .int .i64 1 := rfl
  have ec3 : a.eval (.const (.int .i64 0)) = .int .i64 0 := rfl
  generalize a.eval = ρ at *
  go_simp
  exact KK.out
set_option linter.unusedVariables false in
theorem nl_s15 (w9 : World) (g b1 b5 ix : Nat) (p : Option Addr) (k : Int) (ao : Option Addr) (n c : Nat) {ops : Array Oper} {Q : Exit → Act → World → Prop} {a0 a : Act} {w : World} {l : Nat → Bool} {ty : TypeId} {pos : String} {after : Array Edge} (e_3 : a0.eval (.tmp 3) = .slice (some ⟨g, 0, none⟩) 2 2) (e_4 : a0.eval (.tmp 4) = .int .i64 (ix : Nat)) (e_1 : a0.eval (.tmp 1) = .pointer (some ⟨b1, 0, none⟩)) (e_5 : a0.eval (.tmp 5) = .pointer (some ⟨b5, 0, none⟩)) (e_6 : a0.eval (.tmp 6) = .bool false) (hi2 : ix = 0 ∨ ix = 1) (hm : ∀ W, Below w9.heap.size w9 W → W.cell? ⟨g, ix, none⟩ = some (.pointer p) ∧ W.heap[b1]? = some (.cells #[.int .i64 k, .slice ao n c] 24 (0, 0)) ∧ W.heap[b5]? = some (.cells #[.int .i64 0, .slice none 0 0] 24 (0, 0))) (hSet : ∀ W, Below w9.heap.size w9 W → ∀ (ao : Option Addr) (n c : Nat), Calls Tryd.prog 7 #[.pointer p, .slice ao n c] W fun e w' => e = .returned (.int .i64 1) ∧ Below W.heap.size W w') (hFire : ∀ W, Below w9.heap.size w9 W → ∀ (k : Int) (ao : Option Addr) (n c : Nat), Calls Tryd.prog 9 #[.pointer p, .agg #[.int .i64 k, .slice ao n c]] W fun e w' => e = .returned (.int .i64 1) ∧ Below W.heap.size W w') (hFired : ∀ W, Below w9.heap.size w9 W → Calls Tryd.prog 10 #[.pointer p] W fun e w' => e = .returned (.slice none 0 0) ∧ Below W.heap.size W w') (hs : St ops nlD (nlF w9 g b1 b5 ix p k ao n c) (nlJ w9 g b1 b5 ix p k ao n c) 43 a0 l a w) (hi : ops[15]? = some { dst := some 39, op := Op.pick (Operand.tmp 32) (Operand.const (Value.bool true)) (Operand.tmp 38), type := ty, pos := pos, after := after, guard := none }) (nl : l 15 = false) (q8 : l 8 = true) (q14 : l 14 = true) : wpOp Tryd.prog ops Q 15 (Did nlD (nlF w9 g b1 b5 ix p k ao n c) (nlJ w9 g b1 b5 ix p k ao n c) 43 l 15 a) a w := by
  have e32 : nlF w9 g b1 b5 ix p k ao n c l 8 w (a.eval (.tmp 32)) := hs.get (by decide) q8 rfl
  have e38 : nlF w9 g b1 b5 ix p k ao n c l 14 w (a.eval (.tmp 38)) := hs.get (by decide) q14 rfl
  have e32 : a.eval (.tmp 32) = .bool false := e32
  have e38 : a.eval (.tmp 38) = .bool false := e38
  have hK := did (nl_mild w9 g b1 b5 ix p k ao n c) hs (v := .bool false) (d := 39) (i := 15) rfl (Below.refl _ w) rfl
  refine wpOp_go hi rfl ?_
  unfold Oper.wp
  have KK := Lib.hid hK
  clear hK hi
  have ec1 : a.eval (.const (.bool true)) = .bool true := rfl
  have ec2 : a.eval (.const (.int .i64 1)) = .int .i64 1 := rfl
  have ec3 : a.eval (.const (.int .i64 0)) = .int .i64 0 := rfl
  generalize a.eval = ρ at *
  go_simp
  exact KK.out
set_option linter.unusedVariables false in
theorem nl_s16 (w9 : World) (g b1 b5 ix : Nat) (p : Option Addr) (k : Int) (ao : Option Addr) (n c : Nat) {ops : Array Oper} {Q : Exit → Act → World → Prop} {a0 a : Act} {w : World} {l : Nat → Bool} {ty : TypeId} {pos : String} {after : Array Edge} (e_3 : a0.eval (.tmp 3) = .slice (some ⟨g, 0, none⟩) 2 2) (e_4 : a0.eval (.tmp 4) = .int .i64 (ix : Nat)) (e_1 : a0.eval (.tmp 1) = .pointer (some ⟨b1, 0, none⟩)) (e_5 : a0.eval (.tmp 5) = .pointer (some ⟨b5, 0, none⟩)) (e_6 : a0.eval (.tmp 6) = .bool false) (hi2 : ix = 0 ∨ ix = 1) (hm : ∀ W, Below w9.heap.size w9 W → W.cell? ⟨g, ix, none⟩ = some (.pointer p) ∧ W.heap[b1]? = some (.cells #[.int .i64 k, .slice ao n c] 24 (0, 0)) ∧ W.heap[b5]? = some (.cells #[.int .i64 0, .slice none 0 0] 24 (0, 0))) (hSet : ∀ W, Below w9.heap.size w9 W → ∀ (ao : Option Addr) (n c : Nat), Calls Tryd.prog 7 #[.pointer p, .slice ao n c] W fun e w' => e = .returned (.int .i64 1) ∧ Below W.heap.size W w') (hFire : ∀ W, Below w9.heap.size w9 W → ∀ (k : Int) (ao : Option Addr) (n c : Nat), Calls Tryd.prog 9 #[.pointer p, .agg #[.int .i64 k, .slice ao n c]] W fun e w' => e = .returned (.int .i64 1) ∧ Below W.heap.size W w') (hFired : ∀ W, Below w9.heap.size w9 W → Calls Tryd.prog 10 #[.pointer p] W fun e w' => e = .returned (.slice none 0 0) ∧ Below W.heap.size W w') (hs : St ops nlD (nlF w9 g b1 b5 ix p k ao n c) (nlJ w9 g b1 b5 ix p k ao n c) 43 a0 l a w) (hi : ops[16]? = some { dst := some 40, op := Op.move (Operand.tmp 39), type := ty, pos := pos, after := after, guard := none }) (nl : l 16 = false) (q13 : l 13 = true) (q15 : l 15 = true) : wpOp Tryd.prog ops Q 16 (Did nlD (nlF w9 g b1 b5 ix p k ao n c) (nlJ w9 g b1 b5 ix p k ao n c) 43 l 16 a) a w := by
  have e39 : nlF w9 g b1 b5 ix p k ao n c l 15 w (a.eval (.tmp 39)) := hs.get (by decide) q15 rfl
  have e39 : a.eval (.tmp 39) = .bool false := e39
  have hK := did (nl_mild w9 g b1 b5 ix p k ao n c) hs (v := .bool false) (d := 40) (i := 16) rfl (Below.refl _ w) rfl
  refine wpOp_move hi ?_
  rw [e39]
  exact hK
set_option linter.unusedVariables false in
theorem nl_s17 (w9 : World) (g b1 b5 ix : Nat) (p : Option Addr) (k : Int) (ao : Option Addr) (n c : Nat) {ops : Array Oper} {Q : Exit → Act → World → Prop} {a0 a : Act} {w : World} {l : Nat → Bool} {ty : TypeId} {pos : String} {after : Array Edge} (e_3 : a0.eval (.tmp 3) = .slice (some ⟨g, 0, none⟩) 2 2) (e_4 : a0.eval (.tmp 4) = .int .i64 (ix : Nat)) (e_1 : a0.eval (.tmp 1) = .pointer (some ⟨b1, 0, none⟩)) (e_5 : a0.eval (.tmp 5) = .pointer (some ⟨b5, 0, none⟩)) (e_6 : a0.eval (.tmp 6) = .bool false) (hi2 : ix = 0 ∨ ix = 1) (hm : ∀ W, Below w9.heap.size w9 W → W.cell? ⟨g, ix, none⟩ = some (.pointer p) ∧ W.heap[b1]? = some (.cells #[.int .i64 k, .slice ao n c] 24 (0, 0)) ∧ W.heap[b5]? = some (.cells #[.int .i64 0, .slice none 0 0] 24 (0, 0))) (hSet : ∀ W, Below w9.heap.size w9 W → ∀ (ao : Option Addr) (n c : Nat), Calls Tryd.prog 7 #[.pointer p, .slice ao n c] W fun e w' => e = .returned (.int .i64 1) ∧ Below W.heap.size W w') (hFire : ∀ W, Below w9.heap.size w9 W → ∀ (k : Int) (ao : Option Addr) (n c : Nat), Calls Tryd.prog 9 #[.pointer p, .agg #[.int .i64 k, .slice ao n c]] W fun e w' => e = .returned (.int .i64 1) ∧ Below W.heap.size W w') (hFired : ∀ W, Below w9.heap.size w9 W → Calls Tryd.prog 10 #[.pointer p] W fun e w' => e = .returned (.slice none 0 0) ∧ Below W.heap.size W w') (hs : St ops nlD (nlF w9 g b1 b5 ix p k ao n c) (nlJ w9 g b1 b5 ix p k ao n c) 43 a0 l a w) (hi : ops[17]? = some { dst := some 41, op := Op.move (Operand.tmp 6), type := ty, pos := pos, after := after, guard := some (16, false) }) (hg : Region.wanted { dst := some 41, op := Op.move (Operand.tmp 6), type := ty, pos := pos, after := after, guard := some (16, false) } (yielded ops a.tmps) = true) (nl : l 17 = false) (q16 : l 16 = true) : wpOp Tryd.prog ops Q 17 (Did nlD (nlF w9 g b1 b5 ix p k ao n c) (nlJ w9 g b1 b5 ix p k ao n c) 43 l 17 a) a w := by
  have e6 : a.eval (.tmp 6) = .bool false := (hs.kept 6 (by decide)).trans (e_6)
  have hK := did (nl_mild w9 g b1 b5 ix p k ao n c) hs (v := .bool false) (d := 41) (i := 17) rfl (Below.refl _ w) rfl
  refine wpOp_goW hi hg ?_
  unfold Oper.wp
  have KK := Lib.hid hK
  clear hK hi hg
  have ec1 : a.eval (.const (.bool true)) = .bool true := rfl
  have ec2 : a.eval (.const (.int .i64 1)) = .int .i64 1 := rfl
  have ec3 : a.eval (.const (.int .i64 0)) = .int .i64 0 := rfl
  generalize a.eval = ρ at *
  go_simp
  exact KK.out
set_option linter.unusedVariables false in
theorem nl_s18 (w9 : World) (g b1 b5 ix : Nat) (p : Option Addr) (k : Int) (ao : Option Addr) (n c : Nat) {ops : Array Oper} {Q : Exit → Act → World → Prop} {a0 a : Act} {w : World} {l : Nat → Bool} {ty : TypeId} {pos : String} {after : Array Edge} (e_3 : a0.eval (.tmp 3) = .slice (some ⟨g, 0, none⟩) 2 2) (e_4 : a0.eval (.tmp 4) = .int .i64 (ix : Nat)) (e_1 : a0.eval (.tmp 1) = .pointer (some ⟨b1, 0, none⟩)) (e_5 : a0.eval (.tmp 5) = .pointer (some ⟨b5, 0, none⟩)) (e_6 : a0.eval (.tmp 6) = .bool false) (hi2 : ix = 0 ∨ ix = 1) (hm : ∀ W, Below w9.heap.size w9 W → W.cell? ⟨g, ix, none⟩ = some (.pointer p) ∧ W.heap[b1]? = some (.cells #[.int .i64 k, .slice ao n c] 24 (0, 0)) ∧ W.heap[b5]? = some (.cells #[.int .i64 0, .slice none 0 0] 24 (0, 0))) (hSet : ∀ W, Below w9.heap.size w9 W → ∀ (ao : Option Addr) (n c : Nat), Calls Tryd.prog 7 #[.pointer p, .slice ao n c] W fun e w' => e = .returned (.int .i64 1) ∧ Below W.heap.size W w') (hFire : ∀ W, Below w9.heap.size w9 W → ∀ (k : Int) (ao : Option Addr) (n c : Nat), Calls Tryd.prog 9 #[.pointer p, .agg #[.int .i64 k, .slice ao n c]] W fun e w' => e = .returned (.int .i64 1) ∧ Below W.heap.size W w') (hFired : ∀ W, Below w9.heap.size w9 W → Calls Tryd.prog 10 #[.pointer p] W fun e w' => e = .returned (.slice none 0 0) ∧ Below W.heap.size W w') (hs : St ops nlD (nlF w9 g b1 b5 ix p k ao n c) (nlJ w9 g b1 b5 ix p k ao n c) 43 a0 l a w) (hi : ops[18]? = some { dst := some 42, op := Op.pick (Operand.tmp 40) (Operand.const (Value.bool true)) (Operand.tmp 41), type := ty, pos := pos, after := after, guard := none }) (nl : l 18 = false) (q16 : l 16 = true) (q17 : l 17 = true) : wpOp Tryd.prog ops Q 18 (Did nlD (nlF w9 g b1 b5 ix p k ao n c) (nlJ w9 g b1 b5 ix p k ao n c) 43 l 18 a) a w := by
  have e40 : nlF w9 g b1 b5 ix p k ao n c l 16 w (a.eval (.tmp 40)) := hs.get (by decide) q16 rfl
  have e41 : nlF w9 g b1 b5 ix p k ao n c l 17 w (a.eval (.tmp 41)) := hs.get (by decide) q17 rfl
  have e40 : a.eval (.tmp 40) = .bool false := e40
  have e41 : a.eval (.tmp 41) = .bool false := e41
  have hK := did (nl_mild w9 g b1 b5 ix p k ao n c) hs (v := .bool false) (d := 42) (i := 18) rfl (Below.refl _ w) rfl
  refine wpOp_go hi rfl ?_
  unfold Oper.wp
  have KK := Lib.hid hK
  clear hK hi
  have ec1 : a.eval (.const (.bool true)) = .bool true := rfl
  have ec2 : a.eval (.const (.int .i64 1)) = .int .i64 1 := rfl
  have ec3 : a.eval (.const (.int .i64 0)) = .int .i64 0 := rfl
  generalize a.eval = ρ at *
  go_simp
  exact KK.out
set_option linter.unusedVariables false in
theorem nl_s19 (w9 : World) (g b1 b5 ix : Nat) (p : Option Addr) (k : Int) (ao : Option Addr) (n c : Nat) {ops : Array Oper} {Q : Exit → Act → World → Prop} {a0 a : Act} {w : World} {l : Nat → Bool} {ty : TypeId} {pos : String} {after : Array Edge} (e_3 : a0.eval (.tmp 3) = .slice (some ⟨g, 0, none⟩) 2 2) (e_4 : a0.eval (.tmp 4) = .int .i64 (ix : Nat)) (e_1 : a0.eval (.tmp 1) = .pointer (some ⟨b1, 0, none⟩)) (e_5 : a0.eval (.tmp 5) = .pointer (some ⟨b5, 0, none⟩)) (e_6 : a0.eval (.tmp 6) = .bool false) (hi2 : ix = 0 ∨ ix = 1) (hm : ∀ W, Below w9.heap.size w9 W → W.cell? ⟨g, ix, none⟩ = some (.pointer p) ∧ W.heap[b1]? = some (.cells #[.int .i64 k, .slice ao n c] 24 (0, 0)) ∧ W.heap[b5]? = some (.cells #[.int .i64 0, .slice none 0 0] 24 (0, 0))) (hSet : ∀ W, Below w9.heap.size w9 W → ∀ (ao : Option Addr) (n c : Nat), Calls Tryd.prog 7 #[.pointer p, .slice ao n c] W fun e w' => e = .returned (.int .i64 1) ∧ Below W.heap.size W w') (hFire : ∀ W, Below w9.heap.size w9 W → ∀ (k : Int) (ao : Option Addr) (n c : Nat), Calls Tryd.prog 9 #[.pointer p, .agg #[.int .i64 k, .slice ao n c]] W fun e w' => e = .returned (.int .i64 1) ∧ Below W.heap.size W w') (hFired : ∀ W, Below w9.heap.size w9 W → Calls Tryd.prog 10 #[.pointer p] W fun e w' => e = .returned (.slice none 0 0) ∧ Below W.heap.size W w') (hs : St ops nlD (nlF w9 g b1 b5 ix p k ao n c) (nlJ w9 g b1 b5 ix p k ao n c) 43 a0 l a w) (hi : ops[19]? = some { dst := some 43, op := Op.move (Operand.tmp 42), type := ty, pos := pos, after := after, guard := none }) (nl : l 19 = false) (q16 : l 16 = true) (q18 : l 18 = true) : wpOp Tryd.prog ops Q 19 (Did nlD (nlF w9 g b1 b5 ix p k ao n c) (nlJ w9 g b1 b5 ix p k ao n c) 43 l 19 a) a w := by
  have e42 : nlF w9 g b1 b5 ix p k ao n c l 18 w (a.eval (.tmp 42)) := hs.get (by decide) q18 rfl
  have e42 : a.eval (.tmp 42) = .bool false := e42
  have hK := did (nl_mild w9 g b1 b5 ix p k ao n c) hs (v := .bool false) (d := 43) (i := 19) rfl (Below.refl _ w) rfl
  refine wpOp_move hi ?_
  rw [e42]
  exact hK
set_option linter.unusedVariables false in
theorem nl_s20 (w9 : World) (g b1 b5 ix : Nat) (p : Option Addr) (k : Int) (ao : Option Addr) (n c : Nat) {ops : Array Oper} {Q : Exit → Act → World → Prop} {a0 a : Act} {w : World} {l : Nat → Bool} {ty : TypeId} {pos : String} {after : Array Edge} (e_3 : a0.eval (.tmp 3) = .slice (some ⟨g, 0, none⟩) 2 2) (e_4 : a0.eval (.tmp 4) = .int .i64 (ix : Nat)) (e_1 : a0.eval (.tmp 1) = .pointer (some ⟨b1, 0, none⟩)) (e_5 : a0.eval (.tmp 5) = .pointer (some ⟨b5, 0, none⟩)) (e_6 : a0.eval (.tmp 6) = .bool false) (hi2 : ix = 0 ∨ ix = 1) (hm : ∀ W, Below w9.heap.size w9 W → W.cell? ⟨g, ix, none⟩ = some (.pointer p) ∧ W.heap[b1]? = some (.cells #[.int .i64 k, .slice ao n c] 24 (0, 0)) ∧ W.heap[b5]? = some (.cells #[.int .i64 0, .slice none 0 0] 24 (0, 0))) (hSet : ∀ W, Below w9.heap.size w9 W → ∀ (ao : Option Addr) (n c : Nat), Calls Tryd.prog 7 #[.pointer p, .slice ao n c] W fun e w' => e = .returned (.int .i64 1) ∧ Below W.heap.size W w') (hFire : ∀ W, Below w9.heap.size w9 W → ∀ (k : Int) (ao : Option Addr) (n c : Nat), Calls Tryd.prog 9 #[.pointer p, .agg #[.int .i64 k, .slice ao n c]] W fun e w' => e = .returned (.int .i64 1) ∧ Below W.heap.size W w') (hFired : ∀ W, Below w9.heap.size w9 W → Calls Tryd.prog 10 #[.pointer p] W fun e w' => e = .returned (.slice none 0 0) ∧ Below W.heap.size W w') (hs : St ops nlD (nlF w9 g b1 b5 ix p k ao n c) (nlJ w9 g b1 b5 ix p k ao n c) 43 a0 l a w) (hi : ops[20]? = some { dst := some 44, op := Op.load 24 (Operand.tmp 5), type := ty, pos := pos, after := after, guard := some (19, false) }) (hg : Region.wanted { dst := some 44, op := Op.load 24 (Operand.tmp 5), type := ty, pos := pos, after := after, guard := some (19, false) } (yielded ops a.tmps) = true) (nl : l 20 = false) (q19 : l 19 = true) : wpOp Tryd.prog ops Q 20 (Did nlD (nlF w9 g b1 b5 ix p k ao n c) (nlJ w9 g b1 b5 ix p k ao n c) 43 l 20 a) a w := by
  have e5 : a.eval (.tmp 5) = .pointer (some ⟨b5, 0, none⟩) := (hs.kept 5 (by decide)).trans (e_5)
  exact wpOp_ldK hi hg e5 ((hm w hs.j).2.2) (did (nl_mild w9 g b1 b5 ix p k ao n c) hs (d := 44) (i := 20) rfl (Below.refl _ w) rfl)
set_option linter.unusedVariables false in
theorem nl_s21 (w9 : World) (g b1 b5 ix : Nat) (p : Option Addr) (k : Int) (ao : Option Addr) (n c : Nat) {ops : Array Oper} {Q : Exit → Act → World → Prop} {a0 a : Act} {w : World} {l : Nat → Bool} {ty : TypeId} {pos : String} {after : Array Edge} (e_3 : a0.eval (.tmp 3) = .slice (some ⟨g, 0, none⟩) 2 2) (e_4 : a0.eval (.tmp 4) = .int .i64 (ix : Nat)) (e_1 : a0.eval (.tmp 1) = .pointer (some ⟨b1, 0, none⟩)) (e_5 : a0.eval (.tmp 5) = .pointer (some ⟨b5, 0, none⟩)) (e_6 : a0.eval (.tmp 6) = .bool false) (hi2 : ix = 0 ∨ ix = 1) (hm : ∀ W, Below w9.heap.size w9 W → W.cell? ⟨g, ix, none⟩ = some (.pointer p) ∧ W.heap[b1]? = some (.cells #[.int .i64 k, .slice ao n c] 24 (0, 0)) ∧ W.heap[b5]? = some (.cells #[.int .i64 0, .slice none 0 0] 24 (0, 0))) (hSet : ∀ W, Below w9.heap.size w9 W → ∀ (ao : Option Addr) (n c : Nat), Calls Tryd.prog 7 #[.pointer p, .slice ao n c] W fun e w' => e = .returned (.int .i64 1) ∧ Below W.heap.size W w') (hFire : ∀ W, Below w9.heap.size w9 W → ∀ (k : Int) (ao : Option Addr) (n c : Nat), Calls Tryd.prog 9 #[.pointer p, .agg #[.int .i64 k, .slice ao n c]] W fun e w' => e = .returned (.int .i64 1) ∧ Below W.heap.size W w') (hFired : ∀ W, Below w9.heap.size w9 W → Calls Tryd.prog 10 #[.pointer p] W fun e w' => e = .returned (.slice none 0 0) ∧ Below W.heap.size W w') (hs : St ops nlD (nlF w9 g b1 b5 ix p k ao n c) (nlJ w9 g b1 b5 ix p k ao n c) 43 a0 l a w) (hi : ops[21]? = some { dst := some 45, op := Op.build 24 #[], type := ty, pos := pos, after := after, guard := some (19, false) }) (hg : Region.wanted { dst := some 45, op := Op.build 24 #[], type := ty, pos := pos, after := after, guard := some (19, false) } (yielded ops a.tmps) = true) (nl : l 21 = false) (q19 : l 19 = true) : wpOp Tryd.prog ops Q 21 (Did nlD (nlF w9 g b1 b5 ix p k ao n c) (nlJ w9 g b1 b5 ix p k ao n c) 43 l 21 a) a w := by
  have hK := did (nl_mild w9 g b1 b5 ix p k ao n c) hs (v := .agg #[.int .i64 0, .slice none 0 0]) (d := 45) (i := 21) rfl (Below.refl _ w) rfl
  refine wpOp_goW hi hg ?_
  unfold Oper.wp
  have KK := Lib.hid hK
  clear hK hi hg
  have ec1 : a.eval (.const (.bool true)) = .bool true := rfl
  have ec2 : a.eval (.const (.int .i64 1)) = .int .i64 1 := rfl
  have ec3 : a.eval (.const (.int .i64 0)) = .int .i64 0 := rfl
  generalize a.eval = ρ at *
  go_simp
  exact KK.out
set_option linter.unusedVariables false in
theorem nl_s22 (w9 : World) (g b1 b5 ix : Nat) (p : Option Addr) (k : Int) (ao : Option Addr) (n c : Nat) {ops : Array Oper} {Q : Exit → Act → World → Prop} {a0 a : Act} {w : World} {l : Nat → Bool} {ty : TypeId} {pos : String} {after : Array Edge} (e_3 : a0.eval (.tmp 3) = .slice (some ⟨g, 0, none⟩) 2 2) (e_4 : a0.eval (.tmp 4) = .int .i64 (ix : Nat)) (e_1 : a0.eval (.tmp 1) = .pointer (some ⟨b1, 0, none⟩)) (e_5 : a0.eval (.tmp 5) = .pointer (some ⟨b5, 0, none⟩)) (e_6 : a0.eval (.tmp 6) = .bool false) (hi2 : ix = 0 ∨ ix = 1) (hm : ∀ W, Below w9.heap.size w9 W → W.cell? ⟨g, ix, none⟩ = some (.pointer p) ∧ W.heap[b1]? = some (.cells #[.int .i64 k, .slice ao n c] 24 (0, 0)) ∧ W.heap[b5]? = some (.cells #[.int .i64 0, .slice none 0 0] 24 (0, 0))) (hSet : ∀ W, Below w9.heap.size w9 W → ∀ (ao : Option Addr) (n c : Nat), Calls Tryd.prog 7 #[.pointer p, .slice ao n c] W fun e w' => e = .returned (.int .i64 1) ∧ Below W.heap.size W w') (hFire : ∀ W, Below w9.heap.size w9 W → ∀ (k : Int) (ao : Option Addr) (n c : Nat), Calls Tryd.prog 9 #[.pointer p, .agg #[.int .i64 k, .slice ao n c]] W fun e w' => e = .returned (.int .i64 1) ∧ Below W.heap.size W w') (hFired : ∀ W, Below w9.heap.size w9 W → Calls Tryd.prog 10 #[.pointer p] W fun e w' => e = .returned (.slice none 0 0) ∧ Below W.heap.size W w') (hs : St ops nlD (nlF w9 g b1 b5 ix p k ao n c) (nlJ w9 g b1 b5 ix p k ao n c) 43 a0 l a w) (hi : ops[22]? = some { dst := some 46, op := Op.call { callee := Callee.value (Operand.func 8), args := #[Operand.tmp 44, Operand.tmp 45], argTypes := #[24, 24] }, type := ty, pos := pos, after := after, guard := some (19, false) }) (hg : Region.wanted { dst := some 46, op := Op.call { callee := Callee.value (Operand.func 8), args := #[Operand.tmp 44, Operand.tmp 45], argTypes := #[24, 24] }, type := ty, pos := pos, after := after, guard := some (19, false) } (yielded ops a.tmps) = true) (nl : l 22 = false) (q19 : l 19 = true) (q20 : l 20 = true) (q21 : l 21 = true) : wpOp Tryd.prog ops Q 22 (Did nlD (nlF w9 g b1 b5 ix p k ao n c) (nlJ w9 g b1 b5 ix p k ao n c) 43 l 22 a) a w := by
  have e44 : nlF w9 g b1 b5 ix p k ao n c l 20 w (a.eval (.tmp 44)) := hs.get (by decide) q20 rfl
  have e45 : nlF w9 g b1 b5 ix p k ao n c l 21 w (a.eval (.tmp 45)) := hs.get (by decide) q21 rfl
  have f44 : a.eval (.tmp 44) = .agg #[.int .i64 0, .slice none 0 0] := e44
  clear e44
  have f45 : a.eval (.tmp 45) = .agg #[.int .i64 0, .slice none 0 0] := e45
  clear e45
  refine wpOp_callW (vs := #[.agg #[.int .i64 0, .slice none 0 0], .agg #[.int .i64 0, .slice none 0 0]]) hi hg (enters_of Tryd.func8 (by kernel_rfl) rfl) (by simp [f44, f45]) ?_
  refine (sameTok_any (0, []) (0, []) none none 0 0 0 0 rfl rfl (by decide) (by decide) w (fun h => absurd rfl h) (fun h => absurd rfl h)).mono ?_
  rintro e w' ⟨rfl, hb⟩
  exact ⟨_, rfl, did (nl_mild w9 g b1 b5 ix p k ao n c) hs (d := 46) (i := 22) rfl hb.below rfl⟩
set_option linter.unusedVariables false in
theorem nl_s23 (w9 : World) (g b1 b5 ix : Nat) (p : Option Addr) (k : Int) (ao : Option Addr) (n c : Nat) {ops : Array Oper} {Q : Exit → Act → World → Prop} {a0 a : Act} {w : World} {l : Nat → Bool} {ty : TypeId} {pos : String} {after : Array Edge} (e_3 : a0.eval (.tmp 3) = .slice (some ⟨g, 0, none⟩) 2 2) (e_4 : a0.eval (.tmp 4) = .int .i64 (ix : Nat)) (e_1 : a0.eval (.tmp 1) = .pointer (some ⟨b1, 0, none⟩)) (e_5 : a0.eval (.tmp 5) = .pointer (some ⟨b5, 0, none⟩)) (e_6 : a0.eval (.tmp 6) = .bool false) (hi2 : ix = 0 ∨ ix = 1) (hm : ∀ W, Below w9.heap.size w9 W → W.cell? ⟨g, ix, none⟩ = some (.pointer p) ∧ W.heap[b1]? = some (.cells #[.int .i64 k, .slice ao n c] 24 (0, 0)) ∧ W.heap[b5]? = some (.cells #[.int .i64 0, .slice none 0 0] 24 (0, 0))) (hSet : ∀ W, Below w9.heap.size w9 W → ∀ (ao : Option Addr) (n c : Nat), Calls Tryd.prog 7 #[.pointer p, .slice ao n c] W fun e w' => e = .returned (.int .i64 1) ∧ Below W.heap.size W w') (hFire : ∀ W, Below w9.heap.size w9 W → ∀ (k : Int) (ao : Option Addr) (n c : Nat), Calls Tryd.prog 9 #[.pointer p, .agg #[.int .i64 k, .slice ao n c]] W fun e w' => e = .returned (.int .i64 1) ∧ Below W.heap.size W w') (hFired : ∀ W, Below w9.heap.size w9 W → Calls Tryd.prog 10 #[.pointer p] W fun e w' => e = .returned (.slice none 0 0) ∧ Below W.heap.size W w') (hs : St ops nlD (nlF w9 g b1 b5 ix p k ao n c) (nlJ w9 g b1 b5 ix p k ao n c) 43 a0 l a w) (hi : ops[23]? = some { dst := some 47, op := Op.unOp UnOp.not 4 (Operand.tmp 46), type := ty, pos := pos, after := after, guard := some (19, false) }) (hg : Region.wanted { dst := some 47, op := Op.unOp UnOp.not 4 (Operand.tmp 46), type := ty, pos := pos, after := after, guard := some (19, false) } (yielded ops a.tmps) = true) (nl : l 23 = false) (q19 : l 19 = true) (q22 : l 22 = true) : wpOp Tryd.prog ops Q 23 (Did nlD (nlF w9 g b1 b5 ix p k ao n c) (nlJ w9 g b1 b5 ix p k ao n c) 43 l 23 a) a w := by
  have e46 : nlF w9 g b1 b5 ix p k ao n c l 22 w (a.eval (.tmp 46)) := hs.get (by decide) q22 rfl
  have e46 : a.eval (.tmp 46) = .bool true := e46
  have hK := did (nl_mild w9 g b1 b5 ix p k ao n c) hs (v := .bool false) (d := 47) (i := 23) rfl (Below.refl _ w) rfl
  refine wpOp_goW hi hg ?_
  unfold Oper.wp
  have KK := Lib.hid hK
  clear hK hi hg
  have ec1 : a.eval (.const (.bool true)) = .bool true := rfl
  have ec2 : a.eval (.const (.int .i64 1)) = .int .i64 1 := rfl
  have ec3 : a.eval (.const (.int .i64 0)) = .int .i64 0 := rfl
  generalize a.eval = ρ at *
  go_simp
  exact KK.out
set_option linter.unusedVariables false in
theorem nl_s24 (w9 : World) (g b1 b5 ix : Nat) (p : Option Addr) (k : Int) (ao : Option Addr) (n c : Nat) {ops : Array Oper} {Q : Exit → Act → World → Prop} {a0 a : Act} {w : World} {l : Nat → Bool} {ty : TypeId} {pos : String} {after : Array Edge} (e_3 : a0.eval (.tmp 3) = .slice (some ⟨g, 0, none⟩) 2 2) (e_4 : a0.eval (.tmp 4) = .int .i64 (ix : Nat)) (e_1 : a0.eval (.tmp 1) = .pointer (some ⟨b1, 0, none⟩)) (e_5 : a0.eval (.tmp 5) = .pointer (some ⟨b5, 0, none⟩)) (e_6 : a0.eval (.tmp 6) = .bool false) (hi2 : ix = 0 ∨ ix = 1) (hm : ∀ W, Below w9.heap.size w9 W → W.cell? ⟨g, ix, none⟩ = some (.pointer p) ∧ W.heap[b1]? = some (.cells #[.int .i64 k, .slice ao n c] 24 (0, 0)) ∧ W.heap[b5]? = some (.cells #[.int .i64 0, .slice none 0 0] 24 (0, 0))) (hSet : ∀ W, Below w9.heap.size w9 W → ∀ (ao : Option Addr) (n c : Nat), Calls Tryd.prog 7 #[.pointer p, .slice ao n c] W fun e w' => e = .returned (.int .i64 1) ∧ Below W.heap.size W w') (hFire : ∀ W, Below w9.heap.size w9 W → ∀ (k : Int) (ao : Option Addr) (n c : Nat), Calls Tryd.prog 9 #[.pointer p, .agg #[.int .i64 k, .slice ao n c]] W fun e w' => e = .returned (.int .i64 1) ∧ Below W.heap.size W w') (hFired : ∀ W, Below w9.heap.size w9 W → Calls Tryd.prog 10 #[.pointer p] W fun e w' => e = .returned (.slice none 0 0) ∧ Below W.heap.size W w') (hs : St ops nlD (nlF w9 g b1 b5 ix p k ao n c) (nlJ w9 g b1 b5 ix p k ao n c) 43 a0 l a w) (hi : ops[24]? = some { dst := some 48, op := Op.pick (Operand.tmp 43) (Operand.const (Value.bool true)) (Operand.tmp 47), type := ty, pos := pos, after := after, guard := none }) (nl : l 24 = false) (q19 : l 19 = true) (q23 : l 23 = true) : wpOp Tryd.prog ops Q 24 (Did nlD (nlF w9 g b1 b5 ix p k ao n c) (nlJ w9 g b1 b5 ix p k ao n c) 43 l 24 a) a w := by
  have e43 : nlF w9 g b1 b5 ix p k ao n c l 19 w (a.eval (.tmp 43)) := hs.get (by decide) q19 rfl
  have e47 : nlF w9 g b1 b5 ix p k ao n c l 23 w (a.eval (.tmp 47)) := hs.get (by decide) q23 rfl
  have e43 : a.eval (.tmp 43) = .bool false := e43
  have e47 : a.eval (.tmp 47) = .bool false := e47
  have hK := did (nl_mild w9 g b1 b5 ix p k ao n c) hs (v := .bool false) (d := 48) (i := 24) rfl (Below.refl _ w) rfl
  refine wpOp_go hi rfl ?_
  unfold Oper.wp
  have KK := Lib.hid hK
  clear hK hi
  have ec1 : a.eval (.const (.bool true)) = .bool true := rfl
  have ec2 : a.eval (.const (.int .i64 1)) = .int .i64 1 := rfl
  have ec3 : a.eval (.const (.int .i64 0)) = .int .i64 0 := rfl
  generalize a.eval = ρ at *
  go_simp
  exact KK.out
set_option linter.unusedVariables false in
theorem nl_s25 (w9 : World) (g b1 b5 ix : Nat) (p : Option Addr) (k : Int) (ao : Option Addr) (n c : Nat) {ops : Array Oper} {Q : Exit → Act → World → Prop} {a0 a : Act} {w : World} {l : Nat → Bool} {ty : TypeId} {pos : String} {after : Array Edge} (e_3 : a0.eval (.tmp 3) = .slice (some ⟨g, 0, none⟩) 2 2) (e_4 : a0.eval (.tmp 4) = .int .i64 (ix : Nat)) (e_1 : a0.eval (.tmp 1) = .pointer (some ⟨b1, 0, none⟩)) (e_5 : a0.eval (.tmp 5) = .pointer (some ⟨b5, 0, none⟩)) (e_6 : a0.eval (.tmp 6) = .bool false) (hi2 : ix = 0 ∨ ix = 1) (hm : ∀ W, Below w9.heap.size w9 W → W.cell? ⟨g, ix, none⟩ = some (.pointer p) ∧ W.heap[b1]? = some (.cells #[.int .i64 k, .slice ao n c] 24 (0, 0)) ∧ W.heap[b5]? = some (.cells #[.int .i64 0, .slice none 0 0] 24 (0, 0))) (hSet : ∀ W, Below w9.heap.size w9 W → ∀ (ao : Option Addr) (n c : Nat), Calls Tryd.prog 7 #[.pointer p, .slice ao n c] W fun e w' => e = .returned (.int .i64 1) ∧ Below W.heap.size W w') (hFire : ∀ W, Below w9.heap.size w9 W → ∀ (k : Int) (ao : Option Addr) (n c : Nat), Calls Tryd.prog 9 #[.pointer p, .agg #[.int .i64 k, .slice ao n c]] W fun e w' => e = .returned (.int .i64 1) ∧ Below W.heap.size W w') (hFired : ∀ W, Below w9.heap.size w9 W → Calls Tryd.prog 10 #[.pointer p] W fun e w' => e = .returned (.slice none 0 0) ∧ Below W.heap.size W w') (hs : St ops nlD (nlF w9 g b1 b5 ix p k ao n c) (nlJ w9 g b1 b5 ix p k ao n c) 43 a0 l a w) (hi : ops[25]? = some { dst := some 49, op := Op.move (Operand.tmp 48), type := ty, pos := pos, after := after, guard := none }) (nl : l 25 = false) (q22 : l 22 = true) (q24 : l 24 = true) : wpOp Tryd.prog ops Q 25 (Did nlD (nlF w9 g b1 b5 ix p k ao n c) (nlJ w9 g b1 b5 ix p k ao n c) 43 l 25 a) a w := by
  have e48 : nlF w9 g b1 b5 ix p k ao n c l 24 w (a.eval (.tmp 48)) := hs.get (by decide) q24 rfl
  have e48 : a.eval (.tmp 48) = .bool false := e48
  have hK := did (nl_mild w9 g b1 b5 ix p k ao n c) hs (v := .bool false) (d := 49) (i := 25) rfl (Below.refl _ w) rfl
  refine wpOp_move hi ?_
  rw [e48]
  exact hK
set_option linter.unusedVariables false in
theorem nl_s26 (w9 : World) (g b1 b5 ix : Nat) (p : Option Addr) (k : Int) (ao : Option Addr) (n c : Nat) {ops : Array Oper} {Q : Exit → Act → World → Prop} {a0 a : Act} {w : World} {l : Nat → Bool} {ty : TypeId} {pos : String} {after : Array Edge} (e_3 : a0.eval (.tmp 3) = .slice (some ⟨g, 0, none⟩) 2 2) (e_4 : a0.eval (.tmp 4) = .int .i64 (ix : Nat)) (e_1 : a0.eval (.tmp 1) = .pointer (some ⟨b1, 0, none⟩)) (e_5 : a0.eval (.tmp 5) = .pointer (some ⟨b5, 0, none⟩)) (e_6 : a0.eval (.tmp 6) = .bool false) (hi2 : ix = 0 ∨ ix = 1) (hm : ∀ W, Below w9.heap.size w9 W → W.cell? ⟨g, ix, none⟩ = some (.pointer p) ∧ W.heap[b1]? = some (.cells #[.int .i64 k, .slice ao n c] 24 (0, 0)) ∧ W.heap[b5]? = some (.cells #[.int .i64 0, .slice none 0 0] 24 (0, 0))) (hSet : ∀ W, Below w9.heap.size w9 W → ∀ (ao : Option Addr) (n c : Nat), Calls Tryd.prog 7 #[.pointer p, .slice ao n c] W fun e w' => e = .returned (.int .i64 1) ∧ Below W.heap.size W w') (hFire : ∀ W, Below w9.heap.size w9 W → ∀ (k : Int) (ao : Option Addr) (n c : Nat), Calls Tryd.prog 9 #[.pointer p, .agg #[.int .i64 k, .slice ao n c]] W fun e w' => e = .returned (.int .i64 1) ∧ Below W.heap.size W w') (hFired : ∀ W, Below w9.heap.size w9 W → Calls Tryd.prog 10 #[.pointer p] W fun e w' => e = .returned (.slice none 0 0) ∧ Below W.heap.size W w') (hs : St ops nlD (nlF w9 g b1 b5 ix p k ao n c) (nlJ w9 g b1 b5 ix p k ao n c) 43 a0 l a w) (hi : ops[26]? = some { dst := some 50, op := Op.move (Operand.tmp 3), type := ty, pos := pos, after := after, guard := some (25, false) }) (hg : Region.wanted { dst := some 50, op := Op.move (Operand.tmp 3), type := ty, pos := pos, after := after, guard := some (25, false) } (yielded ops a.tmps) = true) (nl : l 26 = false) (q25 : l 25 = true) : wpOp Tryd.prog ops Q 26 (Did nlD (nlF w9 g b1 b5 ix p k ao n c) (nlJ w9 g b1 b5 ix p k ao n c) 43 l 26 a) a w := by
  have e3 : a.eval (.tmp 3) = .slice (some ⟨g, 0, none⟩) 2 2 := (hs.kept 3 (by decide)).trans (e_3)
  have hK := did (nl_mild w9 g b1 b5 ix p k ao n c) hs (v := .slice (some ⟨g, 0, none⟩) 2 2) (d := 50) (i := 26) rfl (Below.refl _ w) rfl
  refine wpOp_goW hi hg ?_
  unfold Oper.wp
  have KK := Lib.hid hK
  clear hK hi hg
  have ec1 : a.eval (.const (.bool true)) = .bool true := rfl
  have ec2 : a.eval (.const (.int .i64 1)) = .int .i64 1 := rfl
  have ec3 : a.eval (.const (.int .i64 0)) = .int .i64 0 := rfl
  generalize a.eval = ρ at *
  go_simp
  exact KK.out
set_option linter.unusedVariables false in
theorem nl_s27 (w9 : World) (g b1 b5 ix : Nat) (p : Option Addr) (k : Int) (ao : Option Addr) (n c : Nat) {ops : Array Oper} {Q : Exit → Act → World → Prop} {a0 a : Act} {w : World} {l : Nat → Bool} {ty : TypeId} {pos : String} {after : Array Edge} (e_3 : a0.eval (.tmp 3) = .slice (some ⟨g, 0, none⟩) 2 2) (e_4 : a0.eval (.tmp 4) = .int .i64 (ix : Nat)) (e_1 : a0.eval (.tmp 1) = .pointer (some ⟨b1, 0, none⟩)) (e_5 : a0.eval (.tmp 5) = .pointer (some ⟨b5, 0, none⟩)) (e_6 : a0.eval (.tmp 6) = .bool false) (hi2 : ix = 0 ∨ ix = 1) (hm : ∀ W, Below w9.heap.size w9 W → W.cell? ⟨g, ix, none⟩ = some (.pointer p) ∧ W.heap[b1]? = some (.cells #[.int .i64 k, .slice ao n c] 24 (0, 0)) ∧ W.heap[b5]? = some (.cells #[.int .i64 0, .slice none 0 0] 24 (0, 0))) (hSet : ∀ W, Below w9.heap.size w9 W → ∀ (ao : Option Addr) (n c : Nat), Calls Tryd.prog 7 #[.pointer p, .slice ao n c] W fun e w' => e = .returned (.int .i64 1) ∧ Below W.heap.size W w') (hFire : ∀ W, Below w9.heap.size w9 W → ∀ (k : Int) (ao : Option Addr) (n c : Nat), Calls Tryd.prog 9 #[.pointer p, .agg #[.int .i64 k, .slice ao n c]] W fun e w' => e = .returned (.int .i64 1) ∧ Below W.heap.size W w') (hFired : ∀ W, Below w9.heap.size w9 W → Calls Tryd.prog 10 #[.pointer p] W fun e w' => e = .returned (.slice none 0 0) ∧ Below W.heap.size W w') (hs : St ops nlD (nlF w9 g b1 b5 ix p k ao n c) (nlJ w9 g b1 b5 ix p k ao n c) 43 a0 l a w) (hi : ops[27]? = some { dst := some 51, op := Op.move (Operand.tmp 4), type := ty, pos := pos, after := after, guard := some (25, false) }) (hg : Region.wanted { dst := some 51, op := Op.move (Operand.tmp 4), type := ty, pos := pos, after := after, guard := some (25, false) } (yielded ops a.tmps) = true) (nl : l 27 = false) (q25 : l 25 = true) : wpOp Tryd.prog ops Q 27 (Did nlD (nlF w9 g b1 b5 ix p k ao n c) (nlJ w9 g b1 b5 ix p k ao n c) 43 l 27 a) a w := by
  have e4 : a.eval (.tmp 4) = .int .i64 (ix : Nat) := (hs.kept 4 (by decide)).trans (e_4)
  have hK := did (nl_mild w9 g b1 b5 ix p k ao n c) hs (v := .int .i64 (ix : Nat)) (d := 51) (i := 27) rfl (Below.refl _ w) rfl
  refine wpOp_goW hi hg ?_
  unfold Oper.wp
  have KK := Lib.hid hK
  clear hK hi hg
  have ec1 : a.eval (.const (.bool true)) = .bool true := rfl
  have ec2 : a.eval (.const (.int .i64 1)) = .int .i64 1 := rfl
  have ec3 : a.eval (.const (.int .i64 0)) = .int .i64 0 := rfl
  generalize a.eval = ρ at *
  go_simp
  exact KK.out
set_option linter.unusedVariables false in
theorem nl_s28 (w9 : World) (g b1 b5 ix : Nat) (p : Option Addr) (k : Int) (ao : Option Addr) (n c : Nat) {ops : Array Oper} {Q : Exit → Act → World → Prop} {a0 a : Act} {w : World} {l : Nat → Bool} {ty : TypeId} {pos : String} {after : Array Edge} (e_3 : a0.eval (.tmp 3) = .slice (some ⟨g, 0, none⟩) 2 2) (e_4 : a0.eval (.tmp 4) = .int .i64 (ix : Nat)) (e_1 : a0.eval (.tmp 1) = .pointer (some ⟨b1, 0, none⟩)) (e_5 : a0.eval (.tmp 5) = .pointer (some ⟨b5, 0, none⟩)) (e_6 : a0.eval (.tmp 6) = .bool false) (hi2 : ix = 0 ∨ ix = 1) (hm : ∀ W, Below w9.heap.size w9 W → W.cell? ⟨g, ix, none⟩ = some (.pointer p) ∧ W.heap[b1]? = some (.cells #[.int .i64 k, .slice ao n c] 24 (0, 0)) ∧ W.heap[b5]? = some (.cells #[.int .i64 0, .slice none 0 0] 24 (0, 0))) (hSet : ∀ W, Below w9.heap.size w9 W → ∀ (ao : Option Addr) (n c : Nat), Calls Tryd.prog 7 #[.pointer p, .slice ao n c] W fun e w' => e = .returned (.int .i64 1) ∧ Below W.heap.size W w') (hFire : ∀ W, Below w9.heap.size w9 W → ∀ (k : Int) (ao : Option Addr) (n c : Nat), Calls Tryd.prog 9 #[.pointer p, .agg #[.int .i64 k, .slice ao n c]] W fun e w' => e = .returned (.int .i64 1) ∧ Below W.heap.size W w') (hFired : ∀ W, Below w9.heap.size w9 W → Calls Tryd.prog 10 #[.pointer p] W fun e w' => e = .returned (.slice none 0 0) ∧ Below W.heap.size W w') (hs : St ops nlD (nlF w9 g b1 b5 ix p k ao n c) (nlJ w9 g b1 b5 ix p k ao n c) 43 a0 l a w) (hi : ops[28]? = some { dst := some 52, op := Op.indexAddr 30 (Operand.tmp 50) (Operand.tmp 51), type := ty, pos := pos, after := after, guard := some (25, false) }) (hg : Region.wanted { dst := some 52, op := Op.indexAddr 30 (Operand.tmp 50) (Operand.tmp 51), type := ty, pos := pos, after := after, guard := some (25, false) } (yielded ops a.tmps) = true) (nl : l 28 = false) (q25 : l 25 = true) (q26 : l 26 = true) (q27 : l 27 = true) : wpOp Tryd.prog ops Q 28 (Did nlD (nlF w9 g b1 b5 ix p k ao n c) (nlJ w9 g b1 b5 ix p k ao n c) 43 l 28 a) a w := by
  have e50 : nlF w9 g b1 b5 ix p k ao n c l 26 w (a.eval (.tmp 50)) := hs.get (by decide) q26 rfl
  have e51 : nlF w9 g b1 b5 ix p k ao n c l 27 w (a.eval (.tmp 51)) := hs.get (by decide) q27 rfl
  have f50 : a.eval (.tmp 50) = .slice (some ⟨g, 0, none⟩) 2 2 := e50
  clear e50
  have f51 : a.eval (.tmp 51) = .int .i64 (ix : Nat) := e51
  clear e51
  have hK := did (nl_mild w9 g b1 b5 ix p k ao n c) hs (v := .pointer (some ⟨g, ix, none⟩)) (d := 52) (i := 28) rfl (Below.refl _ w) rfl
  refine wpOp_goW hi hg ?_
  unfold Oper.wp
  have KK := Lib.hid hK
  clear hK hi hg hs
  generalize a.eval = ρ at *
  rcases hi2 with rfl | rfl
  · go_simp
    exact KK.out
  · go_simp
    exact KK.out
set_option linter.unusedVariables false in
theorem nl_s29 (w9 : World) (g b1 b5 ix : Nat) (p : Option Addr) (k : Int) (ao : Option Addr) (n c : Nat) {ops : Array Oper} {Q : Exit → Act → World → Prop} {a0 a : Act} {w : World} {l : Nat → Bool} {ty : TypeId} {pos : String} {after : Array Edge} (e_3 : a0.eval (.tmp 3) = .slice (some ⟨g, 0, none⟩) 2 2) (e_4 : a0.eval (.tmp 4) = .int .i64 (ix : Nat)) (e_1 : a0.eval (.tmp 1) = .pointer (some ⟨b1, 0, none⟩)) (e_5 : a0.eval (.tmp 5) = .pointer (some ⟨b5, 0, none⟩)) (e_6 : a0.eval (.tmp 6) = .bool false) (hi2 : ix = 0 ∨ ix = 1) (hm : ∀ W, Below w9.heap.size w9 W → W.cell? ⟨g, ix, none⟩ = some (.pointer p) ∧ W.heap[b1]? = some (.cells #[.int .i64 k, .slice ao n c] 24 (0, 0)) ∧ W.heap[b5]? = some (.cells #[.int .i64 0, .slice none 0 0] 24 (0, 0))) (hSet : ∀ W, Below w9.heap.size w9 W → ∀ (ao : Option Addr) (n c : Nat), Calls Tryd.prog 7 #[.pointer p, .slice ao n c] W fun e w' => e = .returned (.int .i64 1) ∧ Below W.heap.size W w') (hFire : ∀ W, Below w9.heap.size w9 W → ∀ (k : Int) (ao : Option Addr) (n c : Nat), Calls Tryd.prog 9 #[.pointer p, .agg #[.int .i64 k, .slice ao n c]] W fun e w' => e = .returned (.int .i64 1) ∧ Below W.heap.size W w') (hFired : ∀ W, Below w9.heap.size w9 W → Calls Tryd.prog 10 #[.pointer p] W fun e w' => e = .returned (.slice none 0 0) ∧ Below W.heap.size W w') (hs : St ops nlD (nlF w9 g b1 b5 ix p k ao n c) (nlJ w9 g b1 b5 ix p k ao n c) 43 a0 l a w) (hi : ops[29]? = some { dst := some 53, op := Op.load 26 (Operand.tmp 52), type := ty, pos := pos, after := after, guard := some (25, false) }) (hg : Region.wanted { dst := some 53, op := Op.load 26 (Operand.tmp 52), type := ty, pos := pos, after := after, guard := some (25, false) } (yielded ops a.tmps) = true) (nl : l 29 = false) (q25 : l 25 = true) (q28 : l 28 = true) : wpOp Tryd.prog ops Q 29 (Did nlD (nlF w9 g b1 b5 ix p k ao n c) (nlJ w9 g b1 b5 ix p k ao n c) 43 l 29 a) a w := by
  have e52 : nlF w9 g b1 b5 ix p k ao n c l 28 w (a.eval (.tmp 52)) := hs.get (by decide) q28 rfl
  have f52 : a.eval (.tmp 52) = .pointer (some ⟨g, ix, none⟩) := e52
  clear e52
  have hc := (hm w hs.j).1
  have hK := did (nl_mild w9 g b1 b5 ix p k ao n c) hs (v := .pointer p) (d := 53) (i := 29) rfl (Below.refl _ w) rfl
  refine wpOp_goW hi hg ?_
  unfold Oper.wp
  have KK := Lib.hid hK
  clear hK hi hg hs
  generalize a.eval = ρ at *
  go_simp
  exact KK.out
set_option linter.unusedVariables false in
theorem nl_s30 (w9 : World) (g b1 b5 ix : Nat) (p : Option Addr) (k : Int) (ao : Option Addr) (n c : Nat) {ops : Array Oper} {Q : Exit → Act → World → Prop} {a0 a : Act} {w : World} {l : Nat → Bool} {ty : TypeId} {pos : String} {after : Array Edge} (e_3 : a0.eval (.tmp 3) = .slice (some ⟨g, 0, none⟩) 2 2) (e_4 : a0.eval (.tmp 4) = .int .i64 (ix : Nat)) (e_1 : a0.eval (.tmp 1) = .pointer (some ⟨b1, 0, none⟩)) (e_5 : a0.eval (.tmp 5) = .pointer (some ⟨b5, 0, none⟩)) (e_6 : a0.eval (.tmp 6) = .bool false) (hi2 : ix = 0 ∨ ix = 1) (hm : ∀ W, Below w9.heap.size w9 W → W.cell? ⟨g, ix, none⟩ = some (.pointer p) ∧ W.heap[b1]? = some (.cells #[.int .i64 k, .slice ao n c] 24 (0, 0)) ∧ W.heap[b5]? = some (.cells #[.int .i64 0, .slice none 0 0] 24 (0, 0))) (hSet : ∀ W, Below w9.heap.size w9 W → ∀ (ao : Option Addr) (n c : Nat), Calls Tryd.prog 7 #[.pointer p, .slice ao n c] W fun e w' => e = .returned (.int .i64 1) ∧ Below W.heap.size W w') (hFire : ∀ W, Below w9.heap.size w9 W → ∀ (k : Int) (ao : Option Addr) (n c : Nat), Calls Tryd.prog 9 #[.pointer p, .agg #[.int .i64 k, .slice ao n c]] W fun e w' => e = .returned (.int .i64 1) ∧ Below W.heap.size W w') (hFired : ∀ W, Below w9.heap.size w9 W → Calls Tryd.prog 10 #[.pointer p] W fun e w' => e = .returned (.slice none 0 0) ∧ Below W.heap.size W w') (hs : St ops nlD (nlF w9 g b1 b5 ix p k ao n c) (nlJ w9 g b1 b5 ix p k ao n c) 43 a0 l a w) (hi : ops[30]? = some { dst := some 54, op := Op.load 24 (Operand.tmp 1), type := ty, pos := pos, after := after, guard := some (25, false) }) (hg : Region.wanted { dst := some 54, op := Op.load 24 (Operand.tmp 1), type := ty, pos := pos, after := after, guard := some (25, false) } (yielded ops a.tmps) = true) (nl : l 30 = false) (q25 : l 25 = true) : wpOp Tryd.prog ops Q 30 (Did nlD (nlF w9 g b1 b5 ix p k ao n c) (nlJ w9 g b1 b5 ix p k ao n c) 43 l 30 a) a w := by
  have e1 : a.eval (.tmp 1) = .pointer (some ⟨b1, 0, none⟩) := (hs.kept 1 (by decide)).trans (e_1)
  exact wpOp_ldK hi hg e1 ((hm w hs.j).2.1) (did (nl_mild w9 g b1 b5 ix p k ao n c) hs (d := 54) (i := 30) rfl (Below.refl _ w) rfl)
set_option linter.unusedVariables false in
theorem nl_s31 (w9 : World) (g b1 b5 ix : Nat) (p : Option Addr) (k : Int) (ao : Option Addr) (n c : Nat) {ops : Array Oper} {Q : Exit → Act → World → Prop} {a0 a : Act} {w : World} {l : Nat → Bool} {ty : TypeId} {pos : String} {after : Array Edge} (e_3 : a0.eval (.tmp 3) = .slice (some ⟨g, 0, none⟩) 2 2) (e_4 : a0.eval (.tmp 4) = .int .i64 (ix : Nat)) (e_1 : a0.eval (.tmp 1) = .pointer (some ⟨b1, 0, none⟩)) (e_5 : a0.eval (.tmp 5) = .pointer (some ⟨b5, 0, none⟩)) (e_6 : a0.eval (.tmp 6) = .bool false) (hi2 : ix = 0 ∨ ix = 1) (hm : ∀ W, Below w9.heap.size w9 W → W.cell? ⟨g, ix, none⟩ = some (.pointer p) ∧ W.heap[b1]? = some (.cells #[.int .i64 k, .slice ao n c] 24 (0, 0)) ∧ W.heap[b5]? = some (.cells #[.int .i64 0, .slice none 0 0] 24 (0, 0))) (hSet : ∀ W, Below w9.heap.size w9 W → ∀ (ao : Option Addr) (n c : Nat), Calls Tryd.prog 7 #[.pointer p, .slice ao n c] W fun e w' => e = .returned (.int .i64 1) ∧ Below W.heap.size W w') (hFire : ∀ W, Below w9.heap.size w9 W → ∀ (k : Int) (ao : Option Addr) (n c : Nat), Calls Tryd.prog 9 #[.pointer p, .agg #[.int .i64 k, .slice ao n c]] W fun e w' => e = .returned (.int .i64 1) ∧ Below W.heap.size W w') (hFired : ∀ W, Below w9.heap.size w9 W → Calls Tryd.prog 10 #[.pointer p] W fun e w' => e = .returned (.slice none 0 0) ∧ Below W.heap.size W w') (hs : St ops nlD (nlF w9 g b1 b5 ix p k ao n c) (nlJ w9 g b1 b5 ix p k ao n c) 43 a0 l a w) (hi : ops[31]? = some { dst := some 55, op := Op.call { callee := Callee.value (Operand.func 9), args := #[Operand.tmp 53, Operand.tmp 54], argTypes := #[26, 24] }, type := ty, pos := pos, after := after, guard := some (25, false) }) (hg : Region.wanted { dst := some 55, op := Op.call { callee := Callee.value (Operand.func 9), args := #[Operand.tmp 53, Operand.tmp 54], argTypes := #[26, 24] }, type := ty, pos := pos, after := after, guard := some (25, false) } (yielded ops a.tmps) = true) (nl : l 31 = false) (q25 : l 25 = true) (q29 : l 29 = true) (q30 : l 30 = true) : wpOp Tryd.prog ops Q 31 (Did nlD (nlF w9 g b1 b5 ix p k ao n c) (nlJ w9 g b1 b5 ix p k ao n c) 43 l 31 a) a w := by
  have e53 : nlF w9 g b1 b5 ix p k ao n c l 29 w (a.eval (.tmp 53)) := hs.get (by decide) q29 rfl
  have e54 : nlF w9 g b1 b5 ix p k ao n c l 30 w (a.eval (.tmp 54)) := hs.get (by decide) q30 rfl
  have f53 : a.eval (.tmp 53) = .pointer p := e53
  clear e53
  have f54 : a.eval (.tmp 54) = .agg #[.int .i64 k, .slice ao n c] := e54
  clear e54
  refine wpOp_callW (vs := #[.pointer p, .agg #[.int .i64 k, .slice ao n c]]) hi hg (enters_of Tryd.func9 (by kernel_rfl) rfl) (by simp [f53, f54]) ?_
  refine (hFire w hs.j _ _ _ _).mono ?_
  rintro e w' ⟨rfl, hb⟩
  exact ⟨_, rfl, did (nl_mild w9 g b1 b5 ix p k ao n c) hs (d := 55) (i := 31) rfl hb rfl⟩
set_option linter.unusedVariables false in
theorem nl_s32 (w9 : World) (g b1 b5 ix : Nat) (p : Option Addr) (k : Int) (ao : Option Addr) (n c : Nat) {ops : Array Oper} {Q : Exit → Act → World → Prop} {a0 a : Act} {w : World} {l : Nat → Bool} {ty : TypeId} {pos : String} {after : Array Edge} (e_3 : a0.eval (.tmp 3) = .slice (some ⟨g, 0, none⟩) 2 2) (e_4 : a0.eval (.tmp 4) = .int .i64 (ix : Nat)) (e_1 : a0.eval (.tmp 1) = .pointer (some ⟨b1, 0, none⟩)) (e_5 : a0.eval (.tmp 5) = .pointer (some ⟨b5, 0, none⟩)) (e_6 : a0.eval (.tmp 6) = .bool false) (hi2 : ix = 0 ∨ ix = 1) (hm : ∀ W, Below w9.heap.size w9 W → W.cell? ⟨g, ix, none⟩ = some (.pointer p) ∧ W.heap[b1]? = some (.cells #[.int .i64 k, .slice ao n c] 24 (0, 0)) ∧ W.heap[b5]? = some (.cells #[.int .i64 0, .slice none 0 0] 24 (0, 0))) (hSet : ∀ W, Below w9.heap.size w9 W → ∀ (ao : Option Addr) (n c : Nat), Calls Tryd.prog 7 #[.pointer p, .slice ao n c] W fun e w' => e = .returned (.int .i64 1) ∧ Below W.heap.size W w') (hFire : ∀ W, Below w9.heap.size w9 W → ∀ (k : Int) (ao : Option Addr) (n c : Nat), Calls Tryd.prog 9 #[.pointer p, .agg #[.int .i64 k, .slice ao n c]] W fun e w' => e = .returned (.int .i64 1) ∧ Below W.heap.size W w') (hFired : ∀ W, Below w9.heap.size w9 W → Calls Tryd.prog 10 #[.pointer p] W fun e w' => e = .returned (.slice none 0 0) ∧ Below W.heap.size W w') (hs : St ops nlD (nlF w9 g b1 b5 ix p k ao n c) (nlJ w9 g b1 b5 ix p k ao n c) 43 a0 l a w) (hi : ops[32]? = some { dst := some 56, op := Op.binOp BinOp.neq 3 (Operand.tmp 55) (Operand.const (Value.int IntKind.i64 1)) 3, type := ty, pos := pos, after := after, guard := some (25, false) }) (hg : Region.wanted { dst := some 56, op := Op.binOp BinOp.neq 3 (Operand.tmp 55) (Operand.const (Value.int IntKind.i64 1)) 3, type := ty, pos := pos, after := after, guard := some (25, false) } (yielded ops a.tmps) = true) (nl : l 32 = false) (q25 : l 25 = true) (q31 : l 31 = true) : wpOp Tryd.prog ops Q 32 (Did nlD (nlF w9 g b1 b5 ix p k ao n c) (nlJ w9 g b1 b5 ix p k ao n c) 43 l 32 a) a w := by
  have e55 : nlF w9 g b1 b5 ix p k ao n c l 31 w (a.eval (.tmp 55)) := hs.get (by decide) q31 rfl
  have e55 : a.eval (.tmp 55) = .int .i64 1 := e55
  have hK := did (nl_mild w9 g b1 b5 ix p k ao n c) hs (v := .bool false) (d := 56) (i := 32) rfl (Below.refl _ w) rfl
  refine wpOp_goW hi hg ?_
  unfold Oper.wp
  have KK := Lib.hid hK
  clear hK hi hg
  have ec1 : a.eval (.const (.bool true)) = .bool true := rfl
  have ec2 : a.eval (.const (.int .i64 1)) = .int .i64 1 := rfl
  have ec3 : a.eval (.const (.int .i64 0)) = .int .i64 0 := rfl
  generalize a.eval = ρ at *
  go_simp
  exact KK.out
set_option linter.unusedVariables false in
theorem nl_s33 (w9 : World) (g b1 b5 ix : Nat) (p : Option Addr) (k : Int) (ao : Option Addr) (n c : Nat) {ops : Array Oper} {Q : Exit → Act → World → Prop} {a0 a : Act} {w : World} {l : Nat → Bool} {ty : TypeId} {pos : String} {after : Array Edge} (e_3 : a0.eval (.tmp 3) = .slice (some ⟨g, 0, none⟩) 2 2) (e_4 : a0.eval (.tmp 4) = .int .i64 (ix : Nat)) (e_1 : a0.eval (.tmp 1) = .pointer (some ⟨b1, 0, none⟩)) (e_5 : a0.eval (.tmp 5) = .pointer (some ⟨b5, 0, none⟩)) (e_6 : a0.eval (.tmp 6) = .bool false) (hi2 : ix = 0 ∨ ix = 1) (hm : ∀ W, Below w9.heap.size w9 W → W.cell? ⟨g, ix, none⟩ = some (.pointer p) ∧ W.heap[b1]? = some (.cells #[.int .i64 k, .slice ao n c] 24 (0, 0)) ∧ W.heap[b5]? = some (.cells #[.int .i64 0, .slice none 0 0] 24 (0, 0))) (hSet : ∀ W, Below w9.heap.size w9 W → ∀ (ao : Option Addr) (n c : Nat), Calls Tryd.prog 7 #[.pointer p, .slice ao n c] W fun e w' => e = .returned (.int .i64 1) ∧ Below W.heap.size W w') (hFire : ∀ W, Below w9.heap.size w9 W → ∀ (k : Int) (ao : Option Addr) (n c : Nat), Calls Tryd.prog 9 #[.pointer p, .agg #[.int .i64 k, .slice ao n c]] W fun e w' => e = .returned (.int .i64 1) ∧ Below W.heap.size W w') (hFired : ∀ W, Below w9.heap.size w9 W → Calls Tryd.prog 10 #[.pointer p] W fun e w' => e = .returned (.slice none 0 0) ∧ Below W.heap.size W w') (hs : St ops nlD (nlF w9 g b1 b5 ix p k ao n c) (nlJ w9 g b1 b5 ix p k ao n c) 43 a0 l a w) (hi : ops[33]? = some { dst := some 57, op := Op.pick (Operand.tmp 49) (Operand.const (Value.bool true)) (Operand.tmp 56), type := ty, pos := pos, after := after, guard := none }) (nl : l 33 = false) (q25 : l 25 = true) (q32 : l 32 = true) : wpOp Tryd.prog ops Q 33 (Did nlD (nlF w9 g b1 b5 ix p k ao n c) (nlJ w9 g b1 b5 ix p k ao n c) 43 l 33 a) a w := by
  have e49 : nlF w9 g b1 b5 ix p k ao n c l 25 w (a.eval (.tmp 49)) := hs.get (by decide) q25 rfl
  have e56 : nlF w9 g b1 b5 ix p k ao n c l 32 w (a.eval (.tmp 56)) := hs.get (by decide) q32 rfl
  have e49 : a.eval (.tmp 49) = .bool false := e49
  have e56 : a.eval (.tmp 56) = .bool false := e56
  have hK := did (nl_mild w9 g b1 b5 ix p k ao n c) hs (v := .bool false) (d := 57) (i := 33) rfl (Below.refl _ w) rfl
  refine wpOp_go hi rfl ?_
  unfold Oper.wp
  have KK := Lib.hid hK
  clear hK hi
  have ec1 : a.eval (.const (.bool true)) = .bool true := rfl
  have ec2 : a.eval (.const (.int .i64 1)) = .int .i64 1 := rfl
  have ec3 : a.eval (.const (.int .i64 0)) = .int .i64 0 := rfl
  generalize a.eval = ρ at *
  go_simp
  exact KK.out
set_option linter.unusedVariables false in
theorem nl_s34 (w9 : World) (g b1 b5 ix : Nat) (p : Option Addr) (k : Int) (ao : Option Addr) (n c : Nat) {ops : Array Oper} {Q : Exit → Act → World → Prop} {a0 a : Act} {w : World} {l : Nat → Bool} {ty : TypeId} {pos : String} {after : Array Edge} (e_3 : a0.eval (.tmp 3) = .slice (some ⟨g, 0, none⟩) 2 2) (e_4 : a0.eval (.tmp 4) = .int .i64 (ix : Nat)) (e_1 : a0.eval (.tmp 1) = .pointer (some ⟨b1, 0, none⟩)) (e_5 : a0.eval (.tmp 5) = .pointer (some ⟨b5, 0, none⟩)) (e_6 : a0.eval (.tmp 6) = .bool false) (hi2 : ix = 0 ∨ ix = 1) (hm : ∀ W, Below w9.heap.size w9 W → W.cell? ⟨g, ix, none⟩ = some (.pointer p) ∧ W.heap[b1]? = some (.cells #[.int .i64 k, .slice ao n c] 24 (0, 0)) ∧ W.heap[b5]? = some (.cells #[.int .i64 0, .slice none 0 0] 24 (0, 0))) (hSet : ∀ W, Below w9.heap.size w9 W → ∀ (ao : Option Addr) (n c : Nat), Calls Tryd.prog 7 #[.pointer p, .slice ao n c] W fun e w' => e = .returned (.int .i64 1) ∧ Below W.heap.size W w') (hFire : ∀ W, Below w9.heap.size w9 W → ∀ (k : Int) (ao : Option Addr) (n c : Nat), Calls Tryd.prog 9 #[.pointer p, .agg #[.int .i64 k, .slice ao n c]] W fun e w' => e = .returned (.int .i64 1) ∧ Below W.heap.size W w') (hFired : ∀ W, Below w9.heap.size w9 W → Calls Tryd.prog 10 #[.pointer p] W fun e w' => e = .returned (.slice none 0 0) ∧ Below W.heap.size W w') (hs : St ops nlD (nlF w9 g b1 b5 ix p k ao n c) (nlJ w9 g b1 b5 ix p k ao n c) 43 a0 l a w) (hi : ops[34]? = some { dst := some 58, op := Op.move (Operand.tmp 57), type := ty, pos := pos, after := after, guard := none }) (nl : l 34 = false) (q31 : l 31 = true) (q33 : l 33 = true) : wpOp Tryd.prog ops Q 34 (Did nlD (nlF w9 g b1 b5 ix p k ao n c) (nlJ w9 g b1 b5 ix p k ao n c) 43 l 34 a) a w := by
  have e57 : nlF w9 g b1 b5 ix p k ao n c l 33 w (a.eval (.tmp 57)) := hs.get (by decide) q33 rfl
  have e57 : a.eval (.tmp 57) = .bool false := e57
  have hK := did (nl_mild w9 g b1 b5 ix p k ao n c) hs (v := .bool false) (d := 58) (i := 34) rfl (Below.refl _ w) rfl
  refine wpOp_move hi ?_
  rw [e57]
  exact hK
set_option linter.unusedVariables false in
theorem nl_s35 (w9 : World) (g b1 b5 ix : Nat) (p : Option Addr) (k : Int) (ao : Option Addr) (n c : Nat) {ops : Array Oper} {Q : Exit → Act → World → Prop} {a0 a : Act} {w : World} {l : Nat → Bool} {ty : TypeId} {pos : String} {after : Array Edge} (e_3 : a0.eval (.tmp 3) = .slice (some ⟨g, 0, none⟩) 2 2) (e_4 : a0.eval (.tmp 4) = .int .i64 (ix : Nat)) (e_1 : a0.eval (.tmp 1) = .pointer (some ⟨b1, 0, none⟩)) (e_5 : a0.eval (.tmp 5) = .pointer (some ⟨b5, 0, none⟩)) (e_6 : a0.eval (.tmp 6) = .bool false) (hi2 : ix = 0 ∨ ix = 1) (hm : ∀ W, Below w9.heap.size w9 W → W.cell? ⟨g, ix, none⟩ = some (.pointer p) ∧ W.heap[b1]? = some (.cells #[.int .i64 k, .slice ao n c] 24 (0, 0)) ∧ W.heap[b5]? = some (.cells #[.int .i64 0, .slice none 0 0] 24 (0, 0))) (hSet : ∀ W, Below w9.heap.size w9 W → ∀ (ao : Option Addr) (n c : Nat), Calls Tryd.prog 7 #[.pointer p, .slice ao n c] W fun e w' => e = .returned (.int .i64 1) ∧ Below W.heap.size W w') (hFire : ∀ W, Below w9.heap.size w9 W → ∀ (k : Int) (ao : Option Addr) (n c : Nat), Calls Tryd.prog 9 #[.pointer p, .agg #[.int .i64 k, .slice ao n c]] W fun e w' => e = .returned (.int .i64 1) ∧ Below W.heap.size W w') (hFired : ∀ W, Below w9.heap.size w9 W → Calls Tryd.prog 10 #[.pointer p] W fun e w' => e = .returned (.slice none 0 0) ∧ Below W.heap.size W w') (hs : St ops nlD (nlF w9 g b1 b5 ix p k ao n c) (nlJ w9 g b1 b5 ix p k ao n c) 43 a0 l a w) (hi : ops[35]? = some { dst := some 59, op := Op.move (Operand.tmp 3), type := ty, pos := pos, after := after, guard := some (34, false) }) (hg : Region.wanted { dst := some 59, op := Op.move (Operand.tmp 3), type := ty, pos := pos, after := after, guard := some (34, false) } (yielded ops a.tmps) = true) (nl : l 35 = false) (q34 : l 34 = true) : wpOp Tryd.prog ops Q 35 (Did nlD (nlF w9 g b1 b5 ix p k ao n c) (nlJ w9 g b1 b5 ix p k ao n c) 43 l 35 a) a w := by
  have e3 : a.eval (.tmp 3) = .slice (some ⟨g, 0, none⟩) 2 2 := (hs.kept 3 (by decide)).trans (e_3)
  have hK := did (nl_mild w9 g b1 b5 ix p k ao n c) hs (v := .slice (some ⟨g, 0, none⟩) 2 2) (d := 59) (i := 35) rfl (Below.refl _ w) rfl
  refine wpOp_goW hi hg ?_
  unfold Oper.wp
  have KK := Lib.hid hK
  clear hK hi hg
  have ec1 : a.eval (.const (.bool true)) = .bool true := rfl
  have ec2 : a.eval (.const (.int .i64 1)) = .int .i64 1 := rfl
  have ec3 : a.eval (.const (.int .i64 0)) = .int .i64 0 := rfl
  generalize a.eval = ρ at *
  go_simp
  exact KK.out
set_option linter.unusedVariables false in
theorem nl_s36 (w9 : World) (g b1 b5 ix : Nat) (p : Option Addr) (k : Int) (ao : Option Addr) (n c : Nat) {ops : Array Oper} {Q : Exit → Act → World → Prop} {a0 a : Act} {w : World} {l : Nat → Bool} {ty : TypeId} {pos : String} {after : Array Edge} (e_3 : a0.eval (.tmp 3) = .slice (some ⟨g, 0, none⟩) 2 2) (e_4 : a0.eval (.tmp 4) = .int .i64 (ix : Nat)) (e_1 : a0.eval (.tmp 1) = .pointer (some ⟨b1, 0, none⟩)) (e_5 : a0.eval (.tmp 5) = .pointer (some ⟨b5, 0, none⟩)) (e_6 : a0.eval (.tmp 6) = .bool false) (hi2 : ix = 0 ∨ ix = 1) (hm : ∀ W, Below w9.heap.size w9 W → W.cell? ⟨g, ix, none⟩ = some (.pointer p) ∧ W.heap[b1]? = some (.cells #[.int .i64 k, .slice ao n c] 24 (0, 0)) ∧ W.heap[b5]? = some (.cells #[.int .i64 0, .slice none 0 0] 24 (0, 0))) (hSet : ∀ W, Below w9.heap.size w9 W → ∀ (ao : Option Addr) (n c : Nat), Calls Tryd.prog 7 #[.pointer p, .slice ao n c] W fun e w' => e = .returned (.int .i64 1) ∧ Below W.heap.size W w') (hFire : ∀ W, Below w9.heap.size w9 W → ∀ (k : Int) (ao : Option Addr) (n c : Nat), Calls Tryd.prog 9 #[.pointer p, .agg #[.int .i64 k, .slice ao n c]] W fun e w' => e = .returned (.int .i64 1) ∧ Below W.heap.size W w') (hFired : ∀ W, Below w9.heap.size w9 W → Calls Tryd.prog 10 #[.pointer p] W fun e w' => e = .returned (.slice none 0 0) ∧ Below W.heap.size W w') (hs : St ops nlD (nlF w9 g b1 b5 ix p k ao n c) (nlJ w9 g b1 b5 ix p k ao n c) 43 a0 l a w) (hi : ops[36]? = some { dst := some 60, op := Op.move (Operand.tmp 4), type := ty, pos := pos, after := after, guard := some (34, false) }) (hg : Region.wanted { dst := some 60, op := Op.move (Operand.tmp 4), type := ty, pos := pos, after := after, guard := some (34, false) } (yielded ops a.tmps) = true) (nl : l 36 = false) (q34 : l 34 = true) : wpOp Tryd.prog ops Q 36 (Did nlD (nlF w9 g b1 b5 ix p k ao n c) (nlJ w9 g b1 b5 ix p k ao n c) 43 l 36 a) a w := by
  have e4 : a.eval (.tmp 4) = .int .i64 (ix : Nat) := (hs.kept 4 (by decide)).trans (e_4)
  have hK := did (nl_mild w9 g b1 b5 ix p k ao n c) hs (v := .int .i64 (ix : Nat)) (d := 60) (i := 36) rfl (Below.refl _ w) rfl
  refine wpOp_goW hi hg ?_
  unfold Oper.wp
  have KK := Lib.hid hK
  clear hK hi hg
  have ec1 : a.eval (.const (.bool true)) = .bool true := rfl
  have ec2 : a.eval (.const (.int .i64 1)) = .int .i64 1 := rfl
  have ec3 : a.eval (.const (.int .i64 0)) = .int .i64 0 := rfl
  generalize a.eval = ρ at *
  go_simp
  exact KK.out
set_option linter.unusedVariables false in
theorem nl_s37 (w9 : World) (g b1 b5 ix : Nat) (p : Option Addr) (k : Int) (ao : Option Addr) (n c : Nat) {ops : Array Oper} {Q : Exit → Act → World → Prop} {a0 a : Act} {w : World} {l : Nat → Bool} {ty : TypeId} {pos : String} {after : Array Edge} (e_3 : a0.eval (.tmp 3) = .slice (some ⟨g, 0, none⟩) 2 2) (e_4 : a0.eval (.tmp 4) = .int .i64 (ix : Nat)) (e_1 : a0.eval (.tmp 1) = .pointer (some ⟨b1, 0, none⟩)) (e_5 : a0.eval (.tmp 5) = .pointer (some ⟨b5, 0, none⟩)) (e_6 : a0.eval (.tmp 6) = .bool false) (hi2 : ix = 0 ∨ ix = 1) (hm : ∀ W, Below w9.heap.size w9 W → W.cell? ⟨g, ix, none⟩ = some (.pointer p) ∧ W.heap[b1]? = some (.cells #[.int .i64 k, .slice ao n c] 24 (0, 0)) ∧ W.heap[b5]? = some (.cells #[.int .i64 0, .slice none 0 0] 24 (0, 0))) (hSet : ∀ W, Below w9.heap.size w9 W → ∀ (ao : Option Addr) (n c : Nat), Calls Tryd.prog 7 #[.pointer p, .slice ao n c] W fun e w' => e = .returned (.int .i64 1) ∧ Below W.heap.size W w') (hFire : ∀ W, Below w9.heap.size w9 W → ∀ (k : Int) (ao : Option Addr) (n c : Nat), Calls Tryd.prog 9 #[.pointer p, .agg #[.int .i64 k, .slice ao n c]] W fun e w' => e = .returned (.int .i64 1) ∧ Below W.heap.size W w') (hFired : ∀ W, Below w9.heap.size w9 W → Calls Tryd.prog 10 #[.pointer p] W fun e w' => e = .returned (.slice none 0 0) ∧ Below W.heap.size W w') (hs : St ops nlD (nlF w9 g b1 b5 ix p k ao n c) (nlJ w9 g b1 b5 ix p k ao n c) 43 a0 l a w) (hi : ops[37]? = some { dst := some 61, op := Op.indexAddr 30 (Operand.tmp 59) (Operand.tmp 60), type := ty, pos := pos, after := after, guard := some (34, false) }) (hg : Region.wanted { dst := some 61, op := Op.indexAddr 30 (Operand.tmp 59) (Operand.tmp 60), type := ty, pos := pos, after := after, guard := some (34, false) } (yielded ops a.tmps) = true) (nl : l 37 = false) (q34 : l 34 = true) (q35 : l 35 = true) (q36 : l 36 = true) : wpOp Tryd.prog ops Q 37 (Did nlD (nlF w9 g b1 b5 ix p k ao n c) (nlJ w9 g b1 b5 ix p k ao n c) 43 l 37 a) a w := by
  have e59 : nlF w9 g b1 b5 ix p k ao n c l 35 w (a.eval (.tmp 59)) := hs.get (by decide) q35 rfl
  have e60 : nlF w9 g b1 b5 ix p k ao n c l 36 w (a.eval (.tmp 60)) := hs.get (by decide) q36 rfl
  have f59 : a.eval (.tmp 59) = .slice (some ⟨g, 0, none⟩) 2 2 := e59
  clear e59
  have f60 : a.eval (.tmp 60) = .int .i64 (ix : Nat) := e60
  clear e60
  have hK := did (nl_mild w9 g b1 b5 ix p k ao n c) hs (v := .pointer (some ⟨g, ix, none⟩)) (d := 61) (i := 37) rfl (Below.refl _ w) rfl
  refine wpOp_goW hi hg ?_
  unfold Oper.wp
  have KK := Lib.hid hK
  clear hK hi hg hs
  generalize a.eval = ρ at *
  rcases hi2 with rfl | rfl
  · go_simp
    exact KK.out
  · go_simp
    exact KK.out
set_option linter.unusedVariables false in
theorem nl_s38 (w9 : World) (g b1 b5 ix : Nat) (p : Option Addr) (k : Int) (ao : Option Addr) (n c : Nat) {ops : Array Oper} {Q : Exit → Act → World → Prop} {a0 a : Act} {w : World} {l : Nat → Bool} {ty : TypeId} {pos : String} {after : Array Edge} (e_3 : a0.eval (.tmp 3) = .slice (some ⟨g, 0, none⟩) 2 2) (e_4 : a0.eval (.tmp 4) = .int .i64 (ix : Nat)) (e_1 : a0.eval (.tmp 1) = .pointer (some ⟨b1, 0, none⟩)) (e_5 : a0.eval (.tmp 5) = .pointer (some ⟨b5, 0, none⟩)) (e_6 : a0.eval (.tmp 6) = .bool false) (hi2 : ix = 0 ∨ ix = 1) (hm : ∀ W, Below w9.heap.size w9 W → W.cell? ⟨g, ix, none⟩ = some (.pointer p) ∧ W.heap[b1]? = some (.cells #[.int .i64 k, .slice ao n c] 24 (0, 0)) ∧ W.heap[b5]? = some (.cells #[.int .i64 0, .slice none 0 0] 24 (0, 0))) (hSet : ∀ W, Below w9.heap.size w9 W → ∀ (ao : Option Addr) (n c : Nat), Calls Tryd.prog 7 #[.pointer p, .slice ao n c] W fun e w' => e = .returned (.int .i64 1) ∧ Below W.heap.size W w') (hFire : ∀ W, Below w9.heap.size w9 W → ∀ (k : Int) (ao : Option Addr) (n c : Nat), Calls Tryd.prog 9 #[.pointer p, .agg #[.int .i64 k, .slice ao n c]] W fun e w' => e = .returned (.int .i64 1) ∧ Below W.heap.size W w') (hFired : ∀ W, Below w9.heap.size w9 W → Calls Tryd.prog 10 #[.pointer p] W fun e w' => e = .returned (.slice none 0 0) ∧ Below W.heap.size W w') (hs : St ops nlD (nlF w9 g b1 b5 ix p k ao n c) (nlJ w9 g b1 b5 ix p k ao n c) 43 a0 l a w) (hi : ops[38]? = some { dst := some 62, op := Op.load 26 (Operand.tmp 61), type := ty, pos := pos, after := after, guard := some (34, false) }) (hg : Region.wanted { dst := some 62, op := Op.load 26 (Operand.tmp 61), type := ty, pos := pos, after := after, guard := some (34, false) } (yielded ops a.tmps) = true) (nl : l 38 = false) (q34 : l 34 = true) (q37 : l 37 = true) : wpOp Tryd.prog ops Q 38 (Did nlD (nlF w9 g b1 b5 ix p k ao n c) (nlJ w9 g b1 b5 ix p k ao n c) 43 l 38 a) a w := by
  have e61 : nlF w9 g b1 b5 ix p k ao n c l 37 w (a.eval (.tmp 61)) := hs.get (by decide) q37 rfl
  have f61 : a.eval (.tmp 61) = .pointer (some ⟨g, ix, none⟩) := e61
  clear e61
  have hc := (hm w hs.j).1
  have hK := did (nl_mild w9 g b1 b5 ix p k ao n c) hs (v := .pointer p) (d := 62) (i := 38) rfl (Below.refl _ w) rfl
  refine wpOp_goW hi hg ?_
  unfold Oper.wp
  have KK := Lib.hid hK
  clear hK hi hg hs
  generalize a.eval = ρ at *
  go_simp
  exact KK.out
set_option linter.unusedVariables false in
theorem nl_s39 (w9 : World) (g b1 b5 ix : Nat) (p : Option Addr) (k : Int) (ao : Option Addr) (n c : Nat) {ops : Array Oper} {Q : Exit → Act → World → Prop} {a0 a : Act} {w : World} {l : Nat → Bool} {ty : TypeId} {pos : String} {after : Array Edge} (e_3 : a0.eval (.tmp 3) = .slice (some ⟨g, 0, none⟩) 2 2) (e_4 : a0.eval (.tmp 4) = .int .i64 (ix : Nat)) (e_1 : a0.eval (.tmp 1) = .pointer (some ⟨b1, 0, none⟩)) (e_5 : a0.eval (.tmp 5) = .pointer (some ⟨b5, 0, none⟩)) (e_6 : a0.eval (.tmp 6) = .bool false) (hi2 : ix = 0 ∨ ix = 1) (hm : ∀ W, Below w9.heap.size w9 W → W.cell? ⟨g, ix, none⟩ = some (.pointer p) ∧ W.heap[b1]? = some (.cells #[.int .i64 k, .slice ao n c] 24 (0, 0)) ∧ W.heap[b5]? = some (.cells #[.int .i64 0, .slice none 0 0] 24 (0, 0))) (hSet : ∀ W, Below w9.heap.size w9 W → ∀ (ao : Option Addr) (n c : Nat), Calls Tryd.prog 7 #[.pointer p, .slice ao n c] W fun e w' => e = .returned (.int .i64 1) ∧ Below W.heap.size W w') (hFire : ∀ W, Below w9.heap.size w9 W → ∀ (k : Int) (ao : Option Addr) (n c : Nat), Calls Tryd.prog 9 #[.pointer p, .agg #[.int .i64 k, .slice ao n c]] W fun e w' => e = .returned (.int .i64 1) ∧ Below W.heap.size W w') (hFired : ∀ W, Below w9.heap.size w9 W → Calls Tryd.prog 10 #[.pointer p] W fun e w' => e = .returned (.slice none 0 0) ∧ Below W.heap.size W w') (hs : St ops nlD (nlF w9 g b1 b5 ix p k ao n c) (nlJ w9 g b1 b5 ix p k ao n c) 43 a0 l a w) (hi : ops[39]? = some { dst := some 63, op := Op.call { callee := Callee.value (Operand.func 10), args := #[Operand.tmp 62], argTypes := #[26] }, type := ty, pos := pos, after := after, guard := some (34, false) }) (hg : Region.wanted { dst := some 63, op := Op.call { callee := Callee.value (Operand.func 10), args := #[Operand.tmp 62], argTypes := #[26] }, type := ty, pos := pos, after := after, guard := some (34, false) } (yielded ops a.tmps) = true) (nl : l 39 = false) (q34 : l 34 = true) (q38 : l 38 = true) : wpOp Tryd.prog ops Q 39 (Did nlD (nlF w9 g b1 b5 ix p k ao n c) (nlJ w9 g b1 b5 ix p k ao n c) 43 l 39 a) a w := by
  have e62 : nlF w9 g b1 b5 ix p k ao n c l 38 w (a.eval (.tmp 62)) := hs.get (by decide) q38 rfl
  have f62 : a.eval (.tmp 62) = .pointer p := e62
  clear e62
  refine wpOp_callW (vs := #[.pointer p]) hi hg (enters_of Tryd.func10 (by kernel_rfl) rfl) (by simp [f62]) ?_
  refine (hFired w hs.j).mono ?_
  rintro e w' ⟨rfl, hb⟩
  exact ⟨_, rfl, did (nl_mild w9 g b1 b5 ix p k ao n c) hs (d := 63) (i := 39) rfl hb rfl⟩
set_option linter.unusedVariables false in
theorem nl_s40 (w9 : World) (g b1 b5 ix : Nat) (p : Option Addr) (k : Int) (ao : Option Addr) (n c : Nat) {ops : Array Oper} {Q : Exit → Act → World → Prop} {a0 a : Act} {w : World} {l : Nat → Bool} {ty : TypeId} {pos : String} {after : Array Edge} (e_3 : a0.eval (.tmp 3) = .slice (some ⟨g, 0, none⟩) 2 2) (e_4 : a0.eval (.tmp 4) = .int .i64 (ix : Nat)) (e_1 : a0.eval (.tmp 1) = .pointer (some ⟨b1, 0, none⟩)) (e_5 : a0.eval (.tmp 5) = .pointer (some ⟨b5, 0, none⟩)) (e_6 : a0.eval (.tmp 6) = .bool false) (hi2 : ix = 0 ∨ ix = 1) (hm : ∀ W, Below w9.heap.size w9 W → W.cell? ⟨g, ix, none⟩ = some (.pointer p) ∧ W.heap[b1]? = some (.cells #[.int .i64 k, .slice ao n c] 24 (0, 0)) ∧ W.heap[b5]? = some (.cells #[.int .i64 0, .slice none 0 0] 24 (0, 0))) (hSet : ∀ W, Below w9.heap.size w9 W → ∀ (ao : Option Addr) (n c : Nat), Calls Tryd.prog 7 #[.pointer p, .slice ao n c] W fun e w' => e = .returned (.int .i64 1) ∧ Below W.heap.size W w') (hFire : ∀ W, Below w9.heap.size w9 W → ∀ (k : Int) (ao : Option Addr) (n c : Nat), Calls Tryd.prog 9 #[.pointer p, .agg #[.int .i64 k, .slice ao n c]] W fun e w' => e = .returned (.int .i64 1) ∧ Below W.heap.size W w') (hFired : ∀ W, Below w9.heap.size w9 W → Calls Tryd.prog 10 #[.pointer p] W fun e w' => e = .returned (.slice none 0 0) ∧ Below W.heap.size W w') (hs : St ops nlD (nlF w9 g b1 b5 ix p k ao n c) (nlJ w9 g b1 b5 ix p k ao n c) 43 a0 l a w) (hi : ops[40]? = some { dst := some 64, op := Op.call { callee := Callee.builtin Builtin.len, args := #[Operand.tmp 63], argTypes := #[37] }, type := ty, pos := pos, after := after, guard := some (34, false) }) (hg : Region.wanted { dst := some 64, op := Op.call { callee := Callee.builtin Builtin.len, args := #[Operand.tmp 63], argTypes := #[37] }, type := ty, pos := pos, after := after, guard := some (34, false) } (yielded ops a.tmps) = true) (nl : l 40 = false) (q34 : l 34 = true) (q39 : l 39 = true) : wpOp Tryd.prog ops Q 40 (Did nlD (nlF w9 g b1 b5 ix p k ao n c) (nlJ w9 g b1 b5 ix p k ao n c) 43 l 40 a) a w := by
  have e63 : nlF w9 g b1 b5 ix p k ao n c l 39 w (a.eval (.tmp 63)) := hs.get (by decide) q39 rfl
  have e63 : a.eval (.tmp 63) = .slice none 0 0 := e63
  have hK := did (nl_mild w9 g b1 b5 ix p k ao n c) hs (v := .int .i64 0) (d := 64) (i := 40) rfl (Below.refl _ w) rfl
  refine wpOp_goW hi hg ?_
  unfold Oper.wp
  have KK := Lib.hid hK
  clear hK hi hg
  have ec1 : a.eval (.const (.bool true)) = .bool true := rfl
  have ec2 : a.eval (.const (.int .i64 1)) = .int .i64 1 := rfl
  have ec3 : a.eval (.const (.int .i64 0)) = .int .i64 0 := rfl
  generalize a.eval = ρ at *
  go_simp
  exact KK.out
set_option linter.unusedVariables false in
theorem nl_s41 (w9 : World) (g b1 b5 ix : Nat) (p : Option Addr) (k : Int) (ao : Option Addr) (n c : Nat) {ops : Array Oper} {Q : Exit → Act → World → Prop} {a0 a : Act} {w : World} {l : Nat → Bool} {ty : TypeId} {pos : String} {after : Array Edge} (e_3 : a0.eval (.tmp 3) = .slice (some ⟨g, 0, none⟩) 2 2) (e_4 : a0.eval (.tmp 4) = .int .i64 (ix : Nat)) (e_1 : a0.eval (.tmp 1) = .pointer (some ⟨b1, 0, none⟩)) (e_5 : a0.eval (.tmp 5) = .pointer (some ⟨b5, 0, none⟩)) (e_6 : a0.eval (.tmp 6) = .bool false) (hi2 : ix = 0 ∨ ix = 1) (hm : ∀ W, Below w9.heap.size w9 W → W.cell? ⟨g, ix, none⟩ = some (.pointer p) ∧ W.heap[b1]? = some (.cells #[.int .i64 k, .slice ao n c] 24 (0, 0)) ∧ W.heap[b5]? = some (.cells #[.int .i64 0, .slice none 0 0] 24 (0, 0))) (hSet : ∀ W, Below w9.heap.size w9 W → ∀ (ao : Option Addr) (n c : Nat), Calls Tryd.prog 7 #[.pointer p, .slice ao n c] W fun e w' => e = .returned (.int .i64 1) ∧ Below W.heap.size W w') (hFire : ∀ W, Below w9.heap.size w9 W → ∀ (k : Int) (ao : Option Addr) (n c : Nat), Calls Tryd.prog 9 #[.pointer p, .agg #[.int .i64 k, .slice ao n c]] W fun e w' => e = .returned (.int .i64 1) ∧ Below W.heap.size W w') (hFired : ∀ W, Below w9.heap.size w9 W → Calls Tryd.prog 10 #[.pointer p] W fun e w' => e = .returned (.slice none 0 0) ∧ Below W.heap.size W w') (hs : St ops nlD (nlF w9 g b1 b5 ix p k ao n c) (nlJ w9 g b1 b5 ix p k ao n c) 43 a0 l a w) (hi : ops[41]? = some { dst := some 65, op := Op.binOp BinOp.neq 3 (Operand.tmp 64) (Operand.const (Value.int IntKind.i64 0)) 3, type := ty, pos := pos, after := after, guard := some (34, false) }) (hg : Region.wanted { dst := some 65, op := Op.binOp BinOp.neq 3 (Operand.tmp 64) (Operand.const (Value.int IntKind.i64 0)) 3, type := ty, pos := pos, after := after, guard := some (34, false) } (yielded ops a.tmps) = true) (nl : l 41 = false) (q34 : l 34 = true) (q40 : l 40 = true) : wpOp Tryd.prog ops Q 41 (Did nlD (nlF w9 g b1 b5 ix p k ao n c) (nlJ w9 g b1 b5 ix p k ao n c) 43 l 41 a) a w := by
  have e64 : nlF w9 g b1 b5 ix p k ao n c l 40 w (a.eval (.tmp 64)) := hs.get (by decide) q40 rfl
  have e64 : a.eval (.tmp 64) = .int .i64 0 := e64
  have hK := did (nl_mild w9 g b1 b5 ix p k ao n c) hs (v := .bool false) (d := 65) (i := 41) rfl (Below.refl _ w) rfl
  refine wpOp_goW hi hg ?_
  unfold Oper.wp
  have KK := Lib.hid hK
  clear hK hi hg
  have ec1 : a.eval (.const (.bool true)) = .bool true := rfl
  have ec2 : a.eval (.const (.int .i64 1)) = .int .i64 1 := rfl
  have ec3 : a.eval (.const (.int .i64 0)) = .int .i64 0 := rfl
  generalize a.eval = ρ at *
  go_simp
  exact KK.out
set_option linter.unusedVariables false in
theorem nl_s42 (w9 : World) (g b1 b5 ix : Nat) (p : Option Addr) (k : Int) (ao : Option Addr) (n c : Nat) {ops : Array Oper} {Q : Exit → Act → World → Prop} {a0 a : Act} {w : World} {l : Nat → Bool} {ty : TypeId} {pos : String} {after : Array Edge} (e_3 : a0.eval (.tmp 3) = .slice (some ⟨g, 0, none⟩) 2 2) (e_4 : a0.eval (.tmp 4) = .int .i64 (ix : Nat)) (e_1 : a0.eval (.tmp 1) = .pointer (some ⟨b1, 0, none⟩)) (e_5 : a0.eval (.tmp 5) = .pointer (some ⟨b5, 0, none⟩)) (e_6 : a0.eval (.tmp 6) = .bool false) (hi2 : ix = 0 ∨ ix = 1) (hm : ∀ W, Below w9.heap.size w9 W → W.cell? ⟨g, ix, none⟩ = some (.pointer p) ∧ W.heap[b1]? = some (.cells #[.int .i64 k, .slice ao n c] 24 (0, 0)) ∧ W.heap[b5]? = some (.cells #[.int .i64 0, .slice none 0 0] 24 (0, 0))) (hSet : ∀ W, Below w9.heap.size w9 W → ∀ (ao : Option Addr) (n c : Nat), Calls Tryd.prog 7 #[.pointer p, .slice ao n c] W fun e w' => e = .returned (.int .i64 1) ∧ Below W.heap.size W w') (hFire : ∀ W, Below w9.heap.size w9 W → ∀ (k : Int) (ao : Option Addr) (n c : Nat), Calls Tryd.prog 9 #[.pointer p, .agg #[.int .i64 k, .slice ao n c]] W fun e w' => e = .returned (.int .i64 1) ∧ Below W.heap.size W w') (hFired : ∀ W, Below w9.heap.size w9 W → Calls Tryd.prog 10 #[.pointer p] W fun e w' => e = .returned (.slice none 0 0) ∧ Below W.heap.size W w') (hs : St ops nlD (nlF w9 g b1 b5 ix p k ao n c) (nlJ w9 g b1 b5 ix p k ao n c) 43 a0 l a w) (hi : ops[42]? = some { dst := some 66, op := Op.pick (Operand.tmp 58) (Operand.const (Value.bool true)) (Operand.tmp 65), type := ty, pos := pos, after := after, guard := none }) (nl : l 42 = false) (q34 : l 34 = true) (q41 : l 41 = true) : wpOp Tryd.prog ops Q 42 (Did nlD (nlF w9 g b1 b5 ix p k ao n c) (nlJ w9 g b1 b5 ix p k ao n c) 43 l 42 a) a w := by
  have e58 : nlF w9 g b1 b5 ix p k ao n c l 34 w (a.eval (.tmp 58)) := hs.get (by decide) q34 rfl
  have e65 : nlF w9 g b1 b5 ix p k ao n c l 41 w (a.eval (.tmp 65)) := hs.get (by decide) q41 rfl
  have e58 : a.eval (.tmp 58) = .bool false := e58
  have e65 : a.eval (.tmp 65) = .bool false := e65
  have hK := did (nl_mild w9 g b1 b5 ix p k ao n c) hs (v := .bool false) (d := 66) (i := 42) rfl (Below.refl _ w) rfl
  refine wpOp_go hi rfl ?_
  unfold Oper.wp
  have KK := Lib.hid hK
  clear hK hi
  have ec1 : a.eval (.const (.bool true)) = .bool true := rfl
  have ec2 : a.eval (.const (.int .i64 1)) = .int .i64 1 := rfl
  have ec3 : a.eval (.const (.int .i64 0)) = .int .i64 0 := rfl
  generalize a.eval = ρ at *
  go_simp
  exact KK.out
set_option maxHeartbeats 8000000 in
theorem agendaNil_any (k : Int) (ao : Option Addr) (n c : Nat) (w : World) (ht : Tab14 w) : Calls Tryd.prog 3 #[.agg #[.int .i64 k, .slice ao n c]] w (YesP w) := by
  have mixed : Tryd.prog.follows .mixedOrders = true := by kernel_rfl
  have HB0 := Lib.hid (below_own (w := w) (.cells #[.int .i64 k, .slice ao n c] 24))
  have HQ0 : Hid ((w.alloc (.cells #[.int .i64 k, .slice ao n c] 24)).heap[w.heap.size]? = some (.cells #[.int .i64 k, .slice ao n c] 24 (0, 0))) := heap_alloc_new w _
  have KA := Lib.hid (awake_tells _ (ht.on HB0.out))
  clear ht
  go_enter Tryd.func3, Tryd.ntmps3
  go_wp2_with (go_at_call 5; refine KA.out.mono ?_; rintro e w1 ⟨rfl, hb⟩; have HB1 := Lib.hid hb; clear hb)
  have hq1 : Hid (w1.heap[w.heap.size]? = _) := (HB1.out.block _ (lt_of_heap HQ0.out)).trans HQ0.out
  have hb1 : Hid (Below w.heap.size w w1) := HB0.out.trans (HB1.out.mono HB0.out.size)
  obtain ⟨y1, y2⟩ := heap_two (w := w1) (.cells #[.pointer none] 29) (.cells #[.pointer none, .pointer (some ⟨w1.heap.size, 0, none⟩)] 26)
  have hbt := below_two w1 (.cells #[.pointer none] 29) (.cells #[.pointer none, .pointer (some ⟨w1.heap.size, 0, none⟩)] 26)
  have HA0 := Lib.hid y1
  have HR0 := Lib.hid y2
  have HT0 : Hid (((w1.alloc (.cells #[.pointer none] 29)).alloc (.cells #[.pointer none, .pointer (some ⟨w1.heap.size, 0, none⟩)] 26)).heap[w.heap.size]? = _) := (hbt.block _ (lt_of_heap hq1.out)).trans hq1.out
  have HBB : Hid (Below w.heap.size w ((w1.alloc (.cells #[.pointer none] 29)).alloc (.cells #[.pointer none, .pointer (some ⟨w1.heap.size, 0, none⟩)] 26))) := hb1.out.trans (hbt.mono hb1.out.size)
  clear y1 y2 hbt hq1 hb1 HB0 HQ0 HB1 KA
  go_loopw [4] (fun vi wr => ∃ ix : Nat, ix ≤ 2 ∧ vi = .int .i64 ix ∧ Hid (wr.heap[w1.heap.size]? = some (.cells #[.pointer none] 29 (0, 0))) ∧ Hid (wr.heap[w1.heap.size + 1]? = some (.cells #[.pointer none, .pointer (some ⟨w1.heap.size, 0, none⟩)] 26 (0, 0))) ∧ Hid (wr.heap[w.heap.size]? = some (.cells #[.int .i64 k, .slice ao n c] 24 (0, 0))) ∧ Hid (Below w.heap.size w wr)) (fun vi _ => 2 - (intOf vi).toNat)
  case atStart => exact ⟨0, by omega, rfl, HA0, HR0, HT0, HBB⟩
  case round =>
    obtain ⟨ix, hi, rfl, HA, HR, HT, HB⟩ := hrel
    clear HA0 HR0 HT0 HBB
    by_cases hlt : ix < 2
    · obtain ⟨p, hp, hnm⟩ : ∃ p : Option Addr, wr.cell? ⟨w1.heap.size + 1, ix, none⟩ = some (.pointer p) ∧ NotMade p wr := by
        have hi2 : ix = 0 ∨ ix = 1 := by omega
        rcases hi2 with rfl | rfl
        · exact ⟨none, Lib.cell_of_heap HR.out 0, notMade_none wr⟩
        · exact ⟨_, Lib.cell_of_heap HR.out 1, notMade_zero HA.out⟩
      have HNM := Lib.hid hnm
      have HPC := Lib.hid hp
      have KN := Lib.hid (next_nil p wr hnm)
      have q0 : (0 : Int) ≤ (ix : Int) := by omega
      have q1 : (ix : Int) < 2 := by omega
      have q2 : ((ix : Nat) : Int).toNat = ix := by omega
      have hi2 : ix = 0 ∨ ix = 1 := by omega
      clear hnm
      go_wp2_with (go_at_call 6; refine KN.out.mono ?_; rintro e w2 ⟨rfl, hb⟩; have HB2 := Lib.hid hb; clear hb)
      have HB3 : Hid (Below wr.heap.size wr (w2.alloc (.cells #[.int .i64 0, .slice none 0 0] 24))) := below_new HB2.out _
      have HU : Hid ((w2.alloc (.cells #[.int .i64 0, .slice none 0 0] 24)).heap[w2.heap.size]? = some (.cells #[.int .i64 0, .slice none 0 0] 24 (0, 0))) := heap_alloc_new w2 _
      generalize (w2.alloc (.cells #[.int .i64 0, .slice none 0 0] 24)) = W3 at HB3 HU ⊢
      obtain ⟨g, hg⟩ : ∃ g, w1.heap.size + 1 = g := ⟨_, rfl⟩
      obtain ⟨b1, hb1⟩ : ∃ b1, w.heap.size = b1 := ⟨_, rfl⟩
      obtain ⟨b5, hb5⟩ : ∃ b5, w2.heap.size = b5 := ⟨_, rfl⟩
      generalize ha0 : ({ tmps := _, defers := _ } : Act) = a0
      have e_3 : a0.eval (.tmp 3) = .slice (some ⟨g, 0, none⟩) 2 2 := by rw [← ha0, ← hg]; rfl
      have e_4 : a0.eval (.tmp 4) = .int .i64 (ix : Nat) := by rw [← ha0]; rfl
      have e_1 : a0.eval (.tmp 1) = .pointer (some ⟨b1, 0, none⟩) := by rw [← ha0, ← hb1]; rfl
      have e_5 : a0.eval (.tmp 5) = .pointer (some ⟨b5, 0, none⟩) := by rw [← ha0, ← hb5]; rfl
      have e_6 : a0.eval (.tmp 6) = .bool false := by rw [← ha0]; rfl
      have hsz : a0.tmps.size = 67 := by rw [← ha0]; rfl
      have hup : ∀ Z, Below W3.heap.size W3 Z → Below wr.heap.size wr Z := fun Z hZ => HB3.out.trans (hZ.mono HB3.out.size)
      have hm : ∀ Z, Below W3.heap.size W3 Z → Z.cell? ⟨g, ix, none⟩ = some (.pointer p) ∧ Z.heap[b1]? = some (.cells #[.int .i64 k, .slice ao n c] 24 (0, 0)) ∧ Z.heap[b5]? = some (.cells #[.int .i64 0, .slice none 0 0] 24 (0, 0)) := fun Z hZ => by
        rw [← hg, ← hb1, ← hb5]
        exact ⟨((hup Z hZ).cell (p := ⟨w1.heap.size + 1, ix, none⟩) (lt_of_heap HR.out)).trans HPC.out, ((hup Z hZ).block _ (lt_of_heap HT.out)).trans HT.out, (hZ.block _ (lt_of_heap HU.out)).trans HU.out⟩
      have hSet := fun Z (hZ : Below W3.heap.size W3 Z) (ao : Option Addr) (n c : Nat) => set_nil p ao n c Z (HNM.out.on (hup Z hZ))
      have hFire := fun Z (hZ : Below W3.heap.size W3 Z) (k : Int) (ao : Option Addr) (n c : Nat) => fire_nil p k ao n c Z (HNM.out.on (hup Z hZ))
      have hFired := fun Z (hZ : Below W3.heap.size W3 Z) => fired_nil p Z (HNM.out.on (hup Z hZ))
      refine wp_region_st nlD (nlF W3 g b1 b5 ix p k ao n c) (nlJ W3 g b1 b5 ix p k ao n c) 43 mixed (by kernel_rfl) rfl (by kernel_rfl) (by rw [hsz]; kernel_rfl) (below_drew (Below.refl _ _))
            (fun ll aa ww i hi hs nl hw => by
              have h : i = 0 ∨ i = 1 ∨ i = 2 ∨ i = 3 ∨ i = 4 ∨ i = 5 ∨ i = 6 ∨ i = 7 ∨ i = 8 ∨ i = 9 ∨ i = 10 ∨ i = 11 ∨ i = 12 ∨ i = 13 ∨ i = 14 ∨ i = 15 ∨ i = 16 ∨ i = 17 ∨ i = 18 ∨ i = 19 ∨ i = 20 ∨ i = 21 ∨ i = 22 ∨ i = 23 ∨ i = 24 ∨ i = 25 ∨ i = 26 ∨ i = 27 ∨ i = 28 ∨ i = 29 ∨ i = 30 ∨ i = 31 ∨ i = 32 ∨ i = 33 ∨ i = 34 ∨ i = 35 ∨ i = 36 ∨ i = 37 ∨ i = 38 ∨ i = 39 ∨ i = 40 ∨ i = 41 ∨ i = 42 := by omega
              rcases h with rfl | rfl | rfl | rfl | rfl | rfl | rfl | rfl | rfl | rfl | rfl | rfl | rfl | rfl | rfl | rfl | rfl | rfl | rfl | rfl | rfl | rfl | rfl | rfl | rfl | rfl | rfl | rfl | rfl | rfl | rfl | rfl | rfl | rfl | rfl | rfl | rfl | rfl | rfl | rfl | rfl | rfl | rfl
              · exact nl_s0 _ g b1 b5 ix p k ao n c e_3 e_4 e_1 e_5 e_6 hi2 hm hSet hFire hFired hs rfl nl 
              · exact nl_s1 _ g b1 b5 ix p k ao n c e_3 e_4 e_1 e_5 e_6 hi2 hm hSet hFire hFired hs rfl nl 
              · exact nl_s2 _ g b1 b5 ix p k ao n c e_3 e_4 e_1 e_5 e_6 hi2 hm hSet hFire hFired hs rfl nl (hw 0 (by kernel_rfl)) (hw 1 (by kernel_rfl))
              · exact nl_s3 _ g b1 b5 ix p k ao n c e_3 e_4 e_1 e_5 e_6 hi2 hm hSet hFire hFired hs rfl nl (hw 2 (by kernel_rfl))
              · exact nl_s4 _ g b1 b5 ix p k ao n c e_3 e_4 e_1 e_5 e_6 hi2 hm hSet hFire hFired hs rfl nl 
              · exact nl_s5 _ g b1 b5 ix p k ao n c e_3 e_4 e_1 e_5 e_6 hi2 hm hSet hFire hFired hs rfl nl (hw 4 (by kernel_rfl))
              · exact nl_s6 _ g b1 b5 ix p k ao n c e_3 e_4 e_1 e_5 e_6 hi2 hm hSet hFire hFired hs rfl nl (hw 3 (by kernel_rfl)) (hw 5 (by kernel_rfl))
              · exact nl_s7 _ g b1 b5 ix p k ao n c e_3 e_4 e_1 e_5 e_6 hi2 hm hSet hFire hFired hs rfl nl (hw 6 (by kernel_rfl))
              · exact nl_s8 _ g b1 b5 ix p k ao n c e_3 e_4 e_1 e_5 e_6 hi2 hm hSet hFire hFired hs rfl nl (hw 6 (by kernel_rfl)) (hw 7 (by kernel_rfl))
              · exact nl_s9 _ g b1 b5 ix p k ao n c e_3 e_4 e_1 e_5 e_6 hi2 hm hSet hFire hFired hs rfl (wantedB_of rfl (yieldsB_of (b := false) rfl rfl (hs.get (i := 8) (by decide) (hw 8 (by kernel_rfl)) rfl))) nl (hw 8 (by kernel_rfl))
              · exact nl_s10 _ g b1 b5 ix p k ao n c e_3 e_4 e_1 e_5 e_6 hi2 hm hSet hFire hFired hs rfl (wantedB_of rfl (yieldsB_of (b := false) rfl rfl (hs.get (i := 8) (by decide) (hw 8 (by kernel_rfl)) rfl))) nl (hw 8 (by kernel_rfl))
              · exact nl_s11 _ g b1 b5 ix p k ao n c e_3 e_4 e_1 e_5 e_6 hi2 hm hSet hFire hFired hs rfl (wantedB_of rfl (yieldsB_of (b := false) rfl rfl (hs.get (i := 8) (by decide) (hw 8 (by kernel_rfl)) rfl))) nl (hw 8 (by kernel_rfl)) (hw 9 (by kernel_rfl)) (hw 10 (by kernel_rfl))
              · exact nl_s12 _ g b1 b5 ix p k ao n c e_3 e_4 e_1 e_5 e_6 hi2 hm hSet hFire hFired hs rfl (wantedB_of rfl (yieldsB_of (b := false) rfl rfl (hs.get (i := 8) (by decide) (hw 8 (by kernel_rfl)) rfl))) nl (hw 8 (by kernel_rfl)) (hw 11 (by kernel_rfl))
              · exact nl_s13 _ g b1 b5 ix p k ao n c e_3 e_4 e_1 e_5 e_6 hi2 hm hSet hFire hFired hs rfl (wantedB_of rfl (yieldsB_of (b := false) rfl rfl (hs.get (i := 8) (by decide) (hw 8 (by kernel_rfl)) rfl))) nl (hw 8 (by kernel_rfl)) (hw 12 (by kernel_rfl))
              · exact nl_s14 _ g b1 b5 ix p k ao n c e_3 e_4 e_1 e_5 e_6 hi2 hm hSet hFire hFired hs rfl (wantedB_of rfl (yieldsB_of (b := false) rfl rfl (hs.get (i := 8) (by decide) (hw 8 (by kernel_rfl)) rfl))) nl (hw 8 (by kernel_rfl)) (hw 13 (by kernel_rfl))
              · exact nl_s15 _ g b1 b5 ix p k ao n c e_3 e_4 e_1 e_5 e_6 hi2 hm hSet hFire hFired hs rfl nl (hw 8 (by kernel_rfl)) (hw 14 (by kernel_rfl))
              · exact nl_s16 _ g b1 b5 ix p k ao n c e_3 e_4 e_1 e_5 e_6 hi2 hm hSet hFire hFired hs rfl nl (hw 13 (by kernel_rfl)) (hw 15 (by kernel_rfl))
              · exact nl_s17 _ g b1 b5 ix p k ao n c e_3 e_4 e_1 e_5 e_6 hi2 hm hSet hFire hFired hs rfl (wantedB_of rfl (yieldsB_of (b := false) rfl rfl (hs.get (i := 16) (by decide) (hw 16 (by kernel_rfl)) rfl))) nl (hw 16 (by kernel_rfl))
              · exact nl_s18 _ g b1 b5 ix p k ao n c e_3 e_4 e_1 e_5 e_6 hi2 hm hSet hFire hFired hs rfl nl (hw 16 (by kernel_rfl)) (hw 17 (by kernel_rfl))
              · exact nl_s19 _ g b1 b5 ix p k ao n c e_3 e_4 e_1 e_5 e_6 hi2 hm hSet hFire hFired hs rfl nl (hw 16 (by kernel_rfl)) (hw 18 (by kernel_rfl))
              · exact nl_s20 _ g b1 b5 ix p k ao n c e_3 e_4 e_1 e_5 e_6 hi2 hm hSet hFire hFired hs rfl (wantedB_of rfl (yieldsB_of (b := false) rfl rfl (hs.get (i := 19) (by decide) (hw 19 (by kernel_rfl)) rfl))) nl (hw 19 (by kernel_rfl))
              · exact nl_s21 _ g b1 b5 ix p k ao n c e_3 e_4 e_1 e_5 e_6 hi2 hm hSet hFire hFired hs rfl (wantedB_of rfl (yieldsB_of (b := false) rfl rfl (hs.get (i := 19) (by decide) (hw 19 (by kernel_rfl)) rfl))) nl (hw 19 (by kernel_rfl))
              · exact nl_s22 _ g b1 b5 ix p k ao n c e_3 e_4 e_1 e_5 e_6 hi2 hm hSet hFire hFired hs rfl (wantedB_of rfl (yieldsB_of (b := false) rfl rfl (hs.get (i := 19) (by decide) (hw 19 (by kernel_rfl)) rfl))) nl (hw 19 (by kernel_rfl)) (hw 20 (by kernel_rfl)) (hw 21 (by kernel_rfl))
              · exact nl_s23 _ g b1 b5 ix p k ao n c e_3 e_4 e_1 e_5 e_6 hi2 hm hSet hFire hFired hs rfl (wantedB_of rfl (yieldsB_of (b := false) rfl rfl (hs.get (i := 19) (by decide) (hw 19 (by kernel_rfl)) rfl))) nl (hw 19 (by kernel_rfl)) (hw 22 (by kernel_rfl))
              · exact nl_s24 _ g b1 b5 ix p k ao n c e_3 e_4 e_1 e_5 e_6 hi2 hm hSet hFire hFired hs rfl nl (hw 19 (by kernel_rfl)) (hw 23 (by kernel_rfl))
              · exact nl_s25 _ g b1 b5 ix p k ao n c e_3 e_4 e_1 e_5 e_6 hi2 hm hSet hFire hFired hs rfl nl (hw 22 (by kernel_rfl)) (hw 24 (by kernel_rfl))
              · exact nl_s26 _ g b1 b5 ix p k ao n c e_3 e_4 e_1 e_5 e_6 hi2 hm hSet hFire hFired hs rfl (wantedB_of rfl (yieldsB_of (b := false) rfl rfl (hs.get (i := 25) (by decide) (hw 25 (by kernel_rfl)) rfl))) nl (hw 25 (by kernel_rfl))
              · exact nl_s27 _ g b1 b5 ix p k ao n c e_3 e_4 e_1 e_5 e_6 hi2 hm hSet hFire hFired hs rfl (wantedB_of rfl (yieldsB_of (b := false) rfl rfl (hs.get (i := 25) (by decide) (hw 25 (by kernel_rfl)) rfl))) nl (hw 25 (by kernel_rfl))
              · exact nl_s28 _ g b1 b5 ix p k ao n c e_3 e_4 e_1 e_5 e_6 hi2 hm hSet hFire hFired hs rfl (wantedB_of rfl (yieldsB_of (b := false) rfl rfl (hs.get (i := 25) (by decide) (hw 25 (by kernel_rfl)) rfl))) nl (hw 25 (by kernel_rfl)) (hw 26 (by kernel_rfl)) (hw 27 (by kernel_rfl))
              · exact nl_s29 _ g b1 b5 ix p k ao n c e_3 e_4 e_1 e_5 e_6 hi2 hm hSet hFire hFired hs rfl (wantedB_of rfl (yieldsB_of (b := false) rfl rfl (hs.get (i := 25) (by decide) (hw 25 (by kernel_rfl)) rfl))) nl (hw 25 (by kernel_rfl)) (hw 28 (by kernel_rfl))
              · exact nl_s30 _ g b1 b5 ix p k ao n c e_3 e_4 e_1 e_5 e_6 hi2 hm hSet hFire hFired hs rfl (wantedB_of rfl (yieldsB_of (b := false) rfl rfl (hs.get (i := 25) (by decide) (hw 25 (by kernel_rfl)) rfl))) nl (hw 25 (by kernel_rfl))
              · exact nl_s31 _ g b1 b5 ix p k ao n c e_3 e_4 e_1 e_5 e_6 hi2 hm hSet hFire hFired hs rfl (wantedB_of rfl (yieldsB_of (b := false) rfl rfl (hs.get (i := 25) (by decide) (hw 25 (by kernel_rfl)) rfl))) nl (hw 25 (by kernel_rfl)) (hw 29 (by kernel_rfl)) (hw 30 (by kernel_rfl))
              · exact nl_s32 _ g b1 b5 ix p k ao n c e_3 e_4 e_1 e_5 e_6 hi2 hm hSet hFire hFired hs rfl (wantedB_of rfl (yieldsB_of (b := false) rfl rfl (hs.get (i := 25) (by decide) (hw 25 (by kernel_rfl)) rfl))) nl (hw 25 (by kernel_rfl)) (hw 31 (by kernel_rfl))
              · exact nl_s33 _ g b1 b5 ix p k ao n c e_3 e_4 e_1 e_5 e_6 hi2 hm hSet hFire hFired hs rfl nl (hw 25 (by kernel_rfl)) (hw 32 (by kernel_rfl))
              · exact nl_s34 _ g b1 b5 ix p k ao n c e_3 e_4 e_1 e_5 e_6 hi2 hm hSet hFire hFired hs rfl nl (hw 31 (by kernel_rfl)) (hw 33 (by kernel_rfl))
              · exact nl_s35 _ g b1 b5 ix p k ao n c e_3 e_4 e_1 e_5 e_6 hi2 hm hSet hFire hFired hs rfl (wantedB_of rfl (yieldsB_of (b := false) rfl rfl (hs.get (i := 34) (by decide) (hw 34 (by kernel_rfl)) rfl))) nl (hw 34 (by kernel_rfl))
              · exact nl_s36 _ g b1 b5 ix p k ao n c e_3 e_4 e_1 e_5 e_6 hi2 hm hSet hFire hFired hs rfl (wantedB_of rfl (yieldsB_of (b := false) rfl rfl (hs.get (i := 34) (by decide) (hw 34 (by kernel_rfl)) rfl))) nl (hw 34 (by kernel_rfl))
              · exact nl_s37 _ g b1 b5 ix p k ao n c e_3 e_4 e_1 e_5 e_6 hi2 hm hSet hFire hFired hs rfl (wantedB_of rfl (yieldsB_of (b := false) rfl rfl (hs.get (i := 34) (by decide) (hw 34 (by kernel_rfl)) rfl))) nl (hw 34 (by kernel_rfl)) (hw 35 (by kernel_rfl)) (hw 36 (by kernel_rfl))
              · exact nl_s38 _ g b1 b5 ix p k ao n c e_3 e_4 e_1 e_5 e_6 hi2 hm hSet hFire hFired hs rfl (wantedB_of rfl (yieldsB_of (b := false) rfl rfl (hs.get (i := 34) (by decide) (hw 34 (by kernel_rfl)) rfl))) nl (hw 34 (by kernel_rfl)) (hw 37 (by kernel_rfl))
              · exact nl_s39 _ g b1 b5 ix p k ao n c e_3 e_4 e_1 e_5 e_6 hi2 hm hSet hFire hFired hs rfl (wantedB_of rfl (yieldsB_of (b := false) rfl rfl (hs.get (i := 34) (by decide) (hw 34 (by kernel_rfl)) rfl))) nl (hw 34 (by kernel_rfl)) (hw 38 (by kernel_rfl))
              · exact nl_s40 _ g b1 b5 ix p k ao n c e_3 e_4 e_1 e_5 e_6 hi2 hm hSet hFire hFired hs rfl (wantedB_of rfl (yieldsB_of (b := false) rfl rfl (hs.get (i := 34) (by decide) (hw 34 (by kernel_rfl)) rfl))) nl (hw 34 (by kernel_rfl)) (hw 39 (by kernel_rfl))
              · exact nl_s41 _ g b1 b5 ix p k ao n c e_3 e_4 e_1 e_5 e_6 hi2 hm hSet hFire hFired hs rfl (wantedB_of rfl (yieldsB_of (b := false) rfl rfl (hs.get (i := 34) (by decide) (hw 34 (by kernel_rfl)) rfl))) nl (hw 34 (by kernel_rfl)) (hw 40 (by kernel_rfl))
              · exact nl_s42 _ g b1 b5 ix p k ao n c e_3 e_4 e_1 e_5 e_6 hi2 hm hSet hFire hFired hs rfl nl (hw 34 (by kernel_rfl)) (hw 41 (by kernel_rfl)))
        ?_
      intro ll aa W4 hall hst
      have HB4 := Lib.hid (hup W4 hst.j)
      obtain ⟨u29, hu⟩ : ∃ v, v = aa.eval (.tmp 29) := ⟨_, rfl⟩
      have hfr := frame_end [(24, .slice (some ⟨g, 0, none⟩) 2 2), (25, .int .i64 (ix : Nat)), (26, .pointer (some ⟨g, ix, none⟩)), (27, .pointer p), (28, .agg #[.int .i64 k, .slice ao n c]), (29, u29), (30, .int .i64 1), (31, .bool false), (32, .bool false), (33, .slice (some ⟨g, 0, none⟩) 2 2), (34, .int .i64 (ix : Nat)), (35, .pointer (some ⟨g, ix, none⟩)), (36, .pointer p), (37, .int .i64 1), (38, .bool false), (39, .bool false), (40, .bool false), (41, .bool false), (42, .bool false), (43, .bool false), (44, .agg #[.int .i64 0, .slice none 0 0]), (45, .agg #[.int .i64 0, .slice none 0 0]), (46, .bool true), (47, .bool false), (48, .bool false), (49, .bool false), (50, .slice (some ⟨g, 0, none⟩) 2 2), (51, .int .i64 (ix : Nat)), (52, .pointer (some ⟨g, ix, none⟩)), (53, .pointer p), (54, .agg #[.int .i64 k, .slice ao n c]), (55, .int .i64 1), (56, .bool false), (57, .bool false), (58, .bool false), (59, .slice (some ⟨g, 0, none⟩) 2 2), (60, .int .i64 (ix : Nat)), (61, .pointer (some ⟨g, ix, none⟩)), (62, .pointer p), (63, .slice none 0 0), (64, .int .i64 0), (65, .bool false), (66, .bool false)] aa a0 hst.size hst.defs (by
        intro p hp
        simp only [List.mem_cons, List.not_mem_nil, or_false] at hp
        rcases hp with rfl | rfl | rfl | rfl | rfl | rfl | rfl | rfl | rfl | rfl | rfl | rfl | rfl | rfl | rfl | rfl | rfl | rfl | rfl | rfl | rfl | rfl | rfl | rfl | rfl | rfl | rfl | rfl | rfl | rfl | rfl | rfl | rfl | rfl | rfl | rfl | rfl | rfl | rfl | rfl | rfl | rfl | rfl
        · exact hst.get (i := 0) (by decide) (hall 0 (by decide)) rfl
        · exact hst.get (i := 1) (by decide) (hall 1 (by decide)) rfl
        · exact hst.get (i := 2) (by decide) (hall 2 (by decide)) rfl
        · exact hst.get (i := 3) (by decide) (hall 3 (by decide)) rfl
        · exact hst.get (i := 4) (by decide) (hall 4 (by decide)) rfl
        · exact hu.symm
        · exact hst.get (i := 6) (by decide) (hall 6 (by decide)) rfl
        · exact hst.get (i := 7) (by decide) (hall 7 (by decide)) rfl
        · exact hst.get (i := 8) (by decide) (hall 8 (by decide)) rfl
        · exact hst.get (i := 9) (by decide) (hall 9 (by decide)) rfl
        · exact hst.get (i := 10) (by decide) (hall 10 (by decide)) rfl
        · exact hst.get (i := 11) (by decide) (hall 11 (by decide)) rfl
        · exact hst.get (i := 12) (by decide) (hall 12 (by decide)) rfl
        · exact hst.get (i := 13) (by decide) (hall 13 (by decide)) rfl
        · exact hst.get (i := 14) (by decide) (hall 14 (by decide)) rfl
        · exact hst.get (i := 15) (by decide) (hall 15 (by decide)) rfl
        · exact hst.get (i := 16) (by decide) (hall 16 (by decide)) rfl
        · exact hst.get (i := 17) (by decide) (hall 17 (by decide)) rfl
        · exact hst.get (i := 18) (by decide) (hall 18 (by decide)) rfl
        · exact hst.get (i := 19) (by decide) (hall 19 (by decide)) rfl
        · exact hst.get (i := 20) (by decide) (hall 20 (by decide)) rfl
        · exact hst.get (i := 21) (by decide) (hall 21 (by decide)) rfl
        · exact hst.get (i := 22) (by decide) (hall 22 (by decide)) rfl
        · exact hst.get (i := 23) (by decide) (hall 23 (by decide)) rfl
        · exact hst.get (i := 24) (by decide) (hall 24 (by decide)) rfl
        · exact hst.get (i := 25) (by decide) (hall 25 (by decide)) rfl
        · exact hst.get (i := 26) (by decide) (hall 26 (by decide)) rfl
        · exact hst.get (i := 27) (by decide) (hall 27 (by decide)) rfl
        · exact hst.get (i := 28) (by decide) (hall 28 (by decide)) rfl
        · exact hst.get (i := 29) (by decide) (hall 29 (by decide)) rfl
        · exact hst.get (i := 30) (by decide) (hall 30 (by decide)) rfl
        · exact hst.get (i := 31) (by decide) (hall 31 (by decide)) rfl
        · exact hst.get (i := 32) (by decide) (hall 32 (by decide)) rfl
        · exact hst.get (i := 33) (by decide) (hall 33 (by decide)) rfl
        · exact hst.get (i := 34) (by decide) (hall 34 (by decide)) rfl
        · exact hst.get (i := 35) (by decide) (hall 35 (by decide)) rfl
        · exact hst.get (i := 36) (by decide) (hall 36 (by decide)) rfl
        · exact hst.get (i := 37) (by decide) (hall 37 (by decide)) rfl
        · exact hst.get (i := 38) (by decide) (hall 38 (by decide)) rfl
        · exact hst.get (i := 39) (by decide) (hall 39 (by decide)) rfl
        · exact hst.get (i := 40) (by decide) (hall 40 (by decide)) rfl
        · exact hst.get (i := 41) (by decide) (hall 41 (by decide)) rfl
        · exact hst.get (i := 42) (by decide) (hall 42 (by decide)) rfl
        ) (fun t ht => hst.kept t (fun i hi => by
          have h : i = 0 ∨ i = 1 ∨ i = 2 ∨ i = 3 ∨ i = 4 ∨ i = 5 ∨ i = 6 ∨ i = 7 ∨ i = 8 ∨ i = 9 ∨ i = 10 ∨ i = 11 ∨ i = 12 ∨ i = 13 ∨ i = 14 ∨ i = 15 ∨ i = 16 ∨ i = 17 ∨ i = 18 ∨ i = 19 ∨ i = 20 ∨ i = 21 ∨ i = 22 ∨ i = 23 ∨ i = 24 ∨ i = 25 ∨ i = 26 ∨ i = 27 ∨ i = 28 ∨ i = 29 ∨ i = 30 ∨ i = 31 ∨ i = 32 ∨ i = 33 ∨ i = 34 ∨ i = 35 ∨ i = 36 ∨ i = 37 ∨ i = 38 ∨ i = 39 ∨ i = 40 ∨ i = 41 ∨ i = 42 := by omega
          rcases h with rfl | rfl | rfl | rfl | rfl | rfl | rfl | rfl | rfl | rfl | rfl | rfl | rfl | rfl | rfl | rfl | rfl | rfl | rfl | rfl | rfl | rfl | rfl | rfl | rfl | rfl | rfl | rfl | rfl | rfl | rfl | rfl | rfl | rfl | rfl | rfl | rfl | rfl | rfl | rfl | rfl | rfl | rfl
          · exact fun e => ht (by have e1 := Option.some.inj e; subst e1; simp)
          · exact fun e => ht (by have e1 := Option.some.inj e; subst e1; simp)
          · exact fun e => ht (by have e1 := Option.some.inj e; subst e1; simp)
          · exact fun e => ht (by have e1 := Option.some.inj e; subst e1; simp)
          · exact fun e => ht (by have e1 := Option.some.inj e; subst e1; simp)
          · exact fun e => ht (by have e1 := Option.some.inj e; subst e1; simp)
          · exact fun e => ht (by have e1 := Option.some.inj e; subst e1; simp)
          · exact fun e => ht (by have e1 := Option.some.inj e; subst e1; simp)
          · exact fun e => ht (by have e1 := Option.some.inj e; subst e1; simp)
          · exact fun e => ht (by have e1 := Option.some.inj e; subst e1; simp)
          · exact fun e => ht (by have e1 := Option.some.inj e; subst e1; simp)
          · exact fun e => ht (by have e1 := Option.some.inj e; subst e1; simp)
          · exact fun e => ht (by have e1 := Option.some.inj e; subst e1; simp)
          · exact fun e => ht (by have e1 := Option.some.inj e; subst e1; simp)
          · exact fun e => ht (by have e1 := Option.some.inj e; subst e1; simp)
          · exact fun e => ht (by have e1 := Option.some.inj e; subst e1; simp)
          · exact fun e => ht (by have e1 := Option.some.inj e; subst e1; simp)
          · exact fun e => ht (by have e1 := Option.some.inj e; subst e1; simp)
          · exact fun e => ht (by have e1 := Option.some.inj e; subst e1; simp)
          · exact fun e => ht (by have e1 := Option.some.inj e; subst e1; simp)
          · exact fun e => ht (by have e1 := Option.some.inj e; subst e1; simp)
          · exact fun e => ht (by have e1 := Option.some.inj e; subst e1; simp)
          · exact fun e => ht (by have e1 := Option.some.inj e; subst e1; simp)
          · exact fun e => ht (by have e1 := Option.some.inj e; subst e1; simp)
          · exact fun e => ht (by have e1 := Option.some.inj e; subst e1; simp)
          · exact fun e => ht (by have e1 := Option.some.inj e; subst e1; simp)
          · exact fun e => ht (by have e1 := Option.some.inj e; subst e1; simp)
          · exact fun e => ht (by have e1 := Option.some.inj e; subst e1; simp)
          · exact fun e => ht (by have e1 := Option.some.inj e; subst e1; simp)
          · exact fun e => ht (by have e1 := Option.some.inj e; subst e1; simp)
          · exact fun e => ht (by have e1 := Option.some.inj e; subst e1; simp)
          · exact fun e => ht (by have e1 := Option.some.inj e; subst e1; simp)
          · exact fun e => ht (by have e1 := Option.some.inj e; subst e1; simp)
          · exact fun e => ht (by have e1 := Option.some.inj e; subst e1; simp)
          · exact fun e => ht (by have e1 := Option.some.inj e; subst e1; simp)
          · exact fun e => ht (by have e1 := Option.some.inj e; subst e1; simp)
          · exact fun e => ht (by have e1 := Option.some.inj e; subst e1; simp)
          · exact fun e => ht (by have e1 := Option.some.inj e; subst e1; simp)
          · exact fun e => ht (by have e1 := Option.some.inj e; subst e1; simp)
          · exact fun e => ht (by have e1 := Option.some.inj e; subst e1; simp)
          · exact fun e => ht (by have e1 := Option.some.inj e; subst e1; simp)
          · exact fun e => ht (by have e1 := Option.some.inj e; subst e1; simp)
          · exact fun e => ht (by have e1 := Option.some.inj e; subst e1; simp)))
      rw [hfr, ← ha0]
      clear hfr
      simp only [List.foldl_cons, List.foldl_nil]
      go_simp

      clear hst hall hm hSet hFire hFired e_3 e_4 e_1 e_5 e_6 hsz ha0 hu hup HU HB3 HB2 KN HNM hp HPC
      subst hg hb1 hb5
      have R1 : Hid (W4.heap[w1.heap.size]? = _) := (HB4.out.block _ (lt_of_heap HA.out)).trans HA.out
      have R2 : Hid (W4.heap[w1.heap.size + 1]? = _) := (HB4.out.block _ (lt_of_heap HR.out)).trans HR.out
      have R3 : Hid (W4.heap[w.heap.size]? = _) := (HB4.out.block _ (lt_of_heap HT.out)).trans HT.out
      have R4 : Hid (Below w.heap.size w W4) := HB.out.trans (HB4.out.mono HB.out.size)
      clear HA HR HT HB HB4
      go_wp2_with fail
      go_roundw
      case rel => exact ⟨ix + 1, by omega, by go_num, R1, R2, R3, R4⟩
      case measure => simp [intOf]; omega
    · obtain rfl : ix = 2 := by omega
      go_wp2
      go_ret
      exact ⟨rfl, HB.out⟩
end Go.Proofs.YtlkmabnjmklkpaaDoor
