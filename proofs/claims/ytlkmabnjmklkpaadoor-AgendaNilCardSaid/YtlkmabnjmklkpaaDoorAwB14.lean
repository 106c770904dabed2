/- The chapter's examples: Better's. -/
import Derived.Test.YtlkmabnjmklkpaaDoorFired14
import Derived.Test.YtlkmabnjmklkpaaDoorBetL14
import Derived.Test.YtlkmabnjmklkpaaDoorBetter14
namespace Go.Proofs.YtlkmabnjmklkpaaDoor
open Go.RowKit
set_option maxRecDepth 100000

/-- A slice of a literal's numbers; a match of them. -/
def SlV (l : List Int) (w : World) (v : Value) : Prop := ∃ g, v = .slice (some ⟨g, 0, none⟩) l.length l.length ∧ SlG w.heap.size w (some ⟨g, 0, none⟩) (icells l)
theorem SlV.old {l : List Int} {w w' : World} {v : Value} (h : SlV l w v) (b : Below w.heap.size w w') : SlV l w' v := by
  obtain ⟨g, e, hs⟩ := h
  exact ⟨g, e, hs.up b b.size⟩
def TkV (x : TK) (w : World) (v : Value) : Prop := ∃ g, v = aggK x.1 (some ⟨g, 0, none⟩) x.2.length x.2.length ∧ SlG w.heap.size w (some ⟨g, 0, none⟩) (icells x.2)
theorem TkV.old {x : TK} {w w' : World} {v : Value} (h : TkV x w v) (b : Below w.heap.size w w') : TkV x w' v := by
  obtain ⟨g, e, hs⟩ := h
  exact ⟨g, e, hs.up b b.size⟩
theorem lits_at (l : List Int) (w : World) : SlG (w.alloc (.cells (icells l).toArray 3)).heap.size (w.alloc (.cells (icells l).toArray 3)) (some ⟨w.heap.size, 0, none⟩) (icells l) := fun _ => by
  refine ⟨w.heap.size, 0, rfl, by simp, fun j u hu => ?_⟩
  rw [Nat.zero_add]
  exact cells_made w _ _ j u (by simpa using hu)
section
variable {ops : Array Oper} {Q : Exit → Act → World → Prop} {K : Act → World → Prop} {a : Act} {w : World} {i d : Nat} {ty : TypeId} {pos : String} {after : Array Edge} {g : Option (Nat × Bool)}
theorem wpOp_lit1 {x0 : Operand} {z0 : Int} (hi : ops[i]? = some { dst := some d, op := .buildSlice 22 1 #[(0, x0)], type := ty, pos := pos, after := after, guard := g }) (hg : Region.wanted { dst := some d, op := .buildSlice 22 1 #[(0, x0)], type := ty, pos := pos, after := after, guard := g } (yielded ops a.tmps) = true) (h0 : a.eval x0 = .int .i64 z0) (hK : K (a.put (some d) (.slice (some ⟨w.heap.size, 0, none⟩) 1 1)) (w.alloc (.cells #[.int .i64 z0] 3))) : wpOp Tryd.prog ops Q i K a w := by
  refine wpOp_goW hi hg ?_
  unfold Oper.wp
  have KK := Lib.hid hK
  clear hK hi hg
  generalize a.eval = ρ at *
  go_simp
  exact KK.out
theorem wpOp_lit2 {x0 x1 : Operand} {z0 z1 : Int} (hi : ops[i]? = some { dst := some d, op := .buildSlice 22 2 #[(0, x0), (1, x1)], type := ty, pos := pos, after := after, guard := g }) (hg : Region.wanted { dst := some d, op := .buildSlice 22 2 #[(0, x0), (1, x1)], type := ty, pos := pos, after := after, guard := g } (yielded ops a.tmps) = true) (h0 : a.eval x0 = .int .i64 z0) (h1 : a.eval x1 = .int .i64 z1) (hK : K (a.put (some d) (.slice (some ⟨w.heap.size, 0, none⟩) 2 2)) (w.alloc (.cells #[.int .i64 z0, .int .i64 z1] 3))) : wpOp Tryd.prog ops Q i K a w := by
  refine wpOp_goW hi hg ?_
  unfold Oper.wp
  have KK := Lib.hid hK
  clear hK hi hg
  generalize a.eval = ρ at *
  go_simp
  exact KK.out
end
def awD (i : Nat) : Option Nat := ([some 5, some 6, some 7, some 8, some 9, some 10, some 11, some 12, some 13, some 14, some 15, some 16, some 17, some 18, some 19, some 20, some 21, some 22, some 23, some 24, some 25, some 26, some 27, some 28, some 29, some 30, some 31, some 32, some 33, some 34, some 35, some 36, some 37, some 38] : List (Option Nat)).getD i none
set_option linter.unusedVariables false in
def awF (w9 : World) (b1 : Nat) (ro : Option Addr) (rc : Nat) (l : Nat → Bool) (i : Nat) (w : World) (v : Value) : Prop :=
  match i with
  | 0 => v = .agg #[.slice none 0 0, .slice ro 2 rc]
  | 1 => SlV [9, 8] w v
  | 2 => TkV (0, [9, 8]) w v
  | 3 => SlV [9, 7] w v
  | 4 => TkV (0, [9, 7]) w v
  | 5 => v = .bool true
  | 6 => v = .bool false
  | 7 => v = .bool false
  | 8 => v = .agg #[.slice none 0 0, .slice ro 2 rc]
  | 9 => SlV [9, 8] w v
  | 10 => TkV (0, [9, 8]) w v
  | 11 => SlV [9] w v
  | 12 => TkV (0, [9]) w v
  | 13 => v = .bool true
  | 14 => v = .bool false
  | 15 => v = .bool false
  | 16 => v = .bool false
  | 17 => v = .agg #[.slice none 0 0, .slice ro 2 rc]
  | 18 => SlV [1] w v
  | 19 => TkV (1, [1]) w v
  | 20 => SlV [9, 8] w v
  | 21 => TkV (0, [9, 8]) w v
  | 22 => v = .bool true
  | 23 => v = .bool false
  | 24 => v = .bool false
  | 25 => v = .bool false
  | 26 => v = .agg #[.slice none 0 0, .slice ro 2 rc]
  | 27 => SlV [8, 9] w v
  | 28 => TkV (0, [8, 9]) w v
  | 29 => SlV [9, 8] w v
  | 30 => TkV (0, [9, 8]) w v
  | 31 => v = .bool true
  | 32 => v = .bool false
  | 33 => v = .bool false
  | _ => True
set_option linter.unusedVariables false in
def awJ (w9 : World) (b1 : Nat) (ro : Option Addr) (rc : Nat) (l : Nat → Bool) (w : World) : Prop := Below w9.heap.size w9 w
set_option linter.unusedVariables false in
theorem aw_mild (w9 : World) (b1 : Nat) (ro : Option Addr) (rc : Nat) : Mild (awF w9 b1 ro rc) (awJ w9 b1 ro rc) := by
  refine ⟨fun l i j w w' v hb h => ?_, fun l i w w' hb h => ?_⟩
  · match j with
    | 0 => exact h
    | 1 => exact h.old hb
    | 2 => exact h.old hb
    | 3 => exact h.old hb
    | 4 => exact h.old hb
    | 5 => exact h
    | 6 => exact h
    | 7 => exact h
    | 8 => exact h
    | 9 => exact h.old hb
    | 10 => exact h.old hb
    | 11 => exact h.old hb
    | 12 => exact h.old hb
    | 13 => exact h
    | 14 => exact h
    | 15 => exact h
    | 16 => exact h
    | 17 => exact h
    | 18 => exact h.old hb
    | 19 => exact h.old hb
    | 20 => exact h.old hb
    | 21 => exact h.old hb
    | 22 => exact h
    | 23 => exact h
    | 24 => exact h
    | 25 => exact h
    | 26 => exact h
    | 27 => exact h.old hb
    | 28 => exact h.old hb
    | 29 => exact h.old hb
    | 30 => exact h.old hb
    | 31 => exact h
    | 32 => exact h
    | 33 => exact h
    | k + 34 => trivial
  · exact h.trans (hb.mono h.size)
set_option linter.unusedVariables false in
theorem aw_s0 (w9 : World) (b1 : Nat) (ro : Option Addr) (rc : Nat) {ops : Array Oper} {Q : Exit → Act → World → Prop} {a0 a : Act} {w : World} {l : Nat → Bool} {ty : TypeId} {pos : String} {after : Array Edge} (e_1 : a0.eval (.tmp 1) = .pointer (some ⟨b1, 0, none⟩)) (hm : ∀ W, Below w9.heap.size w9 W → W.heap[b1]? = some (.cells #[.slice none 0 0, .slice ro 2 rc] 44 (0, 0))) (hBt : ∀ (x y : TK) (ao1 ao2 : Option Addr) (c1 c2 : Nat) (W : World), Below w9.heap.size w9 W → x.2.length ≤ 1000000 → y.2.length ≤ 1000000 → SlG W.heap.size W ao1 (icells x.2) → SlG W.heap.size W ao2 (icells y.2) → (ao1 = none → c1 = 0) → (ao2 = none → c2 = 0) → x.2.length ≤ c1 → y.2.length ≤ c2 → better14 [0, 5] x y = true → Calls Tryd.prog 13 #[.agg #[.slice none 0 0, .slice ro 2 rc], aggK x.1 ao1 x.2.length c1, aggK y.1 ao2 y.2.length c2] W (SaysP true W)) (hs : St ops awD (awF w9 b1 ro rc) (awJ w9 b1 ro rc) 34 a0 l a w) (hi : ops[0]? = some { dst := some 5, op := Op.load 44 (Operand.tmp 1), type := ty, pos := pos, after := after, guard := none }) (nl : l 0 = false)  : wpOp Tryd.prog ops Q 0 (Did awD (awF w9 b1 ro rc) (awJ w9 b1 ro rc) 34 l 0 a) a w := by
  have e1 : a.eval (.tmp 1) = .pointer (some ⟨b1, 0, none⟩) := (hs.kept 1 (by decide)).trans (e_1)
  exact wpOp_ldR hi rfl e1 (hm w hs.j) (did (aw_mild w9 b1 ro rc) hs (d := 5) (i := 0) rfl (Below.refl _ w) rfl)
set_option linter.unusedVariables false in
theorem aw_s1 (w9 : World) (b1 : Nat) (ro : Option Addr) (rc : Nat) {ops : Array Oper} {Q : Exit → Act → World → Prop} {a0 a : Act} {w : World} {l : Nat → Bool} {ty : TypeId} {pos : String} {after : Array Edge} (e_1 : a0.eval (.tmp 1) = .pointer (some ⟨b1, 0, none⟩)) (hm : ∀ W, Below w9.heap.size w9 W → W.heap[b1]? = some (.cells #[.slice none 0 0, .slice ro 2 rc] 44 (0, 0))) (hBt : ∀ (x y : TK) (ao1 ao2 : Option Addr) (c1 c2 : Nat) (W : World), Below w9.heap.size w9 W → x.2.length ≤ 1000000 → y.2.length ≤ 1000000 → SlG W.heap.size W ao1 (icells x.2) → SlG W.heap.size W ao2 (icells y.2) → (ao1 = none → c1 = 0) → (ao2 = none → c2 = 0) → x.2.length ≤ c1 → y.2.length ≤ c2 → better14 [0, 5] x y = true → Calls Tryd.prog 13 #[.agg #[.slice none 0 0, .slice ro 2 rc], aggK x.1 ao1 x.2.length c1, aggK y.1 ao2 y.2.length c2] W (SaysP true W)) (hs : St ops awD (awF w9 b1 ro rc) (awJ w9 b1 ro rc) 34 a0 l a w) (hi : ops[1]? = some { dst := some 6, op := Op.buildSlice 22 2 #[(0, Operand.const (Value.int IntKind.i64 9)), (1, Operand.const (Value.int IntKind.i64 8))], type := ty, pos := pos, after := after, guard := none }) (nl : l 1 = false)  : wpOp Tryd.prog ops Q 1 (Did awD (awF w9 b1 ro rc) (awJ w9 b1 ro rc) 34 l 1 a) a w := by
  refine wpOp_lit2 hi rfl rfl rfl ?_
  exact did (aw_mild w9 b1 ro rc) hs (d := 6) (i := 1) rfl (below_own _) ⟨w.heap.size, rfl, lits_at [9, 8] w⟩
set_option linter.unusedVariables false in
theorem aw_s2 (w9 : World) (b1 : Nat) (ro : Option Addr) (rc : Nat) {ops : Array Oper} {Q : Exit → Act → World → Prop} {a0 a : Act} {w : World} {l : Nat → Bool} {ty : TypeId} {pos : String} {after : Array Edge} (e_1 : a0.eval (.tmp 1) = .pointer (some ⟨b1, 0, none⟩)) (hm : ∀ W, Below w9.heap.size w9 W → W.heap[b1]? = some (.cells #[.slice none 0 0, .slice ro 2 rc] 44 (0, 0))) (hBt : ∀ (x y : TK) (ao1 ao2 : Option Addr) (c1 c2 : Nat) (W : World), Below w9.heap.size w9 W → x.2.length ≤ 1000000 → y.2.length ≤ 1000000 → SlG W.heap.size W ao1 (icells x.2) → SlG W.heap.size W ao2 (icells y.2) → (ao1 = none → c1 = 0) → (ao2 = none → c2 = 0) → x.2.length ≤ c1 → y.2.length ≤ c2 → better14 [0, 5] x y = true → Calls Tryd.prog 13 #[.agg #[.slice none 0 0, .slice ro 2 rc], aggK x.1 ao1 x.2.length c1, aggK y.1 ao2 y.2.length c2] W (SaysP true W)) (hs : St ops awD (awF w9 b1 ro rc) (awJ w9 b1 ro rc) 34 a0 l a w) (hi : ops[2]? = some { dst := some 7, op := Op.call { callee := Callee.value (Operand.func 16), args := #[Operand.const (Value.int IntKind.i64 0), Operand.tmp 6], argTypes := #[3, 22] }, type := ty, pos := pos, after := after, guard := none }) (nl : l 2 = false) (q1 : l 1 = true) : wpOp Tryd.prog ops Q 2 (Did awD (awF w9 b1 ro rc) (awJ w9 b1 ro rc) 34 l 2 a) a w := by
  have e6 : awF w9 b1 ro rc l 1 w (a.eval (.tmp 6)) := hs.get (by decide) q1 rfl
  obtain ⟨g, f6, hsl⟩ := e6
  have ec : a.eval (.const (.int .i64 0)) = .int .i64 0 := rfl
  refine wpOp_callW (vs := #[.int .i64 0, .slice (some ⟨g, 0, none⟩) 2 2]) hi rfl (enters_of Tryd.func16 (by kernel_rfl) rfl) (by simp [f6, ec]) ?_
  refine (tok_any 0 _ _ _ w).mono ?_
  rintro e w' ⟨rfl, rfl⟩
  exact ⟨_, rfl, did (aw_mild w9 b1 ro rc) hs (d := 7) (i := 2) rfl (below_own _) ⟨g, rfl, hsl.up (below_own _) (below_own _).size⟩⟩
set_option linter.unusedVariables false in
theorem aw_s3 (w9 : World) (b1 : Nat) (ro : Option Addr) (rc : Nat) {ops : Array Oper} {Q : Exit → Act → World → Prop} {a0 a : Act} {w : World} {l : Nat → Bool} {ty : TypeId} {pos : String} {after : Array Edge} (e_1 : a0.eval (.tmp 1) = .pointer (some ⟨b1, 0, none⟩)) (hm : ∀ W, Below w9.heap.size w9 W → W.heap[b1]? = some (.cells #[.slice none 0 0, .slice ro 2 rc] 44 (0, 0))) (hBt : ∀ (x y : TK) (ao1 ao2 : Option Addr) (c1 c2 : Nat) (W : World), Below w9.heap.size w9 W → x.2.length ≤ 1000000 → y.2.length ≤ 1000000 → SlG W.heap.size W ao1 (icells x.2) → SlG W.heap.size W ao2 (icells y.2) → (ao1 = none → c1 = 0) → (ao2 = none → c2 = 0) → x.2.length ≤ c1 → y.2.length ≤ c2 → better14 [0, 5] x y = true → Calls Tryd.prog 13 #[.agg #[.slice none 0 0, .slice ro 2 rc], aggK x.1 ao1 x.2.length c1, aggK y.1 ao2 y.2.length c2] W (SaysP true W)) (hs : St ops awD (awF w9 b1 ro rc) (awJ w9 b1 ro rc) 34 a0 l a w) (hi : ops[3]? = some { dst := some 8, op := Op.buildSlice 22 2 #[(0, Operand.const (Value.int IntKind.i64 9)), (1, Operand.const (Value.int IntKind.i64 7))], type := ty, pos := pos, after := after, guard := none }) (nl : l 3 = false)  : wpOp Tryd.prog ops Q 3 (Did awD (awF w9 b1 ro rc) (awJ w9 b1 ro rc) 34 l 3 a) a w := by
  refine wpOp_lit2 hi rfl rfl rfl ?_
  exact did (aw_mild w9 b1 ro rc) hs (d := 8) (i := 3) rfl (below_own _) ⟨w.heap.size, rfl, lits_at [9, 7] w⟩
set_option linter.unusedVariables false in
theorem aw_s4 (w9 : World) (b1 : Nat) (ro : Option Addr) (rc : Nat) {ops : Array Oper} {Q : Exit → Act → World → Prop} {a0 a : Act} {w : World} {l : Nat → Bool} {ty : TypeId} {pos : String} {after : Array Edge} (e_1 : a0.eval (.tmp 1) = .pointer (some ⟨b1, 0, none⟩)) (hm : ∀ W, Below w9.heap.size w9 W → W.heap[b1]? = some (.cells #[.slice none 0 0, .slice ro 2 rc] 44 (0, 0))) (hBt : ∀ (x y : TK) (ao1 ao2 : Option Addr) (c1 c2 : Nat) (W : World), Below w9.heap.size w9 W → x.2.length ≤ 1000000 → y.2.length ≤ 1000000 → SlG W.heap.size W ao1 (icells x.2) → SlG W.heap.size W ao2 (icells y.2) → (ao1 = none → c1 = 0) → (ao2 = none → c2 = 0) → x.2.length ≤ c1 → y.2.length ≤ c2 → better14 [0, 5] x y = true → Calls Tryd.prog 13 #[.agg #[.slice none 0 0, .slice ro 2 rc], aggK x.1 ao1 x.2.length c1, aggK y.1 ao2 y.2.length c2] W (SaysP true W)) (hs : St ops awD (awF w9 b1 ro rc) (awJ w9 b1 ro rc) 34 a0 l a w) (hi : ops[4]? = some { dst := some 9, op := Op.call { callee := Callee.value (Operand.func 16), args := #[Operand.const (Value.int IntKind.i64 0), Operand.tmp 8], argTypes := #[3, 22] }, type := ty, pos := pos, after := after, guard := none }) (nl : l 4 = false) (q2 : l 2 = true) (q3 : l 3 = true) : wpOp Tryd.prog ops Q 4 (Did awD (awF w9 b1 ro rc) (awJ w9 b1 ro rc) 34 l 4 a) a w := by
  have e8 : awF w9 b1 ro rc l 3 w (a.eval (.tmp 8)) := hs.get (by decide) q3 rfl
  obtain ⟨g, f8, hsl⟩ := e8
  have ec : a.eval (.const (.int .i64 0)) = .int .i64 0 := rfl
  refine wpOp_callW (vs := #[.int .i64 0, .slice (some ⟨g, 0, none⟩) 2 2]) hi rfl (enters_of Tryd.func16 (by kernel_rfl) rfl) (by simp [f8, ec]) ?_
  refine (tok_any 0 _ _ _ w).mono ?_
  rintro e w' ⟨rfl, rfl⟩
  exact ⟨_, rfl, did (aw_mild w9 b1 ro rc) hs (d := 9) (i := 4) rfl (below_own _) ⟨g, rfl, hsl.up (below_own _) (below_own _).size⟩⟩
set_option linter.unusedVariables false in
theorem aw_s5 (w9 : World) (b1 : Nat) (ro : Option Addr) (rc : Nat) {ops : Array Oper} {Q : Exit → Act → World → Prop} {a0 a : Act} {w : World} {l : Nat → Bool} {ty : TypeId} {pos : String} {after : Array Edge} (e_1 : a0.eval (.tmp 1) = .pointer (some ⟨b1, 0, none⟩)) (hm : ∀ W, Below w9.heap.size w9 W → W.heap[b1]? = some (.cells #[.slice none 0 0, .slice ro 2 rc] 44 (0, 0))) (hBt : ∀ (x y : TK) (ao1 ao2 : Option Addr) (c1 c2 : Nat) (W : World), Below w9.heap.size w9 W → x.2.length ≤ 1000000 → y.2.length ≤ 1000000 → SlG W.heap.size W ao1 (icells x.2) → SlG W.heap.size W ao2 (icells y.2) → (ao1 = none → c1 = 0) → (ao2 = none → c2 = 0) → x.2.length ≤ c1 → y.2.length ≤ c2 → better14 [0, 5] x y = true → Calls Tryd.prog 13 #[.agg #[.slice none 0 0, .slice ro 2 rc], aggK x.1 ao1 x.2.length c1, aggK y.1 ao2 y.2.length c2] W (SaysP true W)) (hs : St ops awD (awF w9 b1 ro rc) (awJ w9 b1 ro rc) 34 a0 l a w) (hi : ops[5]? = some { dst := some 10, op := Op.call { callee := Callee.value (Operand.func 13), args := #[Operand.tmp 5, Operand.tmp 7, Operand.tmp 9], argTypes := #[44, 24, 24] }, type := ty, pos := pos, after := after, guard := none }) (nl : l 5 = false) (q0 : l 0 = true) (q2 : l 2 = true) (q4 : l 4 = true) : wpOp Tryd.prog ops Q 5 (Did awD (awF w9 b1 ro rc) (awJ w9 b1 ro rc) 34 l 5 a) a w := by
  have e5 : awF w9 b1 ro rc l 0 w (a.eval (.tmp 5)) := hs.get (by decide) q0 rfl
  have e7 : awF w9 b1 ro rc l 2 w (a.eval (.tmp 7)) := hs.get (by decide) q2 rfl
  have e9 : awF w9 b1 ro rc l 4 w (a.eval (.tmp 9)) := hs.get (by decide) q4 rfl
  have f5 : a.eval (.tmp 5) = .agg #[.slice none 0 0, .slice ro 2 rc] := e5
  obtain ⟨g1, f7, h1⟩ := e7
  obtain ⟨g2, f9, h2⟩ := e9
  refine wpOp_callW (vs := #[.agg #[.slice none 0 0, .slice ro 2 rc], aggK 0 (some ⟨g1, 0, none⟩) 2 2, aggK 0 (some ⟨g2, 0, none⟩) 2 2]) hi rfl (enters_of Tryd.func13 (by kernel_rfl) rfl) (by simp [f5, f7, f9]) ?_
  refine (hBt (0, [9, 8]) (0, [9, 7]) _ _ _ _ w hs.j (by decide) (by decide) h1 h2 (fun e => by cases e) (fun e => by cases e) (by decide) (by decide) (by decide)).mono ?_
  rintro e w' ⟨rfl, hb⟩
  exact ⟨_, rfl, did (aw_mild w9 b1 ro rc) hs (d := 10) (i := 5) rfl hb rfl⟩
set_option linter.unusedVariables false in
theorem aw_s6 (w9 : World) (b1 : Nat) (ro : Option Addr) (rc : Nat) {ops : Array Oper} {Q : Exit → Act → World → Prop} {a0 a : Act} {w : World} {l : Nat → Bool} {ty : TypeId} {pos : String} {after : Array Edge} (e_1 : a0.eval (.tmp 1) = .pointer (some ⟨b1, 0, none⟩)) (hm : ∀ W, Below w9.heap.size w9 W → W.heap[b1]? = some (.cells #[.slice none 0 0, .slice ro 2 rc] 44 (0, 0))) (hBt : ∀ (x y : TK) (ao1 ao2 : Option Addr) (c1 c2 : Nat) (W : World), Below w9.heap.size w9 W → x.2.length ≤ 1000000 → y.2.length ≤ 1000000 → SlG W.heap.size W ao1 (icells x.2) → SlG W.heap.size W ao2 (icells y.2) → (ao1 = none → c1 = 0) → (ao2 = none → c2 = 0) → x.2.length ≤ c1 → y.2.length ≤ c2 → better14 [0, 5] x y = true → Calls Tryd.prog 13 #[.agg #[.slice none 0 0, .slice ro 2 rc], aggK x.1 ao1 x.2.length c1, aggK y.1 ao2 y.2.length c2] W (SaysP true W)) (hs : St ops awD (awF w9 b1 ro rc) (awJ w9 b1 ro rc) 34 a0 l a w) (hi : ops[6]? = some { dst := some 11, op := Op.unOp UnOp.not 4 (Operand.tmp 10), type := ty, pos := pos, after := after, guard := none }) (nl : l 6 = false) (q5 : l 5 = true) : wpOp Tryd.prog ops Q 6 (Did awD (awF w9 b1 ro rc) (awJ w9 b1 ro rc) 34 l 6 a) a w := by
  have e10 : awF w9 b1 ro rc l 5 w (a.eval (.tmp 10)) := hs.get (by decide) q5 rfl
  have e10 : a.eval (.tmp 10) = .bool true := e10
  have hK := did (aw_mild w9 b1 ro rc) hs (v := .bool false) (d := 11) (i := 6) rfl (Below.refl _ w) rfl
  refine wpOp_go hi rfl ?_
  unfold Oper.wp
  have KK := Lib.hid hK
  clear hK hi
  have ec1 : a.eval (.const (.bool true)) = .bool true := rfl
  generalize a.eval = ρ at *
  go_simp
  exact KK.out
set_option linter.unusedVariables false in
theorem aw_s7 (w9 : World) (b1 : Nat) (ro : Option Addr) (rc : Nat) {ops : Array Oper} {Q : Exit → Act → World → Prop} {a0 a : Act} {w : World} {l : Nat → Bool} {ty : TypeId} {pos : String} {after : Array Edge} (e_1 : a0.eval (.tmp 1) = .pointer (some ⟨b1, 0, none⟩)) (hm : ∀ W, Below w9.heap.size w9 W → W.heap[b1]? = some (.cells #[.slice none 0 0, .slice ro 2 rc] 44 (0, 0))) (hBt : ∀ (x y : TK) (ao1 ao2 : Option Addr) (c1 c2 : Nat) (W : World), Below w9.heap.size w9 W → x.2.length ≤ 1000000 → y.2.length ≤ 1000000 → SlG W.heap.size W ao1 (icells x.2) → SlG W.heap.size W ao2 (icells y.2) → (ao1 = none → c1 = 0) → (ao2 = none → c2 = 0) → x.2.length ≤ c1 → y.2.length ≤ c2 → better14 [0, 5] x y = true → Calls Tryd.prog 13 #[.agg #[.slice none 0 0, .slice ro 2 rc], aggK x.1 ao1 x.2.length c1, aggK y.1 ao2 y.2.length c2] W (SaysP true W)) (hs : St ops awD (awF w9 b1 ro rc) (awJ w9 b1 ro rc) 34 a0 l a w) (hi : ops[7]? = some { dst := some 12, op := Op.move (Operand.tmp 11), type := ty, pos := pos, after := after, guard := none }) (nl : l 7 = false) (q5 : l 5 = true) (q6 : l 6 = true) : wpOp Tryd.prog ops Q 7 (Did awD (awF w9 b1 ro rc) (awJ w9 b1 ro rc) 34 l 7 a) a w := by
  have e11 : awF w9 b1 ro rc l 6 w (a.eval (.tmp 11)) := hs.get (by decide) q6 rfl
  have e11 : a.eval (.tmp 11) = .bool false := e11
  have hK := did (aw_mild w9 b1 ro rc) hs (v := .bool false) (d := 12) (i := 7) rfl (Below.refl _ w) rfl
  refine wpOp_move hi ?_
  rw [e11]
  exact hK
set_option linter.unusedVariables false in
theorem aw_s8 (w9 : World) (b1 : Nat) (ro : Option Addr) (rc : Nat) {ops : Array Oper} {Q : Exit → Act → World → Prop} {a0 a : Act} {w : World} {l : Nat → Bool} {ty : TypeId} {pos : String} {after : Array Edge} (e_1 : a0.eval (.tmp 1) = .pointer (some ⟨b1, 0, none⟩)) (hm : ∀ W, Below w9.heap.size w9 W → W.heap[b1]? = some (.cells #[.slice none 0 0, .slice ro 2 rc] 44 (0, 0))) (hBt : ∀ (x y : TK) (ao1 ao2 : Option Addr) (c1 c2 : Nat) (W : World), Below w9.heap.size w9 W → x.2.length ≤ 1000000 → y.2.length ≤ 1000000 → SlG W.heap.size W ao1 (icells x.2) → SlG W.heap.size W ao2 (icells y.2) → (ao1 = none → c1 = 0) → (ao2 = none → c2 = 0) → x.2.length ≤ c1 → y.2.length ≤ c2 → better14 [0, 5] x y = true → Calls Tryd.prog 13 #[.agg #[.slice none 0 0, .slice ro 2 rc], aggK x.1 ao1 x.2.length c1, aggK y.1 ao2 y.2.length c2] W (SaysP true W)) (hs : St ops awD (awF w9 b1 ro rc) (awJ w9 b1 ro rc) 34 a0 l a w) (hi : ops[8]? = some { dst := some 13, op := Op.load 44 (Operand.tmp 1), type := ty, pos := pos, after := after, guard := some (7, false) }) (hg : Region.wanted { dst := some 13, op := Op.load 44 (Operand.tmp 1), type := ty, pos := pos, after := after, guard := some (7, false) } (yielded ops a.tmps) = true) (nl : l 8 = false) (q7 : l 7 = true) : wpOp Tryd.prog ops Q 8 (Did awD (awF w9 b1 ro rc) (awJ w9 b1 ro rc) 34 l 8 a) a w := by
  have e1 : a.eval (.tmp 1) = .pointer (some ⟨b1, 0, none⟩) := (hs.kept 1 (by decide)).trans (e_1)
  exact wpOp_ldR hi hg e1 (hm w hs.j) (did (aw_mild w9 b1 ro rc) hs (d := 13) (i := 8) rfl (Below.refl _ w) rfl)
set_option linter.unusedVariables false in
theorem aw_s9 (w9 : World) (b1 : Nat) (ro : Option Addr) (rc : Nat) {ops : Array Oper} {Q : Exit → Act → World → Prop} {a0 a : Act} {w : World} {l : Nat → Bool} {ty : TypeId} {pos : String} {after : Array Edge} (e_1 : a0.eval (.tmp 1) = .pointer (some ⟨b1, 0, none⟩)) (hm : ∀ W, Below w9.heap.size w9 W → W.heap[b1]? = some (.cells #[.slice none 0 0, .slice ro 2 rc] 44 (0, 0))) (hBt : ∀ (x y : TK) (ao1 ao2 : Option Addr) (c1 c2 : Nat) (W : World), Below w9.heap.size w9 W → x.2.length ≤ 1000000 → y.2.length ≤ 1000000 → SlG W.heap.size W ao1 (icells x.2) → SlG W.heap.size W ao2 (icells y.2) → (ao1 = none → c1 = 0) → (ao2 = none → c2 = 0) → x.2.length ≤ c1 → y.2.length ≤ c2 → better14 [0, 5] x y = true → Calls Tryd.prog 13 #[.agg #[.slice none 0 0, .slice ro 2 rc], aggK x.1 ao1 x.2.length c1, aggK y.1 ao2 y.2.length c2] W (SaysP true W)) (hs : St ops awD (awF w9 b1 ro rc) (awJ w9 b1 ro rc) 34 a0 l a w) (hi : ops[9]? = some { dst := some 14, op := Op.buildSlice 22 2 #[(0, Operand.const (Value.int IntKind.i64 9)), (1, Operand.const (Value.int IntKind.i64 8))], type := ty, pos := pos, after := after, guard := some (7, false) }) (hg : Region.wanted { dst := some 14, op := Op.buildSlice 22 2 #[(0, Operand.const (Value.int IntKind.i64 9)), (1, Operand.const (Value.int IntKind.i64 8))], type := ty, pos := pos, after := after, guard := some (7, false) } (yielded ops a.tmps) = true) (nl : l 9 = false) (q7 : l 7 = true) : wpOp Tryd.prog ops Q 9 (Did awD (awF w9 b1 ro rc) (awJ w9 b1 ro rc) 34 l 9 a) a w := by
  refine wpOp_lit2 hi hg rfl rfl ?_
  exact did (aw_mild w9 b1 ro rc) hs (d := 14) (i := 9) rfl (below_own _) ⟨w.heap.size, rfl, lits_at [9, 8] w⟩
set_option linter.unusedVariables false in
theorem aw_s10 (w9 : World) (b1 : Nat) (ro : Option Addr) (rc : Nat) {ops : Array Oper} {Q : Exit → Act → World → Prop} {a0 a : Act} {w : World} {l : Nat → Bool} {ty : TypeId} {pos : String} {after : Array Edge} (e_1 : a0.eval (.tmp 1) = .pointer (some ⟨b1, 0, none⟩)) (hm : ∀ W, Below w9.heap.size w9 W → W.heap[b1]? = some (.cells #[.slice none 0 0, .slice ro 2 rc] 44 (0, 0))) (hBt : ∀ (x y : TK) (ao1 ao2 : Option Addr) (c1 c2 : Nat) (W : World), Below w9.heap.size w9 W → x.2.length ≤ 1000000 → y.2.length ≤ 1000000 → SlG W.heap.size W ao1 (icells x.2) → SlG W.heap.size W ao2 (icells y.2) → (ao1 = none → c1 = 0) → (ao2 = none → c2 = 0) → x.2.length ≤ c1 → y.2.length ≤ c2 → better14 [0, 5] x y = true → Calls Tryd.prog 13 #[.agg #[.slice none 0 0, .slice ro 2 rc], aggK x.1 ao1 x.2.length c1, aggK y.1 ao2 y.2.length c2] W (SaysP true W)) (hs : St ops awD (awF w9 b1 ro rc) (awJ w9 b1 ro rc) 34 a0 l a w) (hi : ops[10]? = some { dst := some 15, op := Op.call { callee := Callee.value (Operand.func 16), args := #[Operand.const (Value.int IntKind.i64 0), Operand.tmp 14], argTypes := #[3, 22] }, type := ty, pos := pos, after := after, guard := some (7, false) }) (hg : Region.wanted { dst := some 15, op := Op.call { callee := Callee.value (Operand.func 16), args := #[Operand.const (Value.int IntKind.i64 0), Operand.tmp 14], argTypes := #[3, 22] }, type := ty, pos := pos, after := after, guard := some (7, false) } (yielded ops a.tmps) = true) (nl : l 10 = false) (q7 : l 7 = true) (q9 : l 9 = true) : wpOp Tryd.prog ops Q 10 (Did awD (awF w9 b1 ro rc) (awJ w9 b1 ro rc) 34 l 10 a) a w := by
  have e14 : awF w9 b1 ro rc l 9 w (a.eval (.tmp 14)) := hs.get (by decide) q9 rfl
  obtain ⟨g, f14, hsl⟩ := e14
  have ec : a.eval (.const (.int .i64 0)) = .int .i64 0 := rfl
  refine wpOp_callW (vs := #[.int .i64 0, .slice (some ⟨g, 0, none⟩) 2 2]) hi hg (enters_of Tryd.func16 (by kernel_rfl) rfl) (by simp [f14, ec]) ?_
  refine (tok_any 0 _ _ _ w).mono ?_
  rintro e w' ⟨rfl, rfl⟩
  exact ⟨_, rfl, did (aw_mild w9 b1 ro rc) hs (d := 15) (i := 10) rfl (below_own _) ⟨g, rfl, hsl.up (below_own _) (below_own _).size⟩⟩
set_option linter.unusedVariables false in
theorem aw_s11 (w9 : World) (b1 : Nat) (ro : Option Addr) (rc : Nat) {ops : Array Oper} {Q : Exit → Act → World → Prop} {a0 a : Act} {w : World} {l : Nat → Bool} {ty : TypeId} {pos : String} {after : Array Edge} (e_1 : a0.eval (.tmp 1) = .pointer (some ⟨b1, 0, none⟩)) (hm : ∀ W, Below w9.heap.size w9 W → W.heap[b1]? = some (.cells #[.slice none 0 0, .slice ro 2 rc] 44 (0, 0))) (hBt : ∀ (x y : TK) (ao1 ao2 : Option Addr) (c1 c2 : Nat) (W : World), Below w9.heap.size w9 W → x.2.length ≤ 1000000 → y.2.length ≤ 1000000 → SlG W.heap.size W ao1 (icells x.2) → SlG W.heap.size W ao2 (icells y.2) → (ao1 = none → c1 = 0) → (ao2 = none → c2 = 0) → x.2.length ≤ c1 → y.2.length ≤ c2 → better14 [0, 5] x y = true → Calls Tryd.prog 13 #[.agg #[.slice none 0 0, .slice ro 2 rc], aggK x.1 ao1 x.2.length c1, aggK y.1 ao2 y.2.length c2] W (SaysP true W)) (hs : St ops awD (awF w9 b1 ro rc) (awJ w9 b1 ro rc) 34 a0 l a w) (hi : ops[11]? = some { dst := some 16, op := Op.buildSlice 22 1 #[(0, Operand.const (Value.int IntKind.i64 9))], type := ty, pos := pos, after := after, guard := some (7, false) }) (hg : Region.wanted { dst := some 16, op := Op.buildSlice 22 1 #[(0, Operand.const (Value.int IntKind.i64 9))], type := ty, pos := pos, after := after, guard := some (7, false) } (yielded ops a.tmps) = true) (nl : l 11 = false) (q7 : l 7 = true) : wpOp Tryd.prog ops Q 11 (Did awD (awF w9 b1 ro rc) (awJ w9 b1 ro rc) 34 l 11 a) a w := by
  refine wpOp_lit1 hi hg rfl ?_
  exact did (aw_mild w9 b1 ro rc) hs (d := 16) (i := 11) rfl (below_own _) ⟨w.heap.size, rfl, lits_at [9] w⟩
set_option linter.unusedVariables false in
theorem aw_s12 (w9 : World) (b1 : Nat) (ro : Option Addr) (rc : Nat) {ops : Array Oper} {Q : Exit → Act → World → Prop} {a0 a : Act} {w : World} {l : Nat → Bool} {ty : TypeId} {pos : String} {after : Array Edge} (e_1 : a0.eval (.tmp 1) = .pointer (some ⟨b1, 0, none⟩)) (hm : ∀ W, Below w9.heap.size w9 W → W.heap[b1]? = some (.cells #[.slice none 0 0, .slice ro 2 rc] 44 (0, 0))) (hBt : ∀ (x y : TK) (ao1 ao2 : Option Addr) (c1 c2 : Nat) (W : World), Below w9.heap.size w9 W → x.2.length ≤ 1000000 → y.2.length ≤ 1000000 → SlG W.heap.size W ao1 (icells x.2) → SlG W.heap.size W ao2 (icells y.2) → (ao1 = none → c1 = 0) → (ao2 = none → c2 = 0) → x.2.length ≤ c1 → y.2.length ≤ c2 → better14 [0, 5] x y = true → Calls Tryd.prog 13 #[.agg #[.slice none 0 0, .slice ro 2 rc], aggK x.1 ao1 x.2.length c1, aggK y.1 ao2 y.2.length c2] W (SaysP true W)) (hs : St ops awD (awF w9 b1 ro rc) (awJ w9 b1 ro rc) 34 a0 l a w) (hi : ops[12]? = some { dst := some 17, op := Op.call { callee := Callee.value (Operand.func 16), args := #[Operand.const (Value.int IntKind.i64 0), Operand.tmp 16], argTypes := #[3, 22] }, type := ty, pos := pos, after := after, guard := some (7, false) }) (hg : Region.wanted { dst := some 17, op := Op.call { callee := Callee.value (Operand.func 16), args := #[Operand.const (Value.int IntKind.i64 0), Operand.tmp 16], argTypes := #[3, 22] }, type := ty, pos := pos, after := after, guard := some (7, false) } (yielded ops a.tmps) = true) (nl : l 12 = false) (q7 : l 7 = true) (q10 : l 10 = true) (q11 : l 11 = true) : wpOp Tryd.prog ops Q 12 (Did awD (awF w9 b1 ro rc) (awJ w9 b1 ro rc) 34 l 12 a) a w := by
  have e16 : awF w9 b1 ro rc l 11 w (a.eval (.tmp 16)) := hs.get (by decide) q11 rfl
  obtain ⟨g, f16, hsl⟩ := e16
  have ec : a.eval (.const (.int .i64 0)) = .int .i64 0 := rfl
  refine wpOp_callW (vs := #[.int .i64 0, .slice (some ⟨g, 0, none⟩) 1 1]) hi hg (enters_of Tryd.func16 (by kernel_rfl) rfl) (by simp [f16, ec]) ?_
  refine (tok_any 0 _ _ _ w).mono ?_
  rintro e w' ⟨rfl, rfl⟩
  exact ⟨_, rfl, did (aw_mild w9 b1 ro rc) hs (d := 17) (i := 12) rfl (below_own _) ⟨g, rfl, hsl.up (below_own _) (below_own _).size⟩⟩
set_option linter.unusedVariables false in
theorem aw_s13 (w9 : World) (b1 : Nat) (ro : Option Addr) (rc : Nat) {ops : Array Oper} {Q : Exit → Act → World → Prop} {a0 a : Act} {w : World} {l : Nat → Bool} {ty : TypeId} {pos : String} {after : Array Edge} (e_1 : a0.eval (.tmp 1) = .pointer (some ⟨b1, 0, none⟩)) (hm : ∀ W, Below w9.heap.size w9 W → W.heap[b1]? = some (.cells #[.slice none 0 0, .slice ro 2 rc] 44 (0, 0))) (hBt : ∀ (x y : TK) (ao1 ao2 : Option Addr) (c1 c2 : Nat) (W : World), Below w9.heap.size w9 W → x.2.length ≤ 1000000 → y.2.length ≤ 1000000 → SlG W.heap.size W ao1 (icells x.2) → SlG W.heap.size W ao2 (icells y.2) → (ao1 = none → c1 = 0) → (ao2 = none → c2 = 0) → x.2.length ≤ c1 → y.2.length ≤ c2 → better14 [0, 5] x y = true → Calls Tryd.prog 13 #[.agg #[.slice none 0 0, .slice ro 2 rc], aggK x.1 ao1 x.2.length c1, aggK y.1 ao2 y.2.length c2] W (SaysP true W)) (hs : St ops awD (awF w9 b1 ro rc) (awJ w9 b1 ro rc) 34 a0 l a w) (hi : ops[13]? = some { dst := some 18, op := Op.call { callee := Callee.value (Operand.func 13), args := #[Operand.tmp 13, Operand.tmp 15, Operand.tmp 17], argTypes := #[44, 24, 24] }, type := ty, pos := pos, after := after, guard := some (7, false) }) (hg : Region.wanted { dst := some 18, op := Op.call { callee := Callee.value (Operand.func 13), args := #[Operand.tmp 13, Operand.tmp 15, Operand.tmp 17], argTypes := #[44, 24, 24] }, type := ty, pos := pos, after := after, guard := some (7, false) } (yielded ops a.tmps) = true) (nl : l 13 = false) (q7 : l 7 = true) (q8 : l 8 = true) (q10 : l 10 = true) (q12 : l 12 = true) : wpOp Tryd.prog ops Q 13 (Did awD (awF w9 b1 ro rc) (awJ w9 b1 ro rc) 34 l 13 a) a w := by
  have e13 : awF w9 b1 ro rc l 8 w (a.eval (.tmp 13)) := hs.get (by decide) q8 rfl
  have e15 : awF w9 b1 ro rc l 10 w (a.eval (.tmp 15)) := hs.get (by decide) q10 rfl
  have e17 : awF w9 b1 ro rc l 12 w (a.eval (.tmp 17)) := hs.get (by decide) q12 rfl
  have f13 : a.eval (.tmp 13) = .agg #[.slice none 0 0, .slice ro 2 rc] := e13
  obtain ⟨g1, f15, h1⟩ := e15
  obtain ⟨g2, f17, h2⟩ := e17
  refine wpOp_callW (vs := #[.agg #[.slice none 0 0, .slice ro 2 rc], aggK 0 (some ⟨g1, 0, none⟩) 2 2, aggK 0 (some ⟨g2, 0, none⟩) 1 1]) hi hg (enters_of Tryd.func13 (by kernel_rfl) rfl) (by simp [f13, f15, f17]) ?_
  refine (hBt (0, [9, 8]) (0, [9]) _ _ _ _ w hs.j (by decide) (by decide) h1 h2 (fun e => by cases e) (fun e => by cases e) (by decide) (by decide) (by decide)).mono ?_
  rintro e w' ⟨rfl, hb⟩
  exact ⟨_, rfl, did (aw_mild w9 b1 ro rc) hs (d := 18) (i := 13) rfl hb rfl⟩
set_option linter.unusedVariables false in
theorem aw_s14 (w9 : World) (b1 : Nat) (ro : Option Addr) (rc : Nat) {ops : Array Oper} {Q : Exit → Act → World → Prop} {a0 a : Act} {w : World} {l : Nat → Bool} {ty : TypeId} {pos : String} {after : Array Edge} (e_1 : a0.eval (.tmp 1) = .pointer (some ⟨b1, 0, none⟩)) (hm : ∀ W, Below w9.heap.size w9 W → W.heap[b1]? = some (.cells #[.slice none 0 0, .slice ro 2 rc] 44 (0, 0))) (hBt : ∀ (x y : TK) (ao1 ao2 : Option Addr) (c1 c2 : Nat) (W : World), Below w9.heap.size w9 W → x.2.length ≤ 1000000 → y.2.length ≤ 1000000 → SlG W.heap.size W ao1 (icells x.2) → SlG W.heap.size W ao2 (icells y.2) → (ao1 = none → c1 = 0) → (ao2 = none → c2 = 0) → x.2.length ≤ c1 → y.2.length ≤ c2 → better14 [0, 5] x y = true → Calls Tryd.prog 13 #[.agg #[.slice none 0 0, .slice ro 2 rc], aggK x.1 ao1 x.2.length c1, aggK y.1 ao2 y.2.length c2] W (SaysP true W)) (hs : St ops awD (awF w9 b1 ro rc) (awJ w9 b1 ro rc) 34 a0 l a w) (hi : ops[14]? = some { dst := some 19, op := Op.unOp UnOp.not 4 (Operand.tmp 18), type := ty, pos := pos, after := after, guard := some (7, false) }) (hg : Region.wanted { dst := some 19, op := Op.unOp UnOp.not 4 (Operand.tmp 18), type := ty, pos := pos, after := after, guard := some (7, false) } (yielded ops a.tmps) = true) (nl : l 14 = false) (q7 : l 7 = true) (q13 : l 13 = true) : wpOp Tryd.prog ops Q 14 (Did awD (awF w9 b1 ro rc) (awJ w9 b1 ro rc) 34 l 14 a) a w := by
  have e18 : awF w9 b1 ro rc l 13 w (a.eval (.tmp 18)) := hs.get (by decide) q13 rfl
  have e18 : a.eval (.tmp 18) = .bool true := e18
  have hK := did (aw_mild w9 b1 ro rc) hs (v := .bool false) (d := 19) (i := 14) rfl (Below.refl _ w) rfl
  refine wpOp_goW hi hg ?_
  unfold Oper.wp
  have KK := Lib.hid hK
  clear hK hi hg
  have ec1 : a.eval (.const (.bool true)) = .bool true := rfl
  generalize a.eval = ρ at *
  go_simp
  exact KK.out
set_option linter.unusedVariables false in
theorem aw_s15 (w9 : World) (b1 : Nat) (ro : Option Addr) (rc : Nat) {ops : Array Oper} {Q : Exit → Act → World → Prop} {a0 a : Act} {w : World} {l : Nat → Bool} {ty : TypeId} {pos : String} {after : Array Edge} (e_1 : a0.eval (.tmp 1) = .pointer (some ⟨b1, 0, none⟩)) (hm : ∀ W, Below w9.heap.size w9 W → W.heap[b1]? = some (.cells #[.slice none 0 0, .slice ro 2 rc] 44 (0, 0))) (hBt : ∀ (x y : TK) (ao1 ao2 : Option Addr) (c1 c2 : Nat) (W : World), Below w9.heap.size w9 W → x.2.length ≤ 1000000 → y.2.length ≤ 1000000 → SlG W.heap.size W ao1 (icells x.2) → SlG W.heap.size W ao2 (icells y.2) → (ao1 = none → c1 = 0) → (ao2 = none → c2 = 0) → x.2.length ≤ c1 → y.2.length ≤ c2 → better14 [0, 5] x y = true → Calls Tryd.prog 13 #[.agg #[.slice none 0 0, .slice ro 2 rc], aggK x.1 ao1 x.2.length c1, aggK y.1 ao2 y.2.length c2] W (SaysP true W)) (hs : St ops awD (awF w9 b1 ro rc) (awJ w9 b1 ro rc) 34 a0 l a w) (hi : ops[15]? = some { dst := some 20, op := Op.pick (Operand.tmp 12) (Operand.const (Value.bool true)) (Operand.tmp 19), type := ty, pos := pos, after := after, guard := none }) (nl : l 15 = false) (q7 : l 7 = true) (q14 : l 14 = true) : wpOp Tryd.prog ops Q 15 (Did awD (awF w9 b1 ro rc) (awJ w9 b1 ro rc) 34 l 15 a) a w := by
  have e12 : awF w9 b1 ro rc l 7 w (a.eval (.tmp 12)) := hs.get (by decide) q7 rfl
  have e19 : awF w9 b1 ro rc l 14 w (a.eval (.tmp 19)) := hs.get (by decide) q14 rfl
  have e12 : a.eval (.tmp 12) = .bool false := e12
  have e19 : a.eval (.tmp 19) = .bool false := e19
  have hK := did (aw_mild w9 b1 ro rc) hs (v := .bool false) (d := 20) (i := 15) rfl (Below.refl _ w) rfl
  refine wpOp_go hi rfl ?_
  unfold Oper.wp
  have KK := Lib.hid hK
  clear hK hi
  have ec1 : a.eval (.const (.bool true)) = .bool true := rfl
  generalize a.eval = ρ at *
  go_simp
  exact KK.out
set_option linter.unusedVariables false in
theorem aw_s16 (w9 : World) (b1 : Nat) (ro : Option Addr) (rc : Nat) {ops : Array Oper} {Q : Exit → Act → World → Prop} {a0 a : Act} {w : World} {l : Nat → Bool} {ty : TypeId} {pos : String} {after : Array Edge} (e_1 : a0.eval (.tmp 1) = .pointer (some ⟨b1, 0, none⟩)) (hm : ∀ W, Below w9.heap.size w9 W → W.heap[b1]? = some (.cells #[.slice none 0 0, .slice ro 2 rc] 44 (0, 0))) (hBt : ∀ (x y : TK) (ao1 ao2 : Option Addr) (c1 c2 : Nat) (W : World), Below w9.heap.size w9 W → x.2.length ≤ 1000000 → y.2.length ≤ 1000000 → SlG W.heap.size W ao1 (icells x.2) → SlG W.heap.size W ao2 (icells y.2) → (ao1 = none → c1 = 0) → (ao2 = none → c2 = 0) → x.2.length ≤ c1 → y.2.length ≤ c2 → better14 [0, 5] x y = true → Calls Tryd.prog 13 #[.agg #[.slice none 0 0, .slice ro 2 rc], aggK x.1 ao1 x.2.length c1, aggK y.1 ao2 y.2.length c2] W (SaysP true W)) (hs : St ops awD (awF w9 b1 ro rc) (awJ w9 b1 ro rc) 34 a0 l a w) (hi : ops[16]? = some { dst := some 21, op := Op.move (Operand.tmp 20), type := ty, pos := pos, after := after, guard := none }) (nl : l 16 = false) (q13 : l 13 = true) (q15 : l 15 = true) : wpOp Tryd.prog ops Q 16 (Did awD (awF w9 b1 ro rc) (awJ w9 b1 ro rc) 34 l 16 a) a w := by
  have e20 : awF w9 b1 ro rc l 15 w (a.eval (.tmp 20)) := hs.get (by decide) q15 rfl
  have e20 : a.eval (.tmp 20) = .bool false := e20
  have hK := did (aw_mild w9 b1 ro rc) hs (v := .bool false) (d := 21) (i := 16) rfl (Below.refl _ w) rfl
  refine wpOp_move hi ?_
  rw [e20]
  exact hK
set_option linter.unusedVariables false in
theorem aw_s17 (w9 : World) (b1 : Nat) (ro : Option Addr) (rc : Nat) {ops : Array Oper} {Q : Exit → Act → World → Prop} {a0 a : Act} {w : World} {l : Nat → Bool} {ty : TypeId} {pos : String} {after : Array Edge} (e_1 : a0.eval (.tmp 1) = .pointer (some ⟨b1, 0, none⟩)) (hm : ∀ W, Below w9.heap.size w9 W → W.heap[b1]? = some (.cells #[.slice none 0 0, .slice ro 2 rc] 44 (0, 0))) (hBt : ∀ (x y : TK) (ao1 ao2 : Option Addr) (c1 c2 : Nat) (W : World), Below w9.heap.size w9 W → x.2.length ≤ 1000000 → y.2.length ≤ 1000000 → SlG W.heap.size W ao1 (icells x.2) → SlG W.heap.size W ao2 (icells y.2) → (ao1 = none → c1 = 0) → (ao2 = none → c2 = 0) → x.2.length ≤ c1 → y.2.length ≤ c2 → better14 [0, 5] x y = true → Calls Tryd.prog 13 #[.agg #[.slice none 0 0, .slice ro 2 rc], aggK x.1 ao1 x.2.length c1, aggK y.1 ao2 y.2.length c2] W (SaysP true W)) (hs : St ops awD (awF w9 b1 ro rc) (awJ w9 b1 ro rc) 34 a0 l a w) (hi : ops[17]? = some { dst := some 22, op := Op.load 44 (Operand.tmp 1), type := ty, pos := pos, after := after, guard := some (16, false) }) (hg : Region.wanted { dst := some 22, op := Op.load 44 (Operand.tmp 1), type := ty, pos := pos, after := after, guard := some (16, false) } (yielded ops a.tmps) = true) (nl : l 17 = false) (q16 : l 16 = true) : wpOp Tryd.prog ops Q 17 (Did awD (awF w9 b1 ro rc) (awJ w9 b1 ro rc) 34 l 17 a) a w := by
  have e1 : a.eval (.tmp 1) = .pointer (some ⟨b1, 0, none⟩) := (hs.kept 1 (by decide)).trans (e_1)
  exact wpOp_ldR hi hg e1 (hm w hs.j) (did (aw_mild w9 b1 ro rc) hs (d := 22) (i := 17) rfl (Below.refl _ w) rfl)
set_option linter.unusedVariables false in
theorem aw_s18 (w9 : World) (b1 : Nat) (ro : Option Addr) (rc : Nat) {ops : Array Oper} {Q : Exit → Act → World → Prop} {a0 a : Act} {w : World} {l : Nat → Bool} {ty : TypeId} {pos : String} {after : Array Edge} (e_1 : a0.eval (.tmp 1) = .pointer (some ⟨b1, 0, none⟩)) (hm : ∀ W, Below w9.heap.size w9 W → W.heap[b1]? = some (.cells #[.slice none 0 0, .slice ro 2 rc] 44 (0, 0))) (hBt : ∀ (x y : TK) (ao1 ao2 : Option Addr) (c1 c2 : Nat) (W : World), Below w9.heap.size w9 W → x.2.length ≤ 1000000 → y.2.length ≤ 1000000 → SlG W.heap.size W ao1 (icells x.2) → SlG W.heap.size W ao2 (icells y.2) → (ao1 = none → c1 = 0) → (ao2 = none → c2 = 0) → x.2.length ≤ c1 → y.2.length ≤ c2 → better14 [0, 5] x y = true → Calls Tryd.prog 13 #[.agg #[.slice none 0 0, .slice ro 2 rc], aggK x.1 ao1 x.2.length c1, aggK y.1 ao2 y.2.length c2] W (SaysP true W)) (hs : St ops awD (awF w9 b1 ro rc) (awJ w9 b1 ro rc) 34 a0 l a w) (hi : ops[18]? = some { dst := some 23, op := Op.buildSlice 22 1 #[(0, Operand.const (Value.int IntKind.i64 1))], type := ty, pos := pos, after := after, guard := some (16, false) }) (hg : Region.wanted { dst := some 23, op := Op.buildSlice 22 1 #[(0, Operand.const (Value.int IntKind.i64 1))], type := ty, pos := pos, after := after, guard := some (16, false) } (yielded ops a.tmps) = true) (nl : l 18 = false) (q16 : l 16 = true) : wpOp Tryd.prog ops Q 18 (Did awD (awF w9 b1 ro rc) (awJ w9 b1 ro rc) 34 l 18 a) a w := by
  refine wpOp_lit1 hi hg rfl ?_
  exact did (aw_mild w9 b1 ro rc) hs (d := 23) (i := 18) rfl (below_own _) ⟨w.heap.size, rfl, lits_at [1] w⟩
set_option linter.unusedVariables false in
theorem aw_s19 (w9 : World) (b1 : Nat) (ro : Option Addr) (rc : Nat) {ops : Array Oper} {Q : Exit → Act → World → Prop} {a0 a : Act} {w : World} {l : Nat → Bool} {ty : TypeId} {pos : String} {after : Array Edge} (e_1 : a0.eval (.tmp 1) = .pointer (some ⟨b1, 0, none⟩)) (hm : ∀ W, Below w9.heap.size w9 W → W.heap[b1]? = some (.cells #[.slice none 0 0, .slice ro 2 rc] 44 (0, 0))) (hBt : ∀ (x y : TK) (ao1 ao2 : Option Addr) (c1 c2 : Nat) (W : World), Below w9.heap.size w9 W → x.2.length ≤ 1000000 → y.2.length ≤ 1000000 → SlG W.heap.size W ao1 (icells x.2) → SlG W.heap.size W ao2 (icells y.2) → (ao1 = none → c1 = 0) → (ao2 = none → c2 = 0) → x.2.length ≤ c1 → y.2.length ≤ c2 → better14 [0, 5] x y = true → Calls Tryd.prog 13 #[.agg #[.slice none 0 0, .slice ro 2 rc], aggK x.1 ao1 x.2.length c1, aggK y.1 ao2 y.2.length c2] W (SaysP true W)) (hs : St ops awD (awF w9 b1 ro rc) (awJ w9 b1 ro rc) 34 a0 l a w) (hi : ops[19]? = some { dst := some 24, op := Op.call { callee := Callee.value (Operand.func 16), args := #[Operand.const (Value.int IntKind.i64 1), Operand.tmp 23], argTypes := #[3, 22] }, type := ty, pos := pos, after := after, guard := some (16, false) }) (hg : Region.wanted { dst := some 24, op := Op.call { callee := Callee.value (Operand.func 16), args := #[Operand.const (Value.int IntKind.i64 1), Operand.tmp 23], argTypes := #[3, 22] }, type := ty, pos := pos, after := after, guard := some (16, false) } (yielded ops a.tmps) = true) (nl : l 19 = false) (q16 : l 16 = true) (q18 : l 18 = true) : wpOp Tryd.prog ops Q 19 (Did awD (awF w9 b1 ro rc) (awJ w9 b1 ro rc) 34 l 19 a) a w := by
  have e23 : awF w9 b1 ro rc l 18 w (a.eval (.tmp 23)) := hs.get (by decide) q18 rfl
  obtain ⟨g, f23, hsl⟩ := e23
  have ec : a.eval (.const (.int .i64 1)) = .int .i64 1 := rfl
  refine wpOp_callW (vs := #[.int .i64 1, .slice (some ⟨g, 0, none⟩) 1 1]) hi hg (enters_of Tryd.func16 (by kernel_rfl) rfl) (by simp [f23, ec]) ?_
  refine (tok_any 1 _ _ _ w).mono ?_
  rintro e w' ⟨rfl, rfl⟩
  exact ⟨_, rfl, did (aw_mild w9 b1 ro rc) hs (d := 24) (i := 19) rfl (below_own _) ⟨g, rfl, hsl.up (below_own _) (below_own _).size⟩⟩
set_option linter.unusedVariables false in
theorem aw_s20 (w9 : World) (b1 : Nat) (ro : Option Addr) (rc : Nat) {ops : Array Oper} {Q : Exit → Act → World → Prop} {a0 a : Act} {w : World} {l : Nat → Bool} {ty : TypeId} {pos : String} {after : Array Edge} (e_1 : a0.eval (.tmp 1) = .pointer (some ⟨b1, 0, none⟩)) (hm : ∀ W, Below w9.heap.size w9 W → W.heap[b1]? = some (.cells #[.slice none 0 0, .slice ro 2 rc] 44 (0, 0))) (hBt : ∀ (x y : TK) (ao1 ao2 : Option Addr) (c1 c2 : Nat) (W : World), Below w9.heap.size w9 W → x.2.length ≤ 1000000 → y.2.length ≤ 1000000 → SlG W.heap.size W ao1 (icells x.2) → SlG W.heap.size W ao2 (icells y.2) → (ao1 = none → c1 = 0) → (ao2 = none → c2 = 0) → x.2.length ≤ c1 → y.2.length ≤ c2 → better14 [0, 5] x y = true → Calls Tryd.prog 13 #[.agg #[.slice none 0 0, .slice ro 2 rc], aggK x.1 ao1 x.2.length c1, aggK y.1 ao2 y.2.length c2] W (SaysP true W)) (hs : St ops awD (awF w9 b1 ro rc) (awJ w9 b1 ro rc) 34 a0 l a w) (hi : ops[20]? = some { dst := some 25, op := Op.buildSlice 22 2 #[(0, Operand.const (Value.int IntKind.i64 9)), (1, Operand.const (Value.int IntKind.i64 8))], type := ty, pos := pos, after := after, guard := some (16, false) }) (hg : Region.wanted { dst := some 25, op := Op.buildSlice 22 2 #[(0, Operand.const (Value.int IntKind.i64 9)), (1, Operand.const (Value.int IntKind.i64 8))], type := ty, pos := pos, after := after, guard := some (16, false) } (yielded ops a.tmps) = true) (nl : l 20 = false) (q16 : l 16 = true) : wpOp Tryd.prog ops Q 20 (Did awD (awF w9 b1 ro rc) (awJ w9 b1 ro rc) 34 l 20 a) a w := by
  refine wpOp_lit2 hi hg rfl rfl ?_
  exact did (aw_mild w9 b1 ro rc) hs (d := 25) (i := 20) rfl (below_own _) ⟨w.heap.size, rfl, lits_at [9, 8] w⟩
set_option linter.unusedVariables false in
theorem aw_s21 (w9 : World) (b1 : Nat) (ro : Option Addr) (rc : Nat) {ops : Array Oper} {Q : Exit → Act → World → Prop} {a0 a : Act} {w : World} {l : Nat → Bool} {ty : TypeId} {pos : String} {after : Array Edge} (e_1 : a0.eval (.tmp 1) = .pointer (some ⟨b1, 0, none⟩)) (hm : ∀ W, Below w9.heap.size w9 W → W.heap[b1]? = some (.cells #[.slice none 0 0, .slice ro 2 rc] 44 (0, 0))) (hBt : ∀ (x y : TK) (ao1 ao2 : Option Addr) (c1 c2 : Nat) (W : World), Below w9.heap.size w9 W → x.2.length ≤ 1000000 → y.2.length ≤ 1000000 → SlG W.heap.size W ao1 (icells x.2) → SlG W.heap.size W ao2 (icells y.2) → (ao1 = none → c1 = 0) → (ao2 = none → c2 = 0) → x.2.length ≤ c1 → y.2.length ≤ c2 → better14 [0, 5] x y = true → Calls Tryd.prog 13 #[.agg #[.slice none 0 0, .slice ro 2 rc], aggK x.1 ao1 x.2.length c1, aggK y.1 ao2 y.2.length c2] W (SaysP true W)) (hs : St ops awD (awF w9 b1 ro rc) (awJ w9 b1 ro rc) 34 a0 l a w) (hi : ops[21]? = some { dst := some 26, op := Op.call { callee := Callee.value (Operand.func 16), args := #[Operand.const (Value.int IntKind.i64 0), Operand.tmp 25], argTypes := #[3, 22] }, type := ty, pos := pos, after := after, guard := some (16, false) }) (hg : Region.wanted { dst := some 26, op := Op.call { callee := Callee.value (Operand.func 16), args := #[Operand.const (Value.int IntKind.i64 0), Operand.tmp 25], argTypes := #[3, 22] }, type := ty, pos := pos, after := after, guard := some (16, false) } (yielded ops a.tmps) = true) (nl : l 21 = false) (q16 : l 16 = true) (q19 : l 19 = true) (q20 : l 20 = true) : wpOp Tryd.prog ops Q 21 (Did awD (awF w9 b1 ro rc) (awJ w9 b1 ro rc) 34 l 21 a) a w := by
  have e25 : awF w9 b1 ro rc l 20 w (a.eval (.tmp 25)) := hs.get (by decide) q20 rfl
  obtain ⟨g, f25, hsl⟩ := e25
  have ec : a.eval (.const (.int .i64 0)) = .int .i64 0 := rfl
  refine wpOp_callW (vs := #[.int .i64 0, .slice (some ⟨g, 0, none⟩) 2 2]) hi hg (enters_of Tryd.func16 (by kernel_rfl) rfl) (by simp [f25, ec]) ?_
  refine (tok_any 0 _ _ _ w).mono ?_
  rintro e w' ⟨rfl, rfl⟩
  exact ⟨_, rfl, did (aw_mild w9 b1 ro rc) hs (d := 26) (i := 21) rfl (below_own _) ⟨g, rfl, hsl.up (below_own _) (below_own _).size⟩⟩
set_option linter.unusedVariables false in
theorem aw_s22 (w9 : World) (b1 : Nat) (ro : Option Addr) (rc : Nat) {ops : Array Oper} {Q : Exit → Act → World → Prop} {a0 a : Act} {w : World} {l : Nat → Bool} {ty : TypeId} {pos : String} {after : Array Edge} (e_1 : a0.eval (.tmp 1) = .pointer (some ⟨b1, 0, none⟩)) (hm : ∀ W, Below w9.heap.size w9 W → W.heap[b1]? = some (.cells #[.slice none 0 0, .slice ro 2 rc] 44 (0, 0))) (hBt : ∀ (x y : TK) (ao1 ao2 : Option Addr) (c1 c2 : Nat) (W : World), Below w9.heap.size w9 W → x.2.length ≤ 1000000 → y.2.length ≤ 1000000 → SlG W.heap.size W ao1 (icells x.2) → SlG W.heap.size W ao2 (icells y.2) → (ao1 = none → c1 = 0) → (ao2 = none → c2 = 0) → x.2.length ≤ c1 → y.2.length ≤ c2 → better14 [0, 5] x y = true → Calls Tryd.prog 13 #[.agg #[.slice none 0 0, .slice ro 2 rc], aggK x.1 ao1 x.2.length c1, aggK y.1 ao2 y.2.length c2] W (SaysP true W)) (hs : St ops awD (awF w9 b1 ro rc) (awJ w9 b1 ro rc) 34 a0 l a w) (hi : ops[22]? = some { dst := some 27, op := Op.call { callee := Callee.value (Operand.func 13), args := #[Operand.tmp 22, Operand.tmp 24, Operand.tmp 26], argTypes := #[44, 24, 24] }, type := ty, pos := pos, after := after, guard := some (16, false) }) (hg : Region.wanted { dst := some 27, op := Op.call { callee := Callee.value (Operand.func 13), args := #[Operand.tmp 22, Operand.tmp 24, Operand.tmp 26], argTypes := #[44, 24, 24] }, type := ty, pos := pos, after := after, guard := some (16, false) } (yielded ops a.tmps) = true) (nl : l 22 = false) (q16 : l 16 = true) (q17 : l 17 = true) (q19 : l 19 = true) (q21 : l 21 = true) : wpOp Tryd.prog ops Q 22 (Did awD (awF w9 b1 ro rc) (awJ w9 b1 ro rc) 34 l 22 a) a w := by
  have e22 : awF w9 b1 ro rc l 17 w (a.eval (.tmp 22)) := hs.get (by decide) q17 rfl
  have e24 : awF w9 b1 ro rc l 19 w (a.eval (.tmp 24)) := hs.get (by decide) q19 rfl
  have e26 : awF w9 b1 ro rc l 21 w (a.eval (.tmp 26)) := hs.get (by decide) q21 rfl
  have f22 : a.eval (.tmp 22) = .agg #[.slice none 0 0, .slice ro 2 rc] := e22
  obtain ⟨g1, f24, h1⟩ := e24
  obtain ⟨g2, f26, h2⟩ := e26
  refine wpOp_callW (vs := #[.agg #[.slice none 0 0, .slice ro 2 rc], aggK 1 (some ⟨g1, 0, none⟩) 1 1, aggK 0 (some ⟨g2, 0, none⟩) 2 2]) hi hg (enters_of Tryd.func13 (by kernel_rfl) rfl) (by simp [f22, f24, f26]) ?_
  refine (hBt (1, [1]) (0, [9, 8]) _ _ _ _ w hs.j (by decide) (by decide) h1 h2 (fun e => by cases e) (fun e => by cases e) (by decide) (by decide) (by decide)).mono ?_
  rintro e w' ⟨rfl, hb⟩
  exact ⟨_, rfl, did (aw_mild w9 b1 ro rc) hs (d := 27) (i := 22) rfl hb rfl⟩
set_option linter.unusedVariables false in
theorem aw_s23 (w9 : World) (b1 : Nat) (ro : Option Addr) (rc : Nat) {ops : Array Oper} {Q : Exit → Act → World → Prop} {a0 a : Act} {w : World} {l : Nat → Bool} {ty : TypeId} {pos : String} {after : Array Edge} (e_1 : a0.eval (.tmp 1) = .pointer (some ⟨b1, 0, none⟩)) (hm : ∀ W, Below w9.heap.size w9 W → W.heap[b1]? = some (.cells #[.slice none 0 0, .slice ro 2 rc] 44 (0, 0))) (hBt : ∀ (x y : TK) (ao1 ao2 : Option Addr) (c1 c2 : Nat) (W : World), Below w9.heap.size w9 W → x.2.length ≤ 1000000 → y.2.length ≤ 1000000 → SlG W.heap.size W ao1 (icells x.2) → SlG W.heap.size W ao2 (icells y.2) → (ao1 = none → c1 = 0) → (ao2 = none → c2 = 0) → x.2.length ≤ c1 → y.2.length ≤ c2 → better14 [0, 5] x y = true → Calls Tryd.prog 13 #[.agg #[.slice none 0 0, .slice ro 2 rc], aggK x.1 ao1 x.2.length c1, aggK y.1 ao2 y.2.length c2] W (SaysP true W)) (hs : St ops awD (awF w9 b1 ro rc) (awJ w9 b1 ro rc) 34 a0 l a w) (hi : ops[23]? = some { dst := some 28, op := Op.unOp UnOp.not 4 (Operand.tmp 27), type := ty, pos := pos, after := after, guard := some (16, false) }) (hg : Region.wanted { dst := some 28, op := Op.unOp UnOp.not 4 (Operand.tmp 27), type := ty, pos := pos, after := after, guard := some (16, false) } (yielded ops a.tmps) = true) (nl : l 23 = false) (q16 : l 16 = true) (q22 : l 22 = true) : wpOp Tryd.prog ops Q 23 (Did awD (awF w9 b1 ro rc) (awJ w9 b1 ro rc) 34 l 23 a) a w := by
  have e27 : awF w9 b1 ro rc l 22 w (a.eval (.tmp 27)) := hs.get (by decide) q22 rfl
  have e27 : a.eval (.tmp 27) = .bool true := e27
  have hK := did (aw_mild w9 b1 ro rc) hs (v := .bool false) (d := 28) (i := 23) rfl (Below.refl _ w) rfl
  refine wpOp_goW hi hg ?_
  unfold Oper.wp
  have KK := Lib.hid hK
  clear hK hi hg
  have ec1 : a.eval (.const (.bool true)) = .bool true := rfl
  generalize a.eval = ρ at *
  go_simp
  exact KK.out
set_option linter.unusedVariables false in
theorem aw_s24 (w9 : World) (b1 : Nat) (ro : Option Addr) (rc : Nat) {ops : Array Oper} {Q : Exit → Act → World → Prop} {a0 a : Act} {w : World} {l : Nat → Bool} {ty : TypeId} {pos : String} {after : Array Edge} (e_1 : a0.eval (.tmp 1) = .pointer (some ⟨b1, 0, none⟩)) (hm : ∀ W, Below w9.heap.size w9 W → W.heap[b1]? = some (.cells #[.slice none 0 0, .slice ro 2 rc] 44 (0, 0))) (hBt : ∀ (x y : TK) (ao1 ao2 : Option Addr) (c1 c2 : Nat) (W : World), Below w9.heap.size w9 W → x.2.length ≤ 1000000 → y.2.length ≤ 1000000 → SlG W.heap.size W ao1 (icells x.2) → SlG W.heap.size W ao2 (icells y.2) → (ao1 = none → c1 = 0) → (ao2 = none → c2 = 0) → x.2.length ≤ c1 → y.2.length ≤ c2 → better14 [0, 5] x y = true → Calls Tryd.prog 13 #[.agg #[.slice none 0 0, .slice ro 2 rc], aggK x.1 ao1 x.2.length c1, aggK y.1 ao2 y.2.length c2] W (SaysP true W)) (hs : St ops awD (awF w9 b1 ro rc) (awJ w9 b1 ro rc) 34 a0 l a w) (hi : ops[24]? = some { dst := some 29, op := Op.pick (Operand.tmp 21) (Operand.const (Value.bool true)) (Operand.tmp 28), type := ty, pos := pos, after := after, guard := none }) (nl : l 24 = false) (q16 : l 16 = true) (q23 : l 23 = true) : wpOp Tryd.prog ops Q 24 (Did awD (awF w9 b1 ro rc) (awJ w9 b1 ro rc) 34 l 24 a) a w := by
  have e21 : awF w9 b1 ro rc l 16 w (a.eval (.tmp 21)) := hs.get (by decide) q16 rfl
  have e28 : awF w9 b1 ro rc l 23 w (a.eval (.tmp 28)) := hs.get (by decide) q23 rfl
  have e21 : a.eval (.tmp 21) = .bool false := e21
  have e28 : a.eval (.tmp 28) = .bool false := e28
  have hK := did (aw_mild w9 b1 ro rc) hs (v := .bool false) (d := 29) (i := 24) rfl (Below.refl _ w) rfl
  refine wpOp_go hi rfl ?_
  unfold Oper.wp
  have KK := Lib.hid hK
  clear hK hi
  have ec1 : a.eval (.const (.bool true)) = .bool true := rfl
  generalize a.eval = ρ at *
  go_simp
  exact KK.out
set_option linter.unusedVariables false in
theorem aw_s25 (w9 : World) (b1 : Nat) (ro : Option Addr) (rc : Nat) {ops : Array Oper} {Q : Exit → Act → World → Prop} {a0 a : Act} {w : World} {l : Nat → Bool} {ty : TypeId} {pos : String} {after : Array Edge} (e_1 : a0.eval (.tmp 1) = .pointer (some ⟨b1, 0, none⟩)) (hm : ∀ W, Below w9.heap.size w9 W → W.heap[b1]? = some (.cells #[.slice none 0 0, .slice ro 2 rc] 44 (0, 0))) (hBt : ∀ (x y : TK) (ao1 ao2 : Option Addr) (c1 c2 : Nat) (W : World), Below w9.heap.size w9 W → x.2.length ≤ 1000000 → y.2.length ≤ 1000000 → SlG W.heap.size W ao1 (icells x.2) → SlG W.heap.size W ao2 (icells y.2) → (ao1 = none → c1 = 0) → (ao2 = none → c2 = 0) → x.2.length ≤ c1 → y.2.length ≤ c2 → better14 [0, 5] x y = true → Calls Tryd.prog 13 #[.agg #[.slice none 0 0, .slice ro 2 rc], aggK x.1 ao1 x.2.length c1, aggK y.1 ao2 y.2.length c2] W (SaysP true W)) (hs : St ops awD (awF w9 b1 ro rc) (awJ w9 b1 ro rc) 34 a0 l a w) (hi : ops[25]? = some { dst := some 30, op := Op.move (Operand.tmp 29), type := ty, pos := pos, after := after, guard := none }) (nl : l 25 = false) (q22 : l 22 = true) (q24 : l 24 = true) : wpOp Tryd.prog ops Q 25 (Did awD (awF w9 b1 ro rc) (awJ w9 b1 ro rc) 34 l 25 a) a w := by
  have e29 : awF w9 b1 ro rc l 24 w (a.eval (.tmp 29)) := hs.get (by decide) q24 rfl
  have e29 : a.eval (.tmp 29) = .bool false := e29
  have hK := did (aw_mild w9 b1 ro rc) hs (v := .bool false) (d := 30) (i := 25) rfl (Below.refl _ w) rfl
  refine wpOp_move hi ?_
  rw [e29]
  exact hK
set_option linter.unusedVariables false in
theorem aw_s26 (w9 : World) (b1 : Nat) (ro : Option Addr) (rc : Nat) {ops : Array Oper} {Q : Exit → Act → World → Prop} {a0 a : Act} {w : World} {l : Nat → Bool} {ty : TypeId} {pos : String} {after : Array Edge} (e_1 : a0.eval (.tmp 1) = .pointer (some ⟨b1, 0, none⟩)) (hm : ∀ W, Below w9.heap.size w9 W → W.heap[b1]? = some (.cells #[.slice none 0 0, .slice ro 2 rc] 44 (0, 0))) (hBt : ∀ (x y : TK) (ao1 ao2 : Option Addr) (c1 c2 : Nat) (W : World), Below w9.heap.size w9 W → x.2.length ≤ 1000000 → y.2.length ≤ 1000000 → SlG W.heap.size W ao1 (icells x.2) → SlG W.heap.size W ao2 (icells y.2) → (ao1 = none → c1 = 0) → (ao2 = none → c2 = 0) → x.2.length ≤ c1 → y.2.length ≤ c2 → better14 [0, 5] x y = true → Calls Tryd.prog 13 #[.agg #[.slice none 0 0, .slice ro 2 rc], aggK x.1 ao1 x.2.length c1, aggK y.1 ao2 y.2.length c2] W (SaysP true W)) (hs : St ops awD (awF w9 b1 ro rc) (awJ w9 b1 ro rc) 34 a0 l a w) (hi : ops[26]? = some { dst := some 31, op := Op.load 44 (Operand.tmp 1), type := ty, pos := pos, after := after, guard := some (25, false) }) (hg : Region.wanted { dst := some 31, op := Op.load 44 (Operand.tmp 1), type := ty, pos := pos, after := after, guard := some (25, false) } (yielded ops a.tmps) = true) (nl : l 26 = false) (q25 : l 25 = true) : wpOp Tryd.prog ops Q 26 (Did awD (awF w9 b1 ro rc) (awJ w9 b1 ro rc) 34 l 26 a) a w := by
  have e1 : a.eval (.tmp 1) = .pointer (some ⟨b1, 0, none⟩) := (hs.kept 1 (by decide)).trans (e_1)
  exact wpOp_ldR hi hg e1 (hm w hs.j) (did (aw_mild w9 b1 ro rc) hs (d := 31) (i := 26) rfl (Below.refl _ w) rfl)
set_option linter.unusedVariables false in
theorem aw_s27 (w9 : World) (b1 : Nat) (ro : Option Addr) (rc : Nat) {ops : Array Oper} {Q : Exit → Act → World → Prop} {a0 a : Act} {w : World} {l : Nat → Bool} {ty : TypeId} {pos : String} {after : Array Edge} (e_1 : a0.eval (.tmp 1) = .pointer (some ⟨b1, 0, none⟩)) (hm : ∀ W, Below w9.heap.size w9 W → W.heap[b1]? = some (.cells #[.slice none 0 0, .slice ro 2 rc] 44 (0, 0))) (hBt : ∀ (x y : TK) (ao1 ao2 : Option Addr) (c1 c2 : Nat) (W : World), Below w9.heap.size w9 W → x.2.length ≤ 1000000 → y.2.length ≤ 1000000 → SlG W.heap.size W ao1 (icells x.2) → SlG W.heap.size W ao2 (icells y.2) → (ao1 = none → c1 = 0) → (ao2 = none → c2 = 0) → x.2.length ≤ c1 → y.2.length ≤ c2 → better14 [0, 5] x y = true → Calls Tryd.prog 13 #[.agg #[.slice none 0 0, .slice ro 2 rc], aggK x.1 ao1 x.2.length c1, aggK y.1 ao2 y.2.length c2] W (SaysP true W)) (hs : St ops awD (awF w9 b1 ro rc) (awJ w9 b1 ro rc) 34 a0 l a w) (hi : ops[27]? = some { dst := some 32, op := Op.buildSlice 22 2 #[(0, Operand.const (Value.int IntKind.i64 8)), (1, Operand.const (Value.int IntKind.i64 9))], type := ty, pos := pos, after := after, guard := some (25, false) }) (hg : Region.wanted { dst := some 32, op := Op.buildSlice 22 2 #[(0, Operand.const (Value.int IntKind.i64 8)), (1, Operand.const (Value.int IntKind.i64 9))], type := ty, pos := pos, after := after, guard := some (25, false) } (yielded ops a.tmps) = true) (nl : l 27 = false) (q25 : l 25 = true) : wpOp Tryd.prog ops Q 27 (Did awD (awF w9 b1 ro rc) (awJ w9 b1 ro rc) 34 l 27 a) a w := by
  refine wpOp_lit2 hi hg rfl rfl ?_
  exact did (aw_mild w9 b1 ro rc) hs (d := 32) (i := 27) rfl (below_own _) ⟨w.heap.size, rfl, lits_at [8, 9] w⟩
set_option linter.unusedVariables false in
theorem aw_s28 (w9 : World) (b1 : Nat) (ro : Option Addr) (rc : Nat) {ops : Array Oper} {Q : Exit → Act → World → Prop} {a0 a : Act} {w : World} {l : Nat → Bool} {ty : TypeId} {pos : String} {after : Array Edge} (e_1 : a0.eval (.tmp 1) = .pointer (some ⟨b1, 0, none⟩)) (hm : ∀ W, Below w9.heap.size w9 W → W.heap[b1]? = some (.cells #[.slice none 0 0, .slice ro 2 rc] 44 (0, 0))) (hBt : ∀ (x y : TK) (ao1 ao2 : Option Addr) (c1 c2 : Nat) (W : World), Below w9.heap.size w9 W → x.2.length ≤ 1000000 → y.2.length ≤ 1000000 → SlG W.heap.size W ao1 (icells x.2) → SlG W.heap.size W ao2 (icells y.2) → (ao1 = none → c1 = 0) → (ao2 = none → c2 = 0) → x.2.length ≤ c1 → y.2.length ≤ c2 → better14 [0, 5] x y = true → Calls Tryd.prog 13 #[.agg #[.slice none 0 0, .slice ro 2 rc], aggK x.1 ao1 x.2.length c1, aggK y.1 ao2 y.2.length c2] W (SaysP true W)) (hs : St ops awD (awF w9 b1 ro rc) (awJ w9 b1 ro rc) 34 a0 l a w) (hi : ops[28]? = some { dst := some 33, op := Op.call { callee := Callee.value (Operand.func 16), args := #[Operand.const (Value.int IntKind.i64 0), Operand.tmp 32], argTypes := #[3, 22] }, type := ty, pos := pos, after := after, guard := some (25, false) }) (hg : Region.wanted { dst := some 33, op := Op.call { callee := Callee.value (Operand.func 16), args := #[Operand.const (Value.int IntKind.i64 0), Operand.tmp 32], argTypes := #[3, 22] }, type := ty, pos := pos, after := after, guard := some (25, false) } (yielded ops a.tmps) = true) (nl : l 28 = false) (q25 : l 25 = true) (q27 : l 27 = true) : wpOp Tryd.prog ops Q 28 (Did awD (awF w9 b1 ro rc) (awJ w9 b1 ro rc) 34 l 28 a) a w := by
  have e32 : awF w9 b1 ro rc l 27 w (a.eval (.tmp 32)) := hs.get (by decide) q27 rfl
  obtain ⟨g, f32, hsl⟩ := e32
  have ec : a.eval (.const (.int .i64 0)) = .int .i64 0 := rfl
  refine wpOp_callW (vs := #[.int .i64 0, .slice (some ⟨g, 0, none⟩) 2 2]) hi hg (enters_of Tryd.func16 (by kernel_rfl) rfl) (by simp [f32, ec]) ?_
  refine (tok_any 0 _ _ _ w).mono ?_
  rintro e w' ⟨rfl, rfl⟩
  exact ⟨_, rfl, did (aw_mild w9 b1 ro rc) hs (d := 33) (i := 28) rfl (below_own _) ⟨g, rfl, hsl.up (below_own _) (below_own _).size⟩⟩
set_option linter.unusedVariables false in
theorem aw_s29 (w9 : World) (b1 : Nat) (ro : Option Addr) (rc : Nat) {ops : Array Oper} {Q : Exit → Act → World → Prop} {a0 a : Act} {w : World} {l : Nat → Bool} {ty : TypeId} {pos : String} {after : Array Edge} (e_1 : a0.eval (.tmp 1) = .pointer (some ⟨b1, 0, none⟩)) (hm : ∀ W, Below w9.heap.size w9 W → W.heap[b1]? = some (.cells #[.slice none 0 0, .slice ro 2 rc] 44 (0, 0))) (hBt : ∀ (x y : TK) (ao1 ao2 : Option Addr) (c1 c2 : Nat) (W : World), Below w9.heap.size w9 W → x.2.length ≤ 1000000 → y.2.length ≤ 1000000 → SlG W.heap.size W ao1 (icells x.2) → SlG W.heap.size W ao2 (icells y.2) → (ao1 = none → c1 = 0) → (ao2 = none → c2 = 0) → x.2.length ≤ c1 → y.2.length ≤ c2 → better14 [0, 5] x y = true → Calls Tryd.prog 13 #[.agg #[.slice none 0 0, .slice ro 2 rc], aggK x.1 ao1 x.2.length c1, aggK y.1 ao2 y.2.length c2] W (SaysP true W)) (hs : St ops awD (awF w9 b1 ro rc) (awJ w9 b1 ro rc) 34 a0 l a w) (hi : ops[29]? = some { dst := some 34, op := Op.buildSlice 22 2 #[(0, Operand.const (Value.int IntKind.i64 9)), (1, Operand.const (Value.int IntKind.i64 8))], type := ty, pos := pos, after := after, guard := some (25, false) }) (hg : Region.wanted { dst := some 34, op := Op.buildSlice 22 2 #[(0, Operand.const (Value.int IntKind.i64 9)), (1, Operand.const (Value.int IntKind.i64 8))], type := ty, pos := pos, after := after, guard := some (25, false) } (yielded ops a.tmps) = true) (nl : l 29 = false) (q25 : l 25 = true) : wpOp Tryd.prog ops Q 29 (Did awD (awF w9 b1 ro rc) (awJ w9 b1 ro rc) 34 l 29 a) a w := by
  refine wpOp_lit2 hi hg rfl rfl ?_
  exact did (aw_mild w9 b1 ro rc) hs (d := 34) (i := 29) rfl (below_own _) ⟨w.heap.size, rfl, lits_at [9, 8] w⟩
set_option linter.unusedVariables false in
theorem aw_s30 (w9 : World) (b1 : Nat) (ro : Option Addr) (rc : Nat) {ops : Array Oper} {Q : Exit → Act → World → Prop} {a0 a : Act} {w : World} {l : Nat → Bool} {ty : TypeId} {pos : String} {after : Array Edge} (e_1 : a0.eval (.tmp 1) = .pointer (some ⟨b1, 0, none⟩)) (hm : ∀ W, Below w9.heap.size w9 W → W.heap[b1]? = some (.cells #[.slice none 0 0, .slice ro 2 rc] 44 (0, 0))) (hBt : ∀ (x y : TK) (ao1 ao2 : Option Addr) (c1 c2 : Nat) (W : World), Below w9.heap.size w9 W → x.2.length ≤ 1000000 → y.2.length ≤ 1000000 → SlG W.heap.size W ao1 (icells x.2) → SlG W.heap.size W ao2 (icells y.2) → (ao1 = none → c1 = 0) → (ao2 = none → c2 = 0) → x.2.length ≤ c1 → y.2.length ≤ c2 → better14 [0, 5] x y = true → Calls Tryd.prog 13 #[.agg #[.slice none 0 0, .slice ro 2 rc], aggK x.1 ao1 x.2.length c1, aggK y.1 ao2 y.2.length c2] W (SaysP true W)) (hs : St ops awD (awF w9 b1 ro rc) (awJ w9 b1 ro rc) 34 a0 l a w) (hi : ops[30]? = some { dst := some 35, op := Op.call { callee := Callee.value (Operand.func 16), args := #[Operand.const (Value.int IntKind.i64 0), Operand.tmp 34], argTypes := #[3, 22] }, type := ty, pos := pos, after := after, guard := some (25, false) }) (hg : Region.wanted { dst := some 35, op := Op.call { callee := Callee.value (Operand.func 16), args := #[Operand.const (Value.int IntKind.i64 0), Operand.tmp 34], argTypes := #[3, 22] }, type := ty, pos := pos, after := after, guard := some (25, false) } (yielded ops a.tmps) = true) (nl : l 30 = false) (q25 : l 25 = true) (q28 : l 28 = true) (q29 : l 29 = true) : wpOp Tryd.prog ops Q 30 (Did awD (awF w9 b1 ro rc) (awJ w9 b1 ro rc) 34 l 30 a) a w := by
  have e34 : awF w9 b1 ro rc l 29 w (a.eval (.tmp 34)) := hs.get (by decide) q29 rfl
  obtain ⟨g, f34, hsl⟩ := e34
  have ec : a.eval (.const (.int .i64 0)) = .int .i64 0 := rfl
  refine wpOp_callW (vs := #[.int .i64 0, .slice (some ⟨g, 0, none⟩) 2 2]) hi hg (enters_of Tryd.func16 (by kernel_rfl) rfl) (by simp [f34, ec]) ?_
  refine (tok_any 0 _ _ _ w).mono ?_
  rintro e w' ⟨rfl, rfl⟩
  exact ⟨_, rfl, did (aw_mild w9 b1 ro rc) hs (d := 35) (i := 30) rfl (below_own _) ⟨g, rfl, hsl.up (below_own _) (below_own _).size⟩⟩
set_option linter.unusedVariables false in
theorem aw_s31 (w9 : World) (b1 : Nat) (ro : Option Addr) (rc : Nat) {ops : Array Oper} {Q : Exit → Act → World → Prop} {a0 a : Act} {w : World} {l : Nat → Bool} {ty : TypeId} {pos : String} {after : Array Edge} (e_1 : a0.eval (.tmp 1) = .pointer (some ⟨b1, 0, none⟩)) (hm : ∀ W, Below w9.heap.size w9 W → W.heap[b1]? = some (.cells #[.slice none 0 0, .slice ro 2 rc] 44 (0, 0))) (hBt : ∀ (x y : TK) (ao1 ao2 : Option Addr) (c1 c2 : Nat) (W : World), Below w9.heap.size w9 W → x.2.length ≤ 1000000 → y.2.length ≤ 1000000 → SlG W.heap.size W ao1 (icells x.2) → SlG W.heap.size W ao2 (icells y.2) → (ao1 = none → c1 = 0) → (ao2 = none → c2 = 0) → x.2.length ≤ c1 → y.2.length ≤ c2 → better14 [0, 5] x y = true → Calls Tryd.prog 13 #[.agg #[.slice none 0 0, .slice ro 2 rc], aggK x.1 ao1 x.2.length c1, aggK y.1 ao2 y.2.length c2] W (SaysP true W)) (hs : St ops awD (awF w9 b1 ro rc) (awJ w9 b1 ro rc) 34 a0 l a w) (hi : ops[31]? = some { dst := some 36, op := Op.call { callee := Callee.value (Operand.func 13), args := #[Operand.tmp 31, Operand.tmp 33, Operand.tmp 35], argTypes := #[44, 24, 24] }, type := ty, pos := pos, after := after, guard := some (25, false) }) (hg : Region.wanted { dst := some 36, op := Op.call { callee := Callee.value (Operand.func 13), args := #[Operand.tmp 31, Operand.tmp 33, Operand.tmp 35], argTypes := #[44, 24, 24] }, type := ty, pos := pos, after := after, guard := some (25, false) } (yielded ops a.tmps) = true) (nl : l 31 = false) (q25 : l 25 = true) (q26 : l 26 = true) (q28 : l 28 = true) (q30 : l 30 = true) : wpOp Tryd.prog ops Q 31 (Did awD (awF w9 b1 ro rc) (awJ w9 b1 ro rc) 34 l 31 a) a w := by
  have e31 : awF w9 b1 ro rc l 26 w (a.eval (.tmp 31)) := hs.get (by decide) q26 rfl
  have e33 : awF w9 b1 ro rc l 28 w (a.eval (.tmp 33)) := hs.get (by decide) q28 rfl
  have e35 : awF w9 b1 ro rc l 30 w (a.eval (.tmp 35)) := hs.get (by decide) q30 rfl
  have f31 : a.eval (.tmp 31) = .agg #[.slice none 0 0, .slice ro 2 rc] := e31
  obtain ⟨g1, f33, h1⟩ := e33
  obtain ⟨g2, f35, h2⟩ := e35
  refine wpOp_callW (vs := #[.agg #[.slice none 0 0, .slice ro 2 rc], aggK 0 (some ⟨g1, 0, none⟩) 2 2, aggK 0 (some ⟨g2, 0, none⟩) 2 2]) hi hg (enters_of Tryd.func13 (by kernel_rfl) rfl) (by simp [f31, f33, f35]) ?_
  refine (hBt (0, [8, 9]) (0, [9, 8]) _ _ _ _ w hs.j (by decide) (by decide) h1 h2 (fun e => by cases e) (fun e => by cases e) (by decide) (by decide) (by decide)).mono ?_
  rintro e w' ⟨rfl, hb⟩
  exact ⟨_, rfl, did (aw_mild w9 b1 ro rc) hs (d := 36) (i := 31) rfl hb rfl⟩
set_option linter.unusedVariables false in
theorem aw_s32 (w9 : World) (b1 : Nat) (ro : Option Addr) (rc : Nat) {ops : Array Oper} {Q : Exit → Act → World → Prop} {a0 a : Act} {w : World} {l : Nat → Bool} {ty : TypeId} {pos : String} {after : Array Edge} (e_1 : a0.eval (.tmp 1) = .pointer (some ⟨b1, 0, none⟩)) (hm : ∀ W, Below w9.heap.size w9 W → W.heap[b1]? = some (.cells #[.slice none 0 0, .slice ro 2 rc] 44 (0, 0))) (hBt : ∀ (x y : TK) (ao1 ao2 : Option Addr) (c1 c2 : Nat) (W : World), Below w9.heap.size w9 W → x.2.length ≤ 1000000 → y.2.length ≤ 1000000 → SlG W.heap.size W ao1 (icells x.2) → SlG W.heap.size W ao2 (icells y.2) → (ao1 = none → c1 = 0) → (ao2 = none → c2 = 0) → x.2.length ≤ c1 → y.2.length ≤ c2 → better14 [0, 5] x y = true → Calls Tryd.prog 13 #[.agg #[.slice none 0 0, .slice ro 2 rc], aggK x.1 ao1 x.2.length c1, aggK y.1 ao2 y.2.length c2] W (SaysP true W)) (hs : St ops awD (awF w9 b1 ro rc) (awJ w9 b1 ro rc) 34 a0 l a w) (hi : ops[32]? = some { dst := some 37, op := Op.unOp UnOp.not 4 (Operand.tmp 36), type := ty, pos := pos, after := after, guard := some (25, false) }) (hg : Region.wanted { dst := some 37, op := Op.unOp UnOp.not 4 (Operand.tmp 36), type := ty, pos := pos, after := after, guard := some (25, false) } (yielded ops a.tmps) = true) (nl : l 32 = false) (q25 : l 25 = true) (q31 : l 31 = true) : wpOp Tryd.prog ops Q 32 (Did awD (awF w9 b1 ro rc) (awJ w9 b1 ro rc) 34 l 32 a) a w := by
  have e36 : awF w9 b1 ro rc l 31 w (a.eval (.tmp 36)) := hs.get (by decide) q31 rfl
  have e36 : a.eval (.tmp 36) = .bool true := e36
  have hK := did (aw_mild w9 b1 ro rc) hs (v := .bool false) (d := 37) (i := 32) rfl (Below.refl _ w) rfl
  refine wpOp_goW hi hg ?_
  unfold Oper.wp
  have KK := Lib.hid hK
  clear hK hi hg
  have ec1 : a.eval (.const (.bool true)) = .bool true := rfl
  generalize a.eval = ρ at *
  go_simp
  exact KK.out
set_option linter.unusedVariables false in
theorem aw_s33 (w9 : World) (b1 : Nat) (ro : Option Addr) (rc : Nat) {ops : Array Oper} {Q : Exit → Act → World → Prop} {a0 a : Act} {w : World} {l : Nat → Bool} {ty : TypeId} {pos : String} {after : Array Edge} (e_1 : a0.eval (.tmp 1) = .pointer (some ⟨b1, 0, none⟩)) (hm : ∀ W, Below w9.heap.size w9 W → W.heap[b1]? = some (.cells #[.slice none 0 0, .slice ro 2 rc] 44 (0, 0))) (hBt : ∀ (x y : TK) (ao1 ao2 : Option Addr) (c1 c2 : Nat) (W : World), Below w9.heap.size w9 W → x.2.length ≤ 1000000 → y.2.length ≤ 1000000 → SlG W.heap.size W ao1 (icells x.2) → SlG W.heap.size W ao2 (icells y.2) → (ao1 = none → c1 = 0) → (ao2 = none → c2 = 0) → x.2.length ≤ c1 → y.2.length ≤ c2 → better14 [0, 5] x y = true → Calls Tryd.prog 13 #[.agg #[.slice none 0 0, .slice ro 2 rc], aggK x.1 ao1 x.2.length c1, aggK y.1 ao2 y.2.length c2] W (SaysP true W)) (hs : St ops awD (awF w9 b1 ro rc) (awJ w9 b1 ro rc) 34 a0 l a w) (hi : ops[33]? = some { dst := some 38, op := Op.pick (Operand.tmp 30) (Operand.const (Value.bool true)) (Operand.tmp 37), type := ty, pos := pos, after := after, guard := none }) (nl : l 33 = false) (q25 : l 25 = true) (q32 : l 32 = true) : wpOp Tryd.prog ops Q 33 (Did awD (awF w9 b1 ro rc) (awJ w9 b1 ro rc) 34 l 33 a) a w := by
  have e30 : awF w9 b1 ro rc l 25 w (a.eval (.tmp 30)) := hs.get (by decide) q25 rfl
  have e37 : awF w9 b1 ro rc l 32 w (a.eval (.tmp 37)) := hs.get (by decide) q32 rfl
  have e30 : a.eval (.tmp 30) = .bool false := e30
  have e37 : a.eval (.tmp 37) = .bool false := e37
  have hK := did (aw_mild w9 b1 ro rc) hs (v := .bool false) (d := 38) (i := 33) rfl (Below.refl _ w) rfl
  refine wpOp_go hi rfl ?_
  unfold Oper.wp
  have KK := Lib.hid hK
  clear hK hi
  have ec1 : a.eval (.const (.bool true)) = .bool true := rfl
  generalize a.eval = ρ at *
  go_simp
  exact KK.out
end Go.Proofs.YtlkmabnjmklkpaaDoor
