/- AgendaBetter: its last region. -/
import Derived.Test.YtlkmabnjmklkpaaDoorGreg14
import Derived.Test.YtlkmabnjmklkpaaDoorSameR14
import Derived.Test.YtlkmabnjmklkpaaDoorOf14
import Derived.Test.YtlkmabnjmklkpaaDoorLentA14
import Derived.Test.YtlkmabnjmklkpaaDoorBel14
import Derived.Test.YtlkmabnjmklkpaaDoorBetR14
namespace Go.Proofs.YtlkmabnjmklkpaaDoor
open Go.RowKit
set_option maxRecDepth 100000

/-- Rules of these saliences, wherever they lie. -/
def RulesAt (w : World) (s : List Int) (v : Value) : Prop := ∃ ao c, v = .agg #[.slice none 0 0, .slice ao s.length c] ∧ SlG w.heap.size w ao (rcells s)
theorem RulesAt.old {w w' : World} {s : List Int} {v : Value} (h : RulesAt w s v) (b : Below w.heap.size w w') : RulesAt w' s v := by
  obtain ⟨ao, c, e, hs⟩ := h
  exact ⟨ao, c, e, hs.up b b.size⟩
section
variable {ops : Array Oper} {Q : Exit → Act → World → Prop} {K : Act → World → Prop} {a : Act} {w : World} {i d : Nat} {ty : TypeId} {pos : String} {after : Array Edge} {g : Option (Nat × Bool)}
theorem wpOp_ldK {x : Operand} {b : Nat} {r : Int} {ao : Option Addr} {n m : Nat} (hi : ops[i]? = some { dst := some d, op := .load 24 x, type := ty, pos := pos, after := after, guard := g }) (hg : Region.wanted { dst := some d, op := .load 24 x, type := ty, pos := pos, after := after, guard := g } (yielded ops a.tmps) = true) (hx : a.eval x = .pointer (some ⟨b, 0, none⟩)) (hc : w.heap[b]? = some (.cells #[.int .i64 r, .slice ao n m] 24 (0, 0))) (hK : K (a.put (some d) (.agg #[.int .i64 r, .slice ao n m])) w) : wpOp Tryd.prog ops Q i K a w := by
  refine wpOp_goW hi hg ?_
  unfold Oper.wp
  have KK := Lib.hid hK
  have hce := fun j => Lib.cell_of_heap hc j
  clear hc
  clear hK hi hg
  generalize a.eval = ρ at *
  go_simp
  exact KK.out
theorem wpOp_ldR {x : Operand} {b : Nat} {ao : Option Addr} {n m : Nat} (hi : ops[i]? = some { dst := some d, op := .load 44 x, type := ty, pos := pos, after := after, guard := g }) (hg : Region.wanted { dst := some d, op := .load 44 x, type := ty, pos := pos, after := after, guard := g } (yielded ops a.tmps) = true) (hx : a.eval x = .pointer (some ⟨b, 0, none⟩)) (hc : w.heap[b]? = some (.cells #[.slice none 0 0, .slice ao n m] 44 (0, 0))) (hK : K (a.put (some d) (.agg #[.slice none 0 0, .slice ao n m])) w) : wpOp Tryd.prog ops Q i K a w := by
  refine wpOp_goW hi hg ?_
  unfold Oper.wp
  have KK := Lib.hid hK
  have hce := fun j => Lib.cell_of_heap hc j
  clear hc
  clear hK hi hg
  generalize a.eval = ρ at *
  go_simp
  exact KK.out
end
def bLD (i : Nat) : Option Nat := ([some 47, some 48, some 49, some 50, some 51, some 52, some 53, some 54, some 55, some 56, some 57, some 58, some 59, some 60, some 61, some 62, some 63, some 64, some 65, some 66, some 67, some 68, some 69, some 70, some 71, some 72, some 73, some 6] : List (Option Nat)).getD i none
set_option linter.unusedVariables false in
def bLF (w9 : World) (k1 k2 : Int) (d1 d2 s : List Int) (g1 g2 b4 b5 b7 b8 b9 : Nat) (a1 a2 so ro : Option Addr) (c1 c2 sc rc : Nat) (l : Nat → Bool) (i : Nat) (w : World) (v : Value) : Prop :=
  match i with
  | 0 => v = .bool true
  | 1 => v = .bool true
  | 2 => v = .agg #[.int .i64 k1, .slice (some ⟨g1, 0, none⟩) d1.length (d1.length + 12)]
  | 3 => v = .agg #[.int .i64 k1, .slice a1 d1.length c1]
  | 4 => v = .bool true
  | 5 => v = .bool true
  | 6 => v = .bool true
  | 7 => v = .agg #[.int .i64 k2, .slice (some ⟨g2, 0, none⟩) d2.length (d2.length + 12)]
  | 8 => v = .agg #[.int .i64 k2, .slice a2 d2.length c2]
  | 9 => v = .bool true
  | 10 => v = .bool true
  | 11 => v = .bool true
  | 12 => v = .agg #[.slice none 0 0, .slice ro s.length rc]
  | 13 => v = .slice so s.length sc
  | 14 => RulesAt w s v
  | 15 => v = .bool true
  | 16 => v = .bool true
  | 17 => v = .bool true
  | 18 => v = .agg #[.slice none 0 0, .slice ro s.length rc]
  | 19 => v = .agg #[.int .i64 k1, .slice a1 d1.length c1]
  | 20 => v = .agg #[.int .i64 k1, .slice a1 d1.length c1]
  | 21 => v = .bool false
  | 22 => v = .bool true
  | 23 => v = .bool true
  | 24 => v = .bool true
  | 25 => v = .bool true
  | 26 => v = .bool true
  | 27 => v = .bool true
  | _ => True
set_option linter.unusedVariables false in
def bLJ (w9 : World) (k1 k2 : Int) (d1 d2 s : List Int) (g1 g2 b4 b5 b7 b8 b9 : Nat) (a1 a2 so ro : Option Addr) (c1 c2 sc rc : Nat) (l : Nat → Bool) (w : World) : Prop := Below w9.heap.size w9 w
set_option linter.unusedVariables false in
theorem bL_mild (w9 : World) (k1 k2 : Int) (d1 d2 s : List Int) (g1 g2 b4 b5 b7 b8 b9 : Nat) (a1 a2 so ro : Option Addr) (c1 c2 sc rc : Nat) : Mild (bLF w9 k1 k2 d1 d2 s g1 g2 b4 b5 b7 b8 b9 a1 a2 so ro c1 c2 sc rc) (bLJ w9 k1 k2 d1 d2 s g1 g2 b4 b5 b7 b8 b9 a1 a2 so ro c1 c2 sc rc) := by
  refine ⟨fun l i j w w' v hb h => ?_, fun l i w w' hb h => ?_⟩
  · match j with
    | 0 => exact h
    | 1 => exact h
    | 2 => exact h
    | 3 => exact h
    | 4 => exact h
    | 5 => exact h
    | 6 => exact h
    | 7 => exact h
    | 8 => exact h
    | 9 => exact h
    | 10 => exact h
    | 11 => exact h
    | 12 => exact h
    | 13 => exact h
    | 14 => exact h.old hb
    | 15 => exact h
    | 16 => exact h
    | 17 => exact h
    | 18 => exact h
    | 19 => exact h
    | 20 => exact h
    | 21 => exact h
    | 22 => exact h
    | 23 => exact h
    | 24 => exact h
    | 25 => exact h
    | 26 => exact h
    | 27 => exact h
    | k + 28 => trivial
  · exact h.trans (hb.mono h.size)
end Go.Proofs.YtlkmabnjmklkpaaDoor
