/- PatternNumbers: its regions that draw their orders. -/
import Derived.Test.YtnnhgbncghpecaaGreatGregB10
import Derived.Deep.MidRow
namespace Go.Proofs.YtnnhgbncghpecaaGreat
open Go.RowKit
set_option maxRecDepth 100000

/-- A row, in a block of its own. -/
def RowX (w : World) (T : TypeId) (cs : Array Value) (n : Nat) (v : Value) : Prop := ∃ g, v = .slice (some ⟨g, 0, none⟩) n n ∧ w.heap[g]? = some (.cells cs T (0, 0))
theorem RowX.old {w w' : World} {T : TypeId} {cs : Array Value} {n : Nat} {v : Value} (h : RowX w T cs n v) (b : Below w.heap.size w w') : RowX w' T cs n v := by obtain ⟨g, h1, h2⟩ := h; exact ⟨g, h1, (b.block g (lt_of_heap h2)).trans h2⟩
abbrev zeros2 : Array Value := madeCells (Value.agg #[.int .u8 0, .int .i64 0, .string ⟨#[]⟩]).cells (2 * 3)
/-- An env of one's own, as a call told it. -/
def EnvX (w : World) (x : Int) (v : Value) : Prop := ∃ (B : Nat) (h1 : Option Addr) (c1 : Nat) (h2 : Option Addr) (c2 : Nat), v = .agg #[.slice h1 (newE x).1.length c1, .slice h2 (newE x).2.length c2] ∧ Own10 B w (newE x) (.slice h1 (newE x).1.length c1) (.slice h2 (newE x).2.length c2)
theorem EnvX.old {w w' : World} {x : Int} {v : Value} (h : EnvX w x v) (b : Below w.heap.size w w') : EnvX w' x v := by obtain ⟨B, h1, c1, h2, c2, e, ho⟩ := h; exact ⟨B, h1, c1, h2, c2, e, ho.old b⟩
section
variable {ops : Array Oper} {Q : Exit → Act → World → Prop} {K : Act → World → Prop} {a : Act} {w : World} {i d : Nat} {ty : TypeId} {pos : String} {after : Array Edge} {g : Option (Nat × Bool)}
theorem wpOp_ldC {x : Operand} {b gA : Nat} (hi : ops[i]? = some { dst := some d, op := .load 33 x, type := ty, pos := pos, after := after, guard := g }) (hg : Region.wanted { dst := some d, op := .load 33 x, type := ty, pos := pos, after := after, guard := g } (yielded ops a.tmps) = true) (hx : a.eval x = .pointer (some ⟨b, 0, none⟩)) (hc : w.heap[b]? = some (.cells #[.int .u8 2, .int .i64 (-7), .slice (some ⟨gA, 0, none⟩) 3 3, .int .u8 0, .int .u8 0, .int .i64 0, .string ⟨#[]⟩, .int .i64 0, .int .u8 0, .slice none 0 0] 33 (0, 0))) (hK : K (a.put (some d) (.agg #[.int .u8 2, .int .i64 (-7), .slice (some ⟨gA, 0, none⟩) 3 3, .int .u8 0, .int .u8 0, .int .i64 0, .string ⟨#[]⟩, .int .i64 0, .int .u8 0, .slice none 0 0])) w) : wpOp Tryz.prog ops Q i K a w := by
  refine wpOp_goW hi hg ?_
  unfold Oper.wp
  have KK := Lib.hid hK
  have hce := fun j => Lib.cell_of_heap hc j
  clear hc
  clear hK hi hg
  generalize a.eval = ρ at *
  go_simp
  exact KK.out
theorem wpOp_ldF {x : Operand} {b gV : Nat} (hi : ops[i]? = some { dst := some d, op := .load 36 x, type := ty, pos := pos, after := after, guard := g }) (hg : Region.wanted { dst := some d, op := .load 36 x, type := ty, pos := pos, after := after, guard := g } (yielded ops a.tmps) = true) (hx : a.eval x = .pointer (some ⟨b, 0, none⟩)) (hc : w.heap[b]? = some (.cells #[.int .i64 3, .int .i64 (-7), .slice (some ⟨gV, 0, none⟩) 3 3] 36 (0, 0))) (hK : K (a.put (some d) (.agg #[.int .i64 3, .int .i64 (-7), .slice (some ⟨gV, 0, none⟩) 3 3])) w) : wpOp Tryz.prog ops Q i K a w := by
  refine wpOp_goW hi hg ?_
  unfold Oper.wp
  have KK := Lib.hid hK
  have hce := fun j => Lib.cell_of_heap hc j
  clear hc
  clear hK hi hg
  generalize a.eval = ρ at *
  go_simp
  exact KK.out
theorem wpOp_sb2 {b1 b2 : Bool} (hi : ops[i]? = some { dst := some d, op := .buildSlice 37 2 #[(0, .const (.bool b1)), (1, .const (.bool b2))], type := ty, pos := pos, after := after, guard := g }) (hg : Region.wanted { dst := some d, op := .buildSlice 37 2 #[(0, .const (.bool b1)), (1, .const (.bool b2))], type := ty, pos := pos, after := after, guard := g } (yielded ops a.tmps) = true) (hK : K (a.put (some d) (.slice (some ⟨w.heap.size, 0, none⟩) 2 2)) (w.alloc (.cells #[.bool b1, .bool b2] 4))) : wpOp Tryz.prog ops Q i K a w := by
  refine wpOp_goW hi hg ?_
  unfold Oper.wp
  have KK := Lib.hid hK
  have ex1 : a.eval (.const (.bool b1)) = .bool b1 := rfl
  have ex2 : a.eval (.const (.bool b2)) = .bool b2 := rfl
  clear hK hi hg
  generalize a.eval = ρ at *
  go_simp
  exact KK.out
theorem wpOp_sb1 {b1 : Bool} (hi : ops[i]? = some { dst := some d, op := .buildSlice 37 1 #[(0, .const (.bool b1))], type := ty, pos := pos, after := after, guard := g }) (hg : Region.wanted { dst := some d, op := .buildSlice 37 1 #[(0, .const (.bool b1))], type := ty, pos := pos, after := after, guard := g } (yielded ops a.tmps) = true) (hK : K (a.put (some d) (.slice (some ⟨w.heap.size, 0, none⟩) 1 1)) (w.alloc (.cells #[.bool b1] 4))) : wpOp Tryz.prog ops Q i K a w := by
  refine wpOp_goW hi hg ?_
  unfold Oper.wp
  have KK := Lib.hid hK
  have ex1 : a.eval (.const (.bool b1)) = .bool b1 := rfl
  clear hK hi hg
  generalize a.eval = ρ at *
  go_simp
  exact KK.out
theorem wpOp_sv2 {x y : Operand} {k1 n1 k2 n2 : Int} {s1 s2 : ByteArray} (hi : ops[i]? = some { dst := some d, op := .buildSlice 34 2 #[(0, x), (1, y)], type := ty, pos := pos, after := after, guard := g }) (hg : Region.wanted { dst := some d, op := .buildSlice 34 2 #[(0, x), (1, y)], type := ty, pos := pos, after := after, guard := g } (yielded ops a.tmps) = true) (hx : a.eval x = .agg #[.int .u8 k1, .int .i64 n1, .string s1]) (hy : a.eval y = .agg #[.int .u8 k2, .int .i64 n2, .string s2]) (hK : K (a.put (some d) (.slice (some ⟨w.heap.size, 0, none⟩) 2 2)) (w.alloc (.cells #[.int .u8 k1, .int .i64 n1, .string s1, .int .u8 k2, .int .i64 n2, .string s2] 27))) : wpOp Tryz.prog ops Q i K a w := by
  refine wpOp_goW hi hg ?_
  unfold Oper.wp
  have KK := Lib.hid hK
  clear hK hi hg
  generalize a.eval = ρ at *
  go_simp
  exact KK.out
theorem wpOp_mk2 (hi : ops[i]? = some { dst := some d, op := .makeSlice 34 (.const (.int .i64 2)) (.const (.int .i64 2)), type := ty, pos := pos, after := after, guard := g }) (hg : Region.wanted { dst := some d, op := .makeSlice 34 (.const (.int .i64 2)) (.const (.int .i64 2)), type := ty, pos := pos, after := after, guard := g } (yielded ops a.tmps) = true) (hK : K (a.put (some d) (.slice (some ⟨w.heap.size, 0, none⟩) 2 2)) (w.alloc (.cells zeros2 27))) : wpOp Tryz.prog ops Q i K a w := by
  refine wpOp_goW hi hg ?_
  unfold Oper.wp
  have KK := Lib.hid hK
  have ex1 : a.eval (.const (.int .i64 2)) = .int .i64 2 := rfl
  have hmv : ∀ W : World, (Instr.makeSlice 34 (.int .i64 2) (.int .i64 2)).run Tryz.prog W = .ok (.slice (some ⟨W.heap.size, 0, none⟩) 2 2) (W.alloc (.cells zeros2 27)) := fun W => makeV_run 2 (by decide) W
  generalize zeros2 = zz at *
  clear hK hi hg
  generalize a.eval = ρ at *
  go_simp
  exact KK.out
end
def mRD (i : Nat) : Option Nat := ([some 82, some 83, some 84, some 85, some 86, some 87, some 88, some 89, some 90, some 91, some 92, some 93, some 94, some 95, some 96, some 97, some 98, some 99, some 100, some 101, some 102, some 103, some 104, some 105, some 106, some 107, some 108, some 109, some 110, some 111, some 112, some 113, some 114, some 115] : List (Option Nat)).getD i none
set_option linter.unusedVariables false in
def mRF (w8 : World) (gc gf gA gV : Nat) (l : Nat → Bool) (i : Nat) (w : World) (v : Value) : Prop :=
  match i with
  | 0 => v = .agg #[.int .u8 2, .int .i64 (-7), .slice (some ⟨gA, 0, none⟩) 3 3, .int .u8 0, .int .u8 0, .int .i64 0, .string ⟨#[]⟩, .int .i64 0, .int .u8 0, .slice none 0 0]
  | 1 => v = .agg #[.int .i64 3, .int .i64 (-7), .slice (some ⟨gV, 0, none⟩) 3 3]
  | 2 => RowX w 4 #[.bool true, .bool true] 2 v
  | 3 => v = .agg #[.int .u8 1, .int .i64 1, .string ⟨#[]⟩]
  | 4 => v = .agg #[.int .u8 0, .int .i64 0, .string ⟨#[]⟩]
  | 5 => RowX w 27 #[.int .u8 1, .int .i64 1, .string ⟨#[]⟩, .int .u8 0, .int .i64 0, .string ⟨#[]⟩] 2 v
  | 6 => v = .bool true
  | 7 => v = .bool false
  | 8 => v = .bool false
  | 9 => v = .agg #[.int .u8 2, .int .i64 (-7), .slice (some ⟨gA, 0, none⟩) 3 3, .int .u8 0, .int .u8 0, .int .i64 0, .string ⟨#[]⟩, .int .i64 0, .int .u8 0, .slice none 0 0]
  | 10 => v = .agg #[.int .i64 3, .int .i64 (-7), .slice (some ⟨gV, 0, none⟩) 3 3]
  | 11 => RowX w 4 #[.bool false, .bool false] 2 v
  | 12 => RowX w 27 zeros2 2 v
  | 13 => v = .bool true
  | 14 => v = .bool false
  | 15 => v = .bool false
  | 16 => v = .bool false
  | 17 => v = .agg #[.int .u8 2, .int .i64 (-7), .slice (some ⟨gA, 0, none⟩) 3 3, .int .u8 0, .int .u8 0, .int .i64 0, .string ⟨#[]⟩, .int .i64 0, .int .u8 0, .slice none 0 0]
  | 18 => v = .agg #[.int .i64 3, .int .i64 (-7), .slice (some ⟨gV, 0, none⟩) 3 3]
  | 19 => RowX w 4 #[.bool false, .bool true] 2 v
  | 20 => v = .agg #[.int .u8 1, .int .i64 1, .string ⟨#[]⟩]
  | 21 => v = .agg #[.int .u8 1, .int .i64 1, .string ⟨#[]⟩]
  | 22 => RowX w 27 #[.int .u8 1, .int .i64 1, .string ⟨#[]⟩, .int .u8 1, .int .i64 1, .string ⟨#[]⟩] 2 v
  | 23 => v = .bool true
  | 24 => v = .bool false
  | 25 => v = .bool false
  | 26 => v = .bool false
  | 27 => v = .agg #[.int .u8 2, .int .i64 (-7), .slice (some ⟨gA, 0, none⟩) 3 3, .int .u8 0, .int .u8 0, .int .i64 0, .string ⟨#[]⟩, .int .i64 0, .int .u8 0, .slice none 0 0]
  | 28 => v = .agg #[.int .i64 3, .int .i64 (-7), .slice (some ⟨gV, 0, none⟩) 3 3]
  | 29 => RowX w 4 #[.bool true] 1 v
  | 30 => RowX w 27 zeros2 2 v
  | 31 => v = .bool true
  | 32 => v = .bool false
  | 33 => v = .bool false
  | _ => True
set_option linter.unusedVariables false in
def mRJ (w8 : World) (gc gf gA gV : Nat) (l : Nat → Bool) (w : World) : Prop := Below w8.heap.size w8 w
set_option linter.unusedVariables false in
theorem mR_mild (w8 : World) (gc gf gA gV : Nat) : Mild (mRF w8 gc gf gA gV) (mRJ w8 gc gf gA gV) := by
  refine ⟨fun l i j w w' v hb h => ?_, fun l i w w' hb h => ?_⟩
  · match j with
    | 0 => exact h
    | 1 => exact h
    | 2 => exact h.old hb
    | 3 => exact h
    | 4 => exact h
    | 5 => exact h.old hb
    | 6 => exact h
    | 7 => exact h
    | 8 => exact h
    | 9 => exact h
    | 10 => exact h
    | 11 => exact h.old hb
    | 12 => exact h.old hb
    | 13 => exact h
    | 14 => exact h
    | 15 => exact h
    | 16 => exact h
    | 17 => exact h
    | 18 => exact h
    | 19 => exact h.old hb
    | 20 => exact h
    | 21 => exact h
    | 22 => exact h.old hb
    | 23 => exact h
    | 24 => exact h
    | 25 => exact h
    | 26 => exact h
    | 27 => exact h
    | 28 => exact h
    | 29 => exact h.old hb
    | 30 => exact h.old hb
    | 31 => exact h
    | 32 => exact h
    | 33 => exact h
    | k + 34 => trivial
  · exact h.trans (hb.mono h.size)
set_option linter.unusedVariables false in
theorem mR_s0 (w8 : World) (gc gf gA gV : Nat) {ops : Array Oper} {Q : Exit → Act → World → Prop} {a0 a : Act} {w : World} {l : Nat → Bool} {ty : TypeId} {pos : String} {after : Array Edge} (k8 : a0.eval (.tmp 8) = .pointer (some ⟨gc, 0, none⟩)) (k9 : a0.eval (.tmp 9) = .pointer (some ⟨gf, 0, none⟩)) (hcb : w8.heap[gc]? = some (.cells #[.int .u8 2, .int .i64 (-7), .slice (some ⟨gA, 0, none⟩) 3 3, .int .u8 0, .int .u8 0, .int .i64 0, .string ⟨#[]⟩, .int .i64 0, .int .u8 0, .slice none 0 0] 33 (0, 0))) (hfb : w8.heap[gf]? = some (.cells #[.int .i64 3, .int .i64 (-7), .slice (some ⟨gV, 0, none⟩) 3 3] 36 (0, 0))) (hPM : ∀ W, Below w8.heap.size w8 W → ∀ (g1 g2 : Nat) (bs : List Bool) (vs : List V3) (A1 A2 : Array Value), W.heap[g1]? = some (.cells A1 4 (0, 0)) → W.heap[g2]? = some (.cells A2 27 (0, 0)) → A1.toList = cellsB bs → A2.toList = cellsV vs → bs.length ≤ 2 → vs.length ≤ 2 → Short10 vs → Calls Tryz.prog 3 #[.agg #[.int .u8 2, .int .i64 (-7), .slice (some ⟨gA, 0, none⟩) 3 3, .int .u8 0, .int .u8 0, .int .i64 0, .string ⟨#[]⟩, .int .i64 0, .int .u8 0, .slice none 0 0], .agg #[.int .i64 3, .int .i64 (-7), .slice (some ⟨gV, 0, none⟩) 3 3], .slice (some ⟨g1, 0, none⟩) bs.length bs.length, .slice (some ⟨g2, 0, none⟩) vs.length vs.length] W fun r w' => r = .returned (.bool true) ∧ Below W.heap.size W w') (hs : St ops mRD (mRF w8 gc gf gA gV) (mRJ w8 gc gf gA gV) 34 a0 l a w) (hi : ops[0]? = some { dst := some 82, op := Op.load 33 (Operand.tmp 8), type := ty, pos := pos, after := after, guard := none }) (nl : l 0 = false)  : wpOp Tryz.prog ops Q 0 (Did mRD (mRF w8 gc gf gA gV) (mRJ w8 gc gf gA gV) 34 l 0 a) a w := by
  have e8 : a.eval (.tmp 8) = .pointer (some ⟨gc, 0, none⟩) := (hs.kept 8 (by decide)).trans (k8)
  exact wpOp_ldC hi (by simp [Region.wanted]) e8 ((hs.j.block _ (lt_of_heap hcb)).trans hcb) (did (mR_mild w8 gc gf gA gV) hs (d := 82) (i := 0) rfl (Below.refl _ w) rfl)
set_option linter.unusedVariables false in
theorem mR_s1 (w8 : World) (gc gf gA gV : Nat) {ops : Array Oper} {Q : Exit → Act → World → Prop} {a0 a : Act} {w : World} {l : Nat → Bool} {ty : TypeId} {pos : String} {after : Array Edge} (k8 : a0.eval (.tmp 8) = .pointer (some ⟨gc, 0, none⟩)) (k9 : a0.eval (.tmp 9) = .pointer (some ⟨gf, 0, none⟩)) (hcb : w8.heap[gc]? = some (.cells #[.int .u8 2, .int .i64 (-7), .slice (some ⟨gA, 0, none⟩) 3 3, .int .u8 0, .int .u8 0, .int .i64 0, .string ⟨#[]⟩, .int .i64 0, .int .u8 0, .slice none 0 0] 33 (0, 0))) (hfb : w8.heap[gf]? = some (.cells #[.int .i64 3, .int .i64 (-7), .slice (some ⟨gV, 0, none⟩) 3 3] 36 (0, 0))) (hPM : ∀ W, Below w8.heap.size w8 W → ∀ (g1 g2 : Nat) (bs : List Bool) (vs : List V3) (A1 A2 : Array Value), W.heap[g1]? = some (.cells A1 4 (0, 0)) → W.heap[g2]? = some (.cells A2 27 (0, 0)) → A1.toList = cellsB bs → A2.toList = cellsV vs → bs.length ≤ 2 → vs.length ≤ 2 → Short10 vs → Calls Tryz.prog 3 #[.agg #[.int .u8 2, .int .i64 (-7), .slice (some ⟨gA, 0, none⟩) 3 3, .int .u8 0, .int .u8 0, .int .i64 0, .string ⟨#[]⟩, .int .i64 0, .int .u8 0, .slice none 0 0], .agg #[.int .i64 3, .int .i64 (-7), .slice (some ⟨gV, 0, none⟩) 3 3], .slice (some ⟨g1, 0, none⟩) bs.length bs.length, .slice (some ⟨g2, 0, none⟩) vs.length vs.length] W fun r w' => r = .returned (.bool true) ∧ Below W.heap.size W w') (hs : St ops mRD (mRF w8 gc gf gA gV) (mRJ w8 gc gf gA gV) 34 a0 l a w) (hi : ops[1]? = some { dst := some 83, op := Op.load 36 (Operand.tmp 9), type := ty, pos := pos, after := after, guard := none }) (nl : l 1 = false)  : wpOp Tryz.prog ops Q 1 (Did mRD (mRF w8 gc gf gA gV) (mRJ w8 gc gf gA gV) 34 l 1 a) a w := by
  have e9 : a.eval (.tmp 9) = .pointer (some ⟨gf, 0, none⟩) := (hs.kept 9 (by decide)).trans (k9)
  exact wpOp_ldF hi (by simp [Region.wanted]) e9 ((hs.j.block _ (lt_of_heap hfb)).trans hfb) (did (mR_mild w8 gc gf gA gV) hs (d := 83) (i := 1) rfl (Below.refl _ w) rfl)
set_option linter.unusedVariables false in
theorem mR_s2 (w8 : World) (gc gf gA gV : Nat) {ops : Array Oper} {Q : Exit → Act → World → Prop} {a0 a : Act} {w : World} {l : Nat → Bool} {ty : TypeId} {pos : String} {after : Array Edge} (k8 : a0.eval (.tmp 8) = .pointer (some ⟨gc, 0, none⟩)) (k9 : a0.eval (.tmp 9) = .pointer (some ⟨gf, 0, none⟩)) (hcb : w8.heap[gc]? = some (.cells #[.int .u8 2, .int .i64 (-7), .slice (some ⟨gA, 0, none⟩) 3 3, .int .u8 0, .int .u8 0, .int .i64 0, .string ⟨#[]⟩, .int .i64 0, .int .u8 0, .slice none 0 0] 33 (0, 0))) (hfb : w8.heap[gf]? = some (.cells #[.int .i64 3, .int .i64 (-7), .slice (some ⟨gV, 0, none⟩) 3 3] 36 (0, 0))) (hPM : ∀ W, Below w8.heap.size w8 W → ∀ (g1 g2 : Nat) (bs : List Bool) (vs : List V3) (A1 A2 : Array Value), W.heap[g1]? = some (.cells A1 4 (0, 0)) → W.heap[g2]? = some (.cells A2 27 (0, 0)) → A1.toList = cellsB bs → A2.toList = cellsV vs → bs.length ≤ 2 → vs.length ≤ 2 → Short10 vs → Calls Tryz.prog 3 #[.agg #[.int .u8 2, .int .i64 (-7), .slice (some ⟨gA, 0, none⟩) 3 3, .int .u8 0, .int .u8 0, .int .i64 0, .string ⟨#[]⟩, .int .i64 0, .int .u8 0, .slice none 0 0], .agg #[.int .i64 3, .int .i64 (-7), .slice (some ⟨gV, 0, none⟩) 3 3], .slice (some ⟨g1, 0, none⟩) bs.length bs.length, .slice (some ⟨g2, 0, none⟩) vs.length vs.length] W fun r w' => r = .returned (.bool true) ∧ Below W.heap.size W w') (hs : St ops mRD (mRF w8 gc gf gA gV) (mRJ w8 gc gf gA gV) 34 a0 l a w) (hi : ops[2]? = some { dst := some 84, op := Op.buildSlice 37 2 #[(0, Operand.const (Value.bool true)), (1, Operand.const (Value.bool true))], type := ty, pos := pos, after := after, guard := none }) (nl : l 2 = false)  : wpOp Tryz.prog ops Q 2 (Did mRD (mRF w8 gc gf gA gV) (mRJ w8 gc gf gA gV) 34 l 2 a) a w := by
  exact wpOp_sb2 hi (by simp [Region.wanted]) (did (mR_mild w8 gc gf gA gV) hs (d := 84) (i := 2) rfl (below_own _) ⟨w.heap.size, rfl, heap_alloc_new w _⟩)
set_option linter.unusedVariables false in
theorem mR_s3 (w8 : World) (gc gf gA gV : Nat) {ops : Array Oper} {Q : Exit → Act → World → Prop} {a0 a : Act} {w : World} {l : Nat → Bool} {ty : TypeId} {pos : String} {after : Array Edge} (k8 : a0.eval (.tmp 8) = .pointer (some ⟨gc, 0, none⟩)) (k9 : a0.eval (.tmp 9) = .pointer (some ⟨gf, 0, none⟩)) (hcb : w8.heap[gc]? = some (.cells #[.int .u8 2, .int .i64 (-7), .slice (some ⟨gA, 0, none⟩) 3 3, .int .u8 0, .int .u8 0, .int .i64 0, .string ⟨#[]⟩, .int .i64 0, .int .u8 0, .slice none 0 0] 33 (0, 0))) (hfb : w8.heap[gf]? = some (.cells #[.int .i64 3, .int .i64 (-7), .slice (some ⟨gV, 0, none⟩) 3 3] 36 (0, 0))) (hPM : ∀ W, Below w8.heap.size w8 W → ∀ (g1 g2 : Nat) (bs : List Bool) (vs : List V3) (A1 A2 : Array Value), W.heap[g1]? = some (.cells A1 4 (0, 0)) → W.heap[g2]? = some (.cells A2 27 (0, 0)) → A1.toList = cellsB bs → A2.toList = cellsV vs → bs.length ≤ 2 → vs.length ≤ 2 → Short10 vs → Calls Tryz.prog 3 #[.agg #[.int .u8 2, .int .i64 (-7), .slice (some ⟨gA, 0, none⟩) 3 3, .int .u8 0, .int .u8 0, .int .i64 0, .string ⟨#[]⟩, .int .i64 0, .int .u8 0, .slice none 0 0], .agg #[.int .i64 3, .int .i64 (-7), .slice (some ⟨gV, 0, none⟩) 3 3], .slice (some ⟨g1, 0, none⟩) bs.length bs.length, .slice (some ⟨g2, 0, none⟩) vs.length vs.length] W fun r w' => r = .returned (.bool true) ∧ Below W.heap.size W w') (hs : St ops mRD (mRF w8 gc gf gA gV) (mRJ w8 gc gf gA gV) 34 a0 l a w) (hi : ops[3]? = some { dst := some 85, op := Op.call { callee := Callee.value (Operand.func 21), args := #[Operand.const (Value.int IntKind.i64 1)], argTypes := #[2] }, type := ty, pos := pos, after := after, guard := none }) (nl : l 3 = false)  : wpOp Tryz.prog ops Q 3 (Did mRD (mRF w8 gc gf gA gV) (mRJ w8 gc gf gA gV) 34 l 3 a) a w := by
  refine wpOp_callW (vs := #[.int .i64 1]) hi (by simp [Region.wanted]) (enters_of Tryz.func21 (by kernel_rfl) rfl) (by simp [Act.eval]) ?_
  refine (num_any 1 w).mono ?_
  rintro e w' ⟨rfl, hb⟩
  exact ⟨_, rfl, did (mR_mild w8 gc gf gA gV) hs (d := 85) (i := 3) rfl hb rfl⟩
set_option linter.unusedVariables false in
theorem mR_s4 (w8 : World) (gc gf gA gV : Nat) {ops : Array Oper} {Q : Exit → Act → World → Prop} {a0 a : Act} {w : World} {l : Nat → Bool} {ty : TypeId} {pos : String} {after : Array Edge} (k8 : a0.eval (.tmp 8) = .pointer (some ⟨gc, 0, none⟩)) (k9 : a0.eval (.tmp 9) = .pointer (some ⟨gf, 0, none⟩)) (hcb : w8.heap[gc]? = some (.cells #[.int .u8 2, .int .i64 (-7), .slice (some ⟨gA, 0, none⟩) 3 3, .int .u8 0, .int .u8 0, .int .i64 0, .string ⟨#[]⟩, .int .i64 0, .int .u8 0, .slice none 0 0] 33 (0, 0))) (hfb : w8.heap[gf]? = some (.cells #[.int .i64 3, .int .i64 (-7), .slice (some ⟨gV, 0, none⟩) 3 3] 36 (0, 0))) (hPM : ∀ W, Below w8.heap.size w8 W → ∀ (g1 g2 : Nat) (bs : List Bool) (vs : List V3) (A1 A2 : Array Value), W.heap[g1]? = some (.cells A1 4 (0, 0)) → W.heap[g2]? = some (.cells A2 27 (0, 0)) → A1.toList = cellsB bs → A2.toList = cellsV vs → bs.length ≤ 2 → vs.length ≤ 2 → Short10 vs → Calls Tryz.prog 3 #[.agg #[.int .u8 2, .int .i64 (-7), .slice (some ⟨gA, 0, none⟩) 3 3, .int .u8 0, .int .u8 0, .int .i64 0, .string ⟨#[]⟩, .int .i64 0, .int .u8 0, .slice none 0 0], .agg #[.int .i64 3, .int .i64 (-7), .slice (some ⟨gV, 0, none⟩) 3 3], .slice (some ⟨g1, 0, none⟩) bs.length bs.length, .slice (some ⟨g2, 0, none⟩) vs.length vs.length] W fun r w' => r = .returned (.bool true) ∧ Below W.heap.size W w') (hs : St ops mRD (mRF w8 gc gf gA gV) (mRJ w8 gc gf gA gV) 34 a0 l a w) (hi : ops[4]? = some { dst := some 86, op := Op.build 27 #[], type := ty, pos := pos, after := after, guard := none }) (nl : l 4 = false)  : wpOp Tryz.prog ops Q 4 (Did mRD (mRF w8 gc gf gA gV) (mRJ w8 gc gf gA gV) 34 l 4 a) a w := by
  have hK := did (mR_mild w8 gc gf gA gV) hs (v := .agg #[.int .u8 0, .int .i64 0, .string ⟨#[]⟩]) (d := 86) (i := 4) rfl (Below.refl _ w) rfl
  refine wpOp_go hi rfl ?_
  unfold Oper.wp
  have KK := Lib.hid hK
  clear hK hi
  generalize a.eval = ρ at *
  go_simp
  exact KK.out
set_option linter.unusedVariables false in
theorem mR_s5 (w8 : World) (gc gf gA gV : Nat) {ops : Array Oper} {Q : Exit → Act → World → Prop} {a0 a : Act} {w : World} {l : Nat → Bool} {ty : TypeId} {pos : String} {after : Array Edge} (k8 : a0.eval (.tmp 8) = .pointer (some ⟨gc, 0, none⟩)) (k9 : a0.eval (.tmp 9) = .pointer (some ⟨gf, 0, none⟩)) (hcb : w8.heap[gc]? = some (.cells #[.int .u8 2, .int .i64 (-7), .slice (some ⟨gA, 0, none⟩) 3 3, .int .u8 0, .int .u8 0, .int .i64 0, .string ⟨#[]⟩, .int .i64 0, .int .u8 0, .slice none 0 0] 33 (0, 0))) (hfb : w8.heap[gf]? = some (.cells #[.int .i64 3, .int .i64 (-7), .slice (some ⟨gV, 0, none⟩) 3 3] 36 (0, 0))) (hPM : ∀ W, Below w8.heap.size w8 W → ∀ (g1 g2 : Nat) (bs : List Bool) (vs : List V3) (A1 A2 : Array Value), W.heap[g1]? = some (.cells A1 4 (0, 0)) → W.heap[g2]? = some (.cells A2 27 (0, 0)) → A1.toList = cellsB bs → A2.toList = cellsV vs → bs.length ≤ 2 → vs.length ≤ 2 → Short10 vs → Calls Tryz.prog 3 #[.agg #[.int .u8 2, .int .i64 (-7), .slice (some ⟨gA, 0, none⟩) 3 3, .int .u8 0, .int .u8 0, .int .i64 0, .string ⟨#[]⟩, .int .i64 0, .int .u8 0, .slice none 0 0], .agg #[.int .i64 3, .int .i64 (-7), .slice (some ⟨gV, 0, none⟩) 3 3], .slice (some ⟨g1, 0, none⟩) bs.length bs.length, .slice (some ⟨g2, 0, none⟩) vs.length vs.length] W fun r w' => r = .returned (.bool true) ∧ Below W.heap.size W w') (hs : St ops mRD (mRF w8 gc gf gA gV) (mRJ w8 gc gf gA gV) 34 a0 l a w) (hi : ops[5]? = some { dst := some 87, op := Op.buildSlice 34 2 #[(0, Operand.tmp 85), (1, Operand.tmp 86)], type := ty, pos := pos, after := after, guard := none }) (nl : l 5 = false) (q3 : l 3 = true) (q4 : l 4 = true) : wpOp Tryz.prog ops Q 5 (Did mRD (mRF w8 gc gf gA gV) (mRJ w8 gc gf gA gV) 34 l 5 a) a w := by
  have e85 : mRF w8 gc gf gA gV l 3 w (a.eval (.tmp 85)) := hs.get (by decide) q3 rfl
  have e86 : mRF w8 gc gf gA gV l 4 w (a.eval (.tmp 86)) := hs.get (by decide) q4 rfl
  exact wpOp_sv2 hi (by simp [Region.wanted]) e85 e86 (did (mR_mild w8 gc gf gA gV) hs (d := 87) (i := 5) rfl (below_own _) ⟨w.heap.size, rfl, heap_alloc_new w _⟩)
set_option linter.unusedVariables false in
theorem mR_s6 (w8 : World) (gc gf gA gV : Nat) {ops : Array Oper} {Q : Exit → Act → World → Prop} {a0 a : Act} {w : World} {l : Nat → Bool} {ty : TypeId} {pos : String} {after : Array Edge} (k8 : a0.eval (.tmp 8) = .pointer (some ⟨gc, 0, none⟩)) (k9 : a0.eval (.tmp 9) = .pointer (some ⟨gf, 0, none⟩)) (hcb : w8.heap[gc]? = some (.cells #[.int .u8 2, .int .i64 (-7), .slice (some ⟨gA, 0, none⟩) 3 3, .int .u8 0, .int .u8 0, .int .i64 0, .string ⟨#[]⟩, .int .i64 0, .int .u8 0, .slice none 0 0] 33 (0, 0))) (hfb : w8.heap[gf]? = some (.cells #[.int .i64 3, .int .i64 (-7), .slice (some ⟨gV, 0, none⟩) 3 3] 36 (0, 0))) (hPM : ∀ W, Below w8.heap.size w8 W → ∀ (g1 g2 : Nat) (bs : List Bool) (vs : List V3) (A1 A2 : Array Value), W.heap[g1]? = some (.cells A1 4 (0, 0)) → W.heap[g2]? = some (.cells A2 27 (0, 0)) → A1.toList = cellsB bs → A2.toList = cellsV vs → bs.length ≤ 2 → vs.length ≤ 2 → Short10 vs → Calls Tryz.prog 3 #[.agg #[.int .u8 2, .int .i64 (-7), .slice (some ⟨gA, 0, none⟩) 3 3, .int .u8 0, .int .u8 0, .int .i64 0, .string ⟨#[]⟩, .int .i64 0, .int .u8 0, .slice none 0 0], .agg #[.int .i64 3, .int .i64 (-7), .slice (some ⟨gV, 0, none⟩) 3 3], .slice (some ⟨g1, 0, none⟩) bs.length bs.length, .slice (some ⟨g2, 0, none⟩) vs.length vs.length] W fun r w' => r = .returned (.bool true) ∧ Below W.heap.size W w') (hs : St ops mRD (mRF w8 gc gf gA gV) (mRJ w8 gc gf gA gV) 34 a0 l a w) (hi : ops[6]? = some { dst := some 88, op := Op.call { callee := Callee.value (Operand.func 3), args := #[Operand.tmp 82, Operand.tmp 83, Operand.tmp 84, Operand.tmp 87], argTypes := #[33, 36, 37, 34] }, type := ty, pos := pos, after := after, guard := none }) (nl : l 6 = false) (q0 : l 0 = true) (q1 : l 1 = true) (q2 : l 2 = true) (q3 : l 3 = true) (q5 : l 5 = true) : wpOp Tryz.prog ops Q 6 (Did mRD (mRF w8 gc gf gA gV) (mRJ w8 gc gf gA gV) 34 l 6 a) a w := by
  have e82 : mRF w8 gc gf gA gV l 0 w (a.eval (.tmp 82)) := hs.get (by decide) q0 rfl
  have e83 : mRF w8 gc gf gA gV l 1 w (a.eval (.tmp 83)) := hs.get (by decide) q1 rfl
  have e84 : mRF w8 gc gf gA gV l 2 w (a.eval (.tmp 84)) := hs.get (by decide) q2 rfl
  have e87 : mRF w8 gc gf gA gV l 5 w (a.eval (.tmp 87)) := hs.get (by decide) q5 rfl
  have f1 : a.eval (.tmp 82) = .agg #[.int .u8 2, .int .i64 (-7), .slice (some ⟨gA, 0, none⟩) 3 3, .int .u8 0, .int .u8 0, .int .i64 0, .string ⟨#[]⟩, .int .i64 0, .int .u8 0, .slice none 0 0] := e82
  have f2 : a.eval (.tmp 83) = .agg #[.int .i64 3, .int .i64 (-7), .slice (some ⟨gV, 0, none⟩) 3 3] := e83
  obtain ⟨g1, f3, h3⟩ := e84
  obtain ⟨g2, f4, h4⟩ := e87
  refine wpOp_callW (vs := #[.agg #[.int .u8 2, .int .i64 (-7), .slice (some ⟨gA, 0, none⟩) 3 3, .int .u8 0, .int .u8 0, .int .i64 0, .string ⟨#[]⟩, .int .i64 0, .int .u8 0, .slice none 0 0], .agg #[.int .i64 3, .int .i64 (-7), .slice (some ⟨gV, 0, none⟩) 3 3], .slice (some ⟨g1, 0, none⟩) 2 2, .slice (some ⟨g2, 0, none⟩) 2 2]) hi (by simp [Region.wanted]) (enters_of Tryz.func3 (by kernel_rfl) rfl) (by simp [f1, f2, f3, f4]) ?_
  refine (hPM w hs.j g1 g2 [true, true] [numT 1, zeroT] _ _ h3 h4 rfl rfl (by decide) (by decide) (fun u hu => by simp at hu; (first | (rcases hu with rfl | rfl) | subst hu) <;> decide)).mono ?_
  rintro e w' ⟨rfl, hb⟩
  exact ⟨_, rfl, did (mR_mild w8 gc gf gA gV) hs (d := 88) (i := 6) rfl hb rfl⟩
set_option linter.unusedVariables false in
theorem mR_s7 (w8 : World) (gc gf gA gV : Nat) {ops : Array Oper} {Q : Exit → Act → World → Prop} {a0 a : Act} {w : World} {l : Nat → Bool} {ty : TypeId} {pos : String} {after : Array Edge} (k8 : a0.eval (.tmp 8) = .pointer (some ⟨gc, 0, none⟩)) (k9 : a0.eval (.tmp 9) = .pointer (some ⟨gf, 0, none⟩)) (hcb : w8.heap[gc]? = some (.cells #[.int .u8 2, .int .i64 (-7), .slice (some ⟨gA, 0, none⟩) 3 3, .int .u8 0, .int .u8 0, .int .i64 0, .string ⟨#[]⟩, .int .i64 0, .int .u8 0, .slice none 0 0] 33 (0, 0))) (hfb : w8.heap[gf]? = some (.cells #[.int .i64 3, .int .i64 (-7), .slice (some ⟨gV, 0, none⟩) 3 3] 36 (0, 0))) (hPM : ∀ W, Below w8.heap.size w8 W → ∀ (g1 g2 : Nat) (bs : List Bool) (vs : List V3) (A1 A2 : Array Value), W.heap[g1]? = some (.cells A1 4 (0, 0)) → W.heap[g2]? = some (.cells A2 27 (0, 0)) → A1.toList = cellsB bs → A2.toList = cellsV vs → bs.length ≤ 2 → vs.length ≤ 2 → Short10 vs → Calls Tryz.prog 3 #[.agg #[.int .u8 2, .int .i64 (-7), .slice (some ⟨gA, 0, none⟩) 3 3, .int .u8 0, .int .u8 0, .int .i64 0, .string ⟨#[]⟩, .int .i64 0, .int .u8 0, .slice none 0 0], .agg #[.int .i64 3, .int .i64 (-7), .slice (some ⟨gV, 0, none⟩) 3 3], .slice (some ⟨g1, 0, none⟩) bs.length bs.length, .slice (some ⟨g2, 0, none⟩) vs.length vs.length] W fun r w' => r = .returned (.bool true) ∧ Below W.heap.size W w') (hs : St ops mRD (mRF w8 gc gf gA gV) (mRJ w8 gc gf gA gV) 34 a0 l a w) (hi : ops[7]? = some { dst := some 89, op := Op.unOp UnOp.not 4 (Operand.tmp 88), type := ty, pos := pos, after := after, guard := none }) (nl : l 7 = false) (q6 : l 6 = true) : wpOp Tryz.prog ops Q 7 (Did mRD (mRF w8 gc gf gA gV) (mRJ w8 gc gf gA gV) 34 l 7 a) a w := by
  have e88 : mRF w8 gc gf gA gV l 6 w (a.eval (.tmp 88)) := hs.get (by decide) q6 rfl
  have e88 : a.eval (.tmp 88) = .bool true := e88
  have hK := did (mR_mild w8 gc gf gA gV) hs (v := .bool false) (d := 89) (i := 7) rfl (Below.refl _ w) rfl
  refine wpOp_go hi rfl ?_
  unfold Oper.wp
  have KK := Lib.hid hK
  clear hK hi
  generalize a.eval = ρ at *
  go_simp
  exact KK.out
set_option linter.unusedVariables false in
theorem mR_s8 (w8 : World) (gc gf gA gV : Nat) {ops : Array Oper} {Q : Exit → Act → World → Prop} {a0 a : Act} {w : World} {l : Nat → Bool} {ty : TypeId} {pos : String} {after : Array Edge} (k8 : a0.eval (.tmp 8) = .pointer (some ⟨gc, 0, none⟩)) (k9 : a0.eval (.tmp 9) = .pointer (some ⟨gf, 0, none⟩)) (hcb : w8.heap[gc]? = some (.cells #[.int .u8 2, .int .i64 (-7), .slice (some ⟨gA, 0, none⟩) 3 3, .int .u8 0, .int .u8 0, .int .i64 0, .string ⟨#[]⟩, .int .i64 0, .int .u8 0, .slice none 0 0] 33 (0, 0))) (hfb : w8.heap[gf]? = some (.cells #[.int .i64 3, .int .i64 (-7), .slice (some ⟨gV, 0, none⟩) 3 3] 36 (0, 0))) (hPM : ∀ W, Below w8.heap.size w8 W → ∀ (g1 g2 : Nat) (bs : List Bool) (vs : List V3) (A1 A2 : Array Value), W.heap[g1]? = some (.cells A1 4 (0, 0)) → W.heap[g2]? = some (.cells A2 27 (0, 0)) → A1.toList = cellsB bs → A2.toList = cellsV vs → bs.length ≤ 2 → vs.length ≤ 2 → Short10 vs → Calls Tryz.prog 3 #[.agg #[.int .u8 2, .int .i64 (-7), .slice (some ⟨gA, 0, none⟩) 3 3, .int .u8 0, .int .u8 0, .int .i64 0, .string ⟨#[]⟩, .int .i64 0, .int .u8 0, .slice none 0 0], .agg #[.int .i64 3, .int .i64 (-7), .slice (some ⟨gV, 0, none⟩) 3 3], .slice (some ⟨g1, 0, none⟩) bs.length bs.length, .slice (some ⟨g2, 0, none⟩) vs.length vs.length] W fun r w' => r = .returned (.bool true) ∧ Below W.heap.size W w') (hs : St ops mRD (mRF w8 gc gf gA gV) (mRJ w8 gc gf gA gV) 34 a0 l a w) (hi : ops[8]? = some { dst := some 90, op := Op.move (Operand.tmp 89), type := ty, pos := pos, after := after, guard := none }) (nl : l 8 = false) (q6 : l 6 = true) (q7 : l 7 = true) : wpOp Tryz.prog ops Q 8 (Did mRD (mRF w8 gc gf gA gV) (mRJ w8 gc gf gA gV) 34 l 8 a) a w := by
  have e89 : mRF w8 gc gf gA gV l 7 w (a.eval (.tmp 89)) := hs.get (by decide) q7 rfl
  have e89 : a.eval (.tmp 89) = .bool false := e89
  have hK := did (mR_mild w8 gc gf gA gV) hs (v := .bool false) (d := 90) (i := 8) rfl (Below.refl _ w) rfl
  refine wpOp_move hi ?_
  rw [e89]
  exact hK
set_option linter.unusedVariables false in
theorem mR_s9 (w8 : World) (gc gf gA gV : Nat) {ops : Array Oper} {Q : Exit → Act → World → Prop} {a0 a : Act} {w : World} {l : Nat → Bool} {ty : TypeId} {pos : String} {after : Array Edge} (k8 : a0.eval (.tmp 8) = .pointer (some ⟨gc, 0, none⟩)) (k9 : a0.eval (.tmp 9) = .pointer (some ⟨gf, 0, none⟩)) (hcb : w8.heap[gc]? = some (.cells #[.int .u8 2, .int .i64 (-7), .slice (some ⟨gA, 0, none⟩) 3 3, .int .u8 0, .int .u8 0, .int .i64 0, .string ⟨#[]⟩, .int .i64 0, .int .u8 0, .slice none 0 0] 33 (0, 0))) (hfb : w8.heap[gf]? = some (.cells #[.int .i64 3, .int .i64 (-7), .slice (some ⟨gV, 0, none⟩) 3 3] 36 (0, 0))) (hPM : ∀ W, Below w8.heap.size w8 W → ∀ (g1 g2 : Nat) (bs : List Bool) (vs : List V3) (A1 A2 : Array Value), W.heap[g1]? = some (.cells A1 4 (0, 0)) → W.heap[g2]? = some (.cells A2 27 (0, 0)) → A1.toList = cellsB bs → A2.toList = cellsV vs → bs.length ≤ 2 → vs.length ≤ 2 → Short10 vs → Calls Tryz.prog 3 #[.agg #[.int .u8 2, .int .i64 (-7), .slice (some ⟨gA, 0, none⟩) 3 3, .int .u8 0, .int .u8 0, .int .i64 0, .string ⟨#[]⟩, .int .i64 0, .int .u8 0, .slice none 0 0], .agg #[.int .i64 3, .int .i64 (-7), .slice (some ⟨gV, 0, none⟩) 3 3], .slice (some ⟨g1, 0, none⟩) bs.length bs.length, .slice (some ⟨g2, 0, none⟩) vs.length vs.length] W fun r w' => r = .returned (.bool true) ∧ Below W.heap.size W w') (hs : St ops mRD (mRF w8 gc gf gA gV) (mRJ w8 gc gf gA gV) 34 a0 l a w) (hi : ops[9]? = some { dst := some 91, op := Op.load 33 (Operand.tmp 8), type := ty, pos := pos, after := after, guard := some (8, false) }) (hg : Region.wanted { dst := some 91, op := Op.load 33 (Operand.tmp 8), type := ty, pos := pos, after := after, guard := some (8, false) } (yielded ops a.tmps) = true) (nl : l 9 = false) (q8 : l 8 = true) : wpOp Tryz.prog ops Q 9 (Did mRD (mRF w8 gc gf gA gV) (mRJ w8 gc gf gA gV) 34 l 9 a) a w := by
  have e8 : a.eval (.tmp 8) = .pointer (some ⟨gc, 0, none⟩) := (hs.kept 8 (by decide)).trans (k8)
  exact wpOp_ldC hi hg e8 ((hs.j.block _ (lt_of_heap hcb)).trans hcb) (did (mR_mild w8 gc gf gA gV) hs (d := 91) (i := 9) rfl (Below.refl _ w) rfl)
set_option linter.unusedVariables false in
theorem mR_s10 (w8 : World) (gc gf gA gV : Nat) {ops : Array Oper} {Q : Exit → Act → World → Prop} {a0 a : Act} {w : World} {l : Nat → Bool} {ty : TypeId} {pos : String} {after : Array Edge} (k8 : a0.eval (.tmp 8) = .pointer (some ⟨gc, 0, none⟩)) (k9 : a0.eval (.tmp 9) = .pointer (some ⟨gf, 0, none⟩)) (hcb : w8.heap[gc]? = some (.cells #[.int .u8 2, .int .i64 (-7), .slice (some ⟨gA, 0, none⟩) 3 3, .int .u8 0, .int .u8 0, .int .i64 0, .string ⟨#[]⟩, .int .i64 0, .int .u8 0, .slice none 0 0] 33 (0, 0))) (hfb : w8.heap[gf]? = some (.cells #[.int .i64 3, .int .i64 (-7), .slice (some ⟨gV, 0, none⟩) 3 3] 36 (0, 0))) (hPM : ∀ W, Below w8.heap.size w8 W → ∀ (g1 g2 : Nat) (bs : List Bool) (vs : List V3) (A1 A2 : Array Value), W.heap[g1]? = some (.cells A1 4 (0, 0)) → W.heap[g2]? = some (.cells A2 27 (0, 0)) → A1.toList = cellsB bs → A2.toList = cellsV vs → bs.length ≤ 2 → vs.length ≤ 2 → Short10 vs → Calls Tryz.prog 3 #[.agg #[.int .u8 2, .int .i64 (-7), .slice (some ⟨gA, 0, none⟩) 3 3, .int .u8 0, .int .u8 0, .int .i64 0, .string ⟨#[]⟩, .int .i64 0, .int .u8 0, .slice none 0 0], .agg #[.int .i64 3, .int .i64 (-7), .slice (some ⟨gV, 0, none⟩) 3 3], .slice (some ⟨g1, 0, none⟩) bs.length bs.length, .slice (some ⟨g2, 0, none⟩) vs.length vs.length] W fun r w' => r = .returned (.bool true) ∧ Below W.heap.size W w') (hs : St ops mRD (mRF w8 gc gf gA gV) (mRJ w8 gc gf gA gV) 34 a0 l a w) (hi : ops[10]? = some { dst := some 92, op := Op.load 36 (Operand.tmp 9), type := ty, pos := pos, after := after, guard := some (8, false) }) (hg : Region.wanted { dst := some 92, op := Op.load 36 (Operand.tmp 9), type := ty, pos := pos, after := after, guard := some (8, false) } (yielded ops a.tmps) = true) (nl : l 10 = false) (q8 : l 8 = true) : wpOp Tryz.prog ops Q 10 (Did mRD (mRF w8 gc gf gA gV) (mRJ w8 gc gf gA gV) 34 l 10 a) a w := by
  have e9 : a.eval (.tmp 9) = .pointer (some ⟨gf, 0, none⟩) := (hs.kept 9 (by decide)).trans (k9)
  exact wpOp_ldF hi hg e9 ((hs.j.block _ (lt_of_heap hfb)).trans hfb) (did (mR_mild w8 gc gf gA gV) hs (d := 92) (i := 10) rfl (Below.refl _ w) rfl)
set_option linter.unusedVariables false in
theorem mR_s11 (w8 : World) (gc gf gA gV : Nat) {ops : Array Oper} {Q : Exit → Act → World → Prop} {a0 a : Act} {w : World} {l : Nat → Bool} {ty : TypeId} {pos : String} {after : Array Edge} (k8 : a0.eval (.tmp 8) = .pointer (some ⟨gc, 0, none⟩)) (k9 : a0.eval (.tmp 9) = .pointer (some ⟨gf, 0, none⟩)) (hcb : w8.heap[gc]? = some (.cells #[.int .u8 2, .int .i64 (-7), .slice (some ⟨gA, 0, none⟩) 3 3, .int .u8 0, .int .u8 0, .int .i64 0, .string ⟨#[]⟩, .int .i64 0, .int .u8 0, .slice none 0 0] 33 (0, 0))) (hfb : w8.heap[gf]? = some (.cells #[.int .i64 3, .int .i64 (-7), .slice (some ⟨gV, 0, none⟩) 3 3] 36 (0, 0))) (hPM : ∀ W, Below w8.heap.size w8 W → ∀ (g1 g2 : Nat) (bs : List Bool) (vs : List V3) (A1 A2 : Array Value), W.heap[g1]? = some (.cells A1 4 (0, 0)) → W.heap[g2]? = some (.cells A2 27 (0, 0)) → A1.toList = cellsB bs → A2.toList = cellsV vs → bs.length ≤ 2 → vs.length ≤ 2 → Short10 vs → Calls Tryz.prog 3 #[.agg #[.int .u8 2, .int .i64 (-7), .slice (some ⟨gA, 0, none⟩) 3 3, .int .u8 0, .int .u8 0, .int .i64 0, .string ⟨#[]⟩, .int .i64 0, .int .u8 0, .slice none 0 0], .agg #[.int .i64 3, .int .i64 (-7), .slice (some ⟨gV, 0, none⟩) 3 3], .slice (some ⟨g1, 0, none⟩) bs.length bs.length, .slice (some ⟨g2, 0, none⟩) vs.length vs.length] W fun r w' => r = .returned (.bool true) ∧ Below W.heap.size W w') (hs : St ops mRD (mRF w8 gc gf gA gV) (mRJ w8 gc gf gA gV) 34 a0 l a w) (hi : ops[11]? = some { dst := some 93, op := Op.buildSlice 37 2 #[(0, Operand.const (Value.bool false)), (1, Operand.const (Value.bool false))], type := ty, pos := pos, after := after, guard := some (8, false) }) (hg : Region.wanted { dst := some 93, op := Op.buildSlice 37 2 #[(0, Operand.const (Value.bool false)), (1, Operand.const (Value.bool false))], type := ty, pos := pos, after := after, guard := some (8, false) } (yielded ops a.tmps) = true) (nl : l 11 = false) (q8 : l 8 = true) : wpOp Tryz.prog ops Q 11 (Did mRD (mRF w8 gc gf gA gV) (mRJ w8 gc gf gA gV) 34 l 11 a) a w := by
  exact wpOp_sb2 hi hg (did (mR_mild w8 gc gf gA gV) hs (d := 93) (i := 11) rfl (below_own _) ⟨w.heap.size, rfl, heap_alloc_new w _⟩)
set_option linter.unusedVariables false in
theorem mR_s12 (w8 : World) (gc gf gA gV : Nat) {ops : Array Oper} {Q : Exit → Act → World → Prop} {a0 a : Act} {w : World} {l : Nat → Bool} {ty : TypeId} {pos : String} {after : Array Edge} (k8 : a0.eval (.tmp 8) = .pointer (some ⟨gc, 0, none⟩)) (k9 : a0.eval (.tmp 9) = .pointer (some ⟨gf, 0, none⟩)) (hcb : w8.heap[gc]? = some (.cells #[.int .u8 2, .int .i64 (-7), .slice (some ⟨gA, 0, none⟩) 3 3, .int .u8 0, .int .u8 0, .int .i64 0, .string ⟨#[]⟩, .int .i64 0, .int .u8 0, .slice none 0 0] 33 (0, 0))) (hfb : w8.heap[gf]? = some (.cells #[.int .i64 3, .int .i64 (-7), .slice (some ⟨gV, 0, none⟩) 3 3] 36 (0, 0))) (hPM : ∀ W, Below w8.heap.size w8 W → ∀ (g1 g2 : Nat) (bs : List Bool) (vs : List V3) (A1 A2 : Array Value), W.heap[g1]? = some (.cells A1 4 (0, 0)) → W.heap[g2]? = some (.cells A2 27 (0, 0)) → A1.toList = cellsB bs → A2.toList = cellsV vs → bs.length ≤ 2 → vs.length ≤ 2 → Short10 vs → Calls Tryz.prog 3 #[.agg #[.int .u8 2, .int .i64 (-7), .slice (some ⟨gA, 0, none⟩) 3 3, .int .u8 0, .int .u8 0, .int .i64 0, .string ⟨#[]⟩, .int .i64 0, .int .u8 0, .slice none 0 0], .agg #[.int .i64 3, .int .i64 (-7), .slice (some ⟨gV, 0, none⟩) 3 3], .slice (some ⟨g1, 0, none⟩) bs.length bs.length, .slice (some ⟨g2, 0, none⟩) vs.length vs.length] W fun r w' => r = .returned (.bool true) ∧ Below W.heap.size W w') (hs : St ops mRD (mRF w8 gc gf gA gV) (mRJ w8 gc gf gA gV) 34 a0 l a w) (hi : ops[12]? = some { dst := some 94, op := Op.makeSlice 34 (Operand.const (Value.int IntKind.i64 2)) (Operand.const (Value.int IntKind.i64 2)), type := ty, pos := pos, after := after, guard := some (8, false) }) (hg : Region.wanted { dst := some 94, op := Op.makeSlice 34 (Operand.const (Value.int IntKind.i64 2)) (Operand.const (Value.int IntKind.i64 2)), type := ty, pos := pos, after := after, guard := some (8, false) } (yielded ops a.tmps) = true) (nl : l 12 = false) (q8 : l 8 = true) : wpOp Tryz.prog ops Q 12 (Did mRD (mRF w8 gc gf gA gV) (mRJ w8 gc gf gA gV) 34 l 12 a) a w := by
  exact wpOp_mk2 hi hg (did (mR_mild w8 gc gf gA gV) hs (d := 94) (i := 12) rfl (below_own _) ⟨w.heap.size, rfl, heap_alloc_new w _⟩)
set_option linter.unusedVariables false in
theorem mR_s13 (w8 : World) (gc gf gA gV : Nat) {ops : Array Oper} {Q : Exit → Act → World → Prop} {a0 a : Act} {w : World} {l : Nat → Bool} {ty : TypeId} {pos : String} {after : Array Edge} (k8 : a0.eval (.tmp 8) = .pointer (some ⟨gc, 0, none⟩)) (k9 : a0.eval (.tmp 9) = .pointer (some ⟨gf, 0, none⟩)) (hcb : w8.heap[gc]? = some (.cells #[.int .u8 2, .int .i64 (-7), .slice (some ⟨gA, 0, none⟩) 3 3, .int .u8 0, .int .u8 0, .int .i64 0, .string ⟨#[]⟩, .int .i64 0, .int .u8 0, .slice none 0 0] 33 (0, 0))) (hfb : w8.heap[gf]? = some (.cells #[.int .i64 3, .int .i64 (-7), .slice (some ⟨gV, 0, none⟩) 3 3] 36 (0, 0))) (hPM : ∀ W, Below w8.heap.size w8 W → ∀ (g1 g2 : Nat) (bs : List Bool) (vs : List V3) (A1 A2 : Array Value), W.heap[g1]? = some (.cells A1 4 (0, 0)) → W.heap[g2]? = some (.cells A2 27 (0, 0)) → A1.toList = cellsB bs → A2.toList = cellsV vs → bs.length ≤ 2 → vs.length ≤ 2 → Short10 vs → Calls Tryz.prog 3 #[.agg #[.int .u8 2, .int .i64 (-7), .slice (some ⟨gA, 0, none⟩) 3 3, .int .u8 0, .int .u8 0, .int .i64 0, .string ⟨#[]⟩, .int .i64 0, .int .u8 0, .slice none 0 0], .agg #[.int .i64 3, .int .i64 (-7), .slice (some ⟨gV, 0, none⟩) 3 3], .slice (some ⟨g1, 0, none⟩) bs.length bs.length, .slice (some ⟨g2, 0, none⟩) vs.length vs.length] W fun r w' => r = .returned (.bool true) ∧ Below W.heap.size W w') (hs : St ops mRD (mRF w8 gc gf gA gV) (mRJ w8 gc gf gA gV) 34 a0 l a w) (hi : ops[13]? = some { dst := some 95, op := Op.call { callee := Callee.value (Operand.func 3), args := #[Operand.tmp 91, Operand.tmp 92, Operand.tmp 93, Operand.tmp 94], argTypes := #[33, 36, 37, 34] }, type := ty, pos := pos, after := after, guard := some (8, false) }) (hg : Region.wanted { dst := some 95, op := Op.call { callee := Callee.value (Operand.func 3), args := #[Operand.tmp 91, Operand.tmp 92, Operand.tmp 93, Operand.tmp 94], argTypes := #[33, 36, 37, 34] }, type := ty, pos := pos, after := after, guard := some (8, false) } (yielded ops a.tmps) = true) (nl : l 13 = false) (q8 : l 8 = true) (q9 : l 9 = true) (q10 : l 10 = true) (q11 : l 11 = true) (q12 : l 12 = true) : wpOp Tryz.prog ops Q 13 (Did mRD (mRF w8 gc gf gA gV) (mRJ w8 gc gf gA gV) 34 l 13 a) a w := by
  have e91 : mRF w8 gc gf gA gV l 9 w (a.eval (.tmp 91)) := hs.get (by decide) q9 rfl
  have e92 : mRF w8 gc gf gA gV l 10 w (a.eval (.tmp 92)) := hs.get (by decide) q10 rfl
  have e93 : mRF w8 gc gf gA gV l 11 w (a.eval (.tmp 93)) := hs.get (by decide) q11 rfl
  have e94 : mRF w8 gc gf gA gV l 12 w (a.eval (.tmp 94)) := hs.get (by decide) q12 rfl
  have f1 : a.eval (.tmp 91) = .agg #[.int .u8 2, .int .i64 (-7), .slice (some ⟨gA, 0, none⟩) 3 3, .int .u8 0, .int .u8 0, .int .i64 0, .string ⟨#[]⟩, .int .i64 0, .int .u8 0, .slice none 0 0] := e91
  have f2 : a.eval (.tmp 92) = .agg #[.int .i64 3, .int .i64 (-7), .slice (some ⟨gV, 0, none⟩) 3 3] := e92
  obtain ⟨g1, f3, h3⟩ := e93
  obtain ⟨g2, f4, h4⟩ := e94
  refine wpOp_callW (vs := #[.agg #[.int .u8 2, .int .i64 (-7), .slice (some ⟨gA, 0, none⟩) 3 3, .int .u8 0, .int .u8 0, .int .i64 0, .string ⟨#[]⟩, .int .i64 0, .int .u8 0, .slice none 0 0], .agg #[.int .i64 3, .int .i64 (-7), .slice (some ⟨gV, 0, none⟩) 3 3], .slice (some ⟨g1, 0, none⟩) 2 2, .slice (some ⟨g2, 0, none⟩) 2 2]) hi hg (enters_of Tryz.func3 (by kernel_rfl) rfl) (by simp [f1, f2, f3, f4]) ?_
  refine (hPM w hs.j g1 g2 [false, false] (List.replicate 2 zeroT) _ _ h3 h4 rfl (cells_zeros 2) (by decide) (by decide) (fun u hu => by simp at hu; (first | (rcases hu with rfl | rfl) | subst hu) <;> decide)).mono ?_
  rintro e w' ⟨rfl, hb⟩
  exact ⟨_, rfl, did (mR_mild w8 gc gf gA gV) hs (d := 95) (i := 13) rfl hb rfl⟩
set_option linter.unusedVariables false in
theorem mR_s14 (w8 : World) (gc gf gA gV : Nat) {ops : Array Oper} {Q : Exit → Act → World → Prop} {a0 a : Act} {w : World} {l : Nat → Bool} {ty : TypeId} {pos : String} {after : Array Edge} (k8 : a0.eval (.tmp 8) = .pointer (some ⟨gc, 0, none⟩)) (k9 : a0.eval (.tmp 9) = .pointer (some ⟨gf, 0, none⟩)) (hcb : w8.heap[gc]? = some (.cells #[.int .u8 2, .int .i64 (-7), .slice (some ⟨gA, 0, none⟩) 3 3, .int .u8 0, .int .u8 0, .int .i64 0, .string ⟨#[]⟩, .int .i64 0, .int .u8 0, .slice none 0 0] 33 (0, 0))) (hfb : w8.heap[gf]? = some (.cells #[.int .i64 3, .int .i64 (-7), .slice (some ⟨gV, 0, none⟩) 3 3] 36 (0, 0))) (hPM : ∀ W, Below w8.heap.size w8 W → ∀ (g1 g2 : Nat) (bs : List Bool) (vs : List V3) (A1 A2 : Array Value), W.heap[g1]? = some (.cells A1 4 (0, 0)) → W.heap[g2]? = some (.cells A2 27 (0, 0)) → A1.toList = cellsB bs → A2.toList = cellsV vs → bs.length ≤ 2 → vs.length ≤ 2 → Short10 vs → Calls Tryz.prog 3 #[.agg #[.int .u8 2, .int .i64 (-7), .slice (some ⟨gA, 0, none⟩) 3 3, .int .u8 0, .int .u8 0, .int .i64 0, .string ⟨#[]⟩, .int .i64 0, .int .u8 0, .slice none 0 0], .agg #[.int .i64 3, .int .i64 (-7), .slice (some ⟨gV, 0, none⟩) 3 3], .slice (some ⟨g1, 0, none⟩) bs.length bs.length, .slice (some ⟨g2, 0, none⟩) vs.length vs.length] W fun r w' => r = .returned (.bool true) ∧ Below W.heap.size W w') (hs : St ops mRD (mRF w8 gc gf gA gV) (mRJ w8 gc gf gA gV) 34 a0 l a w) (hi : ops[14]? = some { dst := some 96, op := Op.unOp UnOp.not 4 (Operand.tmp 95), type := ty, pos := pos, after := after, guard := some (8, false) }) (hg : Region.wanted { dst := some 96, op := Op.unOp UnOp.not 4 (Operand.tmp 95), type := ty, pos := pos, after := after, guard := some (8, false) } (yielded ops a.tmps) = true) (nl : l 14 = false) (q8 : l 8 = true) (q13 : l 13 = true) : wpOp Tryz.prog ops Q 14 (Did mRD (mRF w8 gc gf gA gV) (mRJ w8 gc gf gA gV) 34 l 14 a) a w := by
  have e95 : mRF w8 gc gf gA gV l 13 w (a.eval (.tmp 95)) := hs.get (by decide) q13 rfl
  have e95 : a.eval (.tmp 95) = .bool true := e95
  have hK := did (mR_mild w8 gc gf gA gV) hs (v := .bool false) (d := 96) (i := 14) rfl (Below.refl _ w) rfl
  refine wpOp_goW hi hg ?_
  unfold Oper.wp
  have KK := Lib.hid hK
  clear hK hi hg
  generalize a.eval = ρ at *
  go_simp
  exact KK.out
set_option linter.unusedVariables false in
theorem mR_s15 (w8 : World) (gc gf gA gV : Nat) {ops : Array Oper} {Q : Exit → Act → World → Prop} {a0 a : Act} {w : World} {l : Nat → Bool} {ty : TypeId} {pos : String} {after : Array Edge} (k8 : a0.eval (.tmp 8) = .pointer (some ⟨gc, 0, none⟩)) (k9 : a0.eval (.tmp 9) = .pointer (some ⟨gf, 0, none⟩)) (hcb : w8.heap[gc]? = some (.cells #[.int .u8 2, .int .i64 (-7), .slice (some ⟨gA, 0, none⟩) 3 3, .int .u8 0, .int .u8 0, .int .i64 0, .string ⟨#[]⟩, .int .i64 0, .int .u8 0, .slice none 0 0] 33 (0, 0))) (hfb : w8.heap[gf]? = some (.cells #[.int .i64 3, .int .i64 (-7), .slice (some ⟨gV, 0, none⟩) 3 3] 36 (0, 0))) (hPM : ∀ W, Below w8.heap.size w8 W → ∀ (g1 g2 : Nat) (bs : List Bool) (vs : List V3) (A1 A2 : Array Value), W.heap[g1]? = some (.cells A1 4 (0, 0)) → W.heap[g2]? = some (.cells A2 27 (0, 0)) → A1.toList = cellsB bs → A2.toList = cellsV vs → bs.length ≤ 2 → vs.length ≤ 2 → Short10 vs → Calls Tryz.prog 3 #[.agg #[.int .u8 2, .int .i64 (-7), .slice (some ⟨gA, 0, none⟩) 3 3, .int .u8 0, .int .u8 0, .int .i64 0, .string ⟨#[]⟩, .int .i64 0, .int .u8 0, .slice none 0 0], .agg #[.int .i64 3, .int .i64 (-7), .slice (some ⟨gV, 0, none⟩) 3 3], .slice (some ⟨g1, 0, none⟩) bs.length bs.length, .slice (some ⟨g2, 0, none⟩) vs.length vs.length] W fun r w' => r = .returned (.bool true) ∧ Below W.heap.size W w') (hs : St ops mRD (mRF w8 gc gf gA gV) (mRJ w8 gc gf gA gV) 34 a0 l a w) (hi : ops[15]? = some { dst := some 97, op := Op.pick (Operand.tmp 90) (Operand.const (Value.bool true)) (Operand.tmp 96), type := ty, pos := pos, after := after, guard := none }) (nl : l 15 = false) (q8 : l 8 = true) (q14 : l 14 = true) : wpOp Tryz.prog ops Q 15 (Did mRD (mRF w8 gc gf gA gV) (mRJ w8 gc gf gA gV) 34 l 15 a) a w := by
  have e90 : mRF w8 gc gf gA gV l 8 w (a.eval (.tmp 90)) := hs.get (by decide) q8 rfl
  have e96 : mRF w8 gc gf gA gV l 14 w (a.eval (.tmp 96)) := hs.get (by decide) q14 rfl
  have e90 : a.eval (.tmp 90) = .bool false := e90
  have e96 : a.eval (.tmp 96) = .bool false := e96
  have hK := did (mR_mild w8 gc gf gA gV) hs (v := .bool false) (d := 97) (i := 15) rfl (Below.refl _ w) rfl
  refine wpOp_go hi rfl ?_
  unfold Oper.wp
  have KK := Lib.hid hK
  clear hK hi
  generalize a.eval = ρ at *
  go_simp
  exact KK.out
set_option linter.unusedVariables false in
theorem mR_s16 (w8 : World) (gc gf gA gV : Nat) {ops : Array Oper} {Q : Exit → Act → World → Prop} {a0 a : Act} {w : World} {l : Nat → Bool} {ty : TypeId} {pos : String} {after : Array Edge} (k8 : a0.eval (.tmp 8) = .pointer (some ⟨gc, 0, none⟩)) (k9 : a0.eval (.tmp 9) = .pointer (some ⟨gf, 0, none⟩)) (hcb : w8.heap[gc]? = some (.cells #[.int .u8 2, .int .i64 (-7), .slice (some ⟨gA, 0, none⟩) 3 3, .int .u8 0, .int .u8 0, .int .i64 0, .string ⟨#[]⟩, .int .i64 0, .int .u8 0, .slice none 0 0] 33 (0, 0))) (hfb : w8.heap[gf]? = some (.cells #[.int .i64 3, .int .i64 (-7), .slice (some ⟨gV, 0, none⟩) 3 3] 36 (0, 0))) (hPM : ∀ W, Below w8.heap.size w8 W → ∀ (g1 g2 : Nat) (bs : List Bool) (vs : List V3) (A1 A2 : Array Value), W.heap[g1]? = some (.cells A1 4 (0, 0)) → W.heap[g2]? = some (.cells A2 27 (0, 0)) → A1.toList = cellsB bs → A2.toList = cellsV vs → bs.length ≤ 2 → vs.length ≤ 2 → Short10 vs → Calls Tryz.prog 3 #[.agg #[.int .u8 2, .int .i64 (-7), .slice (some ⟨gA, 0, none⟩) 3 3, .int .u8 0, .int .u8 0, .int .i64 0, .string ⟨#[]⟩, .int .i64 0, .int .u8 0, .slice none 0 0], .agg #[.int .i64 3, .int .i64 (-7), .slice (some ⟨gV, 0, none⟩) 3 3], .slice (some ⟨g1, 0, none⟩) bs.length bs.length, .slice (some ⟨g2, 0, none⟩) vs.length vs.length] W fun r w' => r = .returned (.bool true) ∧ Below W.heap.size W w') (hs : St ops mRD (mRF w8 gc gf gA gV) (mRJ w8 gc gf gA gV) 34 a0 l a w) (hi : ops[16]? = some { dst := some 98, op := Op.move (Operand.tmp 97), type := ty, pos := pos, after := after, guard := none }) (nl : l 16 = false) (q13 : l 13 = true) (q15 : l 15 = true) : wpOp Tryz.prog ops Q 16 (Did mRD (mRF w8 gc gf gA gV) (mRJ w8 gc gf gA gV) 34 l 16 a) a w := by
  have e97 : mRF w8 gc gf gA gV l 15 w (a.eval (.tmp 97)) := hs.get (by decide) q15 rfl
  have e97 : a.eval (.tmp 97) = .bool false := e97
  have hK := did (mR_mild w8 gc gf gA gV) hs (v := .bool false) (d := 98) (i := 16) rfl (Below.refl _ w) rfl
  refine wpOp_move hi ?_
  rw [e97]
  exact hK
set_option linter.unusedVariables false in
theorem mR_s17 (w8 : World) (gc gf gA gV : Nat) {ops : Array Oper} {Q : Exit → Act → World → Prop} {a0 a : Act} {w : World} {l : Nat → Bool} {ty : TypeId} {pos : String} {after : Array Edge} (k8 : a0.eval (.tmp 8) = .pointer (some ⟨gc, 0, none⟩)) (k9 : a0.eval (.tmp 9) = .pointer (some ⟨gf, 0, none⟩)) (hcb : w8.heap[gc]? = some (.cells #[.int .u8 2, .int .i64 (-7), .slice (some ⟨gA, 0, none⟩) 3 3, .int .u8 0, .int .u8 0, .int .i64 0, .string ⟨#[]⟩, .int .i64 0, .int .u8 0, .slice none 0 0] 33 (0, 0))) (hfb : w8.heap[gf]? = some (.cells #[.int .i64 3, .int .i64 (-7), .slice (some ⟨gV, 0, none⟩) 3 3] 36 (0, 0))) (hPM : ∀ W, Below w8.heap.size w8 W → ∀ (g1 g2 : Nat) (bs : List Bool) (vs : List V3) (A1 A2 : Array Value), W.heap[g1]? = some (.cells A1 4 (0, 0)) → W.heap[g2]? = some (.cells A2 27 (0, 0)) → A1.toList = cellsB bs → A2.toList = cellsV vs → bs.length ≤ 2 → vs.length ≤ 2 → Short10 vs → Calls Tryz.prog 3 #[.agg #[.int .u8 2, .int .i64 (-7), .slice (some ⟨gA, 0, none⟩) 3 3, .int .u8 0, .int .u8 0, .int .i64 0, .string ⟨#[]⟩, .int .i64 0, .int .u8 0, .slice none 0 0], .agg #[.int .i64 3, .int .i64 (-7), .slice (some ⟨gV, 0, none⟩) 3 3], .slice (some ⟨g1, 0, none⟩) bs.length bs.length, .slice (some ⟨g2, 0, none⟩) vs.length vs.length] W fun r w' => r = .returned (.bool true) ∧ Below W.heap.size W w') (hs : St ops mRD (mRF w8 gc gf gA gV) (mRJ w8 gc gf gA gV) 34 a0 l a w) (hi : ops[17]? = some { dst := some 99, op := Op.load 33 (Operand.tmp 8), type := ty, pos := pos, after := after, guard := some (16, false) }) (hg : Region.wanted { dst := some 99, op := Op.load 33 (Operand.tmp 8), type := ty, pos := pos, after := after, guard := some (16, false) } (yielded ops a.tmps) = true) (nl : l 17 = false) (q16 : l 16 = true) : wpOp Tryz.prog ops Q 17 (Did mRD (mRF w8 gc gf gA gV) (mRJ w8 gc gf gA gV) 34 l 17 a) a w := by
  have e8 : a.eval (.tmp 8) = .pointer (some ⟨gc, 0, none⟩) := (hs.kept 8 (by decide)).trans (k8)
  exact wpOp_ldC hi hg e8 ((hs.j.block _ (lt_of_heap hcb)).trans hcb) (did (mR_mild w8 gc gf gA gV) hs (d := 99) (i := 17) rfl (Below.refl _ w) rfl)
set_option linter.unusedVariables false in
theorem mR_s18 (w8 : World) (gc gf gA gV : Nat) {ops : Array Oper} {Q : Exit → Act → World → Prop} {a0 a : Act} {w : World} {l : Nat → Bool} {ty : TypeId} {pos : String} {after : Array Edge} (k8 : a0.eval (.tmp 8) = .pointer (some ⟨gc, 0, none⟩)) (k9 : a0.eval (.tmp 9) = .pointer (some ⟨gf, 0, none⟩)) (hcb : w8.heap[gc]? = some (.cells #[.int .u8 2, .int .i64 (-7), .slice (some ⟨gA, 0, none⟩) 3 3, .int .u8 0, .int .u8 0, .int .i64 0, .string ⟨#[]⟩, .int .i64 0, .int .u8 0, .slice none 0 0] 33 (0, 0))) (hfb : w8.heap[gf]? = some (.cells #[.int .i64 3, .int .i64 (-7), .slice (some ⟨gV, 0, none⟩) 3 3] 36 (0, 0))) (hPM : ∀ W, Below w8.heap.size w8 W → ∀ (g1 g2 : Nat) (bs : List Bool) (vs : List V3) (A1 A2 : Array Value), W.heap[g1]? = some (.cells A1 4 (0, 0)) → W.heap[g2]? = some (.cells A2 27 (0, 0)) → A1.toList = cellsB bs → A2.toList = cellsV vs → bs.length ≤ 2 → vs.length ≤ 2 → Short10 vs → Calls Tryz.prog 3 #[.agg #[.int .u8 2, .int .i64 (-7), .slice (some ⟨gA, 0, none⟩) 3 3, .int .u8 0, .int .u8 0, .int .i64 0, .string ⟨#[]⟩, .int .i64 0, .int .u8 0, .slice none 0 0], .agg #[.int .i64 3, .int .i64 (-7), .slice (some ⟨gV, 0, none⟩) 3 3], .slice (some ⟨g1, 0, none⟩) bs.length bs.length, .slice (some ⟨g2, 0, none⟩) vs.length vs.length] W fun r w' => r = .returned (.bool true) ∧ Below W.heap.size W w') (hs : St ops mRD (mRF w8 gc gf gA gV) (mRJ w8 gc gf gA gV) 34 a0 l a w) (hi : ops[18]? = some { dst := some 100, op := Op.load 36 (Operand.tmp 9), type := ty, pos := pos, after := after, guard := some (16, false) }) (hg : Region.wanted { dst := some 100, op := Op.load 36 (Operand.tmp 9), type := ty, pos := pos, after := after, guard := some (16, false) } (yielded ops a.tmps) = true) (nl : l 18 = false) (q16 : l 16 = true) : wpOp Tryz.prog ops Q 18 (Did mRD (mRF w8 gc gf gA gV) (mRJ w8 gc gf gA gV) 34 l 18 a) a w := by
  have e9 : a.eval (.tmp 9) = .pointer (some ⟨gf, 0, none⟩) := (hs.kept 9 (by decide)).trans (k9)
  exact wpOp_ldF hi hg e9 ((hs.j.block _ (lt_of_heap hfb)).trans hfb) (did (mR_mild w8 gc gf gA gV) hs (d := 100) (i := 18) rfl (Below.refl _ w) rfl)
set_option linter.unusedVariables false in
theorem mR_s19 (w8 : World) (gc gf gA gV : Nat) {ops : Array Oper} {Q : Exit → Act → World → Prop} {a0 a : Act} {w : World} {l : Nat → Bool} {ty : TypeId} {pos : String} {after : Array Edge} (k8 : a0.eval (.tmp 8) = .pointer (some ⟨gc, 0, none⟩)) (k9 : a0.eval (.tmp 9) = .pointer (some ⟨gf, 0, none⟩)) (hcb : w8.heap[gc]? = some (.cells #[.int .u8 2, .int .i64 (-7), .slice (some ⟨gA, 0, none⟩) 3 3, .int .u8 0, .int .u8 0, .int .i64 0, .string ⟨#[]⟩, .int .i64 0, .int .u8 0, .slice none 0 0] 33 (0, 0))) (hfb : w8.heap[gf]? = some (.cells #[.int .i64 3, .int .i64 (-7), .slice (some ⟨gV, 0, none⟩) 3 3] 36 (0, 0))) (hPM : ∀ W, Below w8.heap.size w8 W → ∀ (g1 g2 : Nat) (bs : List Bool) (vs : List V3) (A1 A2 : Array Value), W.heap[g1]? = some (.cells A1 4 (0, 0)) → W.heap[g2]? = some (.cells A2 27 (0, 0)) → A1.toList = cellsB bs → A2.toList = cellsV vs → bs.length ≤ 2 → vs.length ≤ 2 → Short10 vs → Calls Tryz.prog 3 #[.agg #[.int .u8 2, .int .i64 (-7), .slice (some ⟨gA, 0, none⟩) 3 3, .int .u8 0, .int .u8 0, .int .i64 0, .string ⟨#[]⟩, .int .i64 0, .int .u8 0, .slice none 0 0], .agg #[.int .i64 3, .int .i64 (-7), .slice (some ⟨gV, 0, none⟩) 3 3], .slice (some ⟨g1, 0, none⟩) bs.length bs.length, .slice (some ⟨g2, 0, none⟩) vs.length vs.length] W fun r w' => r = .returned (.bool true) ∧ Below W.heap.size W w') (hs : St ops mRD (mRF w8 gc gf gA gV) (mRJ w8 gc gf gA gV) 34 a0 l a w) (hi : ops[19]? = some { dst := some 101, op := Op.buildSlice 37 2 #[(0, Operand.const (Value.bool false)), (1, Operand.const (Value.bool true))], type := ty, pos := pos, after := after, guard := some (16, false) }) (hg : Region.wanted { dst := some 101, op := Op.buildSlice 37 2 #[(0, Operand.const (Value.bool false)), (1, Operand.const (Value.bool true))], type := ty, pos := pos, after := after, guard := some (16, false) } (yielded ops a.tmps) = true) (nl : l 19 = false) (q16 : l 16 = true) : wpOp Tryz.prog ops Q 19 (Did mRD (mRF w8 gc gf gA gV) (mRJ w8 gc gf gA gV) 34 l 19 a) a w := by
  exact wpOp_sb2 hi hg (did (mR_mild w8 gc gf gA gV) hs (d := 101) (i := 19) rfl (below_own _) ⟨w.heap.size, rfl, heap_alloc_new w _⟩)
set_option linter.unusedVariables false in
theorem mR_s20 (w8 : World) (gc gf gA gV : Nat) {ops : Array Oper} {Q : Exit → Act → World → Prop} {a0 a : Act} {w : World} {l : Nat → Bool} {ty : TypeId} {pos : String} {after : Array Edge} (k8 : a0.eval (.tmp 8) = .pointer (some ⟨gc, 0, none⟩)) (k9 : a0.eval (.tmp 9) = .pointer (some ⟨gf, 0, none⟩)) (hcb : w8.heap[gc]? = some (.cells #[.int .u8 2, .int .i64 (-7), .slice (some ⟨gA, 0, none⟩) 3 3, .int .u8 0, .int .u8 0, .int .i64 0, .string ⟨#[]⟩, .int .i64 0, .int .u8 0, .slice none 0 0] 33 (0, 0))) (hfb : w8.heap[gf]? = some (.cells #[.int .i64 3, .int .i64 (-7), .slice (some ⟨gV, 0, none⟩) 3 3] 36 (0, 0))) (hPM : ∀ W, Below w8.heap.size w8 W → ∀ (g1 g2 : Nat) (bs : List Bool) (vs : List V3) (A1 A2 : Array Value), W.heap[g1]? = some (.cells A1 4 (0, 0)) → W.heap[g2]? = some (.cells A2 27 (0, 0)) → A1.toList = cellsB bs → A2.toList = cellsV vs → bs.length ≤ 2 → vs.length ≤ 2 → Short10 vs → Calls Tryz.prog 3 #[.agg #[.int .u8 2, .int .i64 (-7), .slice (some ⟨gA, 0, none⟩) 3 3, .int .u8 0, .int .u8 0, .int .i64 0, .string ⟨#[]⟩, .int .i64 0, .int .u8 0, .slice none 0 0], .agg #[.int .i64 3, .int .i64 (-7), .slice (some ⟨gV, 0, none⟩) 3 3], .slice (some ⟨g1, 0, none⟩) bs.length bs.length, .slice (some ⟨g2, 0, none⟩) vs.length vs.length] W fun r w' => r = .returned (.bool true) ∧ Below W.heap.size W w') (hs : St ops mRD (mRF w8 gc gf gA gV) (mRJ w8 gc gf gA gV) 34 a0 l a w) (hi : ops[20]? = some { dst := some 102, op := Op.call { callee := Callee.value (Operand.func 21), args := #[Operand.const (Value.int IntKind.i64 1)], argTypes := #[2] }, type := ty, pos := pos, after := after, guard := some (16, false) }) (hg : Region.wanted { dst := some 102, op := Op.call { callee := Callee.value (Operand.func 21), args := #[Operand.const (Value.int IntKind.i64 1)], argTypes := #[2] }, type := ty, pos := pos, after := after, guard := some (16, false) } (yielded ops a.tmps) = true) (nl : l 20 = false) (q16 : l 16 = true) : wpOp Tryz.prog ops Q 20 (Did mRD (mRF w8 gc gf gA gV) (mRJ w8 gc gf gA gV) 34 l 20 a) a w := by
  refine wpOp_callW (vs := #[.int .i64 1]) hi hg (enters_of Tryz.func21 (by kernel_rfl) rfl) (by simp [Act.eval]) ?_
  refine (num_any 1 w).mono ?_
  rintro e w' ⟨rfl, hb⟩
  exact ⟨_, rfl, did (mR_mild w8 gc gf gA gV) hs (d := 102) (i := 20) rfl hb rfl⟩
set_option linter.unusedVariables false in
theorem mR_s21 (w8 : World) (gc gf gA gV : Nat) {ops : Array Oper} {Q : Exit → Act → World → Prop} {a0 a : Act} {w : World} {l : Nat → Bool} {ty : TypeId} {pos : String} {after : Array Edge} (k8 : a0.eval (.tmp 8) = .pointer (some ⟨gc, 0, none⟩)) (k9 : a0.eval (.tmp 9) = .pointer (some ⟨gf, 0, none⟩)) (hcb : w8.heap[gc]? = some (.cells #[.int .u8 2, .int .i64 (-7), .slice (some ⟨gA, 0, none⟩) 3 3, .int .u8 0, .int .u8 0, .int .i64 0, .string ⟨#[]⟩, .int .i64 0, .int .u8 0, .slice none 0 0] 33 (0, 0))) (hfb : w8.heap[gf]? = some (.cells #[.int .i64 3, .int .i64 (-7), .slice (some ⟨gV, 0, none⟩) 3 3] 36 (0, 0))) (hPM : ∀ W, Below w8.heap.size w8 W → ∀ (g1 g2 : Nat) (bs : List Bool) (vs : List V3) (A1 A2 : Array Value), W.heap[g1]? = some (.cells A1 4 (0, 0)) → W.heap[g2]? = some (.cells A2 27 (0, 0)) → A1.toList = cellsB bs → A2.toList = cellsV vs → bs.length ≤ 2 → vs.length ≤ 2 → Short10 vs → Calls Tryz.prog 3 #[.agg #[.int .u8 2, .int .i64 (-7), .slice (some ⟨gA, 0, none⟩) 3 3, .int .u8 0, .int .u8 0, .int .i64 0, .string ⟨#[]⟩, .int .i64 0, .int .u8 0, .slice none 0 0], .agg #[.int .i64 3, .int .i64 (-7), .slice (some ⟨gV, 0, none⟩) 3 3], .slice (some ⟨g1, 0, none⟩) bs.length bs.length, .slice (some ⟨g2, 0, none⟩) vs.length vs.length] W fun r w' => r = .returned (.bool true) ∧ Below W.heap.size W w') (hs : St ops mRD (mRF w8 gc gf gA gV) (mRJ w8 gc gf gA gV) 34 a0 l a w) (hi : ops[21]? = some { dst := some 103, op := Op.call { callee := Callee.value (Operand.func 21), args := #[Operand.const (Value.int IntKind.i64 1)], argTypes := #[2] }, type := ty, pos := pos, after := after, guard := some (16, false) }) (hg : Region.wanted { dst := some 103, op := Op.call { callee := Callee.value (Operand.func 21), args := #[Operand.const (Value.int IntKind.i64 1)], argTypes := #[2] }, type := ty, pos := pos, after := after, guard := some (16, false) } (yielded ops a.tmps) = true) (nl : l 21 = false) (q16 : l 16 = true) (q20 : l 20 = true) : wpOp Tryz.prog ops Q 21 (Did mRD (mRF w8 gc gf gA gV) (mRJ w8 gc gf gA gV) 34 l 21 a) a w := by
  refine wpOp_callW (vs := #[.int .i64 1]) hi hg (enters_of Tryz.func21 (by kernel_rfl) rfl) (by simp [Act.eval]) ?_
  refine (num_any 1 w).mono ?_
  rintro e w' ⟨rfl, hb⟩
  exact ⟨_, rfl, did (mR_mild w8 gc gf gA gV) hs (d := 103) (i := 21) rfl hb rfl⟩
set_option linter.unusedVariables false in
theorem mR_s22 (w8 : World) (gc gf gA gV : Nat) {ops : Array Oper} {Q : Exit → Act → World → Prop} {a0 a : Act} {w : World} {l : Nat → Bool} {ty : TypeId} {pos : String} {after : Array Edge} (k8 : a0.eval (.tmp 8) = .pointer (some ⟨gc, 0, none⟩)) (k9 : a0.eval (.tmp 9) = .pointer (some ⟨gf, 0, none⟩)) (hcb : w8.heap[gc]? = some (.cells #[.int .u8 2, .int .i64 (-7), .slice (some ⟨gA, 0, none⟩) 3 3, .int .u8 0, .int .u8 0, .int .i64 0, .string ⟨#[]⟩, .int .i64 0, .int .u8 0, .slice none 0 0] 33 (0, 0))) (hfb : w8.heap[gf]? = some (.cells #[.int .i64 3, .int .i64 (-7), .slice (some ⟨gV, 0, none⟩) 3 3] 36 (0, 0))) (hPM : ∀ W, Below w8.heap.size w8 W → ∀ (g1 g2 : Nat) (bs : List Bool) (vs : List V3) (A1 A2 : Array Value), W.heap[g1]? = some (.cells A1 4 (0, 0)) → W.heap[g2]? = some (.cells A2 27 (0, 0)) → A1.toList = cellsB bs → A2.toList = cellsV vs → bs.length ≤ 2 → vs.length ≤ 2 → Short10 vs → Calls Tryz.prog 3 #[.agg #[.int .u8 2, .int .i64 (-7), .slice (some ⟨gA, 0, none⟩) 3 3, .int .u8 0, .int .u8 0, .int .i64 0, .string ⟨#[]⟩, .int .i64 0, .int .u8 0, .slice none 0 0], .agg #[.int .i64 3, .int .i64 (-7), .slice (some ⟨gV, 0, none⟩) 3 3], .slice (some ⟨g1, 0, none⟩) bs.length bs.length, .slice (some ⟨g2, 0, none⟩) vs.length vs.length] W fun r w' => r = .returned (.bool true) ∧ Below W.heap.size W w') (hs : St ops mRD (mRF w8 gc gf gA gV) (mRJ w8 gc gf gA gV) 34 a0 l a w) (hi : ops[22]? = some { dst := some 104, op := Op.buildSlice 34 2 #[(0, Operand.tmp 102), (1, Operand.tmp 103)], type := ty, pos := pos, after := after, guard := some (16, false) }) (hg : Region.wanted { dst := some 104, op := Op.buildSlice 34 2 #[(0, Operand.tmp 102), (1, Operand.tmp 103)], type := ty, pos := pos, after := after, guard := some (16, false) } (yielded ops a.tmps) = true) (nl : l 22 = false) (q16 : l 16 = true) (q20 : l 20 = true) (q21 : l 21 = true) : wpOp Tryz.prog ops Q 22 (Did mRD (mRF w8 gc gf gA gV) (mRJ w8 gc gf gA gV) 34 l 22 a) a w := by
  have e102 : mRF w8 gc gf gA gV l 20 w (a.eval (.tmp 102)) := hs.get (by decide) q20 rfl
  have e103 : mRF w8 gc gf gA gV l 21 w (a.eval (.tmp 103)) := hs.get (by decide) q21 rfl
  exact wpOp_sv2 hi hg e102 e103 (did (mR_mild w8 gc gf gA gV) hs (d := 104) (i := 22) rfl (below_own _) ⟨w.heap.size, rfl, heap_alloc_new w _⟩)
set_option linter.unusedVariables false in
theorem mR_s23 (w8 : World) (gc gf gA gV : Nat) {ops : Array Oper} {Q : Exit → Act → World → Prop} {a0 a : Act} {w : World} {l : Nat → Bool} {ty : TypeId} {pos : String} {after : Array Edge} (k8 : a0.eval (.tmp 8) = .pointer (some ⟨gc, 0, none⟩)) (k9 : a0.eval (.tmp 9) = .pointer (some ⟨gf, 0, none⟩)) (hcb : w8.heap[gc]? = some (.cells #[.int .u8 2, .int .i64 (-7), .slice (some ⟨gA, 0, none⟩) 3 3, .int .u8 0, .int .u8 0, .int .i64 0, .string ⟨#[]⟩, .int .i64 0, .int .u8 0, .slice none 0 0] 33 (0, 0))) (hfb : w8.heap[gf]? = some (.cells #[.int .i64 3, .int .i64 (-7), .slice (some ⟨gV, 0, none⟩) 3 3] 36 (0, 0))) (hPM : ∀ W, Below w8.heap.size w8 W → ∀ (g1 g2 : Nat) (bs : List Bool) (vs : List V3) (A1 A2 : Array Value), W.heap[g1]? = some (.cells A1 4 (0, 0)) → W.heap[g2]? = some (.cells A2 27 (0, 0)) → A1.toList = cellsB bs → A2.toList = cellsV vs → bs.length ≤ 2 → vs.length ≤ 2 → Short10 vs → Calls Tryz.prog 3 #[.agg #[.int .u8 2, .int .i64 (-7), .slice (some ⟨gA, 0, none⟩) 3 3, .int .u8 0, .int .u8 0, .int .i64 0, .string ⟨#[]⟩, .int .i64 0, .int .u8 0, .slice none 0 0], .agg #[.int .i64 3, .int .i64 (-7), .slice (some ⟨gV, 0, none⟩) 3 3], .slice (some ⟨g1, 0, none⟩) bs.length bs.length, .slice (some ⟨g2, 0, none⟩) vs.length vs.length] W fun r w' => r = .returned (.bool true) ∧ Below W.heap.size W w') (hs : St ops mRD (mRF w8 gc gf gA gV) (mRJ w8 gc gf gA gV) 34 a0 l a w) (hi : ops[23]? = some { dst := some 105, op := Op.call { callee := Callee.value (Operand.func 3), args := #[Operand.tmp 99, Operand.tmp 100, Operand.tmp 101, Operand.tmp 104], argTypes := #[33, 36, 37, 34] }, type := ty, pos := pos, after := after, guard := some (16, false) }) (hg : Region.wanted { dst := some 105, op := Op.call { callee := Callee.value (Operand.func 3), args := #[Operand.tmp 99, Operand.tmp 100, Operand.tmp 101, Operand.tmp 104], argTypes := #[33, 36, 37, 34] }, type := ty, pos := pos, after := after, guard := some (16, false) } (yielded ops a.tmps) = true) (nl : l 23 = false) (q16 : l 16 = true) (q17 : l 17 = true) (q18 : l 18 = true) (q19 : l 19 = true) (q21 : l 21 = true) (q22 : l 22 = true) : wpOp Tryz.prog ops Q 23 (Did mRD (mRF w8 gc gf gA gV) (mRJ w8 gc gf gA gV) 34 l 23 a) a w := by
  have e99 : mRF w8 gc gf gA gV l 17 w (a.eval (.tmp 99)) := hs.get (by decide) q17 rfl
  have e100 : mRF w8 gc gf gA gV l 18 w (a.eval (.tmp 100)) := hs.get (by decide) q18 rfl
  have e101 : mRF w8 gc gf gA gV l 19 w (a.eval (.tmp 101)) := hs.get (by decide) q19 rfl
  have e104 : mRF w8 gc gf gA gV l 22 w (a.eval (.tmp 104)) := hs.get (by decide) q22 rfl
  have f1 : a.eval (.tmp 99) = .agg #[.int .u8 2, .int .i64 (-7), .slice (some ⟨gA, 0, none⟩) 3 3, .int .u8 0, .int .u8 0, .int .i64 0, .string ⟨#[]⟩, .int .i64 0, .int .u8 0, .slice none 0 0] := e99
  have f2 : a.eval (.tmp 100) = .agg #[.int .i64 3, .int .i64 (-7), .slice (some ⟨gV, 0, none⟩) 3 3] := e100
  obtain ⟨g1, f3, h3⟩ := e101
  obtain ⟨g2, f4, h4⟩ := e104
  refine wpOp_callW (vs := #[.agg #[.int .u8 2, .int .i64 (-7), .slice (some ⟨gA, 0, none⟩) 3 3, .int .u8 0, .int .u8 0, .int .i64 0, .string ⟨#[]⟩, .int .i64 0, .int .u8 0, .slice none 0 0], .agg #[.int .i64 3, .int .i64 (-7), .slice (some ⟨gV, 0, none⟩) 3 3], .slice (some ⟨g1, 0, none⟩) 2 2, .slice (some ⟨g2, 0, none⟩) 2 2]) hi hg (enters_of Tryz.func3 (by kernel_rfl) rfl) (by simp [f1, f2, f3, f4]) ?_
  refine (hPM w hs.j g1 g2 [false, true] [numT 1, numT 1] _ _ h3 h4 rfl rfl (by decide) (by decide) (fun u hu => by simp at hu; (first | (rcases hu with rfl | rfl) | subst hu) <;> decide)).mono ?_
  rintro e w' ⟨rfl, hb⟩
  exact ⟨_, rfl, did (mR_mild w8 gc gf gA gV) hs (d := 105) (i := 23) rfl hb rfl⟩
set_option linter.unusedVariables false in
theorem mR_s24 (w8 : World) (gc gf gA gV : Nat) {ops : Array Oper} {Q : Exit → Act → World → Prop} {a0 a : Act} {w : World} {l : Nat → Bool} {ty : TypeId} {pos : String} {after : Array Edge} (k8 : a0.eval (.tmp 8) = .pointer (some ⟨gc, 0, none⟩)) (k9 : a0.eval (.tmp 9) = .pointer (some ⟨gf, 0, none⟩)) (hcb : w8.heap[gc]? = some (.cells #[.int .u8 2, .int .i64 (-7), .slice (some ⟨gA, 0, none⟩) 3 3, .int .u8 0, .int .u8 0, .int .i64 0, .string ⟨#[]⟩, .int .i64 0, .int .u8 0, .slice none 0 0] 33 (0, 0))) (hfb : w8.heap[gf]? = some (.cells #[.int .i64 3, .int .i64 (-7), .slice (some ⟨gV, 0, none⟩) 3 3] 36 (0, 0))) (hPM : ∀ W, Below w8.heap.size w8 W → ∀ (g1 g2 : Nat) (bs : List Bool) (vs : List V3) (A1 A2 : Array Value), W.heap[g1]? = some (.cells A1 4 (0, 0)) → W.heap[g2]? = some (.cells A2 27 (0, 0)) → A1.toList = cellsB bs → A2.toList = cellsV vs → bs.length ≤ 2 → vs.length ≤ 2 → Short10 vs → Calls Tryz.prog 3 #[.agg #[.int .u8 2, .int .i64 (-7), .slice (some ⟨gA, 0, none⟩) 3 3, .int .u8 0, .int .u8 0, .int .i64 0, .string ⟨#[]⟩, .int .i64 0, .int .u8 0, .slice none 0 0], .agg #[.int .i64 3, .int .i64 (-7), .slice (some ⟨gV, 0, none⟩) 3 3], .slice (some ⟨g1, 0, none⟩) bs.length bs.length, .slice (some ⟨g2, 0, none⟩) vs.length vs.length] W fun r w' => r = .returned (.bool true) ∧ Below W.heap.size W w') (hs : St ops mRD (mRF w8 gc gf gA gV) (mRJ w8 gc gf gA gV) 34 a0 l a w) (hi : ops[24]? = some { dst := some 106, op := Op.unOp UnOp.not 4 (Operand.tmp 105), type := ty, pos := pos, after := after, guard := some (16, false) }) (hg : Region.wanted { dst := some 106, op := Op.unOp UnOp.not 4 (Operand.tmp 105), type := ty, pos := pos, after := after, guard := some (16, false) } (yielded ops a.tmps) = true) (nl : l 24 = false) (q16 : l 16 = true) (q23 : l 23 = true) : wpOp Tryz.prog ops Q 24 (Did mRD (mRF w8 gc gf gA gV) (mRJ w8 gc gf gA gV) 34 l 24 a) a w := by
  have e105 : mRF w8 gc gf gA gV l 23 w (a.eval (.tmp 105)) := hs.get (by decide) q23 rfl
  have e105 : a.eval (.tmp 105) = .bool true := e105
  have hK := did (mR_mild w8 gc gf gA gV) hs (v := .bool false) (d := 106) (i := 24) rfl (Below.refl _ w) rfl
  refine wpOp_goW hi hg ?_
  unfold Oper.wp
  have KK := Lib.hid hK
  clear hK hi hg
  generalize a.eval = ρ at *
  go_simp
  exact KK.out
set_option linter.unusedVariables false in
theorem mR_s25 (w8 : World) (gc gf gA gV : Nat) {ops : Array Oper} {Q : Exit → Act → World → Prop} {a0 a : Act} {w : World} {l : Nat → Bool} {ty : TypeId} {pos : String} {after : Array Edge} (k8 : a0.eval (.tmp 8) = .pointer (some ⟨gc, 0, none⟩)) (k9 : a0.eval (.tmp 9) = .pointer (some ⟨gf, 0, none⟩)) (hcb : w8.heap[gc]? = some (.cells #[.int .u8 2, .int .i64 (-7), .slice (some ⟨gA, 0, none⟩) 3 3, .int .u8 0, .int .u8 0, .int .i64 0, .string ⟨#[]⟩, .int .i64 0, .int .u8 0, .slice none 0 0] 33 (0, 0))) (hfb : w8.heap[gf]? = some (.cells #[.int .i64 3, .int .i64 (-7), .slice (some ⟨gV, 0, none⟩) 3 3] 36 (0, 0))) (hPM : ∀ W, Below w8.heap.size w8 W → ∀ (g1 g2 : Nat) (bs : List Bool) (vs : List V3) (A1 A2 : Array Value), W.heap[g1]? = some (.cells A1 4 (0, 0)) → W.heap[g2]? = some (.cells A2 27 (0, 0)) → A1.toList = cellsB bs → A2.toList = cellsV vs → bs.length ≤ 2 → vs.length ≤ 2 → Short10 vs → Calls Tryz.prog 3 #[.agg #[.int .u8 2, .int .i64 (-7), .slice (some ⟨gA, 0, none⟩) 3 3, .int .u8 0, .int .u8 0, .int .i64 0, .string ⟨#[]⟩, .int .i64 0, .int .u8 0, .slice none 0 0], .agg #[.int .i64 3, .int .i64 (-7), .slice (some ⟨gV, 0, none⟩) 3 3], .slice (some ⟨g1, 0, none⟩) bs.length bs.length, .slice (some ⟨g2, 0, none⟩) vs.length vs.length] W fun r w' => r = .returned (.bool true) ∧ Below W.heap.size W w') (hs : St ops mRD (mRF w8 gc gf gA gV) (mRJ w8 gc gf gA gV) 34 a0 l a w) (hi : ops[25]? = some { dst := some 107, op := Op.pick (Operand.tmp 98) (Operand.const (Value.bool true)) (Operand.tmp 106), type := ty, pos := pos, after := after, guard := none }) (nl : l 25 = false) (q16 : l 16 = true) (q24 : l 24 = true) : wpOp Tryz.prog ops Q 25 (Did mRD (mRF w8 gc gf gA gV) (mRJ w8 gc gf gA gV) 34 l 25 a) a w := by
  have e98 : mRF w8 gc gf gA gV l 16 w (a.eval (.tmp 98)) := hs.get (by decide) q16 rfl
  have e106 : mRF w8 gc gf gA gV l 24 w (a.eval (.tmp 106)) := hs.get (by decide) q24 rfl
  have e98 : a.eval (.tmp 98) = .bool false := e98
  have e106 : a.eval (.tmp 106) = .bool false := e106
  have hK := did (mR_mild w8 gc gf gA gV) hs (v := .bool false) (d := 107) (i := 25) rfl (Below.refl _ w) rfl
  refine wpOp_go hi rfl ?_
  unfold Oper.wp
  have KK := Lib.hid hK
  clear hK hi
  generalize a.eval = ρ at *
  go_simp
  exact KK.out
set_option linter.unusedVariables false in
theorem mR_s26 (w8 : World) (gc gf gA gV : Nat) {ops : Array Oper} {Q : Exit → Act → World → Prop} {a0 a : Act} {w : World} {l : Nat → Bool} {ty : TypeId} {pos : String} {after : Array Edge} (k8 : a0.eval (.tmp 8) = .pointer (some ⟨gc, 0, none⟩)) (k9 : a0.eval (.tmp 9) = .pointer (some ⟨gf, 0, none⟩)) (hcb : w8.heap[gc]? = some (.cells #[.int .u8 2, .int .i64 (-7), .slice (some ⟨gA, 0, none⟩) 3 3, .int .u8 0, .int .u8 0, .int .i64 0, .string ⟨#[]⟩, .int .i64 0, .int .u8 0, .slice none 0 0] 33 (0, 0))) (hfb : w8.heap[gf]? = some (.cells #[.int .i64 3, .int .i64 (-7), .slice (some ⟨gV, 0, none⟩) 3 3] 36 (0, 0))) (hPM : ∀ W, Below w8.heap.size w8 W → ∀ (g1 g2 : Nat) (bs : List Bool) (vs : List V3) (A1 A2 : Array Value), W.heap[g1]? = some (.cells A1 4 (0, 0)) → W.heap[g2]? = some (.cells A2 27 (0, 0)) → A1.toList = cellsB bs → A2.toList = cellsV vs → bs.length ≤ 2 → vs.length ≤ 2 → Short10 vs → Calls Tryz.prog 3 #[.agg #[.int .u8 2, .int .i64 (-7), .slice (some ⟨gA, 0, none⟩) 3 3, .int .u8 0, .int .u8 0, .int .i64 0, .string ⟨#[]⟩, .int .i64 0, .int .u8 0, .slice none 0 0], .agg #[.int .i64 3, .int .i64 (-7), .slice (some ⟨gV, 0, none⟩) 3 3], .slice (some ⟨g1, 0, none⟩) bs.length bs.length, .slice (some ⟨g2, 0, none⟩) vs.length vs.length] W fun r w' => r = .returned (.bool true) ∧ Below W.heap.size W w') (hs : St ops mRD (mRF w8 gc gf gA gV) (mRJ w8 gc gf gA gV) 34 a0 l a w) (hi : ops[26]? = some { dst := some 108, op := Op.move (Operand.tmp 107), type := ty, pos := pos, after := after, guard := none }) (nl : l 26 = false) (q23 : l 23 = true) (q25 : l 25 = true) : wpOp Tryz.prog ops Q 26 (Did mRD (mRF w8 gc gf gA gV) (mRJ w8 gc gf gA gV) 34 l 26 a) a w := by
  have e107 : mRF w8 gc gf gA gV l 25 w (a.eval (.tmp 107)) := hs.get (by decide) q25 rfl
  have e107 : a.eval (.tmp 107) = .bool false := e107
  have hK := did (mR_mild w8 gc gf gA gV) hs (v := .bool false) (d := 108) (i := 26) rfl (Below.refl _ w) rfl
  refine wpOp_move hi ?_
  rw [e107]
  exact hK
set_option linter.unusedVariables false in
theorem mR_s27 (w8 : World) (gc gf gA gV : Nat) {ops : Array Oper} {Q : Exit → Act → World → Prop} {a0 a : Act} {w : World} {l : Nat → Bool} {ty : TypeId} {pos : String} {after : Array Edge} (k8 : a0.eval (.tmp 8) = .pointer (some ⟨gc, 0, none⟩)) (k9 : a0.eval (.tmp 9) = .pointer (some ⟨gf, 0, none⟩)) (hcb : w8.heap[gc]? = some (.cells #[.int .u8 2, .int .i64 (-7), .slice (some ⟨gA, 0, none⟩) 3 3, .int .u8 0, .int .u8 0, .int .i64 0, .string ⟨#[]⟩, .int .i64 0, .int .u8 0, .slice none 0 0] 33 (0, 0))) (hfb : w8.heap[gf]? = some (.cells #[.int .i64 3, .int .i64 (-7), .slice (some ⟨gV, 0, none⟩) 3 3] 36 (0, 0))) (hPM : ∀ W, Below w8.heap.size w8 W → ∀ (g1 g2 : Nat) (bs : List Bool) (vs : List V3) (A1 A2 : Array Value), W.heap[g1]? = some (.cells A1 4 (0, 0)) → W.heap[g2]? = some (.cells A2 27 (0, 0)) → A1.toList = cellsB bs → A2.toList = cellsV vs → bs.length ≤ 2 → vs.length ≤ 2 → Short10 vs → Calls Tryz.prog 3 #[.agg #[.int .u8 2, .int .i64 (-7), .slice (some ⟨gA, 0, none⟩) 3 3, .int .u8 0, .int .u8 0, .int .i64 0, .string ⟨#[]⟩, .int .i64 0, .int .u8 0, .slice none 0 0], .agg #[.int .i64 3, .int .i64 (-7), .slice (some ⟨gV, 0, none⟩) 3 3], .slice (some ⟨g1, 0, none⟩) bs.length bs.length, .slice (some ⟨g2, 0, none⟩) vs.length vs.length] W fun r w' => r = .returned (.bool true) ∧ Below W.heap.size W w') (hs : St ops mRD (mRF w8 gc gf gA gV) (mRJ w8 gc gf gA gV) 34 a0 l a w) (hi : ops[27]? = some { dst := some 109, op := Op.load 33 (Operand.tmp 8), type := ty, pos := pos, after := after, guard := some (26, false) }) (hg : Region.wanted { dst := some 109, op := Op.load 33 (Operand.tmp 8), type := ty, pos := pos, after := after, guard := some (26, false) } (yielded ops a.tmps) = true) (nl : l 27 = false) (q26 : l 26 = true) : wpOp Tryz.prog ops Q 27 (Did mRD (mRF w8 gc gf gA gV) (mRJ w8 gc gf gA gV) 34 l 27 a) a w := by
  have e8 : a.eval (.tmp 8) = .pointer (some ⟨gc, 0, none⟩) := (hs.kept 8 (by decide)).trans (k8)
  exact wpOp_ldC hi hg e8 ((hs.j.block _ (lt_of_heap hcb)).trans hcb) (did (mR_mild w8 gc gf gA gV) hs (d := 109) (i := 27) rfl (Below.refl _ w) rfl)
set_option linter.unusedVariables false in
theorem mR_s28 (w8 : World) (gc gf gA gV : Nat) {ops : Array Oper} {Q : Exit → Act → World → Prop} {a0 a : Act} {w : World} {l : Nat → Bool} {ty : TypeId} {pos : String} {after : Array Edge} (k8 : a0.eval (.tmp 8) = .pointer (some ⟨gc, 0, none⟩)) (k9 : a0.eval (.tmp 9) = .pointer (some ⟨gf, 0, none⟩)) (hcb : w8.heap[gc]? = some (.cells #[.int .u8 2, .int .i64 (-7), .slice (some ⟨gA, 0, none⟩) 3 3, .int .u8 0, .int .u8 0, .int .i64 0, .string ⟨#[]⟩, .int .i64 0, .int .u8 0, .slice none 0 0] 33 (0, 0))) (hfb : w8.heap[gf]? = some (.cells #[.int .i64 3, .int .i64 (-7), .slice (some ⟨gV, 0, none⟩) 3 3] 36 (0, 0))) (hPM : ∀ W, Below w8.heap.size w8 W → ∀ (g1 g2 : Nat) (bs : List Bool) (vs : List V3) (A1 A2 : Array Value), W.heap[g1]? = some (.cells A1 4 (0, 0)) → W.heap[g2]? = some (.cells A2 27 (0, 0)) → A1.toList = cellsB bs → A2.toList = cellsV vs → bs.length ≤ 2 → vs.length ≤ 2 → Short10 vs → Calls Tryz.prog 3 #[.agg #[.int .u8 2, .int .i64 (-7), .slice (some ⟨gA, 0, none⟩) 3 3, .int .u8 0, .int .u8 0, .int .i64 0, .string ⟨#[]⟩, .int .i64 0, .int .u8 0, .slice none 0 0], .agg #[.int .i64 3, .int .i64 (-7), .slice (some ⟨gV, 0, none⟩) 3 3], .slice (some ⟨g1, 0, none⟩) bs.length bs.length, .slice (some ⟨g2, 0, none⟩) vs.length vs.length] W fun r w' => r = .returned (.bool true) ∧ Below W.heap.size W w') (hs : St ops mRD (mRF w8 gc gf gA gV) (mRJ w8 gc gf gA gV) 34 a0 l a w) (hi : ops[28]? = some { dst := some 110, op := Op.load 36 (Operand.tmp 9), type := ty, pos := pos, after := after, guard := some (26, false) }) (hg : Region.wanted { dst := some 110, op := Op.load 36 (Operand.tmp 9), type := ty, pos := pos, after := after, guard := some (26, false) } (yielded ops a.tmps) = true) (nl : l 28 = false) (q26 : l 26 = true) : wpOp Tryz.prog ops Q 28 (Did mRD (mRF w8 gc gf gA gV) (mRJ w8 gc gf gA gV) 34 l 28 a) a w := by
  have e9 : a.eval (.tmp 9) = .pointer (some ⟨gf, 0, none⟩) := (hs.kept 9 (by decide)).trans (k9)
  exact wpOp_ldF hi hg e9 ((hs.j.block _ (lt_of_heap hfb)).trans hfb) (did (mR_mild w8 gc gf gA gV) hs (d := 110) (i := 28) rfl (Below.refl _ w) rfl)
set_option linter.unusedVariables false in
theorem mR_s29 (w8 : World) (gc gf gA gV : Nat) {ops : Array Oper} {Q : Exit → Act → World → Prop} {a0 a : Act} {w : World} {l : Nat → Bool} {ty : TypeId} {pos : String} {after : Array Edge} (k8 : a0.eval (.tmp 8) = .pointer (some ⟨gc, 0, none⟩)) (k9 : a0.eval (.tmp 9) = .pointer (some ⟨gf, 0, none⟩)) (hcb : w8.heap[gc]? = some (.cells #[.int .u8 2, .int .i64 (-7), .slice (some ⟨gA, 0, none⟩) 3 3, .int .u8 0, .int .u8 0, .int .i64 0, .string ⟨#[]⟩, .int .i64 0, .int .u8 0, .slice none 0 0] 33 (0, 0))) (hfb : w8.heap[gf]? = some (.cells #[.int .i64 3, .int .i64 (-7), .slice (some ⟨gV, 0, none⟩) 3 3] 36 (0, 0))) (hPM : ∀ W, Below w8.heap.size w8 W → ∀ (g1 g2 : Nat) (bs : List Bool) (vs : List V3) (A1 A2 : Array Value), W.heap[g1]? = some (.cells A1 4 (0, 0)) → W.heap[g2]? = some (.cells A2 27 (0, 0)) → A1.toList = cellsB bs → A2.toList = cellsV vs → bs.length ≤ 2 → vs.length ≤ 2 → Short10 vs → Calls Tryz.prog 3 #[.agg #[.int .u8 2, .int .i64 (-7), .slice (some ⟨gA, 0, none⟩) 3 3, .int .u8 0, .int .u8 0, .int .i64 0, .string ⟨#[]⟩, .int .i64 0, .int .u8 0, .slice none 0 0], .agg #[.int .i64 3, .int .i64 (-7), .slice (some ⟨gV, 0, none⟩) 3 3], .slice (some ⟨g1, 0, none⟩) bs.length bs.length, .slice (some ⟨g2, 0, none⟩) vs.length vs.length] W fun r w' => r = .returned (.bool true) ∧ Below W.heap.size W w') (hs : St ops mRD (mRF w8 gc gf gA gV) (mRJ w8 gc gf gA gV) 34 a0 l a w) (hi : ops[29]? = some { dst := some 111, op := Op.buildSlice 37 1 #[(0, Operand.const (Value.bool true))], type := ty, pos := pos, after := after, guard := some (26, false) }) (hg : Region.wanted { dst := some 111, op := Op.buildSlice 37 1 #[(0, Operand.const (Value.bool true))], type := ty, pos := pos, after := after, guard := some (26, false) } (yielded ops a.tmps) = true) (nl : l 29 = false) (q26 : l 26 = true) : wpOp Tryz.prog ops Q 29 (Did mRD (mRF w8 gc gf gA gV) (mRJ w8 gc gf gA gV) 34 l 29 a) a w := by
  exact wpOp_sb1 hi hg (did (mR_mild w8 gc gf gA gV) hs (d := 111) (i := 29) rfl (below_own _) ⟨w.heap.size, rfl, heap_alloc_new w _⟩)
set_option linter.unusedVariables false in
theorem mR_s30 (w8 : World) (gc gf gA gV : Nat) {ops : Array Oper} {Q : Exit → Act → World → Prop} {a0 a : Act} {w : World} {l : Nat → Bool} {ty : TypeId} {pos : String} {after : Array Edge} (k8 : a0.eval (.tmp 8) = .pointer (some ⟨gc, 0, none⟩)) (k9 : a0.eval (.tmp 9) = .pointer (some ⟨gf, 0, none⟩)) (hcb : w8.heap[gc]? = some (.cells #[.int .u8 2, .int .i64 (-7), .slice (some ⟨gA, 0, none⟩) 3 3, .int .u8 0, .int .u8 0, .int .i64 0, .string ⟨#[]⟩, .int .i64 0, .int .u8 0, .slice none 0 0] 33 (0, 0))) (hfb : w8.heap[gf]? = some (.cells #[.int .i64 3, .int .i64 (-7), .slice (some ⟨gV, 0, none⟩) 3 3] 36 (0, 0))) (hPM : ∀ W, Below w8.heap.size w8 W → ∀ (g1 g2 : Nat) (bs : List Bool) (vs : List V3) (A1 A2 : Array Value), W.heap[g1]? = some (.cells A1 4 (0, 0)) → W.heap[g2]? = some (.cells A2 27 (0, 0)) → A1.toList = cellsB bs → A2.toList = cellsV vs → bs.length ≤ 2 → vs.length ≤ 2 → Short10 vs → Calls Tryz.prog 3 #[.agg #[.int .u8 2, .int .i64 (-7), .slice (some ⟨gA, 0, none⟩) 3 3, .int .u8 0, .int .u8 0, .int .i64 0, .string ⟨#[]⟩, .int .i64 0, .int .u8 0, .slice none 0 0], .agg #[.int .i64 3, .int .i64 (-7), .slice (some ⟨gV, 0, none⟩) 3 3], .slice (some ⟨g1, 0, none⟩) bs.length bs.length, .slice (some ⟨g2, 0, none⟩) vs.length vs.length] W fun r w' => r = .returned (.bool true) ∧ Below W.heap.size W w') (hs : St ops mRD (mRF w8 gc gf gA gV) (mRJ w8 gc gf gA gV) 34 a0 l a w) (hi : ops[30]? = some { dst := some 112, op := Op.makeSlice 34 (Operand.const (Value.int IntKind.i64 2)) (Operand.const (Value.int IntKind.i64 2)), type := ty, pos := pos, after := after, guard := some (26, false) }) (hg : Region.wanted { dst := some 112, op := Op.makeSlice 34 (Operand.const (Value.int IntKind.i64 2)) (Operand.const (Value.int IntKind.i64 2)), type := ty, pos := pos, after := after, guard := some (26, false) } (yielded ops a.tmps) = true) (nl : l 30 = false) (q26 : l 26 = true) : wpOp Tryz.prog ops Q 30 (Did mRD (mRF w8 gc gf gA gV) (mRJ w8 gc gf gA gV) 34 l 30 a) a w := by
  exact wpOp_mk2 hi hg (did (mR_mild w8 gc gf gA gV) hs (d := 112) (i := 30) rfl (below_own _) ⟨w.heap.size, rfl, heap_alloc_new w _⟩)
set_option linter.unusedVariables false in
theorem mR_s31 (w8 : World) (gc gf gA gV : Nat) {ops : Array Oper} {Q : Exit → Act → World → Prop} {a0 a : Act} {w : World} {l : Nat → Bool} {ty : TypeId} {pos : String} {after : Array Edge} (k8 : a0.eval (.tmp 8) = .pointer (some ⟨gc, 0, none⟩)) (k9 : a0.eval (.tmp 9) = .pointer (some ⟨gf, 0, none⟩)) (hcb : w8.heap[gc]? = some (.cells #[.int .u8 2, .int .i64 (-7), .slice (some ⟨gA, 0, none⟩) 3 3, .int .u8 0, .int .u8 0, .int .i64 0, .string ⟨#[]⟩, .int .i64 0, .int .u8 0, .slice none 0 0] 33 (0, 0))) (hfb : w8.heap[gf]? = some (.cells #[.int .i64 3, .int .i64 (-7), .slice (some ⟨gV, 0, none⟩) 3 3] 36 (0, 0))) (hPM : ∀ W, Below w8.heap.size w8 W → ∀ (g1 g2 : Nat) (bs : List Bool) (vs : List V3) (A1 A2 : Array Value), W.heap[g1]? = some (.cells A1 4 (0, 0)) → W.heap[g2]? = some (.cells A2 27 (0, 0)) → A1.toList = cellsB bs → A2.toList = cellsV vs → bs.length ≤ 2 → vs.length ≤ 2 → Short10 vs → Calls Tryz.prog 3 #[.agg #[.int .u8 2, .int .i64 (-7), .slice (some ⟨gA, 0, none⟩) 3 3, .int .u8 0, .int .u8 0, .int .i64 0, .string ⟨#[]⟩, .int .i64 0, .int .u8 0, .slice none 0 0], .agg #[.int .i64 3, .int .i64 (-7), .slice (some ⟨gV, 0, none⟩) 3 3], .slice (some ⟨g1, 0, none⟩) bs.length bs.length, .slice (some ⟨g2, 0, none⟩) vs.length vs.length] W fun r w' => r = .returned (.bool true) ∧ Below W.heap.size W w') (hs : St ops mRD (mRF w8 gc gf gA gV) (mRJ w8 gc gf gA gV) 34 a0 l a w) (hi : ops[31]? = some { dst := some 113, op := Op.call { callee := Callee.value (Operand.func 3), args := #[Operand.tmp 109, Operand.tmp 110, Operand.tmp 111, Operand.tmp 112], argTypes := #[33, 36, 37, 34] }, type := ty, pos := pos, after := after, guard := some (26, false) }) (hg : Region.wanted { dst := some 113, op := Op.call { callee := Callee.value (Operand.func 3), args := #[Operand.tmp 109, Operand.tmp 110, Operand.tmp 111, Operand.tmp 112], argTypes := #[33, 36, 37, 34] }, type := ty, pos := pos, after := after, guard := some (26, false) } (yielded ops a.tmps) = true) (nl : l 31 = false) (q26 : l 26 = true) (q27 : l 27 = true) (q28 : l 28 = true) (q29 : l 29 = true) (q30 : l 30 = true) : wpOp Tryz.prog ops Q 31 (Did mRD (mRF w8 gc gf gA gV) (mRJ w8 gc gf gA gV) 34 l 31 a) a w := by
  have e109 : mRF w8 gc gf gA gV l 27 w (a.eval (.tmp 109)) := hs.get (by decide) q27 rfl
  have e110 : mRF w8 gc gf gA gV l 28 w (a.eval (.tmp 110)) := hs.get (by decide) q28 rfl
  have e111 : mRF w8 gc gf gA gV l 29 w (a.eval (.tmp 111)) := hs.get (by decide) q29 rfl
  have e112 : mRF w8 gc gf gA gV l 30 w (a.eval (.tmp 112)) := hs.get (by decide) q30 rfl
  have f1 : a.eval (.tmp 109) = .agg #[.int .u8 2, .int .i64 (-7), .slice (some ⟨gA, 0, none⟩) 3 3, .int .u8 0, .int .u8 0, .int .i64 0, .string ⟨#[]⟩, .int .i64 0, .int .u8 0, .slice none 0 0] := e109
  have f2 : a.eval (.tmp 110) = .agg #[.int .i64 3, .int .i64 (-7), .slice (some ⟨gV, 0, none⟩) 3 3] := e110
  obtain ⟨g1, f3, h3⟩ := e111
  obtain ⟨g2, f4, h4⟩ := e112
  refine wpOp_callW (vs := #[.agg #[.int .u8 2, .int .i64 (-7), .slice (some ⟨gA, 0, none⟩) 3 3, .int .u8 0, .int .u8 0, .int .i64 0, .string ⟨#[]⟩, .int .i64 0, .int .u8 0, .slice none 0 0], .agg #[.int .i64 3, .int .i64 (-7), .slice (some ⟨gV, 0, none⟩) 3 3], .slice (some ⟨g1, 0, none⟩) 1 1, .slice (some ⟨g2, 0, none⟩) 2 2]) hi hg (enters_of Tryz.func3 (by kernel_rfl) rfl) (by simp [f1, f2, f3, f4]) ?_
  refine (hPM w hs.j g1 g2 [true] (List.replicate 2 zeroT) _ _ h3 h4 rfl (cells_zeros 2) (by decide) (by decide) (fun u hu => by simp at hu; (first | (rcases hu with rfl | rfl) | subst hu) <;> decide)).mono ?_
  rintro e w' ⟨rfl, hb⟩
  exact ⟨_, rfl, did (mR_mild w8 gc gf gA gV) hs (d := 113) (i := 31) rfl hb rfl⟩
set_option linter.unusedVariables false in
theorem mR_s32 (w8 : World) (gc gf gA gV : Nat) {ops : Array Oper} {Q : Exit → Act → World → Prop} {a0 a : Act} {w : World} {l : Nat → Bool} {ty : TypeId} {pos : String} {after : Array Edge} (k8 : a0.eval (.tmp 8) = .pointer (some ⟨gc, 0, none⟩)) (k9 : a0.eval (.tmp 9) = .pointer (some ⟨gf, 0, none⟩)) (hcb : w8.heap[gc]? = some (.cells #[.int .u8 2, .int .i64 (-7), .slice (some ⟨gA, 0, none⟩) 3 3, .int .u8 0, .int .u8 0, .int .i64 0, .string ⟨#[]⟩, .int .i64 0, .int .u8 0, .slice none 0 0] 33 (0, 0))) (hfb : w8.heap[gf]? = some (.cells #[.int .i64 3, .int .i64 (-7), .slice (some ⟨gV, 0, none⟩) 3 3] 36 (0, 0))) (hPM : ∀ W, Below w8.heap.size w8 W → ∀ (g1 g2 : Nat) (bs : List Bool) (vs : List V3) (A1 A2 : Array Value), W.heap[g1]? = some (.cells A1 4 (0, 0)) → W.heap[g2]? = some (.cells A2 27 (0, 0)) → A1.toList = cellsB bs → A2.toList = cellsV vs → bs.length ≤ 2 → vs.length ≤ 2 → Short10 vs → Calls Tryz.prog 3 #[.agg #[.int .u8 2, .int .i64 (-7), .slice (some ⟨gA, 0, none⟩) 3 3, .int .u8 0, .int .u8 0, .int .i64 0, .string ⟨#[]⟩, .int .i64 0, .int .u8 0, .slice none 0 0], .agg #[.int .i64 3, .int .i64 (-7), .slice (some ⟨gV, 0, none⟩) 3 3], .slice (some ⟨g1, 0, none⟩) bs.length bs.length, .slice (some ⟨g2, 0, none⟩) vs.length vs.length] W fun r w' => r = .returned (.bool true) ∧ Below W.heap.size W w') (hs : St ops mRD (mRF w8 gc gf gA gV) (mRJ w8 gc gf gA gV) 34 a0 l a w) (hi : ops[32]? = some { dst := some 114, op := Op.unOp UnOp.not 4 (Operand.tmp 113), type := ty, pos := pos, after := after, guard := some (26, false) }) (hg : Region.wanted { dst := some 114, op := Op.unOp UnOp.not 4 (Operand.tmp 113), type := ty, pos := pos, after := after, guard := some (26, false) } (yielded ops a.tmps) = true) (nl : l 32 = false) (q26 : l 26 = true) (q31 : l 31 = true) : wpOp Tryz.prog ops Q 32 (Did mRD (mRF w8 gc gf gA gV) (mRJ w8 gc gf gA gV) 34 l 32 a) a w := by
  have e113 : mRF w8 gc gf gA gV l 31 w (a.eval (.tmp 113)) := hs.get (by decide) q31 rfl
  have e113 : a.eval (.tmp 113) = .bool true := e113
  have hK := did (mR_mild w8 gc gf gA gV) hs (v := .bool false) (d := 114) (i := 32) rfl (Below.refl _ w) rfl
  refine wpOp_goW hi hg ?_
  unfold Oper.wp
  have KK := Lib.hid hK
  clear hK hi hg
  generalize a.eval = ρ at *
  go_simp
  exact KK.out
set_option linter.unusedVariables false in
theorem mR_s33 (w8 : World) (gc gf gA gV : Nat) {ops : Array Oper} {Q : Exit → Act → World → Prop} {a0 a : Act} {w : World} {l : Nat → Bool} {ty : TypeId} {pos : String} {after : Array Edge} (k8 : a0.eval (.tmp 8) = .pointer (some ⟨gc, 0, none⟩)) (k9 : a0.eval (.tmp 9) = .pointer (some ⟨gf, 0, none⟩)) (hcb : w8.heap[gc]? = some (.cells #[.int .u8 2, .int .i64 (-7), .slice (some ⟨gA, 0, none⟩) 3 3, .int .u8 0, .int .u8 0, .int .i64 0, .string ⟨#[]⟩, .int .i64 0, .int .u8 0, .slice none 0 0] 33 (0, 0))) (hfb : w8.heap[gf]? = some (.cells #[.int .i64 3, .int .i64 (-7), .slice (some ⟨gV, 0, none⟩) 3 3] 36 (0, 0))) (hPM : ∀ W, Below w8.heap.size w8 W → ∀ (g1 g2 : Nat) (bs : List Bool) (vs : List V3) (A1 A2 : Array Value), W.heap[g1]? = some (.cells A1 4 (0, 0)) → W.heap[g2]? = some (.cells A2 27 (0, 0)) → A1.toList = cellsB bs → A2.toList = cellsV vs → bs.length ≤ 2 → vs.length ≤ 2 → Short10 vs → Calls Tryz.prog 3 #[.agg #[.int .u8 2, .int .i64 (-7), .slice (some ⟨gA, 0, none⟩) 3 3, .int .u8 0, .int .u8 0, .int .i64 0, .string ⟨#[]⟩, .int .i64 0, .int .u8 0, .slice none 0 0], .agg #[.int .i64 3, .int .i64 (-7), .slice (some ⟨gV, 0, none⟩) 3 3], .slice (some ⟨g1, 0, none⟩) bs.length bs.length, .slice (some ⟨g2, 0, none⟩) vs.length vs.length] W fun r w' => r = .returned (.bool true) ∧ Below W.heap.size W w') (hs : St ops mRD (mRF w8 gc gf gA gV) (mRJ w8 gc gf gA gV) 34 a0 l a w) (hi : ops[33]? = some { dst := some 115, op := Op.pick (Operand.tmp 108) (Operand.const (Value.bool true)) (Operand.tmp 114), type := ty, pos := pos, after := after, guard := none }) (nl : l 33 = false) (q26 : l 26 = true) (q32 : l 32 = true) : wpOp Tryz.prog ops Q 33 (Did mRD (mRF w8 gc gf gA gV) (mRJ w8 gc gf gA gV) 34 l 33 a) a w := by
  have e108 : mRF w8 gc gf gA gV l 26 w (a.eval (.tmp 108)) := hs.get (by decide) q26 rfl
  have e114 : mRF w8 gc gf gA gV l 32 w (a.eval (.tmp 114)) := hs.get (by decide) q32 rfl
  have e108 : a.eval (.tmp 108) = .bool false := e108
  have e114 : a.eval (.tmp 114) = .bool false := e114
  have hK := did (mR_mild w8 gc gf gA gV) hs (v := .bool false) (d := 115) (i := 33) rfl (Below.refl _ w) rfl
  refine wpOp_go hi rfl ?_
  unfold Oper.wp
  have KK := Lib.hid hK
  clear hK hi
  generalize a.eval = ρ at *
  go_simp
  exact KK.out
def nRD (i : Nat) : Option Nat := ([some 20, some 21, some 22, some 23, some 24, some 25, some 26, some 27, some 28, some 29, some 30, some 31] : List (Option Nat)).getD i none
set_option linter.unusedVariables false in
def nRF (w8 : World) (bn : Nat) (i0 : Nat) (x0 : Int) (l : Nat → Bool) (i : Nat) (w : World) (v : Value) : Prop :=
  match i with
  | 0 => v = .slice (some ⟨bn, 0, none⟩) 8 8
  | 1 => v = .int .i64 (i0 : Int)
  | 2 => v = .pointer (some ⟨bn, i0, none⟩)
  | 3 => v = .int .i64 x0
  | 4 => EnvX w x0 v
  | 5 => v = .slice (some ⟨bn, 0, none⟩) 8 8
  | 6 => v = .int .i64 (i0 : Int)
  | 7 => v = .pointer (some ⟨bn, i0, none⟩)
  | 8 => v = .int .i64 x0
  | 9 => EnvX w x0 v
  | 10 => v = .bool true
  | 11 => v = .bool false
  | _ => True
set_option linter.unusedVariables false in
def nRJ (w8 : World) (bn : Nat) (i0 : Nat) (x0 : Int) (l : Nat → Bool) (w : World) : Prop := Below w8.heap.size w8 w
set_option linter.unusedVariables false in
theorem nR_mild (w8 : World) (bn : Nat) (i0 : Nat) (x0 : Int) : Mild (nRF w8 bn i0 x0) (nRJ w8 bn i0 x0) := by
  refine ⟨fun l i j w w' v hb h => ?_, fun l i w w' hb h => ?_⟩
  · match j with
    | 0 => exact h
    | 1 => exact h
    | 2 => exact h
    | 3 => exact h
    | 4 => exact h.old hb
    | 5 => exact h
    | 6 => exact h
    | 7 => exact h
    | 8 => exact h
    | 9 => exact h.old hb
    | 10 => exact h
    | 11 => exact h
    | k + 12 => trivial
  · exact h.trans (hb.mono h.size)
set_option linter.unusedVariables false in
theorem nR_s0 (w8 : World) (bn : Nat) (i0 : Nat) (x0 : Int) {ops : Array Oper} {Q : Exit → Act → World → Prop} {a0 a : Act} {w : World} {l : Nat → Bool} {ty : TypeId} {pos : String} {after : Array Edge} (k1 : a0.eval (.tmp 1) = .slice (some ⟨bn, 0, none⟩) 8 8) (k2 : a0.eval (.tmp 2) = .int .i64 (i0 : Int)) (hi8 : i0 < 8) (hx0 : w8.cell? ⟨bn, i0, none⟩ = some (.int .i64 x0)) (hbn : bn < w8.heap.size) (hs : St ops nRD (nRF w8 bn i0 x0) (nRJ w8 bn i0 x0) 12 a0 l a w) (hi : ops[0]? = some { dst := some 20, op := Op.move (Operand.tmp 1), type := ty, pos := pos, after := after, guard := none }) (nl : l 0 = false)  : wpOp Tryz.prog ops Q 0 (Did nRD (nRF w8 bn i0 x0) (nRJ w8 bn i0 x0) 12 l 0 a) a w := by
  have e1 : a.eval (.tmp 1) = .slice (some ⟨bn, 0, none⟩) 8 8 := (hs.kept 1 (by decide)).trans (k1)
  have hK := did (nR_mild w8 bn i0 x0) hs (v := .slice (some ⟨bn, 0, none⟩) 8 8) (d := 20) (i := 0) rfl (Below.refl _ w) rfl
  refine wpOp_move hi ?_
  rw [e1]
  exact hK
set_option linter.unusedVariables false in
theorem nR_s1 (w8 : World) (bn : Nat) (i0 : Nat) (x0 : Int) {ops : Array Oper} {Q : Exit → Act → World → Prop} {a0 a : Act} {w : World} {l : Nat → Bool} {ty : TypeId} {pos : String} {after : Array Edge} (k1 : a0.eval (.tmp 1) = .slice (some ⟨bn, 0, none⟩) 8 8) (k2 : a0.eval (.tmp 2) = .int .i64 (i0 : Int)) (hi8 : i0 < 8) (hx0 : w8.cell? ⟨bn, i0, none⟩ = some (.int .i64 x0)) (hbn : bn < w8.heap.size) (hs : St ops nRD (nRF w8 bn i0 x0) (nRJ w8 bn i0 x0) 12 a0 l a w) (hi : ops[1]? = some { dst := some 21, op := Op.move (Operand.tmp 2), type := ty, pos := pos, after := after, guard := none }) (nl : l 1 = false)  : wpOp Tryz.prog ops Q 1 (Did nRD (nRF w8 bn i0 x0) (nRJ w8 bn i0 x0) 12 l 1 a) a w := by
  have e2 : a.eval (.tmp 2) = .int .i64 (i0 : Int) := (hs.kept 2 (by decide)).trans (k2)
  have hK := did (nR_mild w8 bn i0 x0) hs (v := .int .i64 (i0 : Int)) (d := 21) (i := 1) rfl (Below.refl _ w) rfl
  refine wpOp_move hi ?_
  rw [e2]
  exact hK
set_option linter.unusedVariables false in
theorem nR_s2 (w8 : World) (bn : Nat) (i0 : Nat) (x0 : Int) {ops : Array Oper} {Q : Exit → Act → World → Prop} {a0 a : Act} {w : World} {l : Nat → Bool} {ty : TypeId} {pos : String} {after : Array Edge} (k1 : a0.eval (.tmp 1) = .slice (some ⟨bn, 0, none⟩) 8 8) (k2 : a0.eval (.tmp 2) = .int .i64 (i0 : Int)) (hi8 : i0 < 8) (hx0 : w8.cell? ⟨bn, i0, none⟩ = some (.int .i64 x0)) (hbn : bn < w8.heap.size) (hs : St ops nRD (nRF w8 bn i0 x0) (nRJ w8 bn i0 x0) 12 a0 l a w) (hi : ops[2]? = some { dst := some 22, op := Op.indexAddr 58 (Operand.tmp 20) (Operand.tmp 21), type := ty, pos := pos, after := after, guard := none }) (nl : l 2 = false) (q0 : l 0 = true) (q1 : l 1 = true) : wpOp Tryz.prog ops Q 2 (Did nRD (nRF w8 bn i0 x0) (nRJ w8 bn i0 x0) 12 l 2 a) a w := by
  have e20 : nRF w8 bn i0 x0 l 0 w (a.eval (.tmp 20)) := hs.get (by decide) q0 rfl
  have e21 : nRF w8 bn i0 x0 l 1 w (a.eval (.tmp 21)) := hs.get (by decide) q1 rfl
  have f1 : a.eval (.tmp 20) = .slice (some ⟨bn, 0, none⟩) 8 8 := e20
  have f2 : a.eval (.tmp 21) = .int .i64 (i0 : Int) := e21
  have hK := did (nR_mild w8 bn i0 x0) hs (v := .pointer (some ⟨bn, i0, none⟩)) (d := 22) (i := 2) rfl (Below.refl _ w) rfl
  have hlt : (i0 : Int) < 8 := by omega
  refine wpOp_go hi rfl ?_
  unfold Oper.wp
  have KK := Lib.hid hK
  clear hK hi e20 e21
  generalize a.eval = ρ at *
  go_simp
  exact KK.out
set_option linter.unusedVariables false in
theorem nR_s3 (w8 : World) (bn : Nat) (i0 : Nat) (x0 : Int) {ops : Array Oper} {Q : Exit → Act → World → Prop} {a0 a : Act} {w : World} {l : Nat → Bool} {ty : TypeId} {pos : String} {after : Array Edge} (k1 : a0.eval (.tmp 1) = .slice (some ⟨bn, 0, none⟩) 8 8) (k2 : a0.eval (.tmp 2) = .int .i64 (i0 : Int)) (hi8 : i0 < 8) (hx0 : w8.cell? ⟨bn, i0, none⟩ = some (.int .i64 x0)) (hbn : bn < w8.heap.size) (hs : St ops nRD (nRF w8 bn i0 x0) (nRJ w8 bn i0 x0) 12 a0 l a w) (hi : ops[3]? = some { dst := some 23, op := Op.load 3 (Operand.tmp 22), type := ty, pos := pos, after := after, guard := none }) (nl : l 3 = false) (q2 : l 2 = true) : wpOp Tryz.prog ops Q 3 (Did nRD (nRF w8 bn i0 x0) (nRJ w8 bn i0 x0) 12 l 3 a) a w := by
  have e22 : nRF w8 bn i0 x0 l 2 w (a.eval (.tmp 22)) := hs.get (by decide) q2 rfl
  have f1 : a.eval (.tmp 22) = .pointer (some ⟨bn, i0, none⟩) := e22
  have hK := did (nR_mild w8 bn i0 x0) hs (v := .int .i64 x0) (d := 23) (i := 3) rfl (Below.refl _ w) rfl
  have hc : w.cell? ⟨bn, i0, none⟩ = some (.int .i64 x0) := (hs.j.cell (p := ⟨bn, i0, none⟩) hbn).trans hx0
  refine wpOp_go hi rfl ?_
  unfold Oper.wp
  have KK := Lib.hid hK
  clear hK hi e22
  generalize a.eval = ρ at *
  go_simp
  exact KK.out
set_option linter.unusedVariables false in
theorem nR_s4 (w8 : World) (bn : Nat) (i0 : Nat) (x0 : Int) {ops : Array Oper} {Q : Exit → Act → World → Prop} {a0 a : Act} {w : World} {l : Nat → Bool} {ty : TypeId} {pos : String} {after : Array Edge} (k1 : a0.eval (.tmp 1) = .slice (some ⟨bn, 0, none⟩) 8 8) (k2 : a0.eval (.tmp 2) = .int .i64 (i0 : Int)) (hi8 : i0 < 8) (hx0 : w8.cell? ⟨bn, i0, none⟩ = some (.int .i64 x0)) (hbn : bn < w8.heap.size) (hs : St ops nRD (nRF w8 bn i0 x0) (nRJ w8 bn i0 x0) 12 a0 l a w) (hi : ops[4]? = some { dst := some 24, op := Op.call { callee := Callee.value (Operand.func 19), args := #[Operand.tmp 23], argTypes := #[3] }, type := ty, pos := pos, after := after, guard := none }) (nl : l 4 = false) (q3 : l 3 = true) : wpOp Tryz.prog ops Q 4 (Did nRD (nRF w8 bn i0 x0) (nRJ w8 bn i0 x0) 12 l 4 a) a w := by
  have e23 : nRF w8 bn i0 x0 l 3 w (a.eval (.tmp 23)) := hs.get (by decide) q3 rfl
  have f1 : a.eval (.tmp 23) = .int .i64 x0 := e23
  refine wpOp_call (vs := #[.int .i64 x0]) hi (enters_of Tryz.func19 (by kernel_rfl) rfl) (by simp [f1]) ?_
  refine (newAll_any x0 w).mono ?_
  rintro e w' ⟨h1, c1, h2, c2, rfl, ho, hb⟩
  exact ⟨_, rfl, did (nR_mild w8 bn i0 x0) hs (d := 24) (i := 4) rfl hb ⟨_, h1, c1, h2, c2, rfl, ho⟩⟩
set_option linter.unusedVariables false in
theorem nR_s5 (w8 : World) (bn : Nat) (i0 : Nat) (x0 : Int) {ops : Array Oper} {Q : Exit → Act → World → Prop} {a0 a : Act} {w : World} {l : Nat → Bool} {ty : TypeId} {pos : String} {after : Array Edge} (k1 : a0.eval (.tmp 1) = .slice (some ⟨bn, 0, none⟩) 8 8) (k2 : a0.eval (.tmp 2) = .int .i64 (i0 : Int)) (hi8 : i0 < 8) (hx0 : w8.cell? ⟨bn, i0, none⟩ = some (.int .i64 x0)) (hbn : bn < w8.heap.size) (hs : St ops nRD (nRF w8 bn i0 x0) (nRJ w8 bn i0 x0) 12 a0 l a w) (hi : ops[5]? = some { dst := some 25, op := Op.move (Operand.tmp 1), type := ty, pos := pos, after := after, guard := none }) (nl : l 5 = false)  : wpOp Tryz.prog ops Q 5 (Did nRD (nRF w8 bn i0 x0) (nRJ w8 bn i0 x0) 12 l 5 a) a w := by
  have e1 : a.eval (.tmp 1) = .slice (some ⟨bn, 0, none⟩) 8 8 := (hs.kept 1 (by decide)).trans (k1)
  have hK := did (nR_mild w8 bn i0 x0) hs (v := .slice (some ⟨bn, 0, none⟩) 8 8) (d := 25) (i := 5) rfl (Below.refl _ w) rfl
  refine wpOp_move hi ?_
  rw [e1]
  exact hK
set_option linter.unusedVariables false in
theorem nR_s6 (w8 : World) (bn : Nat) (i0 : Nat) (x0 : Int) {ops : Array Oper} {Q : Exit → Act → World → Prop} {a0 a : Act} {w : World} {l : Nat → Bool} {ty : TypeId} {pos : String} {after : Array Edge} (k1 : a0.eval (.tmp 1) = .slice (some ⟨bn, 0, none⟩) 8 8) (k2 : a0.eval (.tmp 2) = .int .i64 (i0 : Int)) (hi8 : i0 < 8) (hx0 : w8.cell? ⟨bn, i0, none⟩ = some (.int .i64 x0)) (hbn : bn < w8.heap.size) (hs : St ops nRD (nRF w8 bn i0 x0) (nRJ w8 bn i0 x0) 12 a0 l a w) (hi : ops[6]? = some { dst := some 26, op := Op.move (Operand.tmp 2), type := ty, pos := pos, after := after, guard := none }) (nl : l 6 = false)  : wpOp Tryz.prog ops Q 6 (Did nRD (nRF w8 bn i0 x0) (nRJ w8 bn i0 x0) 12 l 6 a) a w := by
  have e2 : a.eval (.tmp 2) = .int .i64 (i0 : Int) := (hs.kept 2 (by decide)).trans (k2)
  have hK := did (nR_mild w8 bn i0 x0) hs (v := .int .i64 (i0 : Int)) (d := 26) (i := 6) rfl (Below.refl _ w) rfl
  refine wpOp_move hi ?_
  rw [e2]
  exact hK
set_option linter.unusedVariables false in
theorem nR_s7 (w8 : World) (bn : Nat) (i0 : Nat) (x0 : Int) {ops : Array Oper} {Q : Exit → Act → World → Prop} {a0 a : Act} {w : World} {l : Nat → Bool} {ty : TypeId} {pos : String} {after : Array Edge} (k1 : a0.eval (.tmp 1) = .slice (some ⟨bn, 0, none⟩) 8 8) (k2 : a0.eval (.tmp 2) = .int .i64 (i0 : Int)) (hi8 : i0 < 8) (hx0 : w8.cell? ⟨bn, i0, none⟩ = some (.int .i64 x0)) (hbn : bn < w8.heap.size) (hs : St ops nRD (nRF w8 bn i0 x0) (nRJ w8 bn i0 x0) 12 a0 l a w) (hi : ops[7]? = some { dst := some 27, op := Op.indexAddr 58 (Operand.tmp 25) (Operand.tmp 26), type := ty, pos := pos, after := after, guard := none }) (nl : l 7 = false) (q5 : l 5 = true) (q6 : l 6 = true) : wpOp Tryz.prog ops Q 7 (Did nRD (nRF w8 bn i0 x0) (nRJ w8 bn i0 x0) 12 l 7 a) a w := by
  have e25 : nRF w8 bn i0 x0 l 5 w (a.eval (.tmp 25)) := hs.get (by decide) q5 rfl
  have e26 : nRF w8 bn i0 x0 l 6 w (a.eval (.tmp 26)) := hs.get (by decide) q6 rfl
  have f1 : a.eval (.tmp 25) = .slice (some ⟨bn, 0, none⟩) 8 8 := e25
  have f2 : a.eval (.tmp 26) = .int .i64 (i0 : Int) := e26
  have hK := did (nR_mild w8 bn i0 x0) hs (v := .pointer (some ⟨bn, i0, none⟩)) (d := 27) (i := 7) rfl (Below.refl _ w) rfl
  have hlt : (i0 : Int) < 8 := by omega
  refine wpOp_go hi rfl ?_
  unfold Oper.wp
  have KK := Lib.hid hK
  clear hK hi e25 e26
  generalize a.eval = ρ at *
  go_simp
  exact KK.out
set_option linter.unusedVariables false in
theorem nR_s8 (w8 : World) (bn : Nat) (i0 : Nat) (x0 : Int) {ops : Array Oper} {Q : Exit → Act → World → Prop} {a0 a : Act} {w : World} {l : Nat → Bool} {ty : TypeId} {pos : String} {after : Array Edge} (k1 : a0.eval (.tmp 1) = .slice (some ⟨bn, 0, none⟩) 8 8) (k2 : a0.eval (.tmp 2) = .int .i64 (i0 : Int)) (hi8 : i0 < 8) (hx0 : w8.cell? ⟨bn, i0, none⟩ = some (.int .i64 x0)) (hbn : bn < w8.heap.size) (hs : St ops nRD (nRF w8 bn i0 x0) (nRJ w8 bn i0 x0) 12 a0 l a w) (hi : ops[8]? = some { dst := some 28, op := Op.load 3 (Operand.tmp 27), type := ty, pos := pos, after := after, guard := none }) (nl : l 8 = false) (q7 : l 7 = true) : wpOp Tryz.prog ops Q 8 (Did nRD (nRF w8 bn i0 x0) (nRJ w8 bn i0 x0) 12 l 8 a) a w := by
  have e27 : nRF w8 bn i0 x0 l 7 w (a.eval (.tmp 27)) := hs.get (by decide) q7 rfl
  have f1 : a.eval (.tmp 27) = .pointer (some ⟨bn, i0, none⟩) := e27
  have hK := did (nR_mild w8 bn i0 x0) hs (v := .int .i64 x0) (d := 28) (i := 8) rfl (Below.refl _ w) rfl
  have hc : w.cell? ⟨bn, i0, none⟩ = some (.int .i64 x0) := (hs.j.cell (p := ⟨bn, i0, none⟩) hbn).trans hx0
  refine wpOp_go hi rfl ?_
  unfold Oper.wp
  have KK := Lib.hid hK
  clear hK hi e27
  generalize a.eval = ρ at *
  go_simp
  exact KK.out
set_option linter.unusedVariables false in
theorem nR_s9 (w8 : World) (bn : Nat) (i0 : Nat) (x0 : Int) {ops : Array Oper} {Q : Exit → Act → World → Prop} {a0 a : Act} {w : World} {l : Nat → Bool} {ty : TypeId} {pos : String} {after : Array Edge} (k1 : a0.eval (.tmp 1) = .slice (some ⟨bn, 0, none⟩) 8 8) (k2 : a0.eval (.tmp 2) = .int .i64 (i0 : Int)) (hi8 : i0 < 8) (hx0 : w8.cell? ⟨bn, i0, none⟩ = some (.int .i64 x0)) (hbn : bn < w8.heap.size) (hs : St ops nRD (nRF w8 bn i0 x0) (nRJ w8 bn i0 x0) 12 a0 l a w) (hi : ops[9]? = some { dst := some 29, op := Op.call { callee := Callee.value (Operand.func 20), args := #[Operand.tmp 28], argTypes := #[3] }, type := ty, pos := pos, after := after, guard := none }) (nl : l 9 = false) (q4 : l 4 = true) (q8 : l 8 = true) : wpOp Tryz.prog ops Q 9 (Did nRD (nRF w8 bn i0 x0) (nRJ w8 bn i0 x0) 12 l 9 a) a w := by
  have e28 : nRF w8 bn i0 x0 l 8 w (a.eval (.tmp 28)) := hs.get (by decide) q8 rfl
  have f1 : a.eval (.tmp 28) = .int .i64 x0 := e28
  refine wpOp_call (vs := #[.int .i64 x0]) hi (enters_of Tryz.func20 (by kernel_rfl) rfl) (by simp [f1]) ?_
  refine (refNew_any x0 w).mono ?_
  rintro e w' ⟨h1, c1, h2, c2, rfl, ho, hb⟩
  exact ⟨_, rfl, did (nR_mild w8 bn i0 x0) hs (d := 29) (i := 9) rfl hb ⟨_, h1, c1, h2, c2, rfl, ho⟩⟩
set_option linter.unusedVariables false in
theorem nR_s10 (w8 : World) (bn : Nat) (i0 : Nat) (x0 : Int) {ops : Array Oper} {Q : Exit → Act → World → Prop} {a0 a : Act} {w : World} {l : Nat → Bool} {ty : TypeId} {pos : String} {after : Array Edge} (k1 : a0.eval (.tmp 1) = .slice (some ⟨bn, 0, none⟩) 8 8) (k2 : a0.eval (.tmp 2) = .int .i64 (i0 : Int)) (hi8 : i0 < 8) (hx0 : w8.cell? ⟨bn, i0, none⟩ = some (.int .i64 x0)) (hbn : bn < w8.heap.size) (hs : St ops nRD (nRF w8 bn i0 x0) (nRJ w8 bn i0 x0) 12 a0 l a w) (hi : ops[10]? = some { dst := some 30, op := Op.call { callee := Callee.value (Operand.func 12), args := #[Operand.tmp 24, Operand.tmp 29], argTypes := #[44, 47] }, type := ty, pos := pos, after := after, guard := none }) (nl : l 10 = false) (q4 : l 4 = true) (q9 : l 9 = true) : wpOp Tryz.prog ops Q 10 (Did nRD (nRF w8 bn i0 x0) (nRJ w8 bn i0 x0) 12 l 10 a) a w := by
  have e24 : nRF w8 bn i0 x0 l 4 w (a.eval (.tmp 24)) := hs.get (by decide) q4 rfl
  have e29 : nRF w8 bn i0 x0 l 9 w (a.eval (.tmp 29)) := hs.get (by decide) q9 rfl
  obtain ⟨B1, h1, c1, h2, c2, f1, o1⟩ := e24
  obtain ⟨B2, h3, c3, h4, c4, f2, o2⟩ := e29
  refine wpOp_call (vs := #[.agg #[.slice h1 (newE x0).1.length c1, .slice h2 (newE x0).2.length c2], .agg #[.slice h3 (newE x0).1.length c3, .slice h4 (newE x0).2.length c4]]) hi (enters_of Tryz.func12 (by kernel_rfl) rfl) (by simp [f1, f2]) ?_
  refine (sameEnv_yes (newE x0) _ _ h1 c1 h2 c2 h3 c3 h4 c4 w rfl rfl ⟨owns_sl o1.has, owns_sl o1.vals⟩ ⟨owns_sl o2.has, owns_sl o2.vals⟩).mono ?_
  rintro e w' ⟨rfl, hb⟩
  exact ⟨_, rfl, did (nR_mild w8 bn i0 x0) hs (d := 30) (i := 10) rfl hb rfl⟩
set_option linter.unusedVariables false in
theorem nR_s11 (w8 : World) (bn : Nat) (i0 : Nat) (x0 : Int) {ops : Array Oper} {Q : Exit → Act → World → Prop} {a0 a : Act} {w : World} {l : Nat → Bool} {ty : TypeId} {pos : String} {after : Array Edge} (k1 : a0.eval (.tmp 1) = .slice (some ⟨bn, 0, none⟩) 8 8) (k2 : a0.eval (.tmp 2) = .int .i64 (i0 : Int)) (hi8 : i0 < 8) (hx0 : w8.cell? ⟨bn, i0, none⟩ = some (.int .i64 x0)) (hbn : bn < w8.heap.size) (hs : St ops nRD (nRF w8 bn i0 x0) (nRJ w8 bn i0 x0) 12 a0 l a w) (hi : ops[11]? = some { dst := some 31, op := Op.unOp UnOp.not 4 (Operand.tmp 30), type := ty, pos := pos, after := after, guard := none }) (nl : l 11 = false) (q10 : l 10 = true) : wpOp Tryz.prog ops Q 11 (Did nRD (nRF w8 bn i0 x0) (nRJ w8 bn i0 x0) 12 l 11 a) a w := by
  have e30 : nRF w8 bn i0 x0 l 10 w (a.eval (.tmp 30)) := hs.get (by decide) q10 rfl
  have e30 : a.eval (.tmp 30) = .bool true := e30
  have hK := did (nR_mild w8 bn i0 x0) hs (v := .bool false) (d := 31) (i := 11) rfl (Below.refl _ w) rfl
  refine wpOp_go hi rfl ?_
  unfold Oper.wp
  have KK := Lib.hid hK
  clear hK hi
  generalize a.eval = ρ at *
  go_simp
  exact KK.out
end Go.Proofs.YtnnhgbncghpecaaGreat
