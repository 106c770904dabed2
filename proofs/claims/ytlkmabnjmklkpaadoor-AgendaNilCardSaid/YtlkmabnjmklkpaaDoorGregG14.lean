/- A region that draws its order, whose callees only draw and make blocks. -/
import Derived.Test.YtlkmabnjmklkpaaDoorGreg14
import Derived.Test.YtlkmabnjmklkpaaDoorCmpW14
namespace Go.Proofs.YtlkmabnjmklkpaaDoor
open Go.RowKit

section
variable {P : Program} {ops : Array Oper} {Q : Exit → Act → World → Prop} {D : Nat → Option Nat} {F : (Nat → Bool) → Nat → World → Value → Prop} {J : (Nat → Bool) → World → Prop} {n : Nat} {a0 : Act} {l : Nat → Bool} {a : Act} {w : World} {i : Nat}
/-- What stays, stays, while there are only draws and new blocks. -/
structure MildG (F : (Nat → Bool) → Nat → World → Value → Prop) (J : (Nat → Bool) → World → Prop) : Prop where
  f : ∀ l i j w w' v, Gr w w' → F l j w v → F (setL l i) j w' v
  j : ∀ l i w w', Gr w w' → J l w → J (setL l i) w'
theorem didG {d : Nat} {v : Value} {w' : World} (hm : MildG F J) (h : St ops D F J n a0 l a w) (hd : D i = some d) (hb : Gr w w') (hf : F (setL l i) i w' v) : Did D F J n l i a (a.put (some d) v) w' := by
  refine ⟨v, by rw [hd], hm.j _ _ _ _ hb h.j, fun j hj hl => hm.f _ _ _ _ _ _ hb (h.vals j hj hl), ?_⟩
  rw [hd]
  exact hf
end
section
variable {ops : Array Oper} {Q : Exit → Act → World → Prop} {K : Act → World → Prop} {a : Act} {w : World} {i d : Nat} {ty : TypeId} {pos : String} {after : Array Edge} {g : Option (Nat × Bool)}
theorem wpOp_ldO {x : Operand} {b : Nat} {ao : Option Addr} {n m : Nat} (hi : ops[i]? = some { dst := some d, op := .load 53 x, type := ty, pos := pos, after := after, guard := g }) (hg : Region.wanted { dst := some d, op := .load 53 x, type := ty, pos := pos, after := after, guard := g } (yielded ops a.tmps) = true) {o : Nat} (hx : a.eval x = .pointer (some ⟨b, o, none⟩)) (hc : w.cell? ⟨b, o, none⟩ = some (.slice ao n m)) (hK : K (a.put (some d) (.agg #[.slice ao n m])) w) : wpOp Tryd.prog ops Q i K a w := by
  refine wpOp_goW hi hg ?_
  unfold Oper.wp
  have KK := Lib.hid hK
  clear hK hi hg
  generalize a.eval = ρ at *
  go_simp
  exact KK.out
theorem wpOp_ldI {x : Operand} {b o : Nat} {v : Int} (hi : ops[i]? = some { dst := some d, op := .load 3 x, type := ty, pos := pos, after := after, guard := g }) (hg : Region.wanted { dst := some d, op := .load 3 x, type := ty, pos := pos, after := after, guard := g } (yielded ops a.tmps) = true) (hx : a.eval x = .pointer (some ⟨b, o, none⟩)) (hc : w.cell? ⟨b, o, none⟩ = some (.int .i64 v)) (hK : K (a.put (some d) (.int .i64 v)) w) : wpOp Tryd.prog ops Q i K a w := by
  refine wpOp_goW hi hg ?_
  unfold Oper.wp
  have KK := Lib.hid hK
  clear hK hi hg
  generalize a.eval = ρ at *
  go_simp
  exact KK.out
theorem wpOp_ldS {x : Operand} {b o : Nat} {ao : Option Addr} {n m : Nat} (hi : ops[i]? = some { dst := some d, op := .load 22 x, type := ty, pos := pos, after := after, guard := g }) (hg : Region.wanted { dst := some d, op := .load 22 x, type := ty, pos := pos, after := after, guard := g } (yielded ops a.tmps) = true) (hx : a.eval x = .pointer (some ⟨b, o, none⟩)) (hc : w.cell? ⟨b, o, none⟩ = some (.slice ao n m)) (hK : K (a.put (some d) (.slice ao n m)) w) : wpOp Tryd.prog ops Q i K a w := by
  refine wpOp_goW hi hg ?_
  unfold Oper.wp
  have KK := Lib.hid hK
  clear hK hi hg
  generalize a.eval = ρ at *
  go_simp
  exact KK.out
theorem wpOp_build4 {x0 x1 x2 x3 : Operand} {z0 z1 z2 z3 : Int} (hi : ops[i]? = some { dst := some d, op := .buildSlice 22 4 #[(0, x0), (1, x1), (2, x2), (3, x3)], type := ty, pos := pos, after := after, guard := g }) (hg : Region.wanted { dst := some d, op := .buildSlice 22 4 #[(0, x0), (1, x1), (2, x2), (3, x3)], type := ty, pos := pos, after := after, guard := g } (yielded ops a.tmps) = true) (h0 : a.eval x0 = .int .i64 z0) (h1 : a.eval x1 = .int .i64 z1) (h2 : a.eval x2 = .int .i64 z2) (h3 : a.eval x3 = .int .i64 z3) (hK : K (a.put (some d) (.slice (some ⟨w.heap.size, 0, none⟩) 4 4)) (w.alloc (.cells #[.int .i64 z0, .int .i64 z1, .int .i64 z2, .int .i64 z3] 3))) : wpOp Tryd.prog ops Q i K a w := by
  refine wpOp_goW hi hg ?_
  unfold Oper.wp
  have KK := Lib.hid hK
  clear hK hi hg
  generalize a.eval = ρ at *
  go_simp
  exact KK.out
end
end Go.Proofs.YtlkmabnjmklkpaaDoor
