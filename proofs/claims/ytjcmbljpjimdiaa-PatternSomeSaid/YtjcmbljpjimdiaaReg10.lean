/- The operations of a drawn region that makes an env of two rows. -/
import Derived.Test.YtjcmbljpjimdiaaInv10
namespace Go.Proofs.Ytjcmbljpjimdiaa
open Go.RowKit

section
variable {ops : Array Oper} {Q : Exit → Act → World → Prop} {K : Act → World → Prop} {a : Act} {w : World} {i d : Nat} {ty : TypeId} {pos : String} {after : Array Edge}

theorem wpOp_go {o : Oper} (hi : ops[i]? = some o) (hg : o.guard = none) (h : o.wp Try.prog a w K Q) : wpOp Try.prog ops Q i K a w := by
  unfold wpOp
  rw [hi]
  have hw : Region.wanted o (yielded ops a.tmps) = true := by simp [Region.wanted, hg]
  simp only [hw, if_true]
  exact Or.inl h
theorem wpOp_move {x : Operand} (hi : ops[i]? = some { dst := some d, op := .move x, type := ty, pos := pos, after := after, guard := none }) (hK : K (a.put (some d) (a.eval x)) w) : wpOp Try.prog ops Q i K a w := by
  refine wpOp_go hi rfl ?_
  unfold Oper.wp
  have KK := Lib.hid hK
  clear hK hi
  generalize a.eval = ρ at *
  go_simp
  exact KK.out
theorem wpOp_call {f : FuncId} {xs : Array Operand} {vs : Array Value} {ts : Array TypeId} (hi : ops[i]? = some { dst := some d, op := .call { callee := .value (.func f), args := xs, argTypes := ts }, type := ty, pos := pos, after := after, guard := none })
    (he : Enters Try.prog f) (hv : xs.map a.eval = vs) (hc : Calls Try.prog f vs w fun e w' => ∃ v, e = .returned v ∧ K (a.put (some d) v) w') : wpOp Try.prog ops Q i K a w := by
  refine wpOp_go hi rfl ?_
  unfold Oper.wp
  have e3 : a.eval (.func f) = .func (.func f) #[] #[] := rfl
  have KC := Lib.hid hc
  clear hc hi
  generalize a.eval = ρ at *
  go_simp
  rw [he]
  refine KC.out.mono ?_
  rintro e w' ⟨v, rfl, h⟩
  exact h
theorem wpOp_loadV {x : Operand} {b : Nat} {v0 v1 v2 : Value} (hi : ops[i]? = some { dst := some d, op := .load 27 x, type := ty, pos := pos, after := after, guard := none })
    (hx : a.eval x = .pointer (some ⟨b, 0, none⟩)) (hb : ∀ j, w.cell? ⟨b, j, none⟩ = #[v0, v1, v2][j]?) (hK : K (a.put (some d) (.agg #[v0, v1, v2])) w) : wpOp Try.prog ops Q i K a w := by
  refine wpOp_go hi rfl ?_
  unfold Oper.wp
  have KK := Lib.hid hK
  clear hK hi
  generalize a.eval = ρ at *
  go_simp
  exact KK.out
theorem wpOp_lit0 (hi : ops[i]? = some { dst := some d, op := .buildSlice 34 0 #[], type := ty, pos := pos, after := after, guard := none })
    (hK : K (a.put (some d) (.slice (some ⟨w.heap.size, 0, none⟩) 0 0)) (w.alloc (.cells #[] 4))) : wpOp Try.prog ops Q i K a w := by
  refine wpOp_go hi rfl ?_
  unfold Oper.wp
  have KK := Lib.hid hK
  clear hK hi
  generalize a.eval = ρ at *
  go_simp
  exact KK.out
theorem wpOp_litB {b : Bool} (hi : ops[i]? = some { dst := some d, op := .buildSlice 34 1 #[(0, .const (.bool b))], type := ty, pos := pos, after := after, guard := none })
    (hK : K (a.put (some d) (.slice (some ⟨w.heap.size, 0, none⟩) 1 1)) (w.alloc (.cells #[.bool b] 4))) : wpOp Try.prog ops Q i K a w := by
  refine wpOp_go hi rfl ?_
  unfold Oper.wp
  have KK := Lib.hid hK
  have e3 : a.eval (.const (.bool b)) = .bool b := rfl
  clear hK hi
  generalize a.eval = ρ at *
  go_simp
  exact KK.out
theorem wpOp_litV {x : Operand} {v0 v1 v2 : Value} (hi : ops[i]? = some { dst := some d, op := .buildSlice 35 1 #[(0, x)], type := ty, pos := pos, after := after, guard := none })
    (hx : a.eval x = .agg #[v0, v1, v2]) (hK : K (a.put (some d) (.slice (some ⟨w.heap.size, 0, none⟩) 1 1)) (w.alloc (.cells #[v0, v1, v2] 27))) : wpOp Try.prog ops Q i K a w := by
  refine wpOp_go hi rfl ?_
  unfold Oper.wp
  have KK := Lib.hid hK
  clear hK hi
  generalize a.eval = ρ at *
  go_simp
  exact KK.out
theorem wpOp_build {x y : Operand} (hi : ops[i]? = some { dst := some d, op := .build 42 #[(0, x), (1, y)], type := ty, pos := pos, after := after, guard := none })
    {ao bo : Option Addr} {n c m e : Nat} (hx : a.eval x = .slice ao n c) (hy : a.eval y = .slice bo m e) (hK : K (a.put (some d) (.agg #[.slice ao n c, .slice bo m e])) w) : wpOp Try.prog ops Q i K a w := by
  refine wpOp_go hi rfl ?_
  unfold Oper.wp
  have KK := Lib.hid hK
  clear hK hi
  generalize a.eval = ρ at *
  go_simp
  exact KK.out
theorem wpOp_allocE (hi : ops[i]? = some { dst := some d, op := .alloc 42, type := ty, pos := pos, after := after, guard := none })
    (hK : K (a.put (some d) (.pointer (some ⟨w.heap.size, 0, none⟩))) (w.alloc (.cells #[.slice none 0 0, .slice none 0 0] 42))) : wpOp Try.prog ops Q i K a w := by
  refine wpOp_go hi rfl ?_
  unfold Oper.wp
  have KK := Lib.hid hK
  clear hK hi
  generalize a.eval = ρ at *
  go_simp
  exact KK.out
theorem wpOp_storeE {x y : Operand} {g : Nat} {ao bo : Option Addr} {n c m e : Nat} {z0 z1 : Value} (hi : ops[i]? = some { dst := none, op := .store 42 x y, type := ty, pos := pos, after := after, guard := none })
    (hx : a.eval x = .pointer (some ⟨g, 0, none⟩)) (hy : a.eval y = .agg #[.slice ao n c, .slice bo m e]) (hg : w.heap[g]? = some (.cells #[z0, z1] 42 (0, 0))) (hK : K a ((w.setCell ⟨g, 0, none⟩ (.slice ao n c)).setCell ⟨g, 1, none⟩ (.slice bo m e))) : wpOp Try.prog ops Q i K a w := by
  refine wpOp_go hi rfl ?_
  unfold Oper.wp
  have KK := Lib.hid hK
  have hf := fun j => Lib.frozen_of_heap hg j
  have hc0 : w.cell? ⟨g, 0, none⟩ = some z0 := Lib.cell_of_heap hg 0
  have hc1 : w.cell? ⟨g, 1, none⟩ = some z1 := Lib.cell_of_heap hg 1
  clear hK hi
  generalize a.eval = ρ at *
  go_simp
  exact KK.out
theorem wpOp_append {s x : Operand} {t : TypeId} (hi : ops[i]? = some { dst := some d, op := .call { callee := Callee.builtin Builtin.append, args := #[s, x], argTypes := #[t, t] }, type := ty, pos := pos, after := after, guard := none })
    (base : Nat) (e : TypeId) (j : TypeInfo) (z : Value) (size bytes : Nat) (ht : Try.prog.underlying t = some (.slice e)) (hj : Try.prog.info? e = some j) (hz : j.zero = some z) (hsize : j.size = size) (hby : j.bytes = bytes) (hzs : z.cells.size = size) (hsz : 0 < size)
    (v : Value) (n : Nat) (xs : List Value) (hs : a.eval s = v) (hown : w.ownsRow base e size v n xs) (ao : Option Addr) (m c : Nat) (news : List Value) (hx : a.eval x = .slice ao m c) (hl : news.length = m * size)
    (hnone : ao = none → m = 0 ∧ c = 0) (hnews : ∀ ad, ao = some ad → ∀ j u, news[j]? = some u → w.cell? (ad.add j) = some u) (h1 : ∀ u ∈ news, u.oneCell' = true)
    (h63 : n + m ≤ maxLen) (hbytes : (n + m) * bytes ≤ 140737488355328) (hbase : base ≤ w.heap.size)
    (hK : ∀ v' w', w'.ownsRow base e size v' (n + m) (xs ++ news) → w.grownBy w' v.ownBlock → K (a.put (some d) v') w') : wpOp Try.prog ops Q i K a w := by
  refine wpOp_go hi rfl ?_
  have := step_append_any (P := Try.prog) (ops := ops) (o := { dst := some d, op := .call { callee := Callee.builtin Builtin.append, args := #[s, x], argTypes := #[t, t] }, type := ty, pos := pos, after := after, guard := none }) (a := a) (w := w) (K := K) (Q := Q) (E := False) rfl s x t rfl base e j z size bytes ht hj hz hsize hby hzs hsz v n xs hs hown ao m c news hx hl hnone hnews h1 h63 hbytes hbase hK
  rwa [if_pos (by simp [Region.wanted])] at this
end
end Go.Proofs.Ytjcmbljpjimdiaa
