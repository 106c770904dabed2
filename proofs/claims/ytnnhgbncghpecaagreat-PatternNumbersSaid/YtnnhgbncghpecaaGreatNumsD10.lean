/- PatternNumbers: its quiet regions that call. -/
import Derived.Test.YtnnhgbncghpecaaGreatNumsA10
import Derived.Test.YtnnhgbncghpecaaGreatSomeL10
namespace Go.Proofs.YtnnhgbncghpecaaGreat
open Go.RowKit
set_option maxRecDepth 100000

theorem bs3A_run (k x v1 v2 : Int) (v3 : ByteArray) (W : World) : (Instr.buildSlice 23 3 #[(0, .agg #[.int .u8 k, .int .i64 x, .int .u8 v1, .int .i64 v2, .string v3]), (1, .agg #[.int .u8 2, .int .i64 1, .int .u8 0, .int .i64 0, .string ⟨#[]⟩]), (2, .agg #[.int .u8 k, .int .i64 x, .int .u8 v1, .int .i64 v2, .string v3])]).run Tryz.prog W = .ok (.slice (some ⟨W.heap.size, 0, none⟩) 3 3) (W.alloc (.cells #[.int .u8 k, .int .i64 x, .int .u8 v1, .int .i64 v2, .string v3, .int .u8 2, .int .i64 1, .int .u8 0, .int .i64 0, .string ⟨#[]⟩, .int .u8 k, .int .i64 x, .int .u8 v1, .int .i64 v2, .string v3] 64)) := by kernel_rfl
theorem bs3V_run (v1 v2 : Int) (v3 : ByteArray) (W : World) : (Instr.buildSlice 34 3 #[(0, .agg #[.int .u8 v1, .int .i64 v2, .string v3]), (1, .agg #[.int .u8 1, .int .i64 2, .string ⟨#[]⟩]), (2, .agg #[.int .u8 v1, .int .i64 v2, .string v3])]).run Tryz.prog W = .ok (.slice (some ⟨W.heap.size, 0, none⟩) 3 3) (W.alloc (.cells #[.int .u8 v1, .int .i64 v2, .string v3, .int .u8 1, .int .i64 2, .string ⟨#[]⟩, .int .u8 v1, .int .i64 v2, .string v3] 27)) := by kernel_rfl
theorem buildC_run (gA : Nat) (W : World) : (Instr.build 33 #[(0, .int .u8 2), (1, .int .i64 (-7)), (2, .slice (some ⟨gA, 0, none⟩) 3 3)]).run Tryz.prog W = .ok (.agg #[.int .u8 2, .int .i64 (-7), .slice (some ⟨gA, 0, none⟩) 3 3, .int .u8 0, .int .u8 0, .int .i64 0, .string ⟨#[]⟩, .int .i64 0, .int .u8 0, .slice none 0 0]) W := by kernel_rfl
theorem buildF_run (gV : Nat) (W : World) : (Instr.build 36 #[(0, .int .i64 3), (1, .int .i64 (-7)), (2, .slice (some ⟨gV, 0, none⟩) 3 3)]).run Tryz.prog W = .ok (.agg #[.int .i64 3, .int .i64 (-7), .slice (some ⟨gV, 0, none⟩) 3 3]) W := by kernel_rfl
structure MildY (F : (Nat → Bool) → Nat → World → Value → Prop) (J : (Nat → Bool) → World → Prop) (m : Nat) : Prop where
  f : ∀ l i j w w' v, i ≠ m → Below w.heap.size w w' → F l j w v → F (setL l i) j w' v
  j : ∀ l i w w', i ≠ m → Below w.heap.size w w' → J l w → J (setL l i) w'
section
variable {P : Program} {ops : Array Oper} {Q : Exit → Act → World → Prop} {D : Nat → Option Nat} {F : (Nat → Bool) → Nat → World → Value → Prop} {J : (Nat → Bool) → World → Prop} {n : Nat} {a0 : Act} {l : Nat → Bool} {a : Act} {w : World} {i : Nat}
theorem didY {d m : Nat} {v : Value} {w' : World} (hne : i ≠ m) (hm : MildY F J m) (h : St ops D F J n a0 l a w) (hd : D i = some d) (hb : Below w.heap.size w w') (hf : F (setL l i) i w' v) : Did D F J n l i a (a.put (some d) v) w' := by
  refine ⟨v, by rw [hd], hm.j _ _ _ _ hne hb h.j, fun j hj hl => hm.f _ _ _ _ _ _ hne hb (h.vals j hj hl), ?_⟩
  rw [hd]
  exact hf
end
section
variable {ops : Array Oper} {rest : List Oper} {op : Oper} {Q : Exit → Act → World → Prop} {K : Act → World → Prop} {a : Act} {w : World} {i d : Nat} {ty : TypeId} {pos : String} {after : Array Edge} {g : Option (Nat × Bool)}
theorem wpList_run {P : Program} (hgd : op.guard = none) (v : Value) (w' : World)
    (hr : (execOp a.eval op).run P w = .ok (.value v) w') (h : wpList P ops Q rest (a.put op.dst v) w') : wpList P ops Q (op :: rest) a w :=
  wpList_plain hgd fun _ hK => by
    unfold Oper.wp
    rw [hr]
    exact hK _ _ h
theorem wpList_ldA {k x v1 v2 : Int} {v3 : ByteArray} (hgd : op.guard = none) (y : Operand) (ho : op.op = .load 64 y) (b : Nat) (hy : a.eval y = .pointer (some ⟨b, 0, none⟩)) (hc : w.heap[b]? = some (.cells #[.int .u8 k, .int .i64 x, .int .u8 v1, .int .i64 v2, .string v3] 64 (0, 0)))
    (h : wpList Tryz.prog ops Q rest (a.put op.dst (.agg #[.int .u8 k, .int .i64 x, .int .u8 v1, .int .i64 v2, .string v3])) w) : wpList Tryz.prog ops Q (op :: rest) a w :=
  wpList_plain hgd fun _ hK => by
    unfold Oper.wp execOp
    have KK := Lib.hid (hK _ _ h)
    have hce := fun j => Lib.cell_of_heap hc j
    clear h hK hc
    rw [ho]
    generalize a.eval = ρ at *
    go_simp
    exact KK.out
theorem wpList_bs3 {k x v1 v2 : Int} {v3 : ByteArray} (hgd : op.guard = none) (x0 x1 x2 : Operand) (ho : op.op = .buildSlice 23 3 #[(0, x0), (1, x1), (2, x2)]) (h0 : a.eval x0 = .agg #[.int .u8 k, .int .i64 x, .int .u8 v1, .int .i64 v2, .string v3]) (h1 : a.eval x1 = .agg #[.int .u8 2, .int .i64 1, .int .u8 0, .int .i64 0, .string ⟨#[]⟩]) (h2 : a.eval x2 = .agg #[.int .u8 k, .int .i64 x, .int .u8 v1, .int .i64 v2, .string v3])
    (h : wpList Tryz.prog ops Q rest (a.put op.dst (.slice (some ⟨w.heap.size, 0, none⟩) 3 3)) (w.alloc (.cells #[.int .u8 k, .int .i64 x, .int .u8 v1, .int .i64 v2, .string v3, .int .u8 2, .int .i64 1, .int .u8 0, .int .i64 0, .string ⟨#[]⟩, .int .u8 k, .int .i64 x, .int .u8 v1, .int .i64 v2, .string v3] 64))) : wpList Tryz.prog ops Q (op :: rest) a w :=
  wpList_run hgd (.slice (some ⟨w.heap.size, 0, none⟩) 3 3) (w.alloc (.cells #[.int .u8 k, .int .i64 x, .int .u8 v1, .int .i64 v2, .string v3, .int .u8 2, .int .i64 1, .int .u8 0, .int .i64 0, .string ⟨#[]⟩, .int .u8 k, .int .i64 x, .int .u8 v1, .int .i64 v2, .string v3] 64)) (by
    unfold execOp
    have hm : ((#[(0, x0), (1, x1), (2, x2)] : Array (Nat × Operand)).map fun (i, x) => (i, a.eval x)) = #[(0, .agg #[.int .u8 k, .int .i64 x, .int .u8 v1, .int .i64 v2, .string v3]), (1, .agg #[.int .u8 2, .int .i64 1, .int .u8 0, .int .i64 0, .string ⟨#[]⟩]), (2, .agg #[.int .u8 k, .int .i64 x, .int .u8 v1, .int .i64 v2, .string v3])] := by
      simp only [List.map_toArray, List.map_cons, List.map_nil, h0, h1, h2]
    rw [ho]
    simp only [hm, Sem.run_bind, bs3A_run, Result.andThen_ok, Sem.run_pure]) h
theorem wpList_bdC {gA : Nat} (hgd : op.guard = none) (x0 x1 x2 : Operand) (ho : op.op = .build 33 #[(0, x0), (1, x1), (2, x2)]) (h0 : a.eval x0 = .int .u8 2) (h1 : a.eval x1 = .int .i64 (-7)) (h2 : a.eval x2 = .slice (some ⟨gA, 0, none⟩) 3 3)
    (h : wpList Tryz.prog ops Q rest (a.put op.dst (.agg #[.int .u8 2, .int .i64 (-7), .slice (some ⟨gA, 0, none⟩) 3 3, .int .u8 0, .int .u8 0, .int .i64 0, .string ⟨#[]⟩, .int .i64 0, .int .u8 0, .slice none 0 0])) w) : wpList Tryz.prog ops Q (op :: rest) a w :=
  wpList_run hgd (.agg #[.int .u8 2, .int .i64 (-7), .slice (some ⟨gA, 0, none⟩) 3 3, .int .u8 0, .int .u8 0, .int .i64 0, .string ⟨#[]⟩, .int .i64 0, .int .u8 0, .slice none 0 0]) w (by
    unfold execOp
    have hm : ((#[(0, x0), (1, x1), (2, x2)] : Array (Nat × Operand)).map fun (i, x) => (i, a.eval x)) = #[(0, .int .u8 2), (1, .int .i64 (-7)), (2, .slice (some ⟨gA, 0, none⟩) 3 3)] := by
      simp only [List.map_toArray, List.map_cons, List.map_nil, h0, h1, h2]
    rw [ho]
    simp only [hm, Sem.run_bind, buildC_run, Result.andThen_ok, Sem.run_pure]) h
theorem wpList_stC {gA gc : Nat} (hgd : op.guard = none) (hd : op.dst = none) (x y : Operand) (ho : op.op = .store 33 x y) (hx : a.eval x = .pointer (some ⟨gc, 0, none⟩)) (hy : a.eval y = .agg #[.int .u8 2, .int .i64 (-7), .slice (some ⟨gA, 0, none⟩) 3 3, .int .u8 0, .int .u8 0, .int .i64 0, .string ⟨#[]⟩, .int .i64 0, .int .u8 0, .slice none 0 0]) (hg : w.heap[gc]? = some (.cells zeroC 33 (0, 0)))
    (h : ∀ w', w'.heap[gc]? = some (.cells #[.int .u8 2, .int .i64 (-7), .slice (some ⟨gA, 0, none⟩) 3 3, .int .u8 0, .int .u8 0, .int .i64 0, .string ⟨#[]⟩, .int .i64 0, .int .u8 0, .slice none 0 0] 33 (0, 0)) → w.grownBy w' (some gc) → wpList Tryz.prog ops Q rest a w') : wpList Tryz.prog ops Q (op :: rest) a w :=
  wpList_plain hgd fun _ hK => by
    unfold Oper.wp execOp
    obtain ⟨q1, q2⟩ := ten_set (.int .u8 2) (.int .i64 (-7)) (.slice (some ⟨gA, 0, none⟩) 3 3) (.int .u8 0) (.int .u8 0) (.int .i64 0) (.string ⟨#[]⟩) (.int .i64 0) (.int .u8 0) (.slice none 0 0) hg rfl
    have KK := Lib.hid (hK _ _ (h _ q1 q2))
    have hce := fun j => Lib.cell_of_heap hg j
    have hf := fun j => Lib.frozen_of_heap hg j
    clear h hK hg q1 q2
    rw [ho]
    generalize a.eval = ρ at *
    go_simp
    exact KK.out
theorem wpOp_bs3V {x0 x1 x2 : Operand} {v1 v2 : Int} {v3 : ByteArray} (hi : ops[i]? = some { dst := some d, op := .buildSlice 34 3 #[(0, x0), (1, x1), (2, x2)], type := ty, pos := pos, after := after, guard := none }) (h0 : a.eval x0 = .agg #[.int .u8 v1, .int .i64 v2, .string v3]) (h1 : a.eval x1 = .agg #[.int .u8 1, .int .i64 2, .string ⟨#[]⟩]) (h2 : a.eval x2 = .agg #[.int .u8 v1, .int .i64 v2, .string v3])
    (hK : K (a.put (some d) (.slice (some ⟨w.heap.size, 0, none⟩) 3 3)) (w.alloc (.cells #[.int .u8 v1, .int .i64 v2, .string v3, .int .u8 1, .int .i64 2, .string ⟨#[]⟩, .int .u8 v1, .int .i64 v2, .string v3] 27))) : wpOp Tryz.prog ops Q i K a w := by
  refine wpOp_go hi rfl ?_
  unfold Oper.wp execOp
  have hm : ((#[(0, x0), (1, x1), (2, x2)] : Array (Nat × Operand)).map fun (i, x) => (i, a.eval x)) = #[(0, .agg #[.int .u8 v1, .int .i64 v2, .string v3]), (1, .agg #[.int .u8 1, .int .i64 2, .string ⟨#[]⟩]), (2, .agg #[.int .u8 v1, .int .i64 v2, .string v3])] := by
    simp only [List.map_toArray, List.map_cons, List.map_nil, h0, h1, h2]
  simp only [hm, Sem.run_bind, bs3V_run, Result.andThen_ok, Sem.run_pure]
  exact hK
theorem wpOp_bdF {x0 x1 x2 : Operand} {gV : Nat} (hi : ops[i]? = some { dst := some d, op := .build 36 #[(0, x0), (1, x1), (2, x2)], type := ty, pos := pos, after := after, guard := none }) (h0 : a.eval x0 = .int .i64 3) (h1 : a.eval x1 = .int .i64 (-7)) (h2 : a.eval x2 = .slice (some ⟨gV, 0, none⟩) 3 3)
    (hK : K (a.put (some d) (.agg #[.int .i64 3, .int .i64 (-7), .slice (some ⟨gV, 0, none⟩) 3 3])) w) : wpOp Tryz.prog ops Q i K a w := by
  refine wpOp_go hi rfl ?_
  unfold Oper.wp execOp
  have hm : ((#[(0, x0), (1, x1), (2, x2)] : Array (Nat × Operand)).map fun (i, x) => (i, a.eval x)) = #[(0, .int .i64 3), (1, .int .i64 (-7)), (2, .slice (some ⟨gV, 0, none⟩) 3 3)] := by
    simp only [List.map_toArray, List.map_cons, List.map_nil, h0, h1, h2]
  simp only [hm, Sem.run_bind, buildF_run, Result.andThen_ok, Sem.run_pure]
  exact hK
end
def fRD (i : Nat) : Option Nat := ([some 69, some 70, some 71, some 72, some 73, some 74, some 75, some 76, some 77, some 78, some 79, some 80, some 81, some 9, none] : List (Option Nat)).getD i none
set_option linter.unusedVariables false in
def fRF (w8 : World) (bv n5 : Nat) (m0 v1 v2 : Int) (v3 : ByteArray) (l : Nat → Bool) (i : Nat) (w : World) (v : Value) : Prop :=
  match i with
  | 0 => v = .slice (some ⟨bv, 0, none⟩) 5 5
  | 1 => v = .int .i64 m0
  | 2 => v = .int .i64 (n5 : Int)
  | 3 => v = .pointer (some ⟨bv, n5 * 3, none⟩)
  | 4 => v = .agg #[.int .u8 v1, .int .i64 v2, .string v3]
  | 5 => v = .agg #[.int .u8 1, .int .i64 2, .string ⟨#[]⟩]
  | 6 => v = .slice (some ⟨bv, 0, none⟩) 5 5
  | 7 => v = .int .i64 m0
  | 8 => v = .int .i64 (n5 : Int)
  | 9 => v = .pointer (some ⟨bv, n5 * 3, none⟩)
  | 10 => v = .agg #[.int .u8 v1, .int .i64 v2, .string v3]
  | 11 => RowX w 27 #[.int .u8 v1, .int .i64 v2, .string v3, .int .u8 1, .int .i64 2, .string ⟨#[]⟩, .int .u8 v1, .int .i64 v2, .string v3] 3 v
  | 12 => ∃ gV, v = .agg #[.int .i64 3, .int .i64 (-7), .slice (some ⟨gV, 0, none⟩) 3 3] ∧ w.heap[gV]? = some (.cells #[.int .u8 v1, .int .i64 v2, .string v3, .int .u8 1, .int .i64 2, .string ⟨#[]⟩, .int .u8 v1, .int .i64 v2, .string v3] 27 (0, 0))
  | 13 => ∃ g, v = .pointer (some ⟨g, 0, none⟩) ∧ w8.heap.size ≤ g ∧ (l 14 = false → w.heap[g]? = some (.cells zeroF 36 (0, 0))) ∧ (l 14 = true → ∃ gV, w.heap[g]? = some (.cells #[.int .i64 3, .int .i64 (-7), .slice (some ⟨gV, 0, none⟩) 3 3] 36 (0, 0)) ∧ w.heap[gV]? = some (.cells #[.int .u8 v1, .int .i64 v2, .string v3, .int .u8 1, .int .i64 2, .string ⟨#[]⟩, .int .u8 v1, .int .i64 v2, .string v3] 27 (0, 0)))
  | 14 => True
  | _ => True
set_option linter.unusedVariables false in
def fRJ (w8 : World) (bv n5 : Nat) (m0 v1 v2 : Int) (v3 : ByteArray) (l : Nat → Bool) (w : World) : Prop := Below w8.heap.size w8 w
set_option linter.unusedVariables false in
theorem fR_mild (w8 : World) (bv n5 : Nat) (m0 v1 v2 : Int) (v3 : ByteArray) : MildY (fRF w8 bv n5 m0 v1 v2 v3) (fRJ w8 bv n5 m0 v1 v2 v3) 14 := by
  refine ⟨fun l i j w w' v hne hb h => ?_, fun l i w w' hne hb h => ?_⟩
  · match j with
    | 0 => exact h
    | 1 => exact h
    | 2 => exact h
    | 3 => exact h
    | 4 => exact h
    | 5 => exact h
    | 6 => exact h
    | 7 => exact h
    | 8 => exact h
    | 9 => exact h
    | 10 => exact h
    | 11 => exact h.old hb
    | 12 => obtain ⟨g, u1, u2⟩ := h; exact ⟨g, u1, (hb.block g (lt_of_heap u2)).trans u2⟩
    | 13 => obtain ⟨g, u1, u2, u3, u4⟩ := h; exact ⟨g, u1, u2, (fun e => (hb.block g (lt_of_heap (u3 (by rwa [setL_ne (fun q => hne q.symm)] at e)))).trans (u3 (by rwa [setL_ne (fun q => hne q.symm)] at e))), fun e => by obtain ⟨gV, x1, x2⟩ := u4 (by rwa [setL_ne (fun q => hne q.symm)] at e); exact ⟨gV, (hb.block g (lt_of_heap x1)).trans x1, (hb.block gV (lt_of_heap x2)).trans x2⟩⟩
    | 14 => trivial
    | k + 15 => trivial
  · exact h.trans (hb.mono h.size)
set_option linter.unusedVariables false in
theorem fR_s0 (w8 : World) (bv n5 : Nat) (m0 v1 v2 : Int) (v3 : ByteArray) {ops : Array Oper} {Q : Exit → Act → World → Prop} {a0 a : Act} {w : World} {l : Nat → Bool} {ty : TypeId} {pos : String} {after : Array Edge} (k3 : a0.eval (.tmp 3) = .slice (some ⟨bv, 0, none⟩) 5 5) (k6 : a0.eval (.tmp 6) = .int .i64 m0) (h5 : m0 % 5 = (n5 : Int)) (h5t : m0.tmod 5 = (n5 : Int)) (hw5 : IntKind.i64.wrap (n5 : Int) = (n5 : Int)) (hn5 : n5 < 5) (hbv : bv < w8.heap.size) (c0 : w8.cell? ⟨bv, n5 * 3, none⟩ = some (.int .u8 v1)) (c1 : w8.cell? ⟨bv, n5 * 3 + 1, none⟩ = some (.int .i64 v2)) (c2 : w8.cell? ⟨bv, n5 * 3 + 2, none⟩ = some (.string v3)) (no14 : l 14 = true → l 13 = true) (hs : St ops fRD (fRF w8 bv n5 m0 v1 v2 v3) (fRJ w8 bv n5 m0 v1 v2 v3) 15 a0 l a w) (hi : ops[0]? = some { dst := some 69, op := Op.move (Operand.tmp 3), type := ty, pos := pos, after := after, guard := none }) (nl : l 0 = false)  : wpOp Tryz.prog ops Q 0 (Did fRD (fRF w8 bv n5 m0 v1 v2 v3) (fRJ w8 bv n5 m0 v1 v2 v3) 15 l 0 a) a w := by
  have e3 : a.eval (.tmp 3) = .slice (some ⟨bv, 0, none⟩) 5 5 := (hs.kept 3 (by decide)).trans (k3)
  refine wpOp_move hi ?_
  rw [e3]
  exact didY (by decide) (fR_mild w8 bv n5 m0 v1 v2 v3) hs (d := 69) (i := 0) rfl (Below.refl _ w) rfl
set_option linter.unusedVariables false in
theorem fR_s1 (w8 : World) (bv n5 : Nat) (m0 v1 v2 : Int) (v3 : ByteArray) {ops : Array Oper} {Q : Exit → Act → World → Prop} {a0 a : Act} {w : World} {l : Nat → Bool} {ty : TypeId} {pos : String} {after : Array Edge} (k3 : a0.eval (.tmp 3) = .slice (some ⟨bv, 0, none⟩) 5 5) (k6 : a0.eval (.tmp 6) = .int .i64 m0) (h5 : m0 % 5 = (n5 : Int)) (h5t : m0.tmod 5 = (n5 : Int)) (hw5 : IntKind.i64.wrap (n5 : Int) = (n5 : Int)) (hn5 : n5 < 5) (hbv : bv < w8.heap.size) (c0 : w8.cell? ⟨bv, n5 * 3, none⟩ = some (.int .u8 v1)) (c1 : w8.cell? ⟨bv, n5 * 3 + 1, none⟩ = some (.int .i64 v2)) (c2 : w8.cell? ⟨bv, n5 * 3 + 2, none⟩ = some (.string v3)) (no14 : l 14 = true → l 13 = true) (hs : St ops fRD (fRF w8 bv n5 m0 v1 v2 v3) (fRJ w8 bv n5 m0 v1 v2 v3) 15 a0 l a w) (hi : ops[1]? = some { dst := some 70, op := Op.move (Operand.tmp 6), type := ty, pos := pos, after := after, guard := none }) (nl : l 1 = false)  : wpOp Tryz.prog ops Q 1 (Did fRD (fRF w8 bv n5 m0 v1 v2 v3) (fRJ w8 bv n5 m0 v1 v2 v3) 15 l 1 a) a w := by
  have e6 : a.eval (.tmp 6) = .int .i64 m0 := (hs.kept 6 (by decide)).trans (k6)
  refine wpOp_move hi ?_
  rw [e6]
  exact didY (by decide) (fR_mild w8 bv n5 m0 v1 v2 v3) hs (d := 70) (i := 1) rfl (Below.refl _ w) rfl
set_option linter.unusedVariables false in
theorem fR_s2 (w8 : World) (bv n5 : Nat) (m0 v1 v2 : Int) (v3 : ByteArray) {ops : Array Oper} {Q : Exit → Act → World → Prop} {a0 a : Act} {w : World} {l : Nat → Bool} {ty : TypeId} {pos : String} {after : Array Edge} (k3 : a0.eval (.tmp 3) = .slice (some ⟨bv, 0, none⟩) 5 5) (k6 : a0.eval (.tmp 6) = .int .i64 m0) (h5 : m0 % 5 = (n5 : Int)) (h5t : m0.tmod 5 = (n5 : Int)) (hw5 : IntKind.i64.wrap (n5 : Int) = (n5 : Int)) (hn5 : n5 < 5) (hbv : bv < w8.heap.size) (c0 : w8.cell? ⟨bv, n5 * 3, none⟩ = some (.int .u8 v1)) (c1 : w8.cell? ⟨bv, n5 * 3 + 1, none⟩ = some (.int .i64 v2)) (c2 : w8.cell? ⟨bv, n5 * 3 + 2, none⟩ = some (.string v3)) (no14 : l 14 = true → l 13 = true) (hs : St ops fRD (fRF w8 bv n5 m0 v1 v2 v3) (fRJ w8 bv n5 m0 v1 v2 v3) 15 a0 l a w) (hi : ops[2]? = some { dst := some 71, op := Op.binOp BinOp.rem 3 (Operand.tmp 70) (Operand.const (Value.int IntKind.i64 5)) 3, type := ty, pos := pos, after := after, guard := none }) (nl : l 2 = false) (q1 : l 1 = true) : wpOp Tryz.prog ops Q 2 (Did fRD (fRF w8 bv n5 m0 v1 v2 v3) (fRJ w8 bv n5 m0 v1 v2 v3) 15 l 2 a) a w := by
  have e70 : fRF w8 bv n5 m0 v1 v2 v3 l 1 w (a.eval (.tmp 70)) := hs.get (by decide) q1 rfl
  have f70 : a.eval (.tmp 70) = .int .i64 m0 := e70
  have ex : a.eval (.const (.int .i64 5)) = .int .i64 5 := rfl
  have hK := didY (by decide) (fR_mild w8 bv n5 m0 v1 v2 v3) hs (v := .int .i64 (n5 : Int)) (d := 71) (i := 2) rfl (Below.refl _ w) rfl
  refine wpOp_go hi rfl ?_
  unfold Oper.wp
  have KK := Lib.hid hK
  clear hK hi e70
  generalize a.eval = ρ at *
  go_simp
  exact KK.out
set_option linter.unusedVariables false in
theorem fR_s3 (w8 : World) (bv n5 : Nat) (m0 v1 v2 : Int) (v3 : ByteArray) {ops : Array Oper} {Q : Exit → Act → World → Prop} {a0 a : Act} {w : World} {l : Nat → Bool} {ty : TypeId} {pos : String} {after : Array Edge} (k3 : a0.eval (.tmp 3) = .slice (some ⟨bv, 0, none⟩) 5 5) (k6 : a0.eval (.tmp 6) = .int .i64 m0) (h5 : m0 % 5 = (n5 : Int)) (h5t : m0.tmod 5 = (n5 : Int)) (hw5 : IntKind.i64.wrap (n5 : Int) = (n5 : Int)) (hn5 : n5 < 5) (hbv : bv < w8.heap.size) (c0 : w8.cell? ⟨bv, n5 * 3, none⟩ = some (.int .u8 v1)) (c1 : w8.cell? ⟨bv, n5 * 3 + 1, none⟩ = some (.int .i64 v2)) (c2 : w8.cell? ⟨bv, n5 * 3 + 2, none⟩ = some (.string v3)) (no14 : l 14 = true → l 13 = true) (hs : St ops fRD (fRF w8 bv n5 m0 v1 v2 v3) (fRJ w8 bv n5 m0 v1 v2 v3) 15 a0 l a w) (hi : ops[3]? = some { dst := some 72, op := Op.indexAddr 34 (Operand.tmp 69) (Operand.tmp 71), type := ty, pos := pos, after := after, guard := none }) (nl : l 3 = false) (q0 : l 0 = true) (q2 : l 2 = true) : wpOp Tryz.prog ops Q 3 (Did fRD (fRF w8 bv n5 m0 v1 v2 v3) (fRJ w8 bv n5 m0 v1 v2 v3) 15 l 3 a) a w := by
  have e69 : fRF w8 bv n5 m0 v1 v2 v3 l 0 w (a.eval (.tmp 69)) := hs.get (by decide) q0 rfl
  have e71 : fRF w8 bv n5 m0 v1 v2 v3 l 2 w (a.eval (.tmp 71)) := hs.get (by decide) q2 rfl
  have f69 : a.eval (.tmp 69) = .slice (some ⟨bv, 0, none⟩) 5 5 := e69
  have f71 : a.eval (.tmp 71) = .int .i64 (n5 : Int) := e71
  have hlt : (n5 : Int) < 5 := by omega
  have hK := didY (by decide) (fR_mild w8 bv n5 m0 v1 v2 v3) hs (v := .pointer (some ⟨bv, n5 * 3, none⟩)) (d := 72) (i := 3) rfl (Below.refl _ w) rfl
  refine wpOp_go hi rfl ?_
  unfold Oper.wp
  have KK := Lib.hid hK
  clear hK hi e69 e71
  generalize a.eval = ρ at *
  go_simp
  exact KK.out
set_option linter.unusedVariables false in
theorem fR_s4 (w8 : World) (bv n5 : Nat) (m0 v1 v2 : Int) (v3 : ByteArray) {ops : Array Oper} {Q : Exit → Act → World → Prop} {a0 a : Act} {w : World} {l : Nat → Bool} {ty : TypeId} {pos : String} {after : Array Edge} (k3 : a0.eval (.tmp 3) = .slice (some ⟨bv, 0, none⟩) 5 5) (k6 : a0.eval (.tmp 6) = .int .i64 m0) (h5 : m0 % 5 = (n5 : Int)) (h5t : m0.tmod 5 = (n5 : Int)) (hw5 : IntKind.i64.wrap (n5 : Int) = (n5 : Int)) (hn5 : n5 < 5) (hbv : bv < w8.heap.size) (c0 : w8.cell? ⟨bv, n5 * 3, none⟩ = some (.int .u8 v1)) (c1 : w8.cell? ⟨bv, n5 * 3 + 1, none⟩ = some (.int .i64 v2)) (c2 : w8.cell? ⟨bv, n5 * 3 + 2, none⟩ = some (.string v3)) (no14 : l 14 = true → l 13 = true) (hs : St ops fRD (fRF w8 bv n5 m0 v1 v2 v3) (fRJ w8 bv n5 m0 v1 v2 v3) 15 a0 l a w) (hi : ops[4]? = some { dst := some 73, op := Op.load 27 (Operand.tmp 72), type := ty, pos := pos, after := after, guard := none }) (nl : l 4 = false) (q3 : l 3 = true) : wpOp Tryz.prog ops Q 4 (Did fRD (fRF w8 bv n5 m0 v1 v2 v3) (fRJ w8 bv n5 m0 v1 v2 v3) 15 l 4 a) a w := by
  have e72 : fRF w8 bv n5 m0 v1 v2 v3 l 3 w (a.eval (.tmp 72)) := hs.get (by decide) q3 rfl
  have f72 : a.eval (.tmp 72) = .pointer (some ⟨bv, n5 * 3, none⟩) := e72
  have d0 := (hs.j.cell (p := ⟨bv, n5 * 3, none⟩) hbv).trans c0
  have d1 := (hs.j.cell (p := ⟨bv, n5 * 3 + 1, none⟩) hbv).trans c1
  have d2 := (hs.j.cell (p := ⟨bv, n5 * 3 + 2, none⟩) hbv).trans c2
  have hK := didY (by decide) (fR_mild w8 bv n5 m0 v1 v2 v3) hs (v := .agg #[.int .u8 v1, .int .i64 v2, .string v3]) (d := 73) (i := 4) rfl (Below.refl _ w) rfl
  refine wpOp_go hi rfl ?_
  unfold Oper.wp
  have KK := Lib.hid hK
  clear hK hi e72
  generalize a.eval = ρ at *
  go_simp
  exact KK.out
set_option linter.unusedVariables false in
theorem fR_s5 (w8 : World) (bv n5 : Nat) (m0 v1 v2 : Int) (v3 : ByteArray) {ops : Array Oper} {Q : Exit → Act → World → Prop} {a0 a : Act} {w : World} {l : Nat → Bool} {ty : TypeId} {pos : String} {after : Array Edge} (k3 : a0.eval (.tmp 3) = .slice (some ⟨bv, 0, none⟩) 5 5) (k6 : a0.eval (.tmp 6) = .int .i64 m0) (h5 : m0 % 5 = (n5 : Int)) (h5t : m0.tmod 5 = (n5 : Int)) (hw5 : IntKind.i64.wrap (n5 : Int) = (n5 : Int)) (hn5 : n5 < 5) (hbv : bv < w8.heap.size) (c0 : w8.cell? ⟨bv, n5 * 3, none⟩ = some (.int .u8 v1)) (c1 : w8.cell? ⟨bv, n5 * 3 + 1, none⟩ = some (.int .i64 v2)) (c2 : w8.cell? ⟨bv, n5 * 3 + 2, none⟩ = some (.string v3)) (no14 : l 14 = true → l 13 = true) (hs : St ops fRD (fRF w8 bv n5 m0 v1 v2 v3) (fRJ w8 bv n5 m0 v1 v2 v3) 15 a0 l a w) (hi : ops[5]? = some { dst := some 74, op := Op.call { callee := Callee.value (Operand.func 21), args := #[Operand.const (Value.int IntKind.i64 2)], argTypes := #[2] }, type := ty, pos := pos, after := after, guard := none }) (nl : l 5 = false)  : wpOp Tryz.prog ops Q 5 (Did fRD (fRF w8 bv n5 m0 v1 v2 v3) (fRJ w8 bv n5 m0 v1 v2 v3) 15 l 5 a) a w := by
  refine wpOp_call (vs := #[.int .i64 2]) hi (enters_of Tryz.func21 (by kernel_rfl) rfl) (by simp [Act.eval]) ?_
  refine (num_any 2 w).mono ?_
  rintro e w' ⟨rfl, hb⟩
  exact ⟨_, rfl, didY (by decide) (fR_mild w8 bv n5 m0 v1 v2 v3) hs (d := 74) (i := 5) rfl hb rfl⟩
set_option linter.unusedVariables false in
theorem fR_s6 (w8 : World) (bv n5 : Nat) (m0 v1 v2 : Int) (v3 : ByteArray) {ops : Array Oper} {Q : Exit → Act → World → Prop} {a0 a : Act} {w : World} {l : Nat → Bool} {ty : TypeId} {pos : String} {after : Array Edge} (k3 : a0.eval (.tmp 3) = .slice (some ⟨bv, 0, none⟩) 5 5) (k6 : a0.eval (.tmp 6) = .int .i64 m0) (h5 : m0 % 5 = (n5 : Int)) (h5t : m0.tmod 5 = (n5 : Int)) (hw5 : IntKind.i64.wrap (n5 : Int) = (n5 : Int)) (hn5 : n5 < 5) (hbv : bv < w8.heap.size) (c0 : w8.cell? ⟨bv, n5 * 3, none⟩ = some (.int .u8 v1)) (c1 : w8.cell? ⟨bv, n5 * 3 + 1, none⟩ = some (.int .i64 v2)) (c2 : w8.cell? ⟨bv, n5 * 3 + 2, none⟩ = some (.string v3)) (no14 : l 14 = true → l 13 = true) (hs : St ops fRD (fRF w8 bv n5 m0 v1 v2 v3) (fRJ w8 bv n5 m0 v1 v2 v3) 15 a0 l a w) (hi : ops[6]? = some { dst := some 75, op := Op.move (Operand.tmp 3), type := ty, pos := pos, after := after, guard := none }) (nl : l 6 = false)  : wpOp Tryz.prog ops Q 6 (Did fRD (fRF w8 bv n5 m0 v1 v2 v3) (fRJ w8 bv n5 m0 v1 v2 v3) 15 l 6 a) a w := by
  have e3 : a.eval (.tmp 3) = .slice (some ⟨bv, 0, none⟩) 5 5 := (hs.kept 3 (by decide)).trans (k3)
  refine wpOp_move hi ?_
  rw [e3]
  exact didY (by decide) (fR_mild w8 bv n5 m0 v1 v2 v3) hs (d := 75) (i := 6) rfl (Below.refl _ w) rfl
set_option linter.unusedVariables false in
theorem fR_s7 (w8 : World) (bv n5 : Nat) (m0 v1 v2 : Int) (v3 : ByteArray) {ops : Array Oper} {Q : Exit → Act → World → Prop} {a0 a : Act} {w : World} {l : Nat → Bool} {ty : TypeId} {pos : String} {after : Array Edge} (k3 : a0.eval (.tmp 3) = .slice (some ⟨bv, 0, none⟩) 5 5) (k6 : a0.eval (.tmp 6) = .int .i64 m0) (h5 : m0 % 5 = (n5 : Int)) (h5t : m0.tmod 5 = (n5 : Int)) (hw5 : IntKind.i64.wrap (n5 : Int) = (n5 : Int)) (hn5 : n5 < 5) (hbv : bv < w8.heap.size) (c0 : w8.cell? ⟨bv, n5 * 3, none⟩ = some (.int .u8 v1)) (c1 : w8.cell? ⟨bv, n5 * 3 + 1, none⟩ = some (.int .i64 v2)) (c2 : w8.cell? ⟨bv, n5 * 3 + 2, none⟩ = some (.string v3)) (no14 : l 14 = true → l 13 = true) (hs : St ops fRD (fRF w8 bv n5 m0 v1 v2 v3) (fRJ w8 bv n5 m0 v1 v2 v3) 15 a0 l a w) (hi : ops[7]? = some { dst := some 76, op := Op.move (Operand.tmp 6), type := ty, pos := pos, after := after, guard := none }) (nl : l 7 = false)  : wpOp Tryz.prog ops Q 7 (Did fRD (fRF w8 bv n5 m0 v1 v2 v3) (fRJ w8 bv n5 m0 v1 v2 v3) 15 l 7 a) a w := by
  have e6 : a.eval (.tmp 6) = .int .i64 m0 := (hs.kept 6 (by decide)).trans (k6)
  refine wpOp_move hi ?_
  rw [e6]
  exact didY (by decide) (fR_mild w8 bv n5 m0 v1 v2 v3) hs (d := 76) (i := 7) rfl (Below.refl _ w) rfl
set_option linter.unusedVariables false in
theorem fR_s8 (w8 : World) (bv n5 : Nat) (m0 v1 v2 : Int) (v3 : ByteArray) {ops : Array Oper} {Q : Exit → Act → World → Prop} {a0 a : Act} {w : World} {l : Nat → Bool} {ty : TypeId} {pos : String} {after : Array Edge} (k3 : a0.eval (.tmp 3) = .slice (some ⟨bv, 0, none⟩) 5 5) (k6 : a0.eval (.tmp 6) = .int .i64 m0) (h5 : m0 % 5 = (n5 : Int)) (h5t : m0.tmod 5 = (n5 : Int)) (hw5 : IntKind.i64.wrap (n5 : Int) = (n5 : Int)) (hn5 : n5 < 5) (hbv : bv < w8.heap.size) (c0 : w8.cell? ⟨bv, n5 * 3, none⟩ = some (.int .u8 v1)) (c1 : w8.cell? ⟨bv, n5 * 3 + 1, none⟩ = some (.int .i64 v2)) (c2 : w8.cell? ⟨bv, n5 * 3 + 2, none⟩ = some (.string v3)) (no14 : l 14 = true → l 13 = true) (hs : St ops fRD (fRF w8 bv n5 m0 v1 v2 v3) (fRJ w8 bv n5 m0 v1 v2 v3) 15 a0 l a w) (hi : ops[8]? = some { dst := some 77, op := Op.binOp BinOp.rem 3 (Operand.tmp 76) (Operand.const (Value.int IntKind.i64 5)) 3, type := ty, pos := pos, after := after, guard := none }) (nl : l 8 = false) (q7 : l 7 = true) : wpOp Tryz.prog ops Q 8 (Did fRD (fRF w8 bv n5 m0 v1 v2 v3) (fRJ w8 bv n5 m0 v1 v2 v3) 15 l 8 a) a w := by
  have e76 : fRF w8 bv n5 m0 v1 v2 v3 l 7 w (a.eval (.tmp 76)) := hs.get (by decide) q7 rfl
  have f76 : a.eval (.tmp 76) = .int .i64 m0 := e76
  have ex : a.eval (.const (.int .i64 5)) = .int .i64 5 := rfl
  have hK := didY (by decide) (fR_mild w8 bv n5 m0 v1 v2 v3) hs (v := .int .i64 (n5 : Int)) (d := 77) (i := 8) rfl (Below.refl _ w) rfl
  refine wpOp_go hi rfl ?_
  unfold Oper.wp
  have KK := Lib.hid hK
  clear hK hi e76
  generalize a.eval = ρ at *
  go_simp
  exact KK.out
set_option linter.unusedVariables false in
theorem fR_s9 (w8 : World) (bv n5 : Nat) (m0 v1 v2 : Int) (v3 : ByteArray) {ops : Array Oper} {Q : Exit → Act → World → Prop} {a0 a : Act} {w : World} {l : Nat → Bool} {ty : TypeId} {pos : String} {after : Array Edge} (k3 : a0.eval (.tmp 3) = .slice (some ⟨bv, 0, none⟩) 5 5) (k6 : a0.eval (.tmp 6) = .int .i64 m0) (h5 : m0 % 5 = (n5 : Int)) (h5t : m0.tmod 5 = (n5 : Int)) (hw5 : IntKind.i64.wrap (n5 : Int) = (n5 : Int)) (hn5 : n5 < 5) (hbv : bv < w8.heap.size) (c0 : w8.cell? ⟨bv, n5 * 3, none⟩ = some (.int .u8 v1)) (c1 : w8.cell? ⟨bv, n5 * 3 + 1, none⟩ = some (.int .i64 v2)) (c2 : w8.cell? ⟨bv, n5 * 3 + 2, none⟩ = some (.string v3)) (no14 : l 14 = true → l 13 = true) (hs : St ops fRD (fRF w8 bv n5 m0 v1 v2 v3) (fRJ w8 bv n5 m0 v1 v2 v3) 15 a0 l a w) (hi : ops[9]? = some { dst := some 78, op := Op.indexAddr 34 (Operand.tmp 75) (Operand.tmp 77), type := ty, pos := pos, after := after, guard := none }) (nl : l 9 = false) (q6 : l 6 = true) (q8 : l 8 = true) : wpOp Tryz.prog ops Q 9 (Did fRD (fRF w8 bv n5 m0 v1 v2 v3) (fRJ w8 bv n5 m0 v1 v2 v3) 15 l 9 a) a w := by
  have e75 : fRF w8 bv n5 m0 v1 v2 v3 l 6 w (a.eval (.tmp 75)) := hs.get (by decide) q6 rfl
  have e77 : fRF w8 bv n5 m0 v1 v2 v3 l 8 w (a.eval (.tmp 77)) := hs.get (by decide) q8 rfl
  have f75 : a.eval (.tmp 75) = .slice (some ⟨bv, 0, none⟩) 5 5 := e75
  have f77 : a.eval (.tmp 77) = .int .i64 (n5 : Int) := e77
  have hlt : (n5 : Int) < 5 := by omega
  have hK := didY (by decide) (fR_mild w8 bv n5 m0 v1 v2 v3) hs (v := .pointer (some ⟨bv, n5 * 3, none⟩)) (d := 78) (i := 9) rfl (Below.refl _ w) rfl
  refine wpOp_go hi rfl ?_
  unfold Oper.wp
  have KK := Lib.hid hK
  clear hK hi e75 e77
  generalize a.eval = ρ at *
  go_simp
  exact KK.out
set_option linter.unusedVariables false in
theorem fR_s10 (w8 : World) (bv n5 : Nat) (m0 v1 v2 : Int) (v3 : ByteArray) {ops : Array Oper} {Q : Exit → Act → World → Prop} {a0 a : Act} {w : World} {l : Nat → Bool} {ty : TypeId} {pos : String} {after : Array Edge} (k3 : a0.eval (.tmp 3) = .slice (some ⟨bv, 0, none⟩) 5 5) (k6 : a0.eval (.tmp 6) = .int .i64 m0) (h5 : m0 % 5 = (n5 : Int)) (h5t : m0.tmod 5 = (n5 : Int)) (hw5 : IntKind.i64.wrap (n5 : Int) = (n5 : Int)) (hn5 : n5 < 5) (hbv : bv < w8.heap.size) (c0 : w8.cell? ⟨bv, n5 * 3, none⟩ = some (.int .u8 v1)) (c1 : w8.cell? ⟨bv, n5 * 3 + 1, none⟩ = some (.int .i64 v2)) (c2 : w8.cell? ⟨bv, n5 * 3 + 2, none⟩ = some (.string v3)) (no14 : l 14 = true → l 13 = true) (hs : St ops fRD (fRF w8 bv n5 m0 v1 v2 v3) (fRJ w8 bv n5 m0 v1 v2 v3) 15 a0 l a w) (hi : ops[10]? = some { dst := some 79, op := Op.load 27 (Operand.tmp 78), type := ty, pos := pos, after := after, guard := none }) (nl : l 10 = false) (q9 : l 9 = true) : wpOp Tryz.prog ops Q 10 (Did fRD (fRF w8 bv n5 m0 v1 v2 v3) (fRJ w8 bv n5 m0 v1 v2 v3) 15 l 10 a) a w := by
  have e78 : fRF w8 bv n5 m0 v1 v2 v3 l 9 w (a.eval (.tmp 78)) := hs.get (by decide) q9 rfl
  have f78 : a.eval (.tmp 78) = .pointer (some ⟨bv, n5 * 3, none⟩) := e78
  have d0 := (hs.j.cell (p := ⟨bv, n5 * 3, none⟩) hbv).trans c0
  have d1 := (hs.j.cell (p := ⟨bv, n5 * 3 + 1, none⟩) hbv).trans c1
  have d2 := (hs.j.cell (p := ⟨bv, n5 * 3 + 2, none⟩) hbv).trans c2
  have hK := didY (by decide) (fR_mild w8 bv n5 m0 v1 v2 v3) hs (v := .agg #[.int .u8 v1, .int .i64 v2, .string v3]) (d := 79) (i := 10) rfl (Below.refl _ w) rfl
  refine wpOp_go hi rfl ?_
  unfold Oper.wp
  have KK := Lib.hid hK
  clear hK hi e78
  generalize a.eval = ρ at *
  go_simp
  exact KK.out
set_option linter.unusedVariables false in
theorem fR_s11 (w8 : World) (bv n5 : Nat) (m0 v1 v2 : Int) (v3 : ByteArray) {ops : Array Oper} {Q : Exit → Act → World → Prop} {a0 a : Act} {w : World} {l : Nat → Bool} {ty : TypeId} {pos : String} {after : Array Edge} (k3 : a0.eval (.tmp 3) = .slice (some ⟨bv, 0, none⟩) 5 5) (k6 : a0.eval (.tmp 6) = .int .i64 m0) (h5 : m0 % 5 = (n5 : Int)) (h5t : m0.tmod 5 = (n5 : Int)) (hw5 : IntKind.i64.wrap (n5 : Int) = (n5 : Int)) (hn5 : n5 < 5) (hbv : bv < w8.heap.size) (c0 : w8.cell? ⟨bv, n5 * 3, none⟩ = some (.int .u8 v1)) (c1 : w8.cell? ⟨bv, n5 * 3 + 1, none⟩ = some (.int .i64 v2)) (c2 : w8.cell? ⟨bv, n5 * 3 + 2, none⟩ = some (.string v3)) (no14 : l 14 = true → l 13 = true) (hs : St ops fRD (fRF w8 bv n5 m0 v1 v2 v3) (fRJ w8 bv n5 m0 v1 v2 v3) 15 a0 l a w) (hi : ops[11]? = some { dst := some 80, op := Op.buildSlice 34 3 #[(0, Operand.tmp 73), (1, Operand.tmp 74), (2, Operand.tmp 79)], type := ty, pos := pos, after := after, guard := none }) (nl : l 11 = false) (q4 : l 4 = true) (q5 : l 5 = true) (q10 : l 10 = true) : wpOp Tryz.prog ops Q 11 (Did fRD (fRF w8 bv n5 m0 v1 v2 v3) (fRJ w8 bv n5 m0 v1 v2 v3) 15 l 11 a) a w := by
  have e73 : fRF w8 bv n5 m0 v1 v2 v3 l 4 w (a.eval (.tmp 73)) := hs.get (by decide) q4 rfl
  have e74 : fRF w8 bv n5 m0 v1 v2 v3 l 5 w (a.eval (.tmp 74)) := hs.get (by decide) q5 rfl
  have e79 : fRF w8 bv n5 m0 v1 v2 v3 l 10 w (a.eval (.tmp 79)) := hs.get (by decide) q10 rfl
  exact wpOp_bs3V hi e73 e74 e79 (didY (by decide) (fR_mild w8 bv n5 m0 v1 v2 v3) hs (d := 80) (i := 11) rfl (below_own _) ⟨w.heap.size, rfl, heap_alloc_new w _⟩)
set_option linter.unusedVariables false in
theorem fR_s12 (w8 : World) (bv n5 : Nat) (m0 v1 v2 : Int) (v3 : ByteArray) {ops : Array Oper} {Q : Exit → Act → World → Prop} {a0 a : Act} {w : World} {l : Nat → Bool} {ty : TypeId} {pos : String} {after : Array Edge} (k3 : a0.eval (.tmp 3) = .slice (some ⟨bv, 0, none⟩) 5 5) (k6 : a0.eval (.tmp 6) = .int .i64 m0) (h5 : m0 % 5 = (n5 : Int)) (h5t : m0.tmod 5 = (n5 : Int)) (hw5 : IntKind.i64.wrap (n5 : Int) = (n5 : Int)) (hn5 : n5 < 5) (hbv : bv < w8.heap.size) (c0 : w8.cell? ⟨bv, n5 * 3, none⟩ = some (.int .u8 v1)) (c1 : w8.cell? ⟨bv, n5 * 3 + 1, none⟩ = some (.int .i64 v2)) (c2 : w8.cell? ⟨bv, n5 * 3 + 2, none⟩ = some (.string v3)) (no14 : l 14 = true → l 13 = true) (hs : St ops fRD (fRF w8 bv n5 m0 v1 v2 v3) (fRJ w8 bv n5 m0 v1 v2 v3) 15 a0 l a w) (hi : ops[12]? = some { dst := some 81, op := Op.build 36 #[(0, Operand.const (Value.int IntKind.i64 3)), (1, Operand.const (Value.int IntKind.i64 (-7))), (2, Operand.tmp 80)], type := ty, pos := pos, after := after, guard := none }) (nl : l 12 = false) (q11 : l 11 = true) : wpOp Tryz.prog ops Q 12 (Did fRD (fRF w8 bv n5 m0 v1 v2 v3) (fRJ w8 bv n5 m0 v1 v2 v3) 15 l 12 a) a w := by
  have e80 : fRF w8 bv n5 m0 v1 v2 v3 l 11 w (a.eval (.tmp 80)) := hs.get (by decide) q11 rfl
  obtain ⟨gV, f80, h80⟩ := e80
  exact wpOp_bdF hi rfl rfl f80 (didY (by decide) (fR_mild w8 bv n5 m0 v1 v2 v3) hs (d := 81) (i := 12) rfl (Below.refl _ w) ⟨gV, rfl, h80⟩)
set_option linter.unusedVariables false in
theorem fR_s13 (w8 : World) (bv n5 : Nat) (m0 v1 v2 : Int) (v3 : ByteArray) {ops : Array Oper} {Q : Exit → Act → World → Prop} {a0 a : Act} {w : World} {l : Nat → Bool} {ty : TypeId} {pos : String} {after : Array Edge} (k3 : a0.eval (.tmp 3) = .slice (some ⟨bv, 0, none⟩) 5 5) (k6 : a0.eval (.tmp 6) = .int .i64 m0) (h5 : m0 % 5 = (n5 : Int)) (h5t : m0.tmod 5 = (n5 : Int)) (hw5 : IntKind.i64.wrap (n5 : Int) = (n5 : Int)) (hn5 : n5 < 5) (hbv : bv < w8.heap.size) (c0 : w8.cell? ⟨bv, n5 * 3, none⟩ = some (.int .u8 v1)) (c1 : w8.cell? ⟨bv, n5 * 3 + 1, none⟩ = some (.int .i64 v2)) (c2 : w8.cell? ⟨bv, n5 * 3 + 2, none⟩ = some (.string v3)) (no14 : l 14 = true → l 13 = true) (hs : St ops fRD (fRF w8 bv n5 m0 v1 v2 v3) (fRJ w8 bv n5 m0 v1 v2 v3) 15 a0 l a w) (hi : ops[13]? = some { dst := some 9, op := Op.alloc 36, type := ty, pos := pos, after := after, guard := none }) (nl : l 13 = false)  : wpOp Tryz.prog ops Q 13 (Did fRD (fRF w8 bv n5 m0 v1 v2 v3) (fRJ w8 bv n5 m0 v1 v2 v3) 15 l 13 a) a w := by
  have hK := didY (by decide) (fR_mild w8 bv n5 m0 v1 v2 v3) hs (v := .pointer (some ⟨w.heap.size, 0, none⟩)) (d := 9) (i := 13) rfl (below_own (.cells zeroF 36)) ⟨w.heap.size, rfl, hs.j.size, fun _ => heap_alloc_new w _, fun e => by
    have e14 : l 14 = true := e
    rw [no14 e14] at nl
    cases nl⟩
  exact wpOp_allocFd hi hK
set_option linter.unusedVariables false in
theorem fR_s14 (w8 : World) (bv n5 : Nat) (m0 v1 v2 : Int) (v3 : ByteArray) {ops : Array Oper} {Q : Exit → Act → World → Prop} {a0 a : Act} {w : World} {l : Nat → Bool} {ty : TypeId} {pos : String} {after : Array Edge} (k3 : a0.eval (.tmp 3) = .slice (some ⟨bv, 0, none⟩) 5 5) (k6 : a0.eval (.tmp 6) = .int .i64 m0) (h5 : m0 % 5 = (n5 : Int)) (h5t : m0.tmod 5 = (n5 : Int)) (hw5 : IntKind.i64.wrap (n5 : Int) = (n5 : Int)) (hn5 : n5 < 5) (hbv : bv < w8.heap.size) (c0 : w8.cell? ⟨bv, n5 * 3, none⟩ = some (.int .u8 v1)) (c1 : w8.cell? ⟨bv, n5 * 3 + 1, none⟩ = some (.int .i64 v2)) (c2 : w8.cell? ⟨bv, n5 * 3 + 2, none⟩ = some (.string v3)) (no14 : l 14 = true → l 13 = true) (hs : St ops fRD (fRF w8 bv n5 m0 v1 v2 v3) (fRJ w8 bv n5 m0 v1 v2 v3) 15 a0 l a w) (hi : ops[14]? = some { dst := none, op := Op.store 36 (Operand.tmp 9) (Operand.tmp 81), type := ty, pos := pos, after := after, guard := none }) (nl : l 14 = false) (q0 : l 0 = true) (q1 : l 1 = true) (q2 : l 2 = true) (q3 : l 3 = true) (q4 : l 4 = true) (q5 : l 5 = true) (q6 : l 6 = true) (q7 : l 7 = true) (q8 : l 8 = true) (q9 : l 9 = true) (q10 : l 10 = true) (q11 : l 11 = true) (q12 : l 12 = true) (q13 : l 13 = true) : wpOp Tryz.prog ops Q 14 (Did fRD (fRF w8 bv n5 m0 v1 v2 v3) (fRJ w8 bv n5 m0 v1 v2 v3) 15 l 14 a) a w := by
  have e9 : fRF w8 bv n5 m0 v1 v2 v3 l 13 w (a.eval (.tmp 9)) := hs.get (by decide) q13 rfl
  have e81 : fRF w8 bv n5 m0 v1 v2 v3 l 12 w (a.eval (.tmp 81)) := hs.get (by decide) q12 rfl
  obtain ⟨g, f9, hB, hz, -⟩ := e9
  obtain ⟨gV, f81, h81⟩ := e81
  have hg := hz nl
  refine wpOp_storeFd hi f9 f81 hg ?_
  obtain ⟨q1, q2⟩ := three_set (.int .i64 3) (.int .i64 (-7)) (.slice (some ⟨gV, 0, none⟩) 3 3) hg rfl
  generalize hw' : ((w.setCell ⟨g, 0, none⟩ (.int .i64 3)).setCell ⟨g, 1, none⟩ (.int .i64 (-7))).setCell ⟨g, 2, none⟩ (.slice (some ⟨gV, 0, none⟩) 3 3) = w' at q1 q2
  clear hw'
  have hf := far_block hg q2
  have hbel : Below w8.heap.size w8 w' := hs.j.grown q2 hs.j.size (fun k hk => by obtain rfl := Option.some.inj hk; exact hB)
  have hVf : ∀ {gV : Nat} {cs : Array Value}, w.heap[gV]? = some (.cells cs 27 (0, 0)) → w'.heap[gV]? = some (.cells cs 27 (0, 0)) := fun h => hf.1 _ _ _ _ h (by decide)
  refine ⟨undef, rfl, hbel, fun j hj hl => ?_, trivial⟩
  match j, hj with
  | 0, _ => exact hs.get (i := 0) (by decide) hl rfl
  | 1, _ => exact hs.get (i := 1) (by decide) hl rfl
  | 2, _ => exact hs.get (i := 2) (by decide) hl rfl
  | 3, _ => exact hs.get (i := 3) (by decide) hl rfl
  | 4, _ => exact hs.get (i := 4) (by decide) hl rfl
  | 5, _ => exact hs.get (i := 5) (by decide) hl rfl
  | 6, _ => exact hs.get (i := 6) (by decide) hl rfl
  | 7, _ => exact hs.get (i := 7) (by decide) hl rfl
  | 8, _ => exact hs.get (i := 8) (by decide) hl rfl
  | 9, _ => exact hs.get (i := 9) (by decide) hl rfl
  | 10, _ => exact hs.get (i := 10) (by decide) hl rfl
  | 11, _ => obtain ⟨g1, u1, u2⟩ := (show RowX w _ _ 3 _ from hs.get (i := 11) (by decide) hl rfl); exact ⟨g1, u1, hVf u2⟩
  | 12, _ => obtain ⟨g1, u1, u2⟩ := (show ∃ gV, _ ∧ w.heap[gV]? = _ from hs.get (i := 12) (by decide) hl rfl); exact ⟨g1, u1, hVf u2⟩
  | 13, _ => exact ⟨g, f9, hB, (fun e => by have e' : setL l 14 14 = false := e; simp [setL] at e'), fun _ => ⟨gV, q1, hVf h81⟩⟩
  | 14, _ => rw [nl] at hl; cases hl
end Go.Proofs.YtnnhgbncghpecaaGreat

namespace Go.Proofs.YtnnhgbncghpecaaGreat
open Go.RowKit
set_option maxRecDepth 100000

theorem sl_block {W : World} {g n : Nat} {cs : Array Value} {T : TypeId} {L : List Value} (h : W.heap[g]? = some (.cells cs T (0, 0))) (hl : cs.toList = L) (hn : n ≤ maxLen) : Sl10 W.heap.size W n (some ⟨g, 0, none⟩) n L :=
  ⟨fun _ => ⟨g, 0, rfl, lt_of_heap h, fun j u hu => by
    rw [Nat.zero_add, Lib.cell_of_heap h j, ← Array.getElem?_toList, hl]
    exact hu⟩, (fun e => by cases e), Nat.le_refl _, hn⟩
theorem sl_none (W : World) : Sl10 W.heap.size W 0 none 0 [] := ⟨fun h => absurd rfl h, fun _ => ⟨rfl, rfl⟩, Nat.le_refl _, by unfold maxLen; omega⟩
def noX : X := .mk 0 0 0 ⟨#[]⟩ 0 0 []
theorem lies_none (W : World) : Lies W.heap.size W noX (.slice none 0 0) := .mk noX none 0 [] rfl (fun e => absurd rfl e) (fun _ => rfl) (Nat.le_refl _) (by unfold maxLen; omega) (fun p hp => by cases hp)
theorem pm_any (W : World) (gA gV : Nat) (k x v1 v2 u1 u2 : Int) (v3 u3 : ByteArray) (hu : u3.size ≤ 140737488355328)
    (hA : W.heap[gA]? = some (.cells #[.int .u8 k, .int .i64 x, .int .u8 v1, .int .i64 v2, .string v3, .int .u8 2, .int .i64 1, .int .u8 0, .int .i64 0, .string ⟨#[]⟩, .int .u8 k, .int .i64 x, .int .u8 v1, .int .i64 v2, .string v3] 64 (0, 0)))
    (hV : W.heap[gV]? = some (.cells #[.int .u8 u1, .int .i64 u2, .string u3, .int .u8 1, .int .i64 2, .string ⟨#[]⟩, .int .u8 u1, .int .i64 u2, .string u3] 27 (0, 0)))
    (g1 g2 : Nat) (bs : List Bool) (vs : List V3) (A1 A2 : Array Value) (h1 : W.heap[g1]? = some (.cells A1 4 (0, 0))) (h2 : W.heap[g2]? = some (.cells A2 27 (0, 0))) (e1 : A1.toList = cellsB bs) (e2 : A2.toList = cellsV vs) (l1 : bs.length ≤ 2) (l2 : vs.length ≤ 2) (hs : Short10 vs) :
    Calls Tryz.prog 3 #[.agg #[.int .u8 2, .int .i64 (-7), .slice (some ⟨gA, 0, none⟩) 3 3, .int .u8 0, .int .u8 0, .int .i64 0, .string ⟨#[]⟩, .int .i64 0, .int .u8 0, .slice none 0 0], .agg #[.int .i64 3, .int .i64 (-7), .slice (some ⟨gV, 0, none⟩) 3 3], .slice (some ⟨g1, 0, none⟩) bs.length bs.length, .slice (some ⟨g2, 0, none⟩) vs.length vs.length] W fun r w' => r = .returned (.bool true) ∧ Below W.heap.size W w' :=
  matches_any (w := W) (c := ⟨2, -7, [⟨k, x, (v1, v2, v3)⟩, ⟨2, 1, zeroT⟩, ⟨k, x, (v1, v2, v3)⟩], noX⟩) (ao := some ⟨gA, 0, none⟩) (ac := 3) (xo := none) (xc := 0) (f := ⟨3, -7, [(u1, u2, u3), numT 2, (u1, u2, u3)]⟩) (fo := some ⟨gV, 0, none⟩) (fc := 3) (e := (bs, vs)) (ho := some ⟨g1, 0, none⟩) (hc := bs.length) (vo := some ⟨g2, 0, none⟩) (vc := vs.length)
    ⟨sl_block (n := 3) hA rfl (by decide), lies_none W, sl_block (n := 3) hV rfl (by decide), ⟨sl_block (n := bs.length) h1 e1 (by unfold maxLen; omega), sl_block (n := vs.length) h2 e2 (by unfold maxLen; omega)⟩, (fun u hu' => by
      simp only [List.mem_cons, List.not_mem_nil, or_false] at hu'
      rcases hu' with rfl | rfl | rfl
      · exact hu
      · decide
      · exact hu), hs⟩
/-- Of one condition that asks for anything, or nothing. -/
theorem pm_free (W : World) (kd ct : Int) (al : List A10) (ao : Option Addr) (vl : List V3) (vo : Option Addr) (hA : Sl10 W.heap.size W al.length ao al.length (cellsA al)) (hV : Sl10 W.heap.size W vl.length vo vl.length (cellsV vl)) (hs : Short10 vl) :
    Calls Tryz.prog 3 #[.agg #[.int .u8 kd, .int .i64 ct, .slice ao al.length al.length, .int .u8 0, .int .u8 0, .int .i64 0, .string ⟨#[]⟩, .int .i64 0, .int .u8 0, .slice none 0 0], .agg #[.int .i64 0, .int .i64 0, .slice vo vl.length vl.length], .slice none 0 0, .slice none 0 0] W fun r w' => r = .returned (.bool true) ∧ Below W.heap.size W w' :=
  matches_any (w := W) (c := ⟨kd, ct, al, noX⟩) (ao := ao) (ac := al.length) (xo := none) (xc := 0) (f := ⟨0, 0, vl⟩) (fo := vo) (fc := vl.length) (e := ([], [])) (ho := none) (hc := 0) (vo := none) (vc := 0)
    ⟨hA, lies_none W, hV, ⟨sl_none W, sl_none W⟩, hs, fun u hu => by cases hu⟩
end Go.Proofs.YtnnhgbncghpecaaGreat

namespace Go.Proofs.YtnnhgbncghpecaaGreat
open Go.RowKit
set_option maxRecDepth 100000

section
variable {P : Program} {ops : Array Oper} {Q : Exit → Act → World → Prop}
theorem before_of (he : earlier ops = true) {i j : Nat} (hw : waitsFor ops i j = true) : j < i := by
  unfold waitsFor at hw
  cases ho : ops[i]? with
  | none => rw [ho] at hw; simp at hw
  | some o =>
    rw [ho] at hw
    have hi := (Array.getElem?_eq_some_iff.1 ho).1
    have h1 := List.all_eq_true.1 he i (List.mem_range.2 hi)
    rw [ho] at h1
    obtain ⟨k, hk, h2⟩ := Array.any_eq_true.1 (show (o.after.any fun e => Region.binds .any e && e.on == j) = true from hw)
    rw [Bool.and_eq_true, beq_iff_eq] at h2
    have h3 := of_decide_eq_true (List.all_eq_true.1 h1 o.after[k] (by simp))
    omega
/-- A region that runs in its order, told as one that draws it. -/
theorem wp_region_stq {id : Nat} {a0 : Act} {w0 : World} (D : Nat → Option Nat) (F : (Nat → Bool) → Nat → World → Value → Prop) (J : (Nat → Bool) → World → Prop) (n : Nat) (he : earlier ops = true) (hn : n = ops.size)
    (hD : sepB D n = true) (hz : inB D n a0.tmps.size = true)
    (start : J (fun _ => false) w0)
    (step : ∀ (l : Nat → Bool) (a : Act) (w : World) (i : Nat), i < n → St ops D F J n a0 l a w → l i = false → (∀ j, waitsFor ops i j = true → l j = true) → wpOp P ops Q i (Did D F J n l i a) a w)
    (done : ∀ (l : Nat → Bool) (a : Act) (w : World), (∀ j, j < n → l j = true) → St ops D F J n a0 l a w → Q .normal a w) : (Code.region id ops false).wp P Q a0 w0 := by
  refine wp_region ?_
  have key : ∀ m (k : Nat) (listed : Array Bool) (a : Act) (w : World), k + m = n → listed.size = ops.size → (∀ j, j < n → listed.getD j false = decide (j < k)) → St ops D F J n a0 (fun j => listed.getD j false) a w → wpOps P ops Q (List.range' k m) a w := by
    intro m
    induction m with
    | zero =>
      intro k listed a w hk hs hl hst
      exact done _ a w (fun j hj => by show listed.getD j false = true; rw [hl j hj]; exact decide_eq_true (by omega)) hst
    | succ m ih =>
      intro k listed a w hk hs hl hst
      rw [List.range'_succ, wpOps_cons]
      have hk' : k < n := by omega
      have hwait : ∀ j, waitsFor ops k j = true → listed.getD j false = true := fun j hw => by
        have hj := before_of he hw
        rw [hl j (by omega)]
        exact decide_eq_true hj
      refine wpOp_mono (fun a' w' h => ih (k + 1) (listed.setIfInBounds k true) a' w' (by omega) (by simp [hs]) (fun j hj => ?_) (st_next hs hn (sep_of hD) (in_of hz) hk' hst hwait h)) (step _ a w k hk' hst (by show listed.getD k false = false; rw [hl k hk']; exact decide_eq_false (by omega)) hwait)
      have hg := getD_listed (i := k) (listed := listed) (by omega) j
      rw [hg]
      by_cases e : j = k
      · subst e
        simp
      · rw [if_neg e, hl j hj]
        by_cases h1 : j < k
        · simp [h1, Nat.lt_succ_of_lt h1]
        · simp [h1, show ¬ j < k + 1 by omega]
  rw [List.range_eq_range', ← hn]
  refine key n 0 (Array.replicate ops.size false) a0 w0 (by omega) (by simp) (fun j hj => by simp [← hn, hj]) ?_
  have el : (fun j => (Array.replicate ops.size false).getD j false) = fun _ => false := by
    funext j
    by_cases h : j < ops.size
    · simp [h]
    · simp [h]
  rw [el]
  exact ⟨rfl, rfl, fun _ _ => rfl, start, fun i _ h => (by cases h), fun i _ h => by cases h⟩
end
section
variable {ops : Array Oper} {Q : Exit → Act → World → Prop} {K : Act → World → Prop} {a : Act} {w : World} {i d : Nat} {ty : TypeId} {pos : String} {after : Array Edge} {g : Option (Nat × Bool)}
theorem bdK2_run (q : Int) (gA : Nat) (W : World) : (Instr.build 33 #[(0, .int .u8 q), (2, .slice (some ⟨gA, 0, none⟩) 1 1)]).run Tryz.prog W = .ok (.agg #[.int .u8 q, .int .i64 0, .slice (some ⟨gA, 0, none⟩) 1 1, .int .u8 0, .int .u8 0, .int .i64 0, .string ⟨#[]⟩, .int .i64 0, .int .u8 0, .slice none 0 0]) W := by kernel_rfl
theorem wpOp_bdK2 {x0 : Operand} {x2 : Operand} {q : Int} {gA : Nat} (hi : ops[i]? = some { dst := some d, op := .build 33 #[(0, x0), (2, x2)], type := ty, pos := pos, after := after, guard := g }) (hg : Region.wanted { dst := some d, op := .build 33 #[(0, x0), (2, x2)], type := ty, pos := pos, after := after, guard := g } (yielded ops a.tmps) = true) (hx0 : a.eval x0 = .int .u8 q) (hx2 : a.eval x2 = .slice (some ⟨gA, 0, none⟩) 1 1) (hK : K (a.put (some d) (.agg #[.int .u8 q, .int .i64 0, .slice (some ⟨gA, 0, none⟩) 1 1, .int .u8 0, .int .u8 0, .int .i64 0, .string ⟨#[]⟩, .int .i64 0, .int .u8 0, .slice none 0 0])) w) : wpOp Tryz.prog ops Q i K a w := by
  refine wpOp_goW hi hg ?_
  unfold Oper.wp execOp
  have hm : ((#[(0, x0), (2, x2)] : Array (Nat × Operand)).map fun (i, x) => (i, a.eval x)) = #[(0, .int .u8 q), (2, .slice (some ⟨gA, 0, none⟩) 1 1)] := by
    simp only [List.map_toArray, List.map_cons, List.map_nil, hx0, hx2]
  simp only [hm, Sem.run_bind, bdK2_run, Result.andThen_ok, Sem.run_pure]
  exact hK
theorem bdK3_run (q : Int) (gA : Nat) (W : World) : (Instr.build 33 #[(0, .int .u8 q), (2, .slice (some ⟨gA, 0, none⟩) 1 1), (1, .int .i64 1)]).run Tryz.prog W = .ok (.agg #[.int .u8 q, .int .i64 1, .slice (some ⟨gA, 0, none⟩) 1 1, .int .u8 0, .int .u8 0, .int .i64 0, .string ⟨#[]⟩, .int .i64 0, .int .u8 0, .slice none 0 0]) W := by kernel_rfl
theorem wpOp_bdK3 {x0 : Operand} {x2 : Operand} {q : Int} {gA : Nat} (hi : ops[i]? = some { dst := some d, op := .build 33 #[(0, x0), (2, x2), (1, .const (.int .i64 1))], type := ty, pos := pos, after := after, guard := g }) (hg : Region.wanted { dst := some d, op := .build 33 #[(0, x0), (2, x2), (1, .const (.int .i64 1))], type := ty, pos := pos, after := after, guard := g } (yielded ops a.tmps) = true) (hx0 : a.eval x0 = .int .u8 q) (hx2 : a.eval x2 = .slice (some ⟨gA, 0, none⟩) 1 1) (hK : K (a.put (some d) (.agg #[.int .u8 q, .int .i64 1, .slice (some ⟨gA, 0, none⟩) 1 1, .int .u8 0, .int .u8 0, .int .i64 0, .string ⟨#[]⟩, .int .i64 0, .int .u8 0, .slice none 0 0])) w) : wpOp Tryz.prog ops Q i K a w := by
  refine wpOp_goW hi hg ?_
  unfold Oper.wp execOp
  have c0 : a.eval (.const (.int .i64 1)) = .int .i64 1 := rfl
  have hm : ((#[(0, x0), (2, x2), (1, .const (.int .i64 1))] : Array (Nat × Operand)).map fun (i, x) => (i, a.eval x)) = #[(0, .int .u8 q), (2, .slice (some ⟨gA, 0, none⟩) 1 1), (1, .int .i64 1)] := by
    simp only [List.map_toArray, List.map_cons, List.map_nil, hx0, hx2, c0]
  simp only [hm, Sem.run_bind, bdK3_run, Result.andThen_ok, Sem.run_pure]
  exact hK
theorem bdK1_run (k : Int) (W : World) : (Instr.build 33 #[(0, .int .u8 k)]).run Tryz.prog W = .ok (.agg #[.int .u8 k, .int .i64 0, .slice none 0 0, .int .u8 0, .int .u8 0, .int .i64 0, .string ⟨#[]⟩, .int .i64 0, .int .u8 0, .slice none 0 0]) W := by kernel_rfl
theorem wpOp_bdK1 {k : Int} (hi : ops[i]? = some { dst := some d, op := .build 33 #[(0, .const (.int .u8 k))], type := ty, pos := pos, after := after, guard := g }) (hg : Region.wanted { dst := some d, op := .build 33 #[(0, .const (.int .u8 k))], type := ty, pos := pos, after := after, guard := g } (yielded ops a.tmps) = true)  (hK : K (a.put (some d) (.agg #[.int .u8 k, .int .i64 0, .slice none 0 0, .int .u8 0, .int .u8 0, .int .i64 0, .string ⟨#[]⟩, .int .i64 0, .int .u8 0, .slice none 0 0])) w) : wpOp Tryz.prog ops Q i K a w := by
  refine wpOp_goW hi hg ?_
  unfold Oper.wp execOp
  have c0 : a.eval (.const (.int .u8 k)) = .int .u8 k := rfl
  have hm : ((#[(0, .const (.int .u8 k))] : Array (Nat × Operand)).map fun (i, x) => (i, a.eval x)) = #[(0, .int .u8 k)] := by
    simp only [List.map_toArray, List.map_cons, List.map_nil, c0]
  simp only [hm, Sem.run_bind, bdK1_run, Result.andThen_ok, Sem.run_pure]
  exact hK
theorem bdG1_run (gV : Nat) (W : World) : (Instr.build 36 #[(2, .slice (some ⟨gV, 0, none⟩) 1 1)]).run Tryz.prog W = .ok (.agg #[.int .i64 0, .int .i64 0, .slice (some ⟨gV, 0, none⟩) 1 1]) W := by kernel_rfl
theorem wpOp_bdG1 {x2 : Operand} {gV : Nat} (hi : ops[i]? = some { dst := some d, op := .build 36 #[(2, x2)], type := ty, pos := pos, after := after, guard := g }) (hg : Region.wanted { dst := some d, op := .build 36 #[(2, x2)], type := ty, pos := pos, after := after, guard := g } (yielded ops a.tmps) = true) (hx2 : a.eval x2 = .slice (some ⟨gV, 0, none⟩) 1 1) (hK : K (a.put (some d) (.agg #[.int .i64 0, .int .i64 0, .slice (some ⟨gV, 0, none⟩) 1 1])) w) : wpOp Tryz.prog ops Q i K a w := by
  refine wpOp_goW hi hg ?_
  unfold Oper.wp execOp
  have hm : ((#[(2, x2)] : Array (Nat × Operand)).map fun (i, x) => (i, a.eval x)) = #[(2, .slice (some ⟨gV, 0, none⟩) 1 1)] := by
    simp only [List.map_toArray, List.map_cons, List.map_nil, hx2]
  simp only [hm, Sem.run_bind, bdG1_run, Result.andThen_ok, Sem.run_pure]
  exact hK
theorem bdG0_run (W : World) : (Instr.build 36 #[]).run Tryz.prog W = .ok (.agg #[.int .i64 0, .int .i64 0, .slice none 0 0]) W := by kernel_rfl
theorem wpOp_bdG0 (hi : ops[i]? = some { dst := some d, op := .build 36 #[], type := ty, pos := pos, after := after, guard := g }) (hg : Region.wanted { dst := some d, op := .build 36 #[], type := ty, pos := pos, after := after, guard := g } (yielded ops a.tmps) = true)  (hK : K (a.put (some d) (.agg #[.int .i64 0, .int .i64 0, .slice none 0 0])) w) : wpOp Tryz.prog ops Q i K a w := by
  refine wpOp_goW hi hg ?_
  unfold Oper.wp execOp
  have hm : ((#[] : Array (Nat × Operand)).map fun (i, x) => (i, a.eval x)) = #[] := by simp
  simp only [hm, Sem.run_bind, bdG0_run, Result.andThen_ok, Sem.run_pure]
  exact hK
end
def xRD (i : Nat) : Option Nat := ([some 124, some 125, some 126, some 127, some 128, some 129, some 130, some 131, some 132, some 133, some 134, some 135, some 136, some 137, some 138, some 139, some 140, some 141, some 142, some 143, some 144, some 145, some 146, some 147, some 148, some 149, some 150] : List (Option Nat)).getD i none
set_option linter.unusedVariables false in
def xRF (w8 : World) (gA gV : Nat) (q : Int) (l : Nat → Bool) (i : Nat) (w : World) (v : Value) : Prop :=
  match i with
  | 0 => v = .int .i64 q
  | 1 => v = .int .u8 q
  | 2 => v = .slice (some ⟨gA, 0, none⟩) 1 1
  | 3 => v = .agg #[.int .u8 q, .int .i64 0, .slice (some ⟨gA, 0, none⟩) 1 1, .int .u8 0, .int .u8 0, .int .i64 0, .string ⟨#[]⟩, .int .i64 0, .int .u8 0, .slice none 0 0]
  | 4 => v = .slice (some ⟨gV, 0, none⟩) 1 1
  | 5 => v = .agg #[.int .i64 0, .int .i64 0, .slice (some ⟨gV, 0, none⟩) 1 1]
  | 6 => v = .bool true
  | 7 => v = .bool false
  | 8 => v = .bool false
  | 9 => v = .int .i64 q
  | 10 => v = .int .u8 q
  | 11 => v = .slice (some ⟨gA, 0, none⟩) 1 1
  | 12 => v = .agg #[.int .u8 q, .int .i64 0, .slice (some ⟨gA, 0, none⟩) 1 1, .int .u8 0, .int .u8 0, .int .i64 0, .string ⟨#[]⟩, .int .i64 0, .int .u8 0, .slice none 0 0]
  | 13 => v = .agg #[.int .i64 0, .int .i64 0, .slice none 0 0]
  | 14 => v = .bool true
  | 15 => v = .bool false
  | 16 => v = .bool false
  | 17 => v = .bool false
  | 18 => v = .int .i64 q
  | 19 => v = .int .u8 q
  | 20 => v = .slice (some ⟨gA, 0, none⟩) 1 1
  | 21 => v = .agg #[.int .u8 q, .int .i64 1, .slice (some ⟨gA, 0, none⟩) 1 1, .int .u8 0, .int .u8 0, .int .i64 0, .string ⟨#[]⟩, .int .i64 0, .int .u8 0, .slice none 0 0]
  | 22 => v = .slice (some ⟨gV, 0, none⟩) 1 1
  | 23 => v = .agg #[.int .i64 0, .int .i64 0, .slice (some ⟨gV, 0, none⟩) 1 1]
  | 24 => v = .bool true
  | 25 => v = .bool false
  | 26 => v = .bool false
  | _ => True
set_option linter.unusedVariables false in
def xRJ (w8 : World) (gA gV : Nat) (q : Int) (l : Nat → Bool) (w : World) : Prop := Below w8.heap.size w8 w
set_option linter.unusedVariables false in
theorem xR_mild (w8 : World) (gA gV : Nat) (q : Int) : Mild (xRF w8 gA gV q) (xRJ w8 gA gV q) := by
  refine ⟨fun l i j w w' v hb h => ?_, fun l i w w' hb h => ?_⟩
  · match j with
    | 0 => exact h
    | 1 => exact h
    | 2 => exact h
    | 3 => exact h
    | 4 => exact h
    | 5 => exact h
    | 6 => exact h
    | 7 => exact h
    | 8 => exact h
    | 9 => exact h
    | 10 => exact h
    | 11 => exact h
    | 12 => exact h
    | 13 => exact h
    | 14 => exact h
    | 15 => exact h
    | 16 => exact h
    | 17 => exact h
    | 18 => exact h
    | 19 => exact h
    | 20 => exact h
    | 21 => exact h
    | 22 => exact h
    | 23 => exact h
    | 24 => exact h
    | 25 => exact h
    | 26 => exact h
    | k + 27 => trivial
  · exact h.trans (hb.mono h.size)
set_option linter.unusedVariables false in
theorem xR_s0 (w8 : World) (gA gV : Nat) (q : Int) {ops : Array Oper} {Q : Exit → Act → World → Prop} {a0 a : Act} {w : World} {l : Nat → Bool} {ty : TypeId} {pos : String} {after : Array Edge} (k10 : a0.eval (.tmp 10) = .slice (some ⟨gA, 0, none⟩) 1 1) (k11 : a0.eval (.tmp 11) = .slice (some ⟨gV, 0, none⟩) 1 1) (k12 : a0.eval (.tmp 12) = .int .i64 q) (hkw : IntKind.u8.wrap q = q) (hP1 : ∀ W, Below w8.heap.size w8 W → ∀ ct : Int, Calls Tryz.prog 3 #[.agg #[.int .u8 q, .int .i64 ct, .slice (some ⟨gA, 0, none⟩) 1 1, .int .u8 0, .int .u8 0, .int .i64 0, .string ⟨#[]⟩, .int .i64 0, .int .u8 0, .slice none 0 0], .agg #[.int .i64 0, .int .i64 0, .slice (some ⟨gV, 0, none⟩) 1 1], .slice none 0 0, .slice none 0 0] W fun r w' => r = .returned (.bool true) ∧ Below W.heap.size W w') (hP0 : ∀ W, Below w8.heap.size w8 W → Calls Tryz.prog 3 #[.agg #[.int .u8 q, .int .i64 0, .slice (some ⟨gA, 0, none⟩) 1 1, .int .u8 0, .int .u8 0, .int .i64 0, .string ⟨#[]⟩, .int .i64 0, .int .u8 0, .slice none 0 0], .agg #[.int .i64 0, .int .i64 0, .slice none 0 0], .slice none 0 0, .slice none 0 0] W fun r w' => r = .returned (.bool true) ∧ Below W.heap.size W w') (hs : St ops xRD (xRF w8 gA gV q) (xRJ w8 gA gV q) 27 a0 l a w) (hi : ops[0]? = some { dst := some 124, op := Op.move (Operand.tmp 12), type := ty, pos := pos, after := after, guard := none }) (nl : l 0 = false)  : wpOp Tryz.prog ops Q 0 (Did xRD (xRF w8 gA gV q) (xRJ w8 gA gV q) 27 l 0 a) a w := by
  have e12 : a.eval (.tmp 12) = .int .i64 q := (hs.kept 12 (by decide)).trans (k12)
  have hK := did (xR_mild w8 gA gV q) hs (v := .int .i64 q) (d := 124) (i := 0) rfl (Below.refl _ w) rfl
  refine wpOp_move hi ?_
  rw [e12]
  exact hK
set_option linter.unusedVariables false in
theorem xR_s1 (w8 : World) (gA gV : Nat) (q : Int) {ops : Array Oper} {Q : Exit → Act → World → Prop} {a0 a : Act} {w : World} {l : Nat → Bool} {ty : TypeId} {pos : String} {after : Array Edge} (k10 : a0.eval (.tmp 10) = .slice (some ⟨gA, 0, none⟩) 1 1) (k11 : a0.eval (.tmp 11) = .slice (some ⟨gV, 0, none⟩) 1 1) (k12 : a0.eval (.tmp 12) = .int .i64 q) (hkw : IntKind.u8.wrap q = q) (hP1 : ∀ W, Below w8.heap.size w8 W → ∀ ct : Int, Calls Tryz.prog 3 #[.agg #[.int .u8 q, .int .i64 ct, .slice (some ⟨gA, 0, none⟩) 1 1, .int .u8 0, .int .u8 0, .int .i64 0, .string ⟨#[]⟩, .int .i64 0, .int .u8 0, .slice none 0 0], .agg #[.int .i64 0, .int .i64 0, .slice (some ⟨gV, 0, none⟩) 1 1], .slice none 0 0, .slice none 0 0] W fun r w' => r = .returned (.bool true) ∧ Below W.heap.size W w') (hP0 : ∀ W, Below w8.heap.size w8 W → Calls Tryz.prog 3 #[.agg #[.int .u8 q, .int .i64 0, .slice (some ⟨gA, 0, none⟩) 1 1, .int .u8 0, .int .u8 0, .int .i64 0, .string ⟨#[]⟩, .int .i64 0, .int .u8 0, .slice none 0 0], .agg #[.int .i64 0, .int .i64 0, .slice none 0 0], .slice none 0 0, .slice none 0 0] W fun r w' => r = .returned (.bool true) ∧ Below W.heap.size W w') (hs : St ops xRD (xRF w8 gA gV q) (xRJ w8 gA gV q) 27 a0 l a w) (hi : ops[1]? = some { dst := some 125, op := Op.convert 3 22 (Operand.tmp 124), type := ty, pos := pos, after := after, guard := none }) (nl : l 1 = false) (q0 : l 0 = true) : wpOp Tryz.prog ops Q 1 (Did xRD (xRF w8 gA gV q) (xRJ w8 gA gV q) 27 l 1 a) a w := by
  have e124 : xRF w8 gA gV q l 0 w (a.eval (.tmp 124)) := hs.get (by decide) q0 rfl
  have e124 : a.eval (.tmp 124) = .int .i64 q := e124
  have hK := did (xR_mild w8 gA gV q) hs (v := .int .u8 q) (d := 125) (i := 1) rfl (Below.refl _ w) rfl
  refine wpOp_go hi rfl ?_
  unfold Oper.wp
  have KK := Lib.hid hK
  clear hK hi
  generalize a.eval = ρ at *
  go_simp
  exact KK.out
set_option linter.unusedVariables false in
theorem xR_s2 (w8 : World) (gA gV : Nat) (q : Int) {ops : Array Oper} {Q : Exit → Act → World → Prop} {a0 a : Act} {w : World} {l : Nat → Bool} {ty : TypeId} {pos : String} {after : Array Edge} (k10 : a0.eval (.tmp 10) = .slice (some ⟨gA, 0, none⟩) 1 1) (k11 : a0.eval (.tmp 11) = .slice (some ⟨gV, 0, none⟩) 1 1) (k12 : a0.eval (.tmp 12) = .int .i64 q) (hkw : IntKind.u8.wrap q = q) (hP1 : ∀ W, Below w8.heap.size w8 W → ∀ ct : Int, Calls Tryz.prog 3 #[.agg #[.int .u8 q, .int .i64 ct, .slice (some ⟨gA, 0, none⟩) 1 1, .int .u8 0, .int .u8 0, .int .i64 0, .string ⟨#[]⟩, .int .i64 0, .int .u8 0, .slice none 0 0], .agg #[.int .i64 0, .int .i64 0, .slice (some ⟨gV, 0, none⟩) 1 1], .slice none 0 0, .slice none 0 0] W fun r w' => r = .returned (.bool true) ∧ Below W.heap.size W w') (hP0 : ∀ W, Below w8.heap.size w8 W → Calls Tryz.prog 3 #[.agg #[.int .u8 q, .int .i64 0, .slice (some ⟨gA, 0, none⟩) 1 1, .int .u8 0, .int .u8 0, .int .i64 0, .string ⟨#[]⟩, .int .i64 0, .int .u8 0, .slice none 0 0], .agg #[.int .i64 0, .int .i64 0, .slice none 0 0], .slice none 0 0, .slice none 0 0] W fun r w' => r = .returned (.bool true) ∧ Below W.heap.size W w') (hs : St ops xRD (xRF w8 gA gV q) (xRJ w8 gA gV q) 27 a0 l a w) (hi : ops[2]? = some { dst := some 126, op := Op.move (Operand.tmp 10), type := ty, pos := pos, after := after, guard := none }) (nl : l 2 = false)  : wpOp Tryz.prog ops Q 2 (Did xRD (xRF w8 gA gV q) (xRJ w8 gA gV q) 27 l 2 a) a w := by
  have e10 : a.eval (.tmp 10) = .slice (some ⟨gA, 0, none⟩) 1 1 := (hs.kept 10 (by decide)).trans (k10)
  have hK := did (xR_mild w8 gA gV q) hs (v := .slice (some ⟨gA, 0, none⟩) 1 1) (d := 126) (i := 2) rfl (Below.refl _ w) rfl
  refine wpOp_move hi ?_
  rw [e10]
  exact hK
set_option linter.unusedVariables false in
theorem xR_s3 (w8 : World) (gA gV : Nat) (q : Int) {ops : Array Oper} {Q : Exit → Act → World → Prop} {a0 a : Act} {w : World} {l : Nat → Bool} {ty : TypeId} {pos : String} {after : Array Edge} (k10 : a0.eval (.tmp 10) = .slice (some ⟨gA, 0, none⟩) 1 1) (k11 : a0.eval (.tmp 11) = .slice (some ⟨gV, 0, none⟩) 1 1) (k12 : a0.eval (.tmp 12) = .int .i64 q) (hkw : IntKind.u8.wrap q = q) (hP1 : ∀ W, Below w8.heap.size w8 W → ∀ ct : Int, Calls Tryz.prog 3 #[.agg #[.int .u8 q, .int .i64 ct, .slice (some ⟨gA, 0, none⟩) 1 1, .int .u8 0, .int .u8 0, .int .i64 0, .string ⟨#[]⟩, .int .i64 0, .int .u8 0, .slice none 0 0], .agg #[.int .i64 0, .int .i64 0, .slice (some ⟨gV, 0, none⟩) 1 1], .slice none 0 0, .slice none 0 0] W fun r w' => r = .returned (.bool true) ∧ Below W.heap.size W w') (hP0 : ∀ W, Below w8.heap.size w8 W → Calls Tryz.prog 3 #[.agg #[.int .u8 q, .int .i64 0, .slice (some ⟨gA, 0, none⟩) 1 1, .int .u8 0, .int .u8 0, .int .i64 0, .string ⟨#[]⟩, .int .i64 0, .int .u8 0, .slice none 0 0], .agg #[.int .i64 0, .int .i64 0, .slice none 0 0], .slice none 0 0, .slice none 0 0] W fun r w' => r = .returned (.bool true) ∧ Below W.heap.size W w') (hs : St ops xRD (xRF w8 gA gV q) (xRJ w8 gA gV q) 27 a0 l a w) (hi : ops[3]? = some { dst := some 127, op := Op.build 33 #[(0, Operand.tmp 125), (2, Operand.tmp 126)], type := ty, pos := pos, after := after, guard := none }) (nl : l 3 = false) (q1 : l 1 = true) (q2 : l 2 = true) : wpOp Tryz.prog ops Q 3 (Did xRD (xRF w8 gA gV q) (xRJ w8 gA gV q) 27 l 3 a) a w := by
  have e125 : xRF w8 gA gV q l 1 w (a.eval (.tmp 125)) := hs.get (by decide) q1 rfl
  have e126 : xRF w8 gA gV q l 2 w (a.eval (.tmp 126)) := hs.get (by decide) q2 rfl
  exact wpOp_bdK2 hi (by simp [Region.wanted]) e125 e126 (did (xR_mild w8 gA gV q) hs (d := 127) (i := 3) rfl (Below.refl _ w) rfl)
set_option linter.unusedVariables false in
theorem xR_s4 (w8 : World) (gA gV : Nat) (q : Int) {ops : Array Oper} {Q : Exit → Act → World → Prop} {a0 a : Act} {w : World} {l : Nat → Bool} {ty : TypeId} {pos : String} {after : Array Edge} (k10 : a0.eval (.tmp 10) = .slice (some ⟨gA, 0, none⟩) 1 1) (k11 : a0.eval (.tmp 11) = .slice (some ⟨gV, 0, none⟩) 1 1) (k12 : a0.eval (.tmp 12) = .int .i64 q) (hkw : IntKind.u8.wrap q = q) (hP1 : ∀ W, Below w8.heap.size w8 W → ∀ ct : Int, Calls Tryz.prog 3 #[.agg #[.int .u8 q, .int .i64 ct, .slice (some ⟨gA, 0, none⟩) 1 1, .int .u8 0, .int .u8 0, .int .i64 0, .string ⟨#[]⟩, .int .i64 0, .int .u8 0, .slice none 0 0], .agg #[.int .i64 0, .int .i64 0, .slice (some ⟨gV, 0, none⟩) 1 1], .slice none 0 0, .slice none 0 0] W fun r w' => r = .returned (.bool true) ∧ Below W.heap.size W w') (hP0 : ∀ W, Below w8.heap.size w8 W → Calls Tryz.prog 3 #[.agg #[.int .u8 q, .int .i64 0, .slice (some ⟨gA, 0, none⟩) 1 1, .int .u8 0, .int .u8 0, .int .i64 0, .string ⟨#[]⟩, .int .i64 0, .int .u8 0, .slice none 0 0], .agg #[.int .i64 0, .int .i64 0, .slice none 0 0], .slice none 0 0, .slice none 0 0] W fun r w' => r = .returned (.bool true) ∧ Below W.heap.size W w') (hs : St ops xRD (xRF w8 gA gV q) (xRJ w8 gA gV q) 27 a0 l a w) (hi : ops[4]? = some { dst := some 128, op := Op.move (Operand.tmp 11), type := ty, pos := pos, after := after, guard := none }) (nl : l 4 = false)  : wpOp Tryz.prog ops Q 4 (Did xRD (xRF w8 gA gV q) (xRJ w8 gA gV q) 27 l 4 a) a w := by
  have e11 : a.eval (.tmp 11) = .slice (some ⟨gV, 0, none⟩) 1 1 := (hs.kept 11 (by decide)).trans (k11)
  have hK := did (xR_mild w8 gA gV q) hs (v := .slice (some ⟨gV, 0, none⟩) 1 1) (d := 128) (i := 4) rfl (Below.refl _ w) rfl
  refine wpOp_move hi ?_
  rw [e11]
  exact hK
set_option linter.unusedVariables false in
theorem xR_s5 (w8 : World) (gA gV : Nat) (q : Int) {ops : Array Oper} {Q : Exit → Act → World → Prop} {a0 a : Act} {w : World} {l : Nat → Bool} {ty : TypeId} {pos : String} {after : Array Edge} (k10 : a0.eval (.tmp 10) = .slice (some ⟨gA, 0, none⟩) 1 1) (k11 : a0.eval (.tmp 11) = .slice (some ⟨gV, 0, none⟩) 1 1) (k12 : a0.eval (.tmp 12) = .int .i64 q) (hkw : IntKind.u8.wrap q = q) (hP1 : ∀ W, Below w8.heap.size w8 W → ∀ ct : Int, Calls Tryz.prog 3 #[.agg #[.int .u8 q, .int .i64 ct, .slice (some ⟨gA, 0, none⟩) 1 1, .int .u8 0, .int .u8 0, .int .i64 0, .string ⟨#[]⟩, .int .i64 0, .int .u8 0, .slice none 0 0], .agg #[.int .i64 0, .int .i64 0, .slice (some ⟨gV, 0, none⟩) 1 1], .slice none 0 0, .slice none 0 0] W fun r w' => r = .returned (.bool true) ∧ Below W.heap.size W w') (hP0 : ∀ W, Below w8.heap.size w8 W → Calls Tryz.prog 3 #[.agg #[.int .u8 q, .int .i64 0, .slice (some ⟨gA, 0, none⟩) 1 1, .int .u8 0, .int .u8 0, .int .i64 0, .string ⟨#[]⟩, .int .i64 0, .int .u8 0, .slice none 0 0], .agg #[.int .i64 0, .int .i64 0, .slice none 0 0], .slice none 0 0, .slice none 0 0] W fun r w' => r = .returned (.bool true) ∧ Below W.heap.size W w') (hs : St ops xRD (xRF w8 gA gV q) (xRJ w8 gA gV q) 27 a0 l a w) (hi : ops[5]? = some { dst := some 129, op := Op.build 36 #[(2, Operand.tmp 128)], type := ty, pos := pos, after := after, guard := none }) (nl : l 5 = false) (q4 : l 4 = true) : wpOp Tryz.prog ops Q 5 (Did xRD (xRF w8 gA gV q) (xRJ w8 gA gV q) 27 l 5 a) a w := by
  have e128 : xRF w8 gA gV q l 4 w (a.eval (.tmp 128)) := hs.get (by decide) q4 rfl
  exact wpOp_bdG1 hi (by simp [Region.wanted]) e128 (did (xR_mild w8 gA gV q) hs (d := 129) (i := 5) rfl (Below.refl _ w) rfl)
set_option linter.unusedVariables false in
theorem xR_s6 (w8 : World) (gA gV : Nat) (q : Int) {ops : Array Oper} {Q : Exit → Act → World → Prop} {a0 a : Act} {w : World} {l : Nat → Bool} {ty : TypeId} {pos : String} {after : Array Edge} (k10 : a0.eval (.tmp 10) = .slice (some ⟨gA, 0, none⟩) 1 1) (k11 : a0.eval (.tmp 11) = .slice (some ⟨gV, 0, none⟩) 1 1) (k12 : a0.eval (.tmp 12) = .int .i64 q) (hkw : IntKind.u8.wrap q = q) (hP1 : ∀ W, Below w8.heap.size w8 W → ∀ ct : Int, Calls Tryz.prog 3 #[.agg #[.int .u8 q, .int .i64 ct, .slice (some ⟨gA, 0, none⟩) 1 1, .int .u8 0, .int .u8 0, .int .i64 0, .string ⟨#[]⟩, .int .i64 0, .int .u8 0, .slice none 0 0], .agg #[.int .i64 0, .int .i64 0, .slice (some ⟨gV, 0, none⟩) 1 1], .slice none 0 0, .slice none 0 0] W fun r w' => r = .returned (.bool true) ∧ Below W.heap.size W w') (hP0 : ∀ W, Below w8.heap.size w8 W → Calls Tryz.prog 3 #[.agg #[.int .u8 q, .int .i64 0, .slice (some ⟨gA, 0, none⟩) 1 1, .int .u8 0, .int .u8 0, .int .i64 0, .string ⟨#[]⟩, .int .i64 0, .int .u8 0, .slice none 0 0], .agg #[.int .i64 0, .int .i64 0, .slice none 0 0], .slice none 0 0, .slice none 0 0] W fun r w' => r = .returned (.bool true) ∧ Below W.heap.size W w') (hs : St ops xRD (xRF w8 gA gV q) (xRJ w8 gA gV q) 27 a0 l a w) (hi : ops[6]? = some { dst := some 130, op := Op.call { callee := Callee.value (Operand.func 3), args := #[Operand.tmp 127, Operand.tmp 129, Operand.const (Value.slice none 0 0), Operand.const (Value.slice none 0 0)], argTypes := #[33, 36, 37, 34] }, type := ty, pos := pos, after := after, guard := none }) (nl : l 6 = false) (q3 : l 3 = true) (q5 : l 5 = true) : wpOp Tryz.prog ops Q 6 (Did xRD (xRF w8 gA gV q) (xRJ w8 gA gV q) 27 l 6 a) a w := by
  have e127 : xRF w8 gA gV q l 3 w (a.eval (.tmp 127)) := hs.get (by decide) q3 rfl
  have e129 : xRF w8 gA gV q l 5 w (a.eval (.tmp 129)) := hs.get (by decide) q5 rfl
  have f0 : a.eval (.tmp 127) = .agg #[.int .u8 q, .int .i64 0, .slice (some ⟨gA, 0, none⟩) 1 1, .int .u8 0, .int .u8 0, .int .i64 0, .string ⟨#[]⟩, .int .i64 0, .int .u8 0, .slice none 0 0] := e127
  have f1 : a.eval (.tmp 129) = .agg #[.int .i64 0, .int .i64 0, .slice (some ⟨gV, 0, none⟩) 1 1] := e129
  refine wpOp_callW (vs := #[.agg #[.int .u8 q, .int .i64 0, .slice (some ⟨gA, 0, none⟩) 1 1, .int .u8 0, .int .u8 0, .int .i64 0, .string ⟨#[]⟩, .int .i64 0, .int .u8 0, .slice none 0 0], .agg #[.int .i64 0, .int .i64 0, .slice (some ⟨gV, 0, none⟩) 1 1], .slice none 0 0, .slice none 0 0]) hi (by simp [Region.wanted]) (enters_of Tryz.func3 (by kernel_rfl) rfl) (by simp [f0, f1, show ∀ v, a.eval (.const v) = v from fun _ => rfl]) ?_
  refine (hP1 w hs.j 0).mono ?_
  rintro e w' ⟨rfl, hb⟩
  exact ⟨_, rfl, did (xR_mild w8 gA gV q) hs (d := 130) (i := 6) rfl hb rfl⟩
set_option linter.unusedVariables false in
theorem xR_s7 (w8 : World) (gA gV : Nat) (q : Int) {ops : Array Oper} {Q : Exit → Act → World → Prop} {a0 a : Act} {w : World} {l : Nat → Bool} {ty : TypeId} {pos : String} {after : Array Edge} (k10 : a0.eval (.tmp 10) = .slice (some ⟨gA, 0, none⟩) 1 1) (k11 : a0.eval (.tmp 11) = .slice (some ⟨gV, 0, none⟩) 1 1) (k12 : a0.eval (.tmp 12) = .int .i64 q) (hkw : IntKind.u8.wrap q = q) (hP1 : ∀ W, Below w8.heap.size w8 W → ∀ ct : Int, Calls Tryz.prog 3 #[.agg #[.int .u8 q, .int .i64 ct, .slice (some ⟨gA, 0, none⟩) 1 1, .int .u8 0, .int .u8 0, .int .i64 0, .string ⟨#[]⟩, .int .i64 0, .int .u8 0, .slice none 0 0], .agg #[.int .i64 0, .int .i64 0, .slice (some ⟨gV, 0, none⟩) 1 1], .slice none 0 0, .slice none 0 0] W fun r w' => r = .returned (.bool true) ∧ Below W.heap.size W w') (hP0 : ∀ W, Below w8.heap.size w8 W → Calls Tryz.prog 3 #[.agg #[.int .u8 q, .int .i64 0, .slice (some ⟨gA, 0, none⟩) 1 1, .int .u8 0, .int .u8 0, .int .i64 0, .string ⟨#[]⟩, .int .i64 0, .int .u8 0, .slice none 0 0], .agg #[.int .i64 0, .int .i64 0, .slice none 0 0], .slice none 0 0, .slice none 0 0] W fun r w' => r = .returned (.bool true) ∧ Below W.heap.size W w') (hs : St ops xRD (xRF w8 gA gV q) (xRJ w8 gA gV q) 27 a0 l a w) (hi : ops[7]? = some { dst := some 131, op := Op.unOp UnOp.not 4 (Operand.tmp 130), type := ty, pos := pos, after := after, guard := none }) (nl : l 7 = false) (q6 : l 6 = true) : wpOp Tryz.prog ops Q 7 (Did xRD (xRF w8 gA gV q) (xRJ w8 gA gV q) 27 l 7 a) a w := by
  have e130 : xRF w8 gA gV q l 6 w (a.eval (.tmp 130)) := hs.get (by decide) q6 rfl
  have e130 : a.eval (.tmp 130) = .bool true := e130
  have hK := did (xR_mild w8 gA gV q) hs (v := .bool false) (d := 131) (i := 7) rfl (Below.refl _ w) rfl
  refine wpOp_go hi rfl ?_
  unfold Oper.wp
  have KK := Lib.hid hK
  clear hK hi
  generalize a.eval = ρ at *
  go_simp
  exact KK.out
set_option linter.unusedVariables false in
theorem xR_s8 (w8 : World) (gA gV : Nat) (q : Int) {ops : Array Oper} {Q : Exit → Act → World → Prop} {a0 a : Act} {w : World} {l : Nat → Bool} {ty : TypeId} {pos : String} {after : Array Edge} (k10 : a0.eval (.tmp 10) = .slice (some ⟨gA, 0, none⟩) 1 1) (k11 : a0.eval (.tmp 11) = .slice (some ⟨gV, 0, none⟩) 1 1) (k12 : a0.eval (.tmp 12) = .int .i64 q) (hkw : IntKind.u8.wrap q = q) (hP1 : ∀ W, Below w8.heap.size w8 W → ∀ ct : Int, Calls Tryz.prog 3 #[.agg #[.int .u8 q, .int .i64 ct, .slice (some ⟨gA, 0, none⟩) 1 1, .int .u8 0, .int .u8 0, .int .i64 0, .string ⟨#[]⟩, .int .i64 0, .int .u8 0, .slice none 0 0], .agg #[.int .i64 0, .int .i64 0, .slice (some ⟨gV, 0, none⟩) 1 1], .slice none 0 0, .slice none 0 0] W fun r w' => r = .returned (.bool true) ∧ Below W.heap.size W w') (hP0 : ∀ W, Below w8.heap.size w8 W → Calls Tryz.prog 3 #[.agg #[.int .u8 q, .int .i64 0, .slice (some ⟨gA, 0, none⟩) 1 1, .int .u8 0, .int .u8 0, .int .i64 0, .string ⟨#[]⟩, .int .i64 0, .int .u8 0, .slice none 0 0], .agg #[.int .i64 0, .int .i64 0, .slice none 0 0], .slice none 0 0, .slice none 0 0] W fun r w' => r = .returned (.bool true) ∧ Below W.heap.size W w') (hs : St ops xRD (xRF w8 gA gV q) (xRJ w8 gA gV q) 27 a0 l a w) (hi : ops[8]? = some { dst := some 132, op := Op.move (Operand.tmp 131), type := ty, pos := pos, after := after, guard := none }) (nl : l 8 = false) (q6 : l 6 = true) (q7 : l 7 = true) : wpOp Tryz.prog ops Q 8 (Did xRD (xRF w8 gA gV q) (xRJ w8 gA gV q) 27 l 8 a) a w := by
  have e131 : xRF w8 gA gV q l 7 w (a.eval (.tmp 131)) := hs.get (by decide) q7 rfl
  have e131 : a.eval (.tmp 131) = .bool false := e131
  have hK := did (xR_mild w8 gA gV q) hs (v := .bool false) (d := 132) (i := 8) rfl (Below.refl _ w) rfl
  refine wpOp_move hi ?_
  rw [e131]
  exact hK
set_option linter.unusedVariables false in
theorem xR_s9 (w8 : World) (gA gV : Nat) (q : Int) {ops : Array Oper} {Q : Exit → Act → World → Prop} {a0 a : Act} {w : World} {l : Nat → Bool} {ty : TypeId} {pos : String} {after : Array Edge} (k10 : a0.eval (.tmp 10) = .slice (some ⟨gA, 0, none⟩) 1 1) (k11 : a0.eval (.tmp 11) = .slice (some ⟨gV, 0, none⟩) 1 1) (k12 : a0.eval (.tmp 12) = .int .i64 q) (hkw : IntKind.u8.wrap q = q) (hP1 : ∀ W, Below w8.heap.size w8 W → ∀ ct : Int, Calls Tryz.prog 3 #[.agg #[.int .u8 q, .int .i64 ct, .slice (some ⟨gA, 0, none⟩) 1 1, .int .u8 0, .int .u8 0, .int .i64 0, .string ⟨#[]⟩, .int .i64 0, .int .u8 0, .slice none 0 0], .agg #[.int .i64 0, .int .i64 0, .slice (some ⟨gV, 0, none⟩) 1 1], .slice none 0 0, .slice none 0 0] W fun r w' => r = .returned (.bool true) ∧ Below W.heap.size W w') (hP0 : ∀ W, Below w8.heap.size w8 W → Calls Tryz.prog 3 #[.agg #[.int .u8 q, .int .i64 0, .slice (some ⟨gA, 0, none⟩) 1 1, .int .u8 0, .int .u8 0, .int .i64 0, .string ⟨#[]⟩, .int .i64 0, .int .u8 0, .slice none 0 0], .agg #[.int .i64 0, .int .i64 0, .slice none 0 0], .slice none 0 0, .slice none 0 0] W fun r w' => r = .returned (.bool true) ∧ Below W.heap.size W w') (hs : St ops xRD (xRF w8 gA gV q) (xRJ w8 gA gV q) 27 a0 l a w) (hi : ops[9]? = some { dst := some 133, op := Op.move (Operand.tmp 12), type := ty, pos := pos, after := after, guard := some (8, false) }) (hg : Region.wanted { dst := some 133, op := Op.move (Operand.tmp 12), type := ty, pos := pos, after := after, guard := some (8, false) } (yielded ops a.tmps) = true) (nl : l 9 = false) (q8 : l 8 = true) : wpOp Tryz.prog ops Q 9 (Did xRD (xRF w8 gA gV q) (xRJ w8 gA gV q) 27 l 9 a) a w := by
  have e12 : a.eval (.tmp 12) = .int .i64 q := (hs.kept 12 (by decide)).trans (k12)
  have hK := did (xR_mild w8 gA gV q) hs (v := .int .i64 q) (d := 133) (i := 9) rfl (Below.refl _ w) rfl
  refine wpOp_goW hi hg ?_
  unfold Oper.wp
  have KK := Lib.hid hK
  clear hK hi hg
  generalize a.eval = ρ at *
  go_simp
  exact KK.out
set_option linter.unusedVariables false in
theorem xR_s10 (w8 : World) (gA gV : Nat) (q : Int) {ops : Array Oper} {Q : Exit → Act → World → Prop} {a0 a : Act} {w : World} {l : Nat → Bool} {ty : TypeId} {pos : String} {after : Array Edge} (k10 : a0.eval (.tmp 10) = .slice (some ⟨gA, 0, none⟩) 1 1) (k11 : a0.eval (.tmp 11) = .slice (some ⟨gV, 0, none⟩) 1 1) (k12 : a0.eval (.tmp 12) = .int .i64 q) (hkw : IntKind.u8.wrap q = q) (hP1 : ∀ W, Below w8.heap.size w8 W → ∀ ct : Int, Calls Tryz.prog 3 #[.agg #[.int .u8 q, .int .i64 ct, .slice (some ⟨gA, 0, none⟩) 1 1, .int .u8 0, .int .u8 0, .int .i64 0, .string ⟨#[]⟩, .int .i64 0, .int .u8 0, .slice none 0 0], .agg #[.int .i64 0, .int .i64 0, .slice (some ⟨gV, 0, none⟩) 1 1], .slice none 0 0, .slice none 0 0] W fun r w' => r = .returned (.bool true) ∧ Below W.heap.size W w') (hP0 : ∀ W, Below w8.heap.size w8 W → Calls Tryz.prog 3 #[.agg #[.int .u8 q, .int .i64 0, .slice (some ⟨gA, 0, none⟩) 1 1, .int .u8 0, .int .u8 0, .int .i64 0, .string ⟨#[]⟩, .int .i64 0, .int .u8 0, .slice none 0 0], .agg #[.int .i64 0, .int .i64 0, .slice none 0 0], .slice none 0 0, .slice none 0 0] W fun r w' => r = .returned (.bool true) ∧ Below W.heap.size W w') (hs : St ops xRD (xRF w8 gA gV q) (xRJ w8 gA gV q) 27 a0 l a w) (hi : ops[10]? = some { dst := some 134, op := Op.convert 3 22 (Operand.tmp 133), type := ty, pos := pos, after := after, guard := some (8, false) }) (hg : Region.wanted { dst := some 134, op := Op.convert 3 22 (Operand.tmp 133), type := ty, pos := pos, after := after, guard := some (8, false) } (yielded ops a.tmps) = true) (nl : l 10 = false) (q8 : l 8 = true) (q9 : l 9 = true) : wpOp Tryz.prog ops Q 10 (Did xRD (xRF w8 gA gV q) (xRJ w8 gA gV q) 27 l 10 a) a w := by
  have e133 : xRF w8 gA gV q l 9 w (a.eval (.tmp 133)) := hs.get (by decide) q9 rfl
  have e133 : a.eval (.tmp 133) = .int .i64 q := e133
  have hK := did (xR_mild w8 gA gV q) hs (v := .int .u8 q) (d := 134) (i := 10) rfl (Below.refl _ w) rfl
  refine wpOp_goW hi hg ?_
  unfold Oper.wp
  have KK := Lib.hid hK
  clear hK hi hg
  generalize a.eval = ρ at *
  go_simp
  exact KK.out
set_option linter.unusedVariables false in
theorem xR_s11 (w8 : World) (gA gV : Nat) (q : Int) {ops : Array Oper} {Q : Exit → Act → World → Prop} {a0 a : Act} {w : World} {l : Nat → Bool} {ty : TypeId} {pos : String} {after : Array Edge} (k10 : a0.eval (.tmp 10) = .slice (some ⟨gA, 0, none⟩) 1 1) (k11 : a0.eval (.tmp 11) = .slice (some ⟨gV, 0, none⟩) 1 1) (k12 : a0.eval (.tmp 12) = .int .i64 q) (hkw : IntKind.u8.wrap q = q) (hP1 : ∀ W, Below w8.heap.size w8 W → ∀ ct : Int, Calls Tryz.prog 3 #[.agg #[.int .u8 q, .int .i64 ct, .slice (some ⟨gA, 0, none⟩) 1 1, .int .u8 0, .int .u8 0, .int .i64 0, .string ⟨#[]⟩, .int .i64 0, .int .u8 0, .slice none 0 0], .agg #[.int .i64 0, .int .i64 0, .slice (some ⟨gV, 0, none⟩) 1 1], .slice none 0 0, .slice none 0 0] W fun r w' => r = .returned (.bool true) ∧ Below W.heap.size W w') (hP0 : ∀ W, Below w8.heap.size w8 W → Calls Tryz.prog 3 #[.agg #[.int .u8 q, .int .i64 0, .slice (some ⟨gA, 0, none⟩) 1 1, .int .u8 0, .int .u8 0, .int .i64 0, .string ⟨#[]⟩, .int .i64 0, .int .u8 0, .slice none 0 0], .agg #[.int .i64 0, .int .i64 0, .slice none 0 0], .slice none 0 0, .slice none 0 0] W fun r w' => r = .returned (.bool true) ∧ Below W.heap.size W w') (hs : St ops xRD (xRF w8 gA gV q) (xRJ w8 gA gV q) 27 a0 l a w) (hi : ops[11]? = some { dst := some 135, op := Op.move (Operand.tmp 10), type := ty, pos := pos, after := after, guard := some (8, false) }) (hg : Region.wanted { dst := some 135, op := Op.move (Operand.tmp 10), type := ty, pos := pos, after := after, guard := some (8, false) } (yielded ops a.tmps) = true) (nl : l 11 = false) (q8 : l 8 = true) : wpOp Tryz.prog ops Q 11 (Did xRD (xRF w8 gA gV q) (xRJ w8 gA gV q) 27 l 11 a) a w := by
  have e10 : a.eval (.tmp 10) = .slice (some ⟨gA, 0, none⟩) 1 1 := (hs.kept 10 (by decide)).trans (k10)
  have hK := did (xR_mild w8 gA gV q) hs (v := .slice (some ⟨gA, 0, none⟩) 1 1) (d := 135) (i := 11) rfl (Below.refl _ w) rfl
  refine wpOp_goW hi hg ?_
  unfold Oper.wp
  have KK := Lib.hid hK
  clear hK hi hg
  generalize a.eval = ρ at *
  go_simp
  exact KK.out
set_option linter.unusedVariables false in
theorem xR_s12 (w8 : World) (gA gV : Nat) (q : Int) {ops : Array Oper} {Q : Exit → Act → World → Prop} {a0 a : Act} {w : World} {l : Nat → Bool} {ty : TypeId} {pos : String} {after : Array Edge} (k10 : a0.eval (.tmp 10) = .slice (some ⟨gA, 0, none⟩) 1 1) (k11 : a0.eval (.tmp 11) = .slice (some ⟨gV, 0, none⟩) 1 1) (k12 : a0.eval (.tmp 12) = .int .i64 q) (hkw : IntKind.u8.wrap q = q) (hP1 : ∀ W, Below w8.heap.size w8 W → ∀ ct : Int, Calls Tryz.prog 3 #[.agg #[.int .u8 q, .int .i64 ct, .slice (some ⟨gA, 0, none⟩) 1 1, .int .u8 0, .int .u8 0, .int .i64 0, .string ⟨#[]⟩, .int .i64 0, .int .u8 0, .slice none 0 0], .agg #[.int .i64 0, .int .i64 0, .slice (some ⟨gV, 0, none⟩) 1 1], .slice none 0 0, .slice none 0 0] W fun r w' => r = .returned (.bool true) ∧ Below W.heap.size W w') (hP0 : ∀ W, Below w8.heap.size w8 W → Calls Tryz.prog 3 #[.agg #[.int .u8 q, .int .i64 0, .slice (some ⟨gA, 0, none⟩) 1 1, .int .u8 0, .int .u8 0, .int .i64 0, .string ⟨#[]⟩, .int .i64 0, .int .u8 0, .slice none 0 0], .agg #[.int .i64 0, .int .i64 0, .slice none 0 0], .slice none 0 0, .slice none 0 0] W fun r w' => r = .returned (.bool true) ∧ Below W.heap.size W w') (hs : St ops xRD (xRF w8 gA gV q) (xRJ w8 gA gV q) 27 a0 l a w) (hi : ops[12]? = some { dst := some 136, op := Op.build 33 #[(0, Operand.tmp 134), (2, Operand.tmp 135)], type := ty, pos := pos, after := after, guard := some (8, false) }) (hg : Region.wanted { dst := some 136, op := Op.build 33 #[(0, Operand.tmp 134), (2, Operand.tmp 135)], type := ty, pos := pos, after := after, guard := some (8, false) } (yielded ops a.tmps) = true) (nl : l 12 = false) (q8 : l 8 = true) (q10 : l 10 = true) (q11 : l 11 = true) : wpOp Tryz.prog ops Q 12 (Did xRD (xRF w8 gA gV q) (xRJ w8 gA gV q) 27 l 12 a) a w := by
  have e134 : xRF w8 gA gV q l 10 w (a.eval (.tmp 134)) := hs.get (by decide) q10 rfl
  have e135 : xRF w8 gA gV q l 11 w (a.eval (.tmp 135)) := hs.get (by decide) q11 rfl
  exact wpOp_bdK2 hi hg e134 e135 (did (xR_mild w8 gA gV q) hs (d := 136) (i := 12) rfl (Below.refl _ w) rfl)
set_option linter.unusedVariables false in
theorem xR_s13 (w8 : World) (gA gV : Nat) (q : Int) {ops : Array Oper} {Q : Exit → Act → World → Prop} {a0 a : Act} {w : World} {l : Nat → Bool} {ty : TypeId} {pos : String} {after : Array Edge} (k10 : a0.eval (.tmp 10) = .slice (some ⟨gA, 0, none⟩) 1 1) (k11 : a0.eval (.tmp 11) = .slice (some ⟨gV, 0, none⟩) 1 1) (k12 : a0.eval (.tmp 12) = .int .i64 q) (hkw : IntKind.u8.wrap q = q) (hP1 : ∀ W, Below w8.heap.size w8 W → ∀ ct : Int, Calls Tryz.prog 3 #[.agg #[.int .u8 q, .int .i64 ct, .slice (some ⟨gA, 0, none⟩) 1 1, .int .u8 0, .int .u8 0, .int .i64 0, .string ⟨#[]⟩, .int .i64 0, .int .u8 0, .slice none 0 0], .agg #[.int .i64 0, .int .i64 0, .slice (some ⟨gV, 0, none⟩) 1 1], .slice none 0 0, .slice none 0 0] W fun r w' => r = .returned (.bool true) ∧ Below W.heap.size W w') (hP0 : ∀ W, Below w8.heap.size w8 W → Calls Tryz.prog 3 #[.agg #[.int .u8 q, .int .i64 0, .slice (some ⟨gA, 0, none⟩) 1 1, .int .u8 0, .int .u8 0, .int .i64 0, .string ⟨#[]⟩, .int .i64 0, .int .u8 0, .slice none 0 0], .agg #[.int .i64 0, .int .i64 0, .slice none 0 0], .slice none 0 0, .slice none 0 0] W fun r w' => r = .returned (.bool true) ∧ Below W.heap.size W w') (hs : St ops xRD (xRF w8 gA gV q) (xRJ w8 gA gV q) 27 a0 l a w) (hi : ops[13]? = some { dst := some 137, op := Op.build 36 #[], type := ty, pos := pos, after := after, guard := some (8, false) }) (hg : Region.wanted { dst := some 137, op := Op.build 36 #[], type := ty, pos := pos, after := after, guard := some (8, false) } (yielded ops a.tmps) = true) (nl : l 13 = false) (q8 : l 8 = true) : wpOp Tryz.prog ops Q 13 (Did xRD (xRF w8 gA gV q) (xRJ w8 gA gV q) 27 l 13 a) a w := by
  exact wpOp_bdG0 hi hg  (did (xR_mild w8 gA gV q) hs (d := 137) (i := 13) rfl (Below.refl _ w) rfl)
set_option linter.unusedVariables false in
theorem xR_s14 (w8 : World) (gA gV : Nat) (q : Int) {ops : Array Oper} {Q : Exit → Act → World → Prop} {a0 a : Act} {w : World} {l : Nat → Bool} {ty : TypeId} {pos : String} {after : Array Edge} (k10 : a0.eval (.tmp 10) = .slice (some ⟨gA, 0, none⟩) 1 1) (k11 : a0.eval (.tmp 11) = .slice (some ⟨gV, 0, none⟩) 1 1) (k12 : a0.eval (.tmp 12) = .int .i64 q) (hkw : IntKind.u8.wrap q = q) (hP1 : ∀ W, Below w8.heap.size w8 W → ∀ ct : Int, Calls Tryz.prog 3 #[.agg #[.int .u8 q, .int .i64 ct, .slice (some ⟨gA, 0, none⟩) 1 1, .int .u8 0, .int .u8 0, .int .i64 0, .string ⟨#[]⟩, .int .i64 0, .int .u8 0, .slice none 0 0], .agg #[.int .i64 0, .int .i64 0, .slice (some ⟨gV, 0, none⟩) 1 1], .slice none 0 0, .slice none 0 0] W fun r w' => r = .returned (.bool true) ∧ Below W.heap.size W w') (hP0 : ∀ W, Below w8.heap.size w8 W → Calls Tryz.prog 3 #[.agg #[.int .u8 q, .int .i64 0, .slice (some ⟨gA, 0, none⟩) 1 1, .int .u8 0, .int .u8 0, .int .i64 0, .string ⟨#[]⟩, .int .i64 0, .int .u8 0, .slice none 0 0], .agg #[.int .i64 0, .int .i64 0, .slice none 0 0], .slice none 0 0, .slice none 0 0] W fun r w' => r = .returned (.bool true) ∧ Below W.heap.size W w') (hs : St ops xRD (xRF w8 gA gV q) (xRJ w8 gA gV q) 27 a0 l a w) (hi : ops[14]? = some { dst := some 138, op := Op.call { callee := Callee.value (Operand.func 3), args := #[Operand.tmp 136, Operand.tmp 137, Operand.const (Value.slice none 0 0), Operand.const (Value.slice none 0 0)], argTypes := #[33, 36, 37, 34] }, type := ty, pos := pos, after := after, guard := some (8, false) }) (hg : Region.wanted { dst := some 138, op := Op.call { callee := Callee.value (Operand.func 3), args := #[Operand.tmp 136, Operand.tmp 137, Operand.const (Value.slice none 0 0), Operand.const (Value.slice none 0 0)], argTypes := #[33, 36, 37, 34] }, type := ty, pos := pos, after := after, guard := some (8, false) } (yielded ops a.tmps) = true) (nl : l 14 = false) (q8 : l 8 = true) (q12 : l 12 = true) (q13 : l 13 = true) : wpOp Tryz.prog ops Q 14 (Did xRD (xRF w8 gA gV q) (xRJ w8 gA gV q) 27 l 14 a) a w := by
  have e136 : xRF w8 gA gV q l 12 w (a.eval (.tmp 136)) := hs.get (by decide) q12 rfl
  have e137 : xRF w8 gA gV q l 13 w (a.eval (.tmp 137)) := hs.get (by decide) q13 rfl
  have f0 : a.eval (.tmp 136) = .agg #[.int .u8 q, .int .i64 0, .slice (some ⟨gA, 0, none⟩) 1 1, .int .u8 0, .int .u8 0, .int .i64 0, .string ⟨#[]⟩, .int .i64 0, .int .u8 0, .slice none 0 0] := e136
  have f1 : a.eval (.tmp 137) = .agg #[.int .i64 0, .int .i64 0, .slice none 0 0] := e137
  refine wpOp_callW (vs := #[.agg #[.int .u8 q, .int .i64 0, .slice (some ⟨gA, 0, none⟩) 1 1, .int .u8 0, .int .u8 0, .int .i64 0, .string ⟨#[]⟩, .int .i64 0, .int .u8 0, .slice none 0 0], .agg #[.int .i64 0, .int .i64 0, .slice none 0 0], .slice none 0 0, .slice none 0 0]) hi hg (enters_of Tryz.func3 (by kernel_rfl) rfl) (by simp [f0, f1, show ∀ v, a.eval (.const v) = v from fun _ => rfl]) ?_
  refine (hP0 w hs.j).mono ?_
  rintro e w' ⟨rfl, hb⟩
  exact ⟨_, rfl, did (xR_mild w8 gA gV q) hs (d := 138) (i := 14) rfl hb rfl⟩
set_option linter.unusedVariables false in
theorem xR_s15 (w8 : World) (gA gV : Nat) (q : Int) {ops : Array Oper} {Q : Exit → Act → World → Prop} {a0 a : Act} {w : World} {l : Nat → Bool} {ty : TypeId} {pos : String} {after : Array Edge} (k10 : a0.eval (.tmp 10) = .slice (some ⟨gA, 0, none⟩) 1 1) (k11 : a0.eval (.tmp 11) = .slice (some ⟨gV, 0, none⟩) 1 1) (k12 : a0.eval (.tmp 12) = .int .i64 q) (hkw : IntKind.u8.wrap q = q) (hP1 : ∀ W, Below w8.heap.size w8 W → ∀ ct : Int, Calls Tryz.prog 3 #[.agg #[.int .u8 q, .int .i64 ct, .slice (some ⟨gA, 0, none⟩) 1 1, .int .u8 0, .int .u8 0, .int .i64 0, .string ⟨#[]⟩, .int .i64 0, .int .u8 0, .slice none 0 0], .agg #[.int .i64 0, .int .i64 0, .slice (some ⟨gV, 0, none⟩) 1 1], .slice none 0 0, .slice none 0 0] W fun r w' => r = .returned (.bool true) ∧ Below W.heap.size W w') (hP0 : ∀ W, Below w8.heap.size w8 W → Calls Tryz.prog 3 #[.agg #[.int .u8 q, .int .i64 0, .slice (some ⟨gA, 0, none⟩) 1 1, .int .u8 0, .int .u8 0, .int .i64 0, .string ⟨#[]⟩, .int .i64 0, .int .u8 0, .slice none 0 0], .agg #[.int .i64 0, .int .i64 0, .slice none 0 0], .slice none 0 0, .slice none 0 0] W fun r w' => r = .returned (.bool true) ∧ Below W.heap.size W w') (hs : St ops xRD (xRF w8 gA gV q) (xRJ w8 gA gV q) 27 a0 l a w) (hi : ops[15]? = some { dst := some 139, op := Op.unOp UnOp.not 4 (Operand.tmp 138), type := ty, pos := pos, after := after, guard := some (8, false) }) (hg : Region.wanted { dst := some 139, op := Op.unOp UnOp.not 4 (Operand.tmp 138), type := ty, pos := pos, after := after, guard := some (8, false) } (yielded ops a.tmps) = true) (nl : l 15 = false) (q8 : l 8 = true) (q14 : l 14 = true) : wpOp Tryz.prog ops Q 15 (Did xRD (xRF w8 gA gV q) (xRJ w8 gA gV q) 27 l 15 a) a w := by
  have e138 : xRF w8 gA gV q l 14 w (a.eval (.tmp 138)) := hs.get (by decide) q14 rfl
  have e138 : a.eval (.tmp 138) = .bool true := e138
  have hK := did (xR_mild w8 gA gV q) hs (v := .bool false) (d := 139) (i := 15) rfl (Below.refl _ w) rfl
  refine wpOp_goW hi hg ?_
  unfold Oper.wp
  have KK := Lib.hid hK
  clear hK hi hg
  generalize a.eval = ρ at *
  go_simp
  exact KK.out
set_option linter.unusedVariables false in
theorem xR_s16 (w8 : World) (gA gV : Nat) (q : Int) {ops : Array Oper} {Q : Exit → Act → World → Prop} {a0 a : Act} {w : World} {l : Nat → Bool} {ty : TypeId} {pos : String} {after : Array Edge} (k10 : a0.eval (.tmp 10) = .slice (some ⟨gA, 0, none⟩) 1 1) (k11 : a0.eval (.tmp 11) = .slice (some ⟨gV, 0, none⟩) 1 1) (k12 : a0.eval (.tmp 12) = .int .i64 q) (hkw : IntKind.u8.wrap q = q) (hP1 : ∀ W, Below w8.heap.size w8 W → ∀ ct : Int, Calls Tryz.prog 3 #[.agg #[.int .u8 q, .int .i64 ct, .slice (some ⟨gA, 0, none⟩) 1 1, .int .u8 0, .int .u8 0, .int .i64 0, .string ⟨#[]⟩, .int .i64 0, .int .u8 0, .slice none 0 0], .agg #[.int .i64 0, .int .i64 0, .slice (some ⟨gV, 0, none⟩) 1 1], .slice none 0 0, .slice none 0 0] W fun r w' => r = .returned (.bool true) ∧ Below W.heap.size W w') (hP0 : ∀ W, Below w8.heap.size w8 W → Calls Tryz.prog 3 #[.agg #[.int .u8 q, .int .i64 0, .slice (some ⟨gA, 0, none⟩) 1 1, .int .u8 0, .int .u8 0, .int .i64 0, .string ⟨#[]⟩, .int .i64 0, .int .u8 0, .slice none 0 0], .agg #[.int .i64 0, .int .i64 0, .slice none 0 0], .slice none 0 0, .slice none 0 0] W fun r w' => r = .returned (.bool true) ∧ Below W.heap.size W w') (hs : St ops xRD (xRF w8 gA gV q) (xRJ w8 gA gV q) 27 a0 l a w) (hi : ops[16]? = some { dst := some 140, op := Op.pick (Operand.tmp 132) (Operand.const (Value.bool true)) (Operand.tmp 139), type := ty, pos := pos, after := after, guard := none }) (nl : l 16 = false) (q8 : l 8 = true) (q15 : l 15 = true) : wpOp Tryz.prog ops Q 16 (Did xRD (xRF w8 gA gV q) (xRJ w8 gA gV q) 27 l 16 a) a w := by
  have e132 : xRF w8 gA gV q l 8 w (a.eval (.tmp 132)) := hs.get (by decide) q8 rfl
  have e139 : xRF w8 gA gV q l 15 w (a.eval (.tmp 139)) := hs.get (by decide) q15 rfl
  have e132 : a.eval (.tmp 132) = .bool false := e132
  have e139 : a.eval (.tmp 139) = .bool false := e139
  have hK := did (xR_mild w8 gA gV q) hs (v := .bool false) (d := 140) (i := 16) rfl (Below.refl _ w) rfl
  refine wpOp_go hi rfl ?_
  unfold Oper.wp
  have KK := Lib.hid hK
  clear hK hi
  generalize a.eval = ρ at *
  go_simp
  exact KK.out
set_option linter.unusedVariables false in
theorem xR_s17 (w8 : World) (gA gV : Nat) (q : Int) {ops : Array Oper} {Q : Exit → Act → World → Prop} {a0 a : Act} {w : World} {l : Nat → Bool} {ty : TypeId} {pos : String} {after : Array Edge} (k10 : a0.eval (.tmp 10) = .slice (some ⟨gA, 0, none⟩) 1 1) (k11 : a0.eval (.tmp 11) = .slice (some ⟨gV, 0, none⟩) 1 1) (k12 : a0.eval (.tmp 12) = .int .i64 q) (hkw : IntKind.u8.wrap q = q) (hP1 : ∀ W, Below w8.heap.size w8 W → ∀ ct : Int, Calls Tryz.prog 3 #[.agg #[.int .u8 q, .int .i64 ct, .slice (some ⟨gA, 0, none⟩) 1 1, .int .u8 0, .int .u8 0, .int .i64 0, .string ⟨#[]⟩, .int .i64 0, .int .u8 0, .slice none 0 0], .agg #[.int .i64 0, .int .i64 0, .slice (some ⟨gV, 0, none⟩) 1 1], .slice none 0 0, .slice none 0 0] W fun r w' => r = .returned (.bool true) ∧ Below W.heap.size W w') (hP0 : ∀ W, Below w8.heap.size w8 W → Calls Tryz.prog 3 #[.agg #[.int .u8 q, .int .i64 0, .slice (some ⟨gA, 0, none⟩) 1 1, .int .u8 0, .int .u8 0, .int .i64 0, .string ⟨#[]⟩, .int .i64 0, .int .u8 0, .slice none 0 0], .agg #[.int .i64 0, .int .i64 0, .slice none 0 0], .slice none 0 0, .slice none 0 0] W fun r w' => r = .returned (.bool true) ∧ Below W.heap.size W w') (hs : St ops xRD (xRF w8 gA gV q) (xRJ w8 gA gV q) 27 a0 l a w) (hi : ops[17]? = some { dst := some 141, op := Op.move (Operand.tmp 140), type := ty, pos := pos, after := after, guard := none }) (nl : l 17 = false) (q14 : l 14 = true) (q16 : l 16 = true) : wpOp Tryz.prog ops Q 17 (Did xRD (xRF w8 gA gV q) (xRJ w8 gA gV q) 27 l 17 a) a w := by
  have e140 : xRF w8 gA gV q l 16 w (a.eval (.tmp 140)) := hs.get (by decide) q16 rfl
  have e140 : a.eval (.tmp 140) = .bool false := e140
  have hK := did (xR_mild w8 gA gV q) hs (v := .bool false) (d := 141) (i := 17) rfl (Below.refl _ w) rfl
  refine wpOp_move hi ?_
  rw [e140]
  exact hK
set_option linter.unusedVariables false in
theorem xR_s18 (w8 : World) (gA gV : Nat) (q : Int) {ops : Array Oper} {Q : Exit → Act → World → Prop} {a0 a : Act} {w : World} {l : Nat → Bool} {ty : TypeId} {pos : String} {after : Array Edge} (k10 : a0.eval (.tmp 10) = .slice (some ⟨gA, 0, none⟩) 1 1) (k11 : a0.eval (.tmp 11) = .slice (some ⟨gV, 0, none⟩) 1 1) (k12 : a0.eval (.tmp 12) = .int .i64 q) (hkw : IntKind.u8.wrap q = q) (hP1 : ∀ W, Below w8.heap.size w8 W → ∀ ct : Int, Calls Tryz.prog 3 #[.agg #[.int .u8 q, .int .i64 ct, .slice (some ⟨gA, 0, none⟩) 1 1, .int .u8 0, .int .u8 0, .int .i64 0, .string ⟨#[]⟩, .int .i64 0, .int .u8 0, .slice none 0 0], .agg #[.int .i64 0, .int .i64 0, .slice (some ⟨gV, 0, none⟩) 1 1], .slice none 0 0, .slice none 0 0] W fun r w' => r = .returned (.bool true) ∧ Below W.heap.size W w') (hP0 : ∀ W, Below w8.heap.size w8 W → Calls Tryz.prog 3 #[.agg #[.int .u8 q, .int .i64 0, .slice (some ⟨gA, 0, none⟩) 1 1, .int .u8 0, .int .u8 0, .int .i64 0, .string ⟨#[]⟩, .int .i64 0, .int .u8 0, .slice none 0 0], .agg #[.int .i64 0, .int .i64 0, .slice none 0 0], .slice none 0 0, .slice none 0 0] W fun r w' => r = .returned (.bool true) ∧ Below W.heap.size W w') (hs : St ops xRD (xRF w8 gA gV q) (xRJ w8 gA gV q) 27 a0 l a w) (hi : ops[18]? = some { dst := some 142, op := Op.move (Operand.tmp 12), type := ty, pos := pos, after := after, guard := some (17, false) }) (hg : Region.wanted { dst := some 142, op := Op.move (Operand.tmp 12), type := ty, pos := pos, after := after, guard := some (17, false) } (yielded ops a.tmps) = true) (nl : l 18 = false) (q17 : l 17 = true) : wpOp Tryz.prog ops Q 18 (Did xRD (xRF w8 gA gV q) (xRJ w8 gA gV q) 27 l 18 a) a w := by
  have e12 : a.eval (.tmp 12) = .int .i64 q := (hs.kept 12 (by decide)).trans (k12)
  have hK := did (xR_mild w8 gA gV q) hs (v := .int .i64 q) (d := 142) (i := 18) rfl (Below.refl _ w) rfl
  refine wpOp_goW hi hg ?_
  unfold Oper.wp
  have KK := Lib.hid hK
  clear hK hi hg
  generalize a.eval = ρ at *
  go_simp
  exact KK.out
set_option linter.unusedVariables false in
theorem xR_s19 (w8 : World) (gA gV : Nat) (q : Int) {ops : Array Oper} {Q : Exit → Act → World → Prop} {a0 a : Act} {w : World} {l : Nat → Bool} {ty : TypeId} {pos : String} {after : Array Edge} (k10 : a0.eval (.tmp 10) = .slice (some ⟨gA, 0, none⟩) 1 1) (k11 : a0.eval (.tmp 11) = .slice (some ⟨gV, 0, none⟩) 1 1) (k12 : a0.eval (.tmp 12) = .int .i64 q) (hkw : IntKind.u8.wrap q = q) (hP1 : ∀ W, Below w8.heap.size w8 W → ∀ ct : Int, Calls Tryz.prog 3 #[.agg #[.int .u8 q, .int .i64 ct, .slice (some ⟨gA, 0, none⟩) 1 1, .int .u8 0, .int .u8 0, .int .i64 0, .string ⟨#[]⟩, .int .i64 0, .int .u8 0, .slice none 0 0], .agg #[.int .i64 0, .int .i64 0, .slice (some ⟨gV, 0, none⟩) 1 1], .slice none 0 0, .slice none 0 0] W fun r w' => r = .returned (.bool true) ∧ Below W.heap.size W w') (hP0 : ∀ W, Below w8.heap.size w8 W → Calls Tryz.prog 3 #[.agg #[.int .u8 q, .int .i64 0, .slice (some ⟨gA, 0, none⟩) 1 1, .int .u8 0, .int .u8 0, .int .i64 0, .string ⟨#[]⟩, .int .i64 0, .int .u8 0, .slice none 0 0], .agg #[.int .i64 0, .int .i64 0, .slice none 0 0], .slice none 0 0, .slice none 0 0] W fun r w' => r = .returned (.bool true) ∧ Below W.heap.size W w') (hs : St ops xRD (xRF w8 gA gV q) (xRJ w8 gA gV q) 27 a0 l a w) (hi : ops[19]? = some { dst := some 143, op := Op.convert 3 22 (Operand.tmp 142), type := ty, pos := pos, after := after, guard := some (17, false) }) (hg : Region.wanted { dst := some 143, op := Op.convert 3 22 (Operand.tmp 142), type := ty, pos := pos, after := after, guard := some (17, false) } (yielded ops a.tmps) = true) (nl : l 19 = false) (q17 : l 17 = true) (q18 : l 18 = true) : wpOp Tryz.prog ops Q 19 (Did xRD (xRF w8 gA gV q) (xRJ w8 gA gV q) 27 l 19 a) a w := by
  have e142 : xRF w8 gA gV q l 18 w (a.eval (.tmp 142)) := hs.get (by decide) q18 rfl
  have e142 : a.eval (.tmp 142) = .int .i64 q := e142
  have hK := did (xR_mild w8 gA gV q) hs (v := .int .u8 q) (d := 143) (i := 19) rfl (Below.refl _ w) rfl
  refine wpOp_goW hi hg ?_
  unfold Oper.wp
  have KK := Lib.hid hK
  clear hK hi hg
  generalize a.eval = ρ at *
  go_simp
  exact KK.out
set_option linter.unusedVariables false in
theorem xR_s20 (w8 : World) (gA gV : Nat) (q : Int) {ops : Array Oper} {Q : Exit → Act → World → Prop} {a0 a : Act} {w : World} {l : Nat → Bool} {ty : TypeId} {pos : String} {after : Array Edge} (k10 : a0.eval (.tmp 10) = .slice (some ⟨gA, 0, none⟩) 1 1) (k11 : a0.eval (.tmp 11) = .slice (some ⟨gV, 0, none⟩) 1 1) (k12 : a0.eval (.tmp 12) = .int .i64 q) (hkw : IntKind.u8.wrap q = q) (hP1 : ∀ W, Below w8.heap.size w8 W → ∀ ct : Int, Calls Tryz.prog 3 #[.agg #[.int .u8 q, .int .i64 ct, .slice (some ⟨gA, 0, none⟩) 1 1, .int .u8 0, .int .u8 0, .int .i64 0, .string ⟨#[]⟩, .int .i64 0, .int .u8 0, .slice none 0 0], .agg #[.int .i64 0, .int .i64 0, .slice (some ⟨gV, 0, none⟩) 1 1], .slice none 0 0, .slice none 0 0] W fun r w' => r = .returned (.bool true) ∧ Below W.heap.size W w') (hP0 : ∀ W, Below w8.heap.size w8 W → Calls Tryz.prog 3 #[.agg #[.int .u8 q, .int .i64 0, .slice (some ⟨gA, 0, none⟩) 1 1, .int .u8 0, .int .u8 0, .int .i64 0, .string ⟨#[]⟩, .int .i64 0, .int .u8 0, .slice none 0 0], .agg #[.int .i64 0, .int .i64 0, .slice none 0 0], .slice none 0 0, .slice none 0 0] W fun r w' => r = .returned (.bool true) ∧ Below W.heap.size W w') (hs : St ops xRD (xRF w8 gA gV q) (xRJ w8 gA gV q) 27 a0 l a w) (hi : ops[20]? = some { dst := some 144, op := Op.move (Operand.tmp 10), type := ty, pos := pos, after := after, guard := some (17, false) }) (hg : Region.wanted { dst := some 144, op := Op.move (Operand.tmp 10), type := ty, pos := pos, after := after, guard := some (17, false) } (yielded ops a.tmps) = true) (nl : l 20 = false) (q17 : l 17 = true) : wpOp Tryz.prog ops Q 20 (Did xRD (xRF w8 gA gV q) (xRJ w8 gA gV q) 27 l 20 a) a w := by
  have e10 : a.eval (.tmp 10) = .slice (some ⟨gA, 0, none⟩) 1 1 := (hs.kept 10 (by decide)).trans (k10)
  have hK := did (xR_mild w8 gA gV q) hs (v := .slice (some ⟨gA, 0, none⟩) 1 1) (d := 144) (i := 20) rfl (Below.refl _ w) rfl
  refine wpOp_goW hi hg ?_
  unfold Oper.wp
  have KK := Lib.hid hK
  clear hK hi hg
  generalize a.eval = ρ at *
  go_simp
  exact KK.out
set_option linter.unusedVariables false in
theorem xR_s21 (w8 : World) (gA gV : Nat) (q : Int) {ops : Array Oper} {Q : Exit → Act → World → Prop} {a0 a : Act} {w : World} {l : Nat → Bool} {ty : TypeId} {pos : String} {after : Array Edge} (k10 : a0.eval (.tmp 10) = .slice (some ⟨gA, 0, none⟩) 1 1) (k11 : a0.eval (.tmp 11) = .slice (some ⟨gV, 0, none⟩) 1 1) (k12 : a0.eval (.tmp 12) = .int .i64 q) (hkw : IntKind.u8.wrap q = q) (hP1 : ∀ W, Below w8.heap.size w8 W → ∀ ct : Int, Calls Tryz.prog 3 #[.agg #[.int .u8 q, .int .i64 ct, .slice (some ⟨gA, 0, none⟩) 1 1, .int .u8 0, .int .u8 0, .int .i64 0, .string ⟨#[]⟩, .int .i64 0, .int .u8 0, .slice none 0 0], .agg #[.int .i64 0, .int .i64 0, .slice (some ⟨gV, 0, none⟩) 1 1], .slice none 0 0, .slice none 0 0] W fun r w' => r = .returned (.bool true) ∧ Below W.heap.size W w') (hP0 : ∀ W, Below w8.heap.size w8 W → Calls Tryz.prog 3 #[.agg #[.int .u8 q, .int .i64 0, .slice (some ⟨gA, 0, none⟩) 1 1, .int .u8 0, .int .u8 0, .int .i64 0, .string ⟨#[]⟩, .int .i64 0, .int .u8 0, .slice none 0 0], .agg #[.int .i64 0, .int .i64 0, .slice none 0 0], .slice none 0 0, .slice none 0 0] W fun r w' => r = .returned (.bool true) ∧ Below W.heap.size W w') (hs : St ops xRD (xRF w8 gA gV q) (xRJ w8 gA gV q) 27 a0 l a w) (hi : ops[21]? = some { dst := some 145, op := Op.build 33 #[(0, Operand.tmp 143), (2, Operand.tmp 144), (1, Operand.const (Value.int IntKind.i64 1))], type := ty, pos := pos, after := after, guard := some (17, false) }) (hg : Region.wanted { dst := some 145, op := Op.build 33 #[(0, Operand.tmp 143), (2, Operand.tmp 144), (1, Operand.const (Value.int IntKind.i64 1))], type := ty, pos := pos, after := after, guard := some (17, false) } (yielded ops a.tmps) = true) (nl : l 21 = false) (q17 : l 17 = true) (q19 : l 19 = true) (q20 : l 20 = true) : wpOp Tryz.prog ops Q 21 (Did xRD (xRF w8 gA gV q) (xRJ w8 gA gV q) 27 l 21 a) a w := by
  have e143 : xRF w8 gA gV q l 19 w (a.eval (.tmp 143)) := hs.get (by decide) q19 rfl
  have e144 : xRF w8 gA gV q l 20 w (a.eval (.tmp 144)) := hs.get (by decide) q20 rfl
  exact wpOp_bdK3 hi hg e143 e144 (did (xR_mild w8 gA gV q) hs (d := 145) (i := 21) rfl (Below.refl _ w) rfl)
set_option linter.unusedVariables false in
theorem xR_s22 (w8 : World) (gA gV : Nat) (q : Int) {ops : Array Oper} {Q : Exit → Act → World → Prop} {a0 a : Act} {w : World} {l : Nat → Bool} {ty : TypeId} {pos : String} {after : Array Edge} (k10 : a0.eval (.tmp 10) = .slice (some ⟨gA, 0, none⟩) 1 1) (k11 : a0.eval (.tmp 11) = .slice (some ⟨gV, 0, none⟩) 1 1) (k12 : a0.eval (.tmp 12) = .int .i64 q) (hkw : IntKind.u8.wrap q = q) (hP1 : ∀ W, Below w8.heap.size w8 W → ∀ ct : Int, Calls Tryz.prog 3 #[.agg #[.int .u8 q, .int .i64 ct, .slice (some ⟨gA, 0, none⟩) 1 1, .int .u8 0, .int .u8 0, .int .i64 0, .string ⟨#[]⟩, .int .i64 0, .int .u8 0, .slice none 0 0], .agg #[.int .i64 0, .int .i64 0, .slice (some ⟨gV, 0, none⟩) 1 1], .slice none 0 0, .slice none 0 0] W fun r w' => r = .returned (.bool true) ∧ Below W.heap.size W w') (hP0 : ∀ W, Below w8.heap.size w8 W → Calls Tryz.prog 3 #[.agg #[.int .u8 q, .int .i64 0, .slice (some ⟨gA, 0, none⟩) 1 1, .int .u8 0, .int .u8 0, .int .i64 0, .string ⟨#[]⟩, .int .i64 0, .int .u8 0, .slice none 0 0], .agg #[.int .i64 0, .int .i64 0, .slice none 0 0], .slice none 0 0, .slice none 0 0] W fun r w' => r = .returned (.bool true) ∧ Below W.heap.size W w') (hs : St ops xRD (xRF w8 gA gV q) (xRJ w8 gA gV q) 27 a0 l a w) (hi : ops[22]? = some { dst := some 146, op := Op.move (Operand.tmp 11), type := ty, pos := pos, after := after, guard := some (17, false) }) (hg : Region.wanted { dst := some 146, op := Op.move (Operand.tmp 11), type := ty, pos := pos, after := after, guard := some (17, false) } (yielded ops a.tmps) = true) (nl : l 22 = false) (q17 : l 17 = true) : wpOp Tryz.prog ops Q 22 (Did xRD (xRF w8 gA gV q) (xRJ w8 gA gV q) 27 l 22 a) a w := by
  have e11 : a.eval (.tmp 11) = .slice (some ⟨gV, 0, none⟩) 1 1 := (hs.kept 11 (by decide)).trans (k11)
  have hK := did (xR_mild w8 gA gV q) hs (v := .slice (some ⟨gV, 0, none⟩) 1 1) (d := 146) (i := 22) rfl (Below.refl _ w) rfl
  refine wpOp_goW hi hg ?_
  unfold Oper.wp
  have KK := Lib.hid hK
  clear hK hi hg
  generalize a.eval = ρ at *
  go_simp
  exact KK.out
set_option linter.unusedVariables false in
theorem xR_s23 (w8 : World) (gA gV : Nat) (q : Int) {ops : Array Oper} {Q : Exit → Act → World → Prop} {a0 a : Act} {w : World} {l : Nat → Bool} {ty : TypeId} {pos : String} {after : Array Edge} (k10 : a0.eval (.tmp 10) = .slice (some ⟨gA, 0, none⟩) 1 1) (k11 : a0.eval (.tmp 11) = .slice (some ⟨gV, 0, none⟩) 1 1) (k12 : a0.eval (.tmp 12) = .int .i64 q) (hkw : IntKind.u8.wrap q = q) (hP1 : ∀ W, Below w8.heap.size w8 W → ∀ ct : Int, Calls Tryz.prog 3 #[.agg #[.int .u8 q, .int .i64 ct, .slice (some ⟨gA, 0, none⟩) 1 1, .int .u8 0, .int .u8 0, .int .i64 0, .string ⟨#[]⟩, .int .i64 0, .int .u8 0, .slice none 0 0], .agg #[.int .i64 0, .int .i64 0, .slice (some ⟨gV, 0, none⟩) 1 1], .slice none 0 0, .slice none 0 0] W fun r w' => r = .returned (.bool true) ∧ Below W.heap.size W w') (hP0 : ∀ W, Below w8.heap.size w8 W → Calls Tryz.prog 3 #[.agg #[.int .u8 q, .int .i64 0, .slice (some ⟨gA, 0, none⟩) 1 1, .int .u8 0, .int .u8 0, .int .i64 0, .string ⟨#[]⟩, .int .i64 0, .int .u8 0, .slice none 0 0], .agg #[.int .i64 0, .int .i64 0, .slice none 0 0], .slice none 0 0, .slice none 0 0] W fun r w' => r = .returned (.bool true) ∧ Below W.heap.size W w') (hs : St ops xRD (xRF w8 gA gV q) (xRJ w8 gA gV q) 27 a0 l a w) (hi : ops[23]? = some { dst := some 147, op := Op.build 36 #[(2, Operand.tmp 146)], type := ty, pos := pos, after := after, guard := some (17, false) }) (hg : Region.wanted { dst := some 147, op := Op.build 36 #[(2, Operand.tmp 146)], type := ty, pos := pos, after := after, guard := some (17, false) } (yielded ops a.tmps) = true) (nl : l 23 = false) (q17 : l 17 = true) (q22 : l 22 = true) : wpOp Tryz.prog ops Q 23 (Did xRD (xRF w8 gA gV q) (xRJ w8 gA gV q) 27 l 23 a) a w := by
  have e146 : xRF w8 gA gV q l 22 w (a.eval (.tmp 146)) := hs.get (by decide) q22 rfl
  exact wpOp_bdG1 hi hg e146 (did (xR_mild w8 gA gV q) hs (d := 147) (i := 23) rfl (Below.refl _ w) rfl)
set_option linter.unusedVariables false in
theorem xR_s24 (w8 : World) (gA gV : Nat) (q : Int) {ops : Array Oper} {Q : Exit → Act → World → Prop} {a0 a : Act} {w : World} {l : Nat → Bool} {ty : TypeId} {pos : String} {after : Array Edge} (k10 : a0.eval (.tmp 10) = .slice (some ⟨gA, 0, none⟩) 1 1) (k11 : a0.eval (.tmp 11) = .slice (some ⟨gV, 0, none⟩) 1 1) (k12 : a0.eval (.tmp 12) = .int .i64 q) (hkw : IntKind.u8.wrap q = q) (hP1 : ∀ W, Below w8.heap.size w8 W → ∀ ct : Int, Calls Tryz.prog 3 #[.agg #[.int .u8 q, .int .i64 ct, .slice (some ⟨gA, 0, none⟩) 1 1, .int .u8 0, .int .u8 0, .int .i64 0, .string ⟨#[]⟩, .int .i64 0, .int .u8 0, .slice none 0 0], .agg #[.int .i64 0, .int .i64 0, .slice (some ⟨gV, 0, none⟩) 1 1], .slice none 0 0, .slice none 0 0] W fun r w' => r = .returned (.bool true) ∧ Below W.heap.size W w') (hP0 : ∀ W, Below w8.heap.size w8 W → Calls Tryz.prog 3 #[.agg #[.int .u8 q, .int .i64 0, .slice (some ⟨gA, 0, none⟩) 1 1, .int .u8 0, .int .u8 0, .int .i64 0, .string ⟨#[]⟩, .int .i64 0, .int .u8 0, .slice none 0 0], .agg #[.int .i64 0, .int .i64 0, .slice none 0 0], .slice none 0 0, .slice none 0 0] W fun r w' => r = .returned (.bool true) ∧ Below W.heap.size W w') (hs : St ops xRD (xRF w8 gA gV q) (xRJ w8 gA gV q) 27 a0 l a w) (hi : ops[24]? = some { dst := some 148, op := Op.call { callee := Callee.value (Operand.func 3), args := #[Operand.tmp 145, Operand.tmp 147, Operand.const (Value.slice none 0 0), Operand.const (Value.slice none 0 0)], argTypes := #[33, 36, 37, 34] }, type := ty, pos := pos, after := after, guard := some (17, false) }) (hg : Region.wanted { dst := some 148, op := Op.call { callee := Callee.value (Operand.func 3), args := #[Operand.tmp 145, Operand.tmp 147, Operand.const (Value.slice none 0 0), Operand.const (Value.slice none 0 0)], argTypes := #[33, 36, 37, 34] }, type := ty, pos := pos, after := after, guard := some (17, false) } (yielded ops a.tmps) = true) (nl : l 24 = false) (q17 : l 17 = true) (q21 : l 21 = true) (q23 : l 23 = true) : wpOp Tryz.prog ops Q 24 (Did xRD (xRF w8 gA gV q) (xRJ w8 gA gV q) 27 l 24 a) a w := by
  have e145 : xRF w8 gA gV q l 21 w (a.eval (.tmp 145)) := hs.get (by decide) q21 rfl
  have e147 : xRF w8 gA gV q l 23 w (a.eval (.tmp 147)) := hs.get (by decide) q23 rfl
  have f0 : a.eval (.tmp 145) = .agg #[.int .u8 q, .int .i64 1, .slice (some ⟨gA, 0, none⟩) 1 1, .int .u8 0, .int .u8 0, .int .i64 0, .string ⟨#[]⟩, .int .i64 0, .int .u8 0, .slice none 0 0] := e145
  have f1 : a.eval (.tmp 147) = .agg #[.int .i64 0, .int .i64 0, .slice (some ⟨gV, 0, none⟩) 1 1] := e147
  refine wpOp_callW (vs := #[.agg #[.int .u8 q, .int .i64 1, .slice (some ⟨gA, 0, none⟩) 1 1, .int .u8 0, .int .u8 0, .int .i64 0, .string ⟨#[]⟩, .int .i64 0, .int .u8 0, .slice none 0 0], .agg #[.int .i64 0, .int .i64 0, .slice (some ⟨gV, 0, none⟩) 1 1], .slice none 0 0, .slice none 0 0]) hi hg (enters_of Tryz.func3 (by kernel_rfl) rfl) (by simp [f0, f1, show ∀ v, a.eval (.const v) = v from fun _ => rfl]) ?_
  refine (hP1 w hs.j 1).mono ?_
  rintro e w' ⟨rfl, hb⟩
  exact ⟨_, rfl, did (xR_mild w8 gA gV q) hs (d := 148) (i := 24) rfl hb rfl⟩
set_option linter.unusedVariables false in
theorem xR_s25 (w8 : World) (gA gV : Nat) (q : Int) {ops : Array Oper} {Q : Exit → Act → World → Prop} {a0 a : Act} {w : World} {l : Nat → Bool} {ty : TypeId} {pos : String} {after : Array Edge} (k10 : a0.eval (.tmp 10) = .slice (some ⟨gA, 0, none⟩) 1 1) (k11 : a0.eval (.tmp 11) = .slice (some ⟨gV, 0, none⟩) 1 1) (k12 : a0.eval (.tmp 12) = .int .i64 q) (hkw : IntKind.u8.wrap q = q) (hP1 : ∀ W, Below w8.heap.size w8 W → ∀ ct : Int, Calls Tryz.prog 3 #[.agg #[.int .u8 q, .int .i64 ct, .slice (some ⟨gA, 0, none⟩) 1 1, .int .u8 0, .int .u8 0, .int .i64 0, .string ⟨#[]⟩, .int .i64 0, .int .u8 0, .slice none 0 0], .agg #[.int .i64 0, .int .i64 0, .slice (some ⟨gV, 0, none⟩) 1 1], .slice none 0 0, .slice none 0 0] W fun r w' => r = .returned (.bool true) ∧ Below W.heap.size W w') (hP0 : ∀ W, Below w8.heap.size w8 W → Calls Tryz.prog 3 #[.agg #[.int .u8 q, .int .i64 0, .slice (some ⟨gA, 0, none⟩) 1 1, .int .u8 0, .int .u8 0, .int .i64 0, .string ⟨#[]⟩, .int .i64 0, .int .u8 0, .slice none 0 0], .agg #[.int .i64 0, .int .i64 0, .slice none 0 0], .slice none 0 0, .slice none 0 0] W fun r w' => r = .returned (.bool true) ∧ Below W.heap.size W w') (hs : St ops xRD (xRF w8 gA gV q) (xRJ w8 gA gV q) 27 a0 l a w) (hi : ops[25]? = some { dst := some 149, op := Op.unOp UnOp.not 4 (Operand.tmp 148), type := ty, pos := pos, after := after, guard := some (17, false) }) (hg : Region.wanted { dst := some 149, op := Op.unOp UnOp.not 4 (Operand.tmp 148), type := ty, pos := pos, after := after, guard := some (17, false) } (yielded ops a.tmps) = true) (nl : l 25 = false) (q17 : l 17 = true) (q24 : l 24 = true) : wpOp Tryz.prog ops Q 25 (Did xRD (xRF w8 gA gV q) (xRJ w8 gA gV q) 27 l 25 a) a w := by
  have e148 : xRF w8 gA gV q l 24 w (a.eval (.tmp 148)) := hs.get (by decide) q24 rfl
  have e148 : a.eval (.tmp 148) = .bool true := e148
  have hK := did (xR_mild w8 gA gV q) hs (v := .bool false) (d := 149) (i := 25) rfl (Below.refl _ w) rfl
  refine wpOp_goW hi hg ?_
  unfold Oper.wp
  have KK := Lib.hid hK
  clear hK hi hg
  generalize a.eval = ρ at *
  go_simp
  exact KK.out
set_option linter.unusedVariables false in
theorem xR_s26 (w8 : World) (gA gV : Nat) (q : Int) {ops : Array Oper} {Q : Exit → Act → World → Prop} {a0 a : Act} {w : World} {l : Nat → Bool} {ty : TypeId} {pos : String} {after : Array Edge} (k10 : a0.eval (.tmp 10) = .slice (some ⟨gA, 0, none⟩) 1 1) (k11 : a0.eval (.tmp 11) = .slice (some ⟨gV, 0, none⟩) 1 1) (k12 : a0.eval (.tmp 12) = .int .i64 q) (hkw : IntKind.u8.wrap q = q) (hP1 : ∀ W, Below w8.heap.size w8 W → ∀ ct : Int, Calls Tryz.prog 3 #[.agg #[.int .u8 q, .int .i64 ct, .slice (some ⟨gA, 0, none⟩) 1 1, .int .u8 0, .int .u8 0, .int .i64 0, .string ⟨#[]⟩, .int .i64 0, .int .u8 0, .slice none 0 0], .agg #[.int .i64 0, .int .i64 0, .slice (some ⟨gV, 0, none⟩) 1 1], .slice none 0 0, .slice none 0 0] W fun r w' => r = .returned (.bool true) ∧ Below W.heap.size W w') (hP0 : ∀ W, Below w8.heap.size w8 W → Calls Tryz.prog 3 #[.agg #[.int .u8 q, .int .i64 0, .slice (some ⟨gA, 0, none⟩) 1 1, .int .u8 0, .int .u8 0, .int .i64 0, .string ⟨#[]⟩, .int .i64 0, .int .u8 0, .slice none 0 0], .agg #[.int .i64 0, .int .i64 0, .slice none 0 0], .slice none 0 0, .slice none 0 0] W fun r w' => r = .returned (.bool true) ∧ Below W.heap.size W w') (hs : St ops xRD (xRF w8 gA gV q) (xRJ w8 gA gV q) 27 a0 l a w) (hi : ops[26]? = some { dst := some 150, op := Op.pick (Operand.tmp 141) (Operand.const (Value.bool true)) (Operand.tmp 149), type := ty, pos := pos, after := after, guard := none }) (nl : l 26 = false) (q17 : l 17 = true) (q25 : l 25 = true) : wpOp Tryz.prog ops Q 26 (Did xRD (xRF w8 gA gV q) (xRJ w8 gA gV q) 27 l 26 a) a w := by
  have e141 : xRF w8 gA gV q l 17 w (a.eval (.tmp 141)) := hs.get (by decide) q17 rfl
  have e149 : xRF w8 gA gV q l 25 w (a.eval (.tmp 149)) := hs.get (by decide) q25 rfl
  have e141 : a.eval (.tmp 141) = .bool false := e141
  have e149 : a.eval (.tmp 149) = .bool false := e149
  have hK := did (xR_mild w8 gA gV q) hs (v := .bool false) (d := 150) (i := 26) rfl (Below.refl _ w) rfl
  refine wpOp_go hi rfl ?_
  unfold Oper.wp
  have KK := Lib.hid hK
  clear hK hi
  generalize a.eval = ρ at *
  go_simp
  exact KK.out
def yRD (i : Nat) : Option Nat := ([some 151, some 152, some 153, some 154, some 155, some 156, some 157, some 158, some 159, some 160, some 0] : List (Option Nat)).getD i none
set_option linter.unusedVariables false in
def yRF (w8 : World) (l : Nat → Bool) (i : Nat) (w : World) (v : Value) : Prop :=
  match i with
  | 0 => v = .agg #[.int .u8 1, .int .i64 0, .slice none 0 0, .int .u8 0, .int .u8 0, .int .i64 0, .string ⟨#[]⟩, .int .i64 0, .int .u8 0, .slice none 0 0]
  | 1 => v = .agg #[.int .i64 0, .int .i64 0, .slice none 0 0]
  | 2 => v = .bool true
  | 3 => v = .bool true
  | 4 => v = .agg #[.int .u8 2, .int .i64 0, .slice none 0 0, .int .u8 0, .int .u8 0, .int .i64 0, .string ⟨#[]⟩, .int .i64 0, .int .u8 0, .slice none 0 0]
  | 5 => v = .bool true
  | 6 => v = .bool true
  | 7 => v = .bool true
  | 8 => v = .bool true
  | 9 => v = .bool true
  | 10 => v = .bool true
  | _ => True
set_option linter.unusedVariables false in
def yRJ (w8 : World) (l : Nat → Bool) (w : World) : Prop := Below w8.heap.size w8 w
set_option linter.unusedVariables false in
theorem yR_mild (w8 : World) : Mild (yRF w8) (yRJ w8) := by
  refine ⟨fun l i j w w' v hb h => ?_, fun l i w w' hb h => ?_⟩
  · match j with
    | 0 => exact h
    | 1 => exact h
    | 2 => exact h
    | 3 => exact h
    | 4 => exact h
    | 5 => exact h
    | 6 => exact h
    | 7 => exact h
    | 8 => exact h
    | 9 => exact h
    | 10 => exact h
    | k + 11 => trivial
  · exact h.trans (hb.mono h.size)
set_option linter.unusedVariables false in
theorem yR_s0 (w8 : World) {ops : Array Oper} {Q : Exit → Act → World → Prop} {a0 a : Act} {w : World} {l : Nat → Bool} {ty : TypeId} {pos : String} {after : Array Edge} (hP2 : ∀ W, Below w8.heap.size w8 W → Calls Tryz.prog 3 #[.agg #[.int .u8 1, .int .i64 0, .slice none 0 0, .int .u8 0, .int .u8 0, .int .i64 0, .string ⟨#[]⟩, .int .i64 0, .int .u8 0, .slice none 0 0], .agg #[.int .i64 0, .int .i64 0, .slice none 0 0], .slice none 0 0, .slice none 0 0] W fun r w' => r = .returned (.bool true) ∧ Below W.heap.size W w') (hPS : ∀ W, Below w8.heap.size w8 W → Calls Tryz.prog 22 #[.agg #[.int .u8 2, .int .i64 0, .slice none 0 0, .int .u8 0, .int .u8 0, .int .i64 0, .string ⟨#[]⟩, .int .i64 0, .int .u8 0, .slice none 0 0], .slice none 0 0, .slice none 0 0, .slice none 0 0] W fun r w' => r = .returned (.bool true) ∧ Below W.heap.size W w') (hs : St ops yRD (yRF w8) (yRJ w8) 11 a0 l a w) (hi : ops[0]? = some { dst := some 151, op := Op.build 33 #[(0, Operand.const (Value.int IntKind.u8 1))], type := ty, pos := pos, after := after, guard := none }) (nl : l 0 = false)  : wpOp Tryz.prog ops Q 0 (Did yRD (yRF w8) (yRJ w8) 11 l 0 a) a w := by
  exact wpOp_bdK1 hi (by simp [Region.wanted])  (did (yR_mild w8) hs (d := 151) (i := 0) rfl (Below.refl _ w) rfl)
set_option linter.unusedVariables false in
theorem yR_s1 (w8 : World) {ops : Array Oper} {Q : Exit → Act → World → Prop} {a0 a : Act} {w : World} {l : Nat → Bool} {ty : TypeId} {pos : String} {after : Array Edge} (hP2 : ∀ W, Below w8.heap.size w8 W → Calls Tryz.prog 3 #[.agg #[.int .u8 1, .int .i64 0, .slice none 0 0, .int .u8 0, .int .u8 0, .int .i64 0, .string ⟨#[]⟩, .int .i64 0, .int .u8 0, .slice none 0 0], .agg #[.int .i64 0, .int .i64 0, .slice none 0 0], .slice none 0 0, .slice none 0 0] W fun r w' => r = .returned (.bool true) ∧ Below W.heap.size W w') (hPS : ∀ W, Below w8.heap.size w8 W → Calls Tryz.prog 22 #[.agg #[.int .u8 2, .int .i64 0, .slice none 0 0, .int .u8 0, .int .u8 0, .int .i64 0, .string ⟨#[]⟩, .int .i64 0, .int .u8 0, .slice none 0 0], .slice none 0 0, .slice none 0 0, .slice none 0 0] W fun r w' => r = .returned (.bool true) ∧ Below W.heap.size W w') (hs : St ops yRD (yRF w8) (yRJ w8) 11 a0 l a w) (hi : ops[1]? = some { dst := some 152, op := Op.build 36 #[], type := ty, pos := pos, after := after, guard := none }) (nl : l 1 = false)  : wpOp Tryz.prog ops Q 1 (Did yRD (yRF w8) (yRJ w8) 11 l 1 a) a w := by
  exact wpOp_bdG0 hi (by simp [Region.wanted])  (did (yR_mild w8) hs (d := 152) (i := 1) rfl (Below.refl _ w) rfl)
set_option linter.unusedVariables false in
theorem yR_s2 (w8 : World) {ops : Array Oper} {Q : Exit → Act → World → Prop} {a0 a : Act} {w : World} {l : Nat → Bool} {ty : TypeId} {pos : String} {after : Array Edge} (hP2 : ∀ W, Below w8.heap.size w8 W → Calls Tryz.prog 3 #[.agg #[.int .u8 1, .int .i64 0, .slice none 0 0, .int .u8 0, .int .u8 0, .int .i64 0, .string ⟨#[]⟩, .int .i64 0, .int .u8 0, .slice none 0 0], .agg #[.int .i64 0, .int .i64 0, .slice none 0 0], .slice none 0 0, .slice none 0 0] W fun r w' => r = .returned (.bool true) ∧ Below W.heap.size W w') (hPS : ∀ W, Below w8.heap.size w8 W → Calls Tryz.prog 22 #[.agg #[.int .u8 2, .int .i64 0, .slice none 0 0, .int .u8 0, .int .u8 0, .int .i64 0, .string ⟨#[]⟩, .int .i64 0, .int .u8 0, .slice none 0 0], .slice none 0 0, .slice none 0 0, .slice none 0 0] W fun r w' => r = .returned (.bool true) ∧ Below W.heap.size W w') (hs : St ops yRD (yRF w8) (yRJ w8) 11 a0 l a w) (hi : ops[2]? = some { dst := some 153, op := Op.call { callee := Callee.value (Operand.func 3), args := #[Operand.tmp 151, Operand.tmp 152, Operand.const (Value.slice none 0 0), Operand.const (Value.slice none 0 0)], argTypes := #[33, 36, 37, 34] }, type := ty, pos := pos, after := after, guard := none }) (nl : l 2 = false) (q0 : l 0 = true) (q1 : l 1 = true) : wpOp Tryz.prog ops Q 2 (Did yRD (yRF w8) (yRJ w8) 11 l 2 a) a w := by
  have e151 : yRF w8 l 0 w (a.eval (.tmp 151)) := hs.get (by decide) q0 rfl
  have e152 : yRF w8 l 1 w (a.eval (.tmp 152)) := hs.get (by decide) q1 rfl
  have f0 : a.eval (.tmp 151) = .agg #[.int .u8 1, .int .i64 0, .slice none 0 0, .int .u8 0, .int .u8 0, .int .i64 0, .string ⟨#[]⟩, .int .i64 0, .int .u8 0, .slice none 0 0] := e151
  have f1 : a.eval (.tmp 152) = .agg #[.int .i64 0, .int .i64 0, .slice none 0 0] := e152
  refine wpOp_callW (vs := #[.agg #[.int .u8 1, .int .i64 0, .slice none 0 0, .int .u8 0, .int .u8 0, .int .i64 0, .string ⟨#[]⟩, .int .i64 0, .int .u8 0, .slice none 0 0], .agg #[.int .i64 0, .int .i64 0, .slice none 0 0], .slice none 0 0, .slice none 0 0]) hi (by simp [Region.wanted]) (enters_of Tryz.func3 (by kernel_rfl) rfl) (by simp [f0, f1, show ∀ v, a.eval (.const v) = v from fun _ => rfl]) ?_
  refine (hP2 w hs.j).mono ?_
  rintro e w' ⟨rfl, hb⟩
  exact ⟨_, rfl, did (yR_mild w8) hs (d := 153) (i := 2) rfl hb rfl⟩
set_option linter.unusedVariables false in
theorem yR_s3 (w8 : World) {ops : Array Oper} {Q : Exit → Act → World → Prop} {a0 a : Act} {w : World} {l : Nat → Bool} {ty : TypeId} {pos : String} {after : Array Edge} (hP2 : ∀ W, Below w8.heap.size w8 W → Calls Tryz.prog 3 #[.agg #[.int .u8 1, .int .i64 0, .slice none 0 0, .int .u8 0, .int .u8 0, .int .i64 0, .string ⟨#[]⟩, .int .i64 0, .int .u8 0, .slice none 0 0], .agg #[.int .i64 0, .int .i64 0, .slice none 0 0], .slice none 0 0, .slice none 0 0] W fun r w' => r = .returned (.bool true) ∧ Below W.heap.size W w') (hPS : ∀ W, Below w8.heap.size w8 W → Calls Tryz.prog 22 #[.agg #[.int .u8 2, .int .i64 0, .slice none 0 0, .int .u8 0, .int .u8 0, .int .i64 0, .string ⟨#[]⟩, .int .i64 0, .int .u8 0, .slice none 0 0], .slice none 0 0, .slice none 0 0, .slice none 0 0] W fun r w' => r = .returned (.bool true) ∧ Below W.heap.size W w') (hs : St ops yRD (yRF w8) (yRJ w8) 11 a0 l a w) (hi : ops[3]? = some { dst := some 154, op := Op.move (Operand.tmp 153), type := ty, pos := pos, after := after, guard := none }) (nl : l 3 = false) (q2 : l 2 = true) : wpOp Tryz.prog ops Q 3 (Did yRD (yRF w8) (yRJ w8) 11 l 3 a) a w := by
  have e153 : yRF w8 l 2 w (a.eval (.tmp 153)) := hs.get (by decide) q2 rfl
  have e153 : a.eval (.tmp 153) = .bool true := e153
  have hK := did (yR_mild w8) hs (v := .bool true) (d := 154) (i := 3) rfl (Below.refl _ w) rfl
  refine wpOp_move hi ?_
  rw [e153]
  exact hK
set_option linter.unusedVariables false in
theorem yR_s4 (w8 : World) {ops : Array Oper} {Q : Exit → Act → World → Prop} {a0 a : Act} {w : World} {l : Nat → Bool} {ty : TypeId} {pos : String} {after : Array Edge} (hP2 : ∀ W, Below w8.heap.size w8 W → Calls Tryz.prog 3 #[.agg #[.int .u8 1, .int .i64 0, .slice none 0 0, .int .u8 0, .int .u8 0, .int .i64 0, .string ⟨#[]⟩, .int .i64 0, .int .u8 0, .slice none 0 0], .agg #[.int .i64 0, .int .i64 0, .slice none 0 0], .slice none 0 0, .slice none 0 0] W fun r w' => r = .returned (.bool true) ∧ Below W.heap.size W w') (hPS : ∀ W, Below w8.heap.size w8 W → Calls Tryz.prog 22 #[.agg #[.int .u8 2, .int .i64 0, .slice none 0 0, .int .u8 0, .int .u8 0, .int .i64 0, .string ⟨#[]⟩, .int .i64 0, .int .u8 0, .slice none 0 0], .slice none 0 0, .slice none 0 0, .slice none 0 0] W fun r w' => r = .returned (.bool true) ∧ Below W.heap.size W w') (hs : St ops yRD (yRF w8) (yRJ w8) 11 a0 l a w) (hi : ops[4]? = some { dst := some 155, op := Op.build 33 #[(0, Operand.const (Value.int IntKind.u8 2))], type := ty, pos := pos, after := after, guard := some (3, true) }) (hg : Region.wanted { dst := some 155, op := Op.build 33 #[(0, Operand.const (Value.int IntKind.u8 2))], type := ty, pos := pos, after := after, guard := some (3, true) } (yielded ops a.tmps) = true) (nl : l 4 = false) (q3 : l 3 = true) : wpOp Tryz.prog ops Q 4 (Did yRD (yRF w8) (yRJ w8) 11 l 4 a) a w := by
  exact wpOp_bdK1 hi hg  (did (yR_mild w8) hs (d := 155) (i := 4) rfl (Below.refl _ w) rfl)
set_option linter.unusedVariables false in
theorem yR_s5 (w8 : World) {ops : Array Oper} {Q : Exit → Act → World → Prop} {a0 a : Act} {w : World} {l : Nat → Bool} {ty : TypeId} {pos : String} {after : Array Edge} (hP2 : ∀ W, Below w8.heap.size w8 W → Calls Tryz.prog 3 #[.agg #[.int .u8 1, .int .i64 0, .slice none 0 0, .int .u8 0, .int .u8 0, .int .i64 0, .string ⟨#[]⟩, .int .i64 0, .int .u8 0, .slice none 0 0], .agg #[.int .i64 0, .int .i64 0, .slice none 0 0], .slice none 0 0, .slice none 0 0] W fun r w' => r = .returned (.bool true) ∧ Below W.heap.size W w') (hPS : ∀ W, Below w8.heap.size w8 W → Calls Tryz.prog 22 #[.agg #[.int .u8 2, .int .i64 0, .slice none 0 0, .int .u8 0, .int .u8 0, .int .i64 0, .string ⟨#[]⟩, .int .i64 0, .int .u8 0, .slice none 0 0], .slice none 0 0, .slice none 0 0, .slice none 0 0] W fun r w' => r = .returned (.bool true) ∧ Below W.heap.size W w') (hs : St ops yRD (yRF w8) (yRJ w8) 11 a0 l a w) (hi : ops[5]? = some { dst := some 156, op := Op.call { callee := Callee.value (Operand.func 22), args := #[Operand.tmp 155, Operand.const (Value.slice none 0 0), Operand.const (Value.slice none 0 0), Operand.const (Value.slice none 0 0)], argTypes := #[33, 37, 34, 79] }, type := ty, pos := pos, after := after, guard := some (3, true) }) (hg : Region.wanted { dst := some 156, op := Op.call { callee := Callee.value (Operand.func 22), args := #[Operand.tmp 155, Operand.const (Value.slice none 0 0), Operand.const (Value.slice none 0 0), Operand.const (Value.slice none 0 0)], argTypes := #[33, 37, 34, 79] }, type := ty, pos := pos, after := after, guard := some (3, true) } (yielded ops a.tmps) = true) (nl : l 5 = false) (q3 : l 3 = true) (q4 : l 4 = true) : wpOp Tryz.prog ops Q 5 (Did yRD (yRF w8) (yRJ w8) 11 l 5 a) a w := by
  have e155 : yRF w8 l 4 w (a.eval (.tmp 155)) := hs.get (by decide) q4 rfl
  have f0 : a.eval (.tmp 155) = .agg #[.int .u8 2, .int .i64 0, .slice none 0 0, .int .u8 0, .int .u8 0, .int .i64 0, .string ⟨#[]⟩, .int .i64 0, .int .u8 0, .slice none 0 0] := e155
  refine wpOp_callW (vs := #[.agg #[.int .u8 2, .int .i64 0, .slice none 0 0, .int .u8 0, .int .u8 0, .int .i64 0, .string ⟨#[]⟩, .int .i64 0, .int .u8 0, .slice none 0 0], .slice none 0 0, .slice none 0 0, .slice none 0 0]) hi hg (enters_of Tryz.func22 (by kernel_rfl) rfl) (by simp [f0, show ∀ v, a.eval (.const v) = v from fun _ => rfl]) ?_
  refine (hPS w hs.j).mono ?_
  rintro e w' ⟨rfl, hb⟩
  exact ⟨_, rfl, did (yR_mild w8) hs (d := 156) (i := 5) rfl hb rfl⟩
set_option linter.unusedVariables false in
theorem yR_s6 (w8 : World) {ops : Array Oper} {Q : Exit → Act → World → Prop} {a0 a : Act} {w : World} {l : Nat → Bool} {ty : TypeId} {pos : String} {after : Array Edge} (hP2 : ∀ W, Below w8.heap.size w8 W → Calls Tryz.prog 3 #[.agg #[.int .u8 1, .int .i64 0, .slice none 0 0, .int .u8 0, .int .u8 0, .int .i64 0, .string ⟨#[]⟩, .int .i64 0, .int .u8 0, .slice none 0 0], .agg #[.int .i64 0, .int .i64 0, .slice none 0 0], .slice none 0 0, .slice none 0 0] W fun r w' => r = .returned (.bool true) ∧ Below W.heap.size W w') (hPS : ∀ W, Below w8.heap.size w8 W → Calls Tryz.prog 22 #[.agg #[.int .u8 2, .int .i64 0, .slice none 0 0, .int .u8 0, .int .u8 0, .int .i64 0, .string ⟨#[]⟩, .int .i64 0, .int .u8 0, .slice none 0 0], .slice none 0 0, .slice none 0 0, .slice none 0 0] W fun r w' => r = .returned (.bool true) ∧ Below W.heap.size W w') (hs : St ops yRD (yRF w8) (yRJ w8) 11 a0 l a w) (hi : ops[6]? = some { dst := some 157, op := Op.pick (Operand.tmp 154) (Operand.tmp 156) (Operand.const (Value.bool false)), type := ty, pos := pos, after := after, guard := none }) (nl : l 6 = false) (q3 : l 3 = true) (q5 : l 5 = true) : wpOp Tryz.prog ops Q 6 (Did yRD (yRF w8) (yRJ w8) 11 l 6 a) a w := by
  have e154 : yRF w8 l 3 w (a.eval (.tmp 154)) := hs.get (by decide) q3 rfl
  have e156 : yRF w8 l 5 w (a.eval (.tmp 156)) := hs.get (by decide) q5 rfl
  have e154 : a.eval (.tmp 154) = .bool true := e154
  have e156 : a.eval (.tmp 156) = .bool true := e156
  have hK := did (yR_mild w8) hs (v := .bool true) (d := 157) (i := 6) rfl (Below.refl _ w) rfl
  refine wpOp_go hi rfl ?_
  unfold Oper.wp
  have KK := Lib.hid hK
  clear hK hi
  generalize a.eval = ρ at *
  go_simp
  exact KK.out
set_option linter.unusedVariables false in
theorem yR_s7 (w8 : World) {ops : Array Oper} {Q : Exit → Act → World → Prop} {a0 a : Act} {w : World} {l : Nat → Bool} {ty : TypeId} {pos : String} {after : Array Edge} (hP2 : ∀ W, Below w8.heap.size w8 W → Calls Tryz.prog 3 #[.agg #[.int .u8 1, .int .i64 0, .slice none 0 0, .int .u8 0, .int .u8 0, .int .i64 0, .string ⟨#[]⟩, .int .i64 0, .int .u8 0, .slice none 0 0], .agg #[.int .i64 0, .int .i64 0, .slice none 0 0], .slice none 0 0, .slice none 0 0] W fun r w' => r = .returned (.bool true) ∧ Below W.heap.size W w') (hPS : ∀ W, Below w8.heap.size w8 W → Calls Tryz.prog 22 #[.agg #[.int .u8 2, .int .i64 0, .slice none 0 0, .int .u8 0, .int .u8 0, .int .i64 0, .string ⟨#[]⟩, .int .i64 0, .int .u8 0, .slice none 0 0], .slice none 0 0, .slice none 0 0, .slice none 0 0] W fun r w' => r = .returned (.bool true) ∧ Below W.heap.size W w') (hs : St ops yRD (yRF w8) (yRJ w8) 11 a0 l a w) (hi : ops[7]? = some { dst := some 158, op := Op.move (Operand.tmp 157), type := ty, pos := pos, after := after, guard := none }) (nl : l 7 = false) (q5 : l 5 = true) (q6 : l 6 = true) : wpOp Tryz.prog ops Q 7 (Did yRD (yRF w8) (yRJ w8) 11 l 7 a) a w := by
  have e157 : yRF w8 l 6 w (a.eval (.tmp 157)) := hs.get (by decide) q6 rfl
  have e157 : a.eval (.tmp 157) = .bool true := e157
  have hK := did (yR_mild w8) hs (v := .bool true) (d := 158) (i := 7) rfl (Below.refl _ w) rfl
  refine wpOp_move hi ?_
  rw [e157]
  exact hK
set_option linter.unusedVariables false in
theorem yR_s8 (w8 : World) {ops : Array Oper} {Q : Exit → Act → World → Prop} {a0 a : Act} {w : World} {l : Nat → Bool} {ty : TypeId} {pos : String} {after : Array Edge} (hP2 : ∀ W, Below w8.heap.size w8 W → Calls Tryz.prog 3 #[.agg #[.int .u8 1, .int .i64 0, .slice none 0 0, .int .u8 0, .int .u8 0, .int .i64 0, .string ⟨#[]⟩, .int .i64 0, .int .u8 0, .slice none 0 0], .agg #[.int .i64 0, .int .i64 0, .slice none 0 0], .slice none 0 0, .slice none 0 0] W fun r w' => r = .returned (.bool true) ∧ Below W.heap.size W w') (hPS : ∀ W, Below w8.heap.size w8 W → Calls Tryz.prog 22 #[.agg #[.int .u8 2, .int .i64 0, .slice none 0 0, .int .u8 0, .int .u8 0, .int .i64 0, .string ⟨#[]⟩, .int .i64 0, .int .u8 0, .slice none 0 0], .slice none 0 0, .slice none 0 0, .slice none 0 0] W fun r w' => r = .returned (.bool true) ∧ Below W.heap.size W w') (hs : St ops yRD (yRF w8) (yRJ w8) 11 a0 l a w) (hi : ops[8]? = some { dst := some 159, op := Op.call { callee := Callee.value (Operand.func 6), args := #[], argTypes := #[] }, type := ty, pos := pos, after := after, guard := some (7, true) }) (hg : Region.wanted { dst := some 159, op := Op.call { callee := Callee.value (Operand.func 6), args := #[], argTypes := #[] }, type := ty, pos := pos, after := after, guard := some (7, true) } (yielded ops a.tmps) = true) (nl : l 8 = false) (q7 : l 7 = true) : wpOp Tryz.prog ops Q 8 (Did yRD (yRF w8) (yRJ w8) 11 l 8 a) a w := by
  refine wpOp_callW (vs := #[]) hi hg (enters_of Tryz.func6 (by kernel_rfl) rfl) (by simp) ?_
  refine (awake_any w).mono ?_
  rintro e w' ⟨rfl, hb⟩
  exact ⟨_, rfl, did (yR_mild w8) hs (d := 159) (i := 8) rfl hb rfl⟩
set_option linter.unusedVariables false in
theorem yR_s9 (w8 : World) {ops : Array Oper} {Q : Exit → Act → World → Prop} {a0 a : Act} {w : World} {l : Nat → Bool} {ty : TypeId} {pos : String} {after : Array Edge} (hP2 : ∀ W, Below w8.heap.size w8 W → Calls Tryz.prog 3 #[.agg #[.int .u8 1, .int .i64 0, .slice none 0 0, .int .u8 0, .int .u8 0, .int .i64 0, .string ⟨#[]⟩, .int .i64 0, .int .u8 0, .slice none 0 0], .agg #[.int .i64 0, .int .i64 0, .slice none 0 0], .slice none 0 0, .slice none 0 0] W fun r w' => r = .returned (.bool true) ∧ Below W.heap.size W w') (hPS : ∀ W, Below w8.heap.size w8 W → Calls Tryz.prog 22 #[.agg #[.int .u8 2, .int .i64 0, .slice none 0 0, .int .u8 0, .int .u8 0, .int .i64 0, .string ⟨#[]⟩, .int .i64 0, .int .u8 0, .slice none 0 0], .slice none 0 0, .slice none 0 0, .slice none 0 0] W fun r w' => r = .returned (.bool true) ∧ Below W.heap.size W w') (hs : St ops yRD (yRF w8) (yRJ w8) 11 a0 l a w) (hi : ops[9]? = some { dst := some 160, op := Op.pick (Operand.tmp 158) (Operand.tmp 159) (Operand.const (Value.bool false)), type := ty, pos := pos, after := after, guard := none }) (nl : l 9 = false) (q7 : l 7 = true) (q8 : l 8 = true) : wpOp Tryz.prog ops Q 9 (Did yRD (yRF w8) (yRJ w8) 11 l 9 a) a w := by
  have e158 : yRF w8 l 7 w (a.eval (.tmp 158)) := hs.get (by decide) q7 rfl
  have e159 : yRF w8 l 8 w (a.eval (.tmp 159)) := hs.get (by decide) q8 rfl
  have e158 : a.eval (.tmp 158) = .bool true := e158
  have e159 : a.eval (.tmp 159) = .bool true := e159
  have hK := did (yR_mild w8) hs (v := .bool true) (d := 160) (i := 9) rfl (Below.refl _ w) rfl
  refine wpOp_go hi rfl ?_
  unfold Oper.wp
  have KK := Lib.hid hK
  clear hK hi
  generalize a.eval = ρ at *
  go_simp
  exact KK.out
set_option linter.unusedVariables false in
theorem yR_s10 (w8 : World) {ops : Array Oper} {Q : Exit → Act → World → Prop} {a0 a : Act} {w : World} {l : Nat → Bool} {ty : TypeId} {pos : String} {after : Array Edge} (hP2 : ∀ W, Below w8.heap.size w8 W → Calls Tryz.prog 3 #[.agg #[.int .u8 1, .int .i64 0, .slice none 0 0, .int .u8 0, .int .u8 0, .int .i64 0, .string ⟨#[]⟩, .int .i64 0, .int .u8 0, .slice none 0 0], .agg #[.int .i64 0, .int .i64 0, .slice none 0 0], .slice none 0 0, .slice none 0 0] W fun r w' => r = .returned (.bool true) ∧ Below W.heap.size W w') (hPS : ∀ W, Below w8.heap.size w8 W → Calls Tryz.prog 22 #[.agg #[.int .u8 2, .int .i64 0, .slice none 0 0, .int .u8 0, .int .u8 0, .int .i64 0, .string ⟨#[]⟩, .int .i64 0, .int .u8 0, .slice none 0 0], .slice none 0 0, .slice none 0 0, .slice none 0 0] W fun r w' => r = .returned (.bool true) ∧ Below W.heap.size W w') (hs : St ops yRD (yRF w8) (yRJ w8) 11 a0 l a w) (hi : ops[10]? = some { dst := some 0, op := Op.assign (Operand.tmp 160), type := ty, pos := pos, after := after, guard := none }) (nl : l 10 = false) (q0 : l 0 = true) (q1 : l 1 = true) (q2 : l 2 = true) (q3 : l 3 = true) (q4 : l 4 = true) (q5 : l 5 = true) (q6 : l 6 = true) (q7 : l 7 = true) (q8 : l 8 = true) (q9 : l 9 = true) : wpOp Tryz.prog ops Q 10 (Did yRD (yRF w8) (yRJ w8) 11 l 10 a) a w := by
  have e160 : yRF w8 l 9 w (a.eval (.tmp 160)) := hs.get (by decide) q9 rfl
  have e160 : a.eval (.tmp 160) = .bool true := e160
  have hK := did (yR_mild w8) hs (v := .bool true) (d := 0) (i := 10) rfl (Below.refl _ w) rfl
  refine wpOp_go hi rfl ?_
  unfold Oper.wp
  have KK := Lib.hid hK
  clear hK hi
  generalize a.eval = ρ at *
  go_simp
  exact KK.out
end Go.Proofs.YtnnhgbncghpecaaGreat
