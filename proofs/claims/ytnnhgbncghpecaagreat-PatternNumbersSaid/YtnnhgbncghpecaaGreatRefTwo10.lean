/- The document's Match: an env of two copies. -/
import Derived.Test.YtnnhgbncghpecaaGreatWide10
import Derived.Test.YtnnhgbncghpecaaGreatRefMade10
namespace Go.Proofs.YtnnhgbncghpecaaGreat
open Go.RowKit
set_option maxRecDepth 100000

def Lit0V (B : Nat) (w : World) (y : Value) : Prop := ∃ g, y = .slice (some ⟨g, 0, none⟩) 0 0 ∧ B ≤ g ∧ w.heap[g]? = some (.cells #[] 27 (0, 0))
def BoxR (B : Nat) (w : World) (y z0 z1 : Value) : Prop := ∃ g, y = .pointer (some ⟨g, 0, none⟩) ∧ B ≤ g ∧ w.heap[g]? = some (.cells #[z0, z1] 47 (0, 0))
section
variable {B : Nat} {w w' : World} {y z0 z1 : Value} {n : Nat}
theorem Lit0V.old (h : Lit0V B w y) (b : Below w.heap.size w w') : Lit0V B w' y := by obtain ⟨g, h1, h2, h3⟩ := h; exact ⟨g, h1, h2, (b.block g (lt_of_heap h3)).trans h3⟩
theorem BoxR.old (h : BoxR B w y z0 z1) (b : Below w.heap.size w w') : BoxR B w' y z0 z1 := by obtain ⟨g, h1, h2, h3⟩ := h; exact ⟨g, h1, h2, (b.block g (lt_of_heap h3)).trans h3⟩
theorem Lit0V.far {e : TypeId} (h : Lit0V B w y) (f : Far e w w') (hne : 27 ≠ e) : Lit0V B w' y := by obtain ⟨g, h1, h2, h3⟩ := h; exact ⟨g, h1, h2, f.1 _ _ _ _ h3 hne⟩
theorem BoxR.far {e : TypeId} (h : BoxR B w y z0 z1) (f : Far e w w') (hne : 47 ≠ e) : BoxR B w' y z0 z1 := by obtain ⟨g, h1, h2, h3⟩ := h; exact ⟨g, h1, h2, f.1 _ _ _ _ h3 hne⟩
end
section
variable {ops : Array Oper} {Q : Exit → Act → World → Prop} {K : Act → World → Prop} {a : Act} {w : World} {i d : Nat} {ty : TypeId} {pos : String} {after : Array Edge}
theorem wpOp_field {x : Operand} {b k : Nat} (hk : k = 0 ∨ k = 1) (hi : ops[i]? = some { dst := some d, op := .fieldAddr 47 x k, type := ty, pos := pos, after := after, guard := none })
    (hx : a.eval x = .pointer (some ⟨b, 0, none⟩)) (hK : K (a.put (some d) (.pointer (some ⟨b, k, none⟩))) w) : wpOp Tryz.prog ops Q i K a w := by
  refine wpOp_go hi rfl ?_
  unfold Oper.wp
  have KK := Lib.hid hK
  clear hK hi
  generalize a.eval = ρ at *
  rcases hk with rfl | rfl
  · go_simp
    exact KK.out
  · go_simp
    exact KK.out
theorem wpOp_loadS {x : Operand} {t : TypeId} {b k n c : Nat} {ao : Option Addr} (ht : t = 37 ∨ t = 34) (hi : ops[i]? = some { dst := some d, op := .load t x, type := ty, pos := pos, after := after, guard := none })
    (hx : a.eval x = .pointer (some ⟨b, k, none⟩)) (hc : w.cell? ⟨b, k, none⟩ = some (.slice ao n c)) (hK : K (a.put (some d) (.slice ao n c)) w) : wpOp Tryz.prog ops Q i K a w := by
  refine wpOp_go hi rfl ?_
  unfold Oper.wp
  have KK := Lib.hid hK
  clear hK hi
  generalize a.eval = ρ at *
  rcases ht with rfl | rfl
  · go_simp
    exact KK.out
  · go_simp
    exact KK.out
theorem wpOp_litV0 (hi : ops[i]? = some { dst := some d, op := .buildSlice 34 0 #[], type := ty, pos := pos, after := after, guard := none })
    (hK : K (a.put (some d) (.slice (some ⟨w.heap.size, 0, none⟩) 0 0)) (w.alloc (.cells #[] 27))) : wpOp Tryz.prog ops Q i K a w := by
  refine wpOp_go hi rfl ?_
  unfold Oper.wp
  have KK := Lib.hid hK
  clear hK hi
  generalize a.eval = ρ at *
  go_simp
  exact KK.out
theorem wpOp_buildR {x y : Operand} (hi : ops[i]? = some { dst := some d, op := .build 47 #[(0, x), (1, y)], type := ty, pos := pos, after := after, guard := none })
    {ao bo : Option Addr} {n c m e : Nat} (hx : a.eval x = .slice ao n c) (hy : a.eval y = .slice bo m e) (hK : K (a.put (some d) (.agg #[.slice ao n c, .slice bo m e])) w) : wpOp Tryz.prog ops Q i K a w := by
  refine wpOp_go hi rfl ?_
  unfold Oper.wp
  have KK := Lib.hid hK
  clear hK hi
  generalize a.eval = ρ at *
  go_simp
  exact KK.out
theorem wpOp_allocR (hi : ops[i]? = some { dst := some d, op := .alloc 47, type := ty, pos := pos, after := after, guard := none })
    (hK : K (a.put (some d) (.pointer (some ⟨w.heap.size, 0, none⟩))) (w.alloc (.cells #[.slice none 0 0, .slice none 0 0] 47))) : wpOp Tryz.prog ops Q i K a w := by
  refine wpOp_go hi rfl ?_
  unfold Oper.wp
  have KK := Lib.hid hK
  clear hK hi
  generalize a.eval = ρ at *
  go_simp
  exact KK.out
theorem wpOp_storeR {x y : Operand} {g : Nat} {ao bo : Option Addr} {n c m e : Nat} {z0 z1 : Value} (hi : ops[i]? = some { dst := none, op := .store 47 x y, type := ty, pos := pos, after := after, guard := none })
    (hx : a.eval x = .pointer (some ⟨g, 0, none⟩)) (hy : a.eval y = .agg #[.slice ao n c, .slice bo m e]) (hg : w.heap[g]? = some (.cells #[z0, z1] 47 (0, 0))) (hK : K a ((w.setCell ⟨g, 0, none⟩ (.slice ao n c)).setCell ⟨g, 1, none⟩ (.slice bo m e))) : wpOp Tryz.prog ops Q i K a w := by
  refine wpOp_go hi rfl ?_
  unfold Oper.wp
  have KK := Lib.hid hK
  have hf := fun j => Lib.frozen_of_heap hg j
  have hc0 : w.cell? ⟨g, 0, none⟩ = some z0 := Lib.cell_of_heap hg 0
  have hc1 : w.cell? ⟨g, 1, none⟩ = some z1 := Lib.cell_of_heap hg 1
  clear hK hi
  generalize a.eval = ρ at *
  go_simp
  exact KK.out
end
/-- On the way through the region. -/
structure Rd (w8 : World) (e0 : E10) (n : Nat) (ho : Option Addr) (hc : Nat) (vo : Option Addr) (vc : Nat) (vb : Nat) (l : Nat → Bool) (x : Nat → Value) (w : World) : Prop where
  bel : Below w8.heap.size w8 w
  f0 : l 0 = true → l 3 = false → Lit0 w8.heap.size w (x 44)
  f1 : l 1 = true → x 45 = .pointer (some ⟨vb, 0, none⟩)
  f2 : l 2 = true → x 46 = .slice ho n hc
  f3 : l 3 = true → RowB w8.heap.size w (x 47) n e0.1
  f4 : l 4 = true → l 7 = false → Lit0V w8.heap.size w (x 48)
  f5 : l 5 = true → x 49 = .pointer (some ⟨vb, 1, none⟩)
  f6 : l 6 = true → x 50 = .slice vo n vc
  f7 : l 7 = true → RowV w8.heap.size w (x 51) n e0.2
  f8 : l 8 = true → x 52 = .agg #[x 47, x 51] ∧ l 3 = true ∧ l 7 = true
  f9 : l 9 = true → l 10 = false → BoxR w8.heap.size w (x 8) (.slice none 0 0) (.slice none 0 0)
  f10 : l 10 = true → BoxR w8.heap.size w (x 8) (x 47) (x 51) ∧ l 3 = true ∧ l 7 = true ∧ l 9 = true
def slots3 : List Nat := [44, 45, 46, 47, 48, 49, 50, 51, 52, 8]
def Rf (a0 : Act) (w8 : World) (e0 : E10) (n : Nat) (ho : Option Addr) (hc : Nat) (vo : Option Addr) (vc : Nat) (vb : Nat) (l : Nat → Bool) (a : Act) (w : World) : Prop := ∃ x, a = fillF a0 x slots3 ∧ Rd w8 e0 n ho hc vo vc vb l x w
structure Ro (a0 : Act) (w8 : World) (e0 : E10) (n : Nat) (ho : Option Addr) (hc : Nat) (vo : Option Addr) (vc : Nat) (vb : Nat) : Prop where
  size : a0.tmps.size = 131
  s5 : a0.eval (.tmp 5) = .pointer (some ⟨vb, 0, none⟩)
  env : Env10 w8.heap.size w8 e0 ho hc vo vc
  even : Even n e0
  few : n ≤ 100000
  vbox : w8.heap[vb]? = some (.cells #[.slice ho n hc, .slice vo n vc] 47 (0, 0))
section
variable {ops : Array Oper} {Q : Exit → Act → World → Prop} {a0 a : Act} {w w8 : World} {ty : TypeId} {pos : String} {after : Array Edge} {e0 : E10} {n : Nat} {ho : Option Addr} {hc : Nat} {vo : Option Addr} {vc : Nat} {vb : Nat} {l : Nat → Bool} {x : Nat → Value}
theorem Ro.get (o : Ro a0 w8 e0 n ho hc vo vc vb) {t : Nat} (h : t ∈ slots3) (h2 : t < 131) : (fillF a0 x slots3).eval (.tmp t) = x t := fillF_mem a0 x t slots3 h (by rw [o.size]; exact h2)
theorem Ro.put {l' : Nat → Bool} {w' : World} {d : Nat} {u : Value} (hd : d ∈ slots3) (h : Rd w8 e0 n ho hc vo vc vb l' (updF x d u) w') : Rf a0 w8 e0 n ho hc vo vc vb l' ((fillF a0 x slots3).put (some d) u) w' := ⟨_, fillF_put a0 x d u slots3 hd, h⟩
theorem Rd.op0 (_o : Ro a0 w8 e0 n ho hc vo vc vb) (h : Rd w8 e0 n ho hc vo vc vb l x w) (hi : ops[0]? = some { dst := some 44, op := .buildSlice 37 0 #[], type := ty, pos := pos, after := after, guard := none }) (_neg : l 0 = false) : wpOp Tryz.prog ops Q 0 (Rf a0 w8 e0 n ho hc vo vc vb (setL l 0)) (fillF a0 x slots3) w := by
  refine wpOp_lit0 hi ?_
  have hb := below_own (w := w) (.cells #[] 4)
  exact Ro.put (by decide) ⟨h.bel.trans (hb.mono h.bel.size), (fun _ _ => ⟨w.heap.size, rfl, h.bel.size, heap_alloc_new w _⟩), (fun c0 => h.f1 c0), (fun c0 => h.f2 c0), (fun c0 => (h.f3 c0).old hb), (fun c0 c1 => (h.f4 c0 c1).old hb), (fun c0 => h.f5 c0), (fun c0 => h.f6 c0), (fun c0 => (h.f7 c0).old hb), (fun c0 => h.f8 c0), (fun c0 c1 => (h.f9 c0 c1).old hb), (fun c0 => ⟨(h.f10 c0).1.old hb, (h.f10 c0).2⟩)⟩
theorem Rd.op4 (_o : Ro a0 w8 e0 n ho hc vo vc vb) (h : Rd w8 e0 n ho hc vo vc vb l x w) (hi : ops[4]? = some { dst := some 48, op := .buildSlice 34 0 #[], type := ty, pos := pos, after := after, guard := none }) (_neg : l 4 = false) : wpOp Tryz.prog ops Q 4 (Rf a0 w8 e0 n ho hc vo vc vb (setL l 4)) (fillF a0 x slots3) w := by
  refine wpOp_litV0 hi ?_
  have hb := below_own (w := w) (.cells #[] 27)
  exact Ro.put (by decide) ⟨h.bel.trans (hb.mono h.bel.size), (fun c0 c1 => (h.f0 c0 c1).old hb), (fun c0 => h.f1 c0), (fun c0 => h.f2 c0), (fun c0 => (h.f3 c0).old hb), (fun _ _ => ⟨w.heap.size, rfl, h.bel.size, heap_alloc_new w _⟩), (fun c0 => h.f5 c0), (fun c0 => h.f6 c0), (fun c0 => (h.f7 c0).old hb), (fun c0 => h.f8 c0), (fun c0 c1 => (h.f9 c0 c1).old hb), (fun c0 => ⟨(h.f10 c0).1.old hb, (h.f10 c0).2⟩)⟩
theorem Rd.op1 (o : Ro a0 w8 e0 n ho hc vo vc vb) (h : Rd w8 e0 n ho hc vo vc vb l x w) (hi : ops[1]? = some { dst := some 45, op := .fieldAddr 47 (.tmp 5) 0, type := ty, pos := pos, after := after, guard := none }) (_neg : l 1 = false) : wpOp Tryz.prog ops Q 1 (Rf a0 w8 e0 n ho hc vo vc vb (setL l 1)) (fillF a0 x slots3) w := by
  refine wpOp_field (by decide) hi ((fillF_ne a0 x 5 slots3 (by decide)).trans o.s5) ?_
  have hb := Below.refl w.heap.size w
  exact Ro.put (by decide) ⟨h.bel, (fun c0 c1 => (h.f0 c0 c1).old hb), (fun _ => rfl), (fun c0 => h.f2 c0), (fun c0 => (h.f3 c0).old hb), (fun c0 c1 => (h.f4 c0 c1).old hb), (fun c0 => h.f5 c0), (fun c0 => h.f6 c0), (fun c0 => (h.f7 c0).old hb), (fun c0 => h.f8 c0), (fun c0 c1 => (h.f9 c0 c1).old hb), (fun c0 => ⟨(h.f10 c0).1.old hb, (h.f10 c0).2⟩)⟩
theorem Rd.op5 (o : Ro a0 w8 e0 n ho hc vo vc vb) (h : Rd w8 e0 n ho hc vo vc vb l x w) (hi : ops[5]? = some { dst := some 49, op := .fieldAddr 47 (.tmp 5) 1, type := ty, pos := pos, after := after, guard := none }) (_neg : l 5 = false) : wpOp Tryz.prog ops Q 5 (Rf a0 w8 e0 n ho hc vo vc vb (setL l 5)) (fillF a0 x slots3) w := by
  refine wpOp_field (by decide) hi ((fillF_ne a0 x 5 slots3 (by decide)).trans o.s5) ?_
  have hb := Below.refl w.heap.size w
  exact Ro.put (by decide) ⟨h.bel, (fun c0 c1 => (h.f0 c0 c1).old hb), (fun c0 => h.f1 c0), (fun c0 => h.f2 c0), (fun c0 => (h.f3 c0).old hb), (fun c0 c1 => (h.f4 c0 c1).old hb), (fun _ => rfl), (fun c0 => h.f6 c0), (fun c0 => (h.f7 c0).old hb), (fun c0 => h.f8 c0), (fun c0 c1 => (h.f9 c0 c1).old hb), (fun c0 => ⟨(h.f10 c0).1.old hb, (h.f10 c0).2⟩)⟩
theorem Rd.op2 (o : Ro a0 w8 e0 n ho hc vo vc vb) (h : Rd w8 e0 n ho hc vo vc vb l x w) (hi : ops[2]? = some { dst := some 46, op := .load 37 (.tmp 45), type := ty, pos := pos, after := after, guard := none }) (_neg : l 2 = false) (lp : l 1 = true) : wpOp Tryz.prog ops Q 2 (Rf a0 w8 e0 n ho hc vo vc vb (setL l 2)) (fillF a0 x slots3) w := by
  have hg := (h.bel.block vb (lt_of_heap o.vbox)).trans o.vbox
  refine wpOp_loadS (by simp) hi ((o.get (by decide) (by decide)).trans (h.f1 lp)) (Lib.cell_of_heap hg 0) ?_
  have hb := Below.refl w.heap.size w
  exact Ro.put (by decide) ⟨h.bel, (fun c0 c1 => (h.f0 c0 c1).old hb), (fun c0 => h.f1 c0), (fun _ => rfl), (fun c0 => (h.f3 c0).old hb), (fun c0 c1 => (h.f4 c0 c1).old hb), (fun c0 => h.f5 c0), (fun c0 => h.f6 c0), (fun c0 => (h.f7 c0).old hb), (fun c0 => h.f8 c0), (fun c0 c1 => (h.f9 c0 c1).old hb), (fun c0 => ⟨(h.f10 c0).1.old hb, (h.f10 c0).2⟩)⟩
theorem Rd.op6 (o : Ro a0 w8 e0 n ho hc vo vc vb) (h : Rd w8 e0 n ho hc vo vc vb l x w) (hi : ops[6]? = some { dst := some 50, op := .load 34 (.tmp 49), type := ty, pos := pos, after := after, guard := none }) (_neg : l 6 = false) (lp : l 5 = true) : wpOp Tryz.prog ops Q 6 (Rf a0 w8 e0 n ho hc vo vc vb (setL l 6)) (fillF a0 x slots3) w := by
  have hg := (h.bel.block vb (lt_of_heap o.vbox)).trans o.vbox
  refine wpOp_loadS (by simp) hi ((o.get (by decide) (by decide)).trans (h.f5 lp)) (Lib.cell_of_heap hg 1) ?_
  have hb := Below.refl w.heap.size w
  exact Ro.put (by decide) ⟨h.bel, (fun c0 c1 => (h.f0 c0 c1).old hb), (fun c0 => h.f1 c0), (fun c0 => h.f2 c0), (fun c0 => (h.f3 c0).old hb), (fun c0 c1 => (h.f4 c0 c1).old hb), (fun c0 => h.f5 c0), (fun _ => rfl), (fun c0 => (h.f7 c0).old hb), (fun c0 => h.f8 c0), (fun c0 c1 => (h.f9 c0 c1).old hb), (fun c0 => ⟨(h.f10 c0).1.old hb, (h.f10 c0).2⟩)⟩
theorem Rd.op3 (o : Ro a0 w8 e0 n ho hc vo vc vb) (h : Rd w8 e0 n ho hc vo vc vb l x w) (hi : ops[3]? = some { dst := some 47, op := .call { callee := Callee.builtin Builtin.append, args := #[.tmp 44, .tmp 46], argTypes := #[37, 37] }, type := ty, pos := pos, after := after, guard := none }) (neg : l 3 = false) (l0 : l 0 = true) (l1 : l 2 = true) : wpOp Tryz.prog ops Q 3 (Rf a0 w8 e0 n ho hc vo vc vb (setL l 3)) (fillF a0 x slots3) w := by
  obtain ⟨i0, hi0, hz0, hz1, hz2⟩ := info_parts infoB
  obtain ⟨g, e1, hB, hg⟩ := h.f0 l0 neg
  have hn := o.even.1
  have hE := o.env.has
  have hnn := hE.nil
  rw [hn] at hnn
  have hown : w.ownsRow w8.heap.size 4 1 (.slice (some ⟨g, 0, none⟩) 0 0) 0 [] := ⟨rfl, Or.inr ⟨g, 0, #[], rfl, hB, hg, Nat.le_refl _, Nat.zero_le _, rfl, rfl⟩⟩
  have few := o.few
  refine wpOp_append hi w8.heap.size 4 i0 (.bool false) 1 1 Tryz.underlying37 hi0 hz0 hz1 hz2 rfl (by decide) _ 0 [] ((o.get (by decide) (by decide)).trans e1) hown ho n hc (cellsB e0.1) ((o.get (by decide) (by decide)).trans (h.f2 l1)) (by rw [cellsB_length, hn]; omega) hnn (hE.cells _ h.bel) (cellsB_one _) (by unfold maxLen; omega) (by omega) h.bel.size ?_
  intro v' w' hown' hgr
  simp only [Nat.zero_add, List.nil_append] at hown'
  obtain ⟨a1, d1, rfl⟩ := owns_slice hown'
  have hbel : Below w8.heap.size w8 w' := h.bel.grown hgr h.bel.size (fun k hk => by obtain rfl := Option.some.inj hk; exact hB)
  have hf := far_row hown hgr
  exact Ro.put (by decide) ⟨hbel, (fun c0 c1 => no_bool c1 rfl), (fun c0 => h.f1 c0), (fun c0 => h.f2 c0), (fun _ => ⟨a1, d1, rfl, hown'⟩), (fun c0 c1 => (h.f4 c0 c1).far hf (by decide)), (fun c0 => h.f5 c0), (fun c0 => h.f6 c0), (fun c0 => (h.f7 c0).far hf (by decide)), (fun c0 => no_bool neg (h.f8 c0).2.1), (fun c0 c1 => (h.f9 c0 c1).far hf (by decide)), (fun c0 => no_bool neg (h.f10 c0).2.1)⟩
theorem Rd.op7 (o : Ro a0 w8 e0 n ho hc vo vc vb) (h : Rd w8 e0 n ho hc vo vc vb l x w) (hi : ops[7]? = some { dst := some 51, op := .call { callee := Callee.builtin Builtin.append, args := #[.tmp 48, .tmp 50], argTypes := #[34, 34] }, type := ty, pos := pos, after := after, guard := none }) (neg : l 7 = false) (l0 : l 4 = true) (l1 : l 6 = true) : wpOp Tryz.prog ops Q 7 (Rf a0 w8 e0 n ho hc vo vc vb (setL l 7)) (fillF a0 x slots3) w := by
  obtain ⟨i0, hi0, hz0, hz1, hz2⟩ := info_parts infoV
  obtain ⟨g, e1, hB, hg⟩ := h.f4 l0 neg
  have hn := o.even.2
  have hE := o.env.vals
  have hnn := hE.nil
  rw [hn] at hnn
  have hown : w.ownsRow w8.heap.size 27 3 (.slice (some ⟨g, 0, none⟩) 0 0) 0 [] := ⟨rfl, Or.inr ⟨g, 0, #[], rfl, hB, hg, Nat.le_refl _, Nat.zero_le _, rfl, rfl⟩⟩
  have few := o.few
  refine wpOp_append hi w8.heap.size 27 i0 (.agg #[.int .u8 0, .int .i64 0, .string ⟨#[]⟩]) 3 32 Tryz.underlying34 hi0 hz0 hz1 hz2 rfl (by decide) _ 0 [] ((o.get (by decide) (by decide)).trans e1) hown vo n vc (cellsV e0.2) ((o.get (by decide) (by decide)).trans (h.f6 l1)) (by rw [cellsV_length, hn]) hnn (hE.cells _ h.bel) (cellsV_one _) (by unfold maxLen; omega) (by omega) h.bel.size ?_
  intro v' w' hown' hgr
  simp only [Nat.zero_add, List.nil_append] at hown'
  obtain ⟨a1, d1, rfl⟩ := owns_slice hown'
  have hbel : Below w8.heap.size w8 w' := h.bel.grown hgr h.bel.size (fun k hk => by obtain rfl := Option.some.inj hk; exact hB)
  have hf := far_row hown hgr
  exact Ro.put (by decide) ⟨hbel, (fun c0 c1 => (h.f0 c0 c1).far hf (by decide)), (fun c0 => h.f1 c0), (fun c0 => h.f2 c0), (fun c0 => (h.f3 c0).far hf (by decide)), (fun c0 c1 => no_bool c1 rfl), (fun c0 => h.f5 c0), (fun c0 => h.f6 c0), (fun _ => ⟨a1, d1, rfl, hown'⟩), (fun c0 => no_bool neg (h.f8 c0).2.2), (fun c0 c1 => (h.f9 c0 c1).far hf (by decide)), (fun c0 => no_bool neg (h.f10 c0).2.2.1)⟩
theorem Rd.op8 (o : Ro a0 w8 e0 n ho hc vo vc vb) (h : Rd w8 e0 n ho hc vo vc vb l x w) (hi : ops[8]? = some { dst := some 52, op := .build 47 #[(0, .tmp 47), (1, .tmp 51)], type := ty, pos := pos, after := after, guard := none }) (_neg : l 8 = false) (l3 : l 3 = true) (l7 : l 7 = true) : wpOp Tryz.prog ops Q 8 (Rf a0 w8 e0 n ho hc vo vc vb (setL l 8)) (fillF a0 x slots3) w := by
  obtain ⟨a1, d1, e1, -⟩ := h.f3 l3
  obtain ⟨a2, d2, e2, -⟩ := h.f7 l7
  refine wpOp_buildR hi ((o.get (by decide) (by decide)).trans e1) ((o.get (by decide) (by decide)).trans e2) ?_
  have hb := Below.refl w.heap.size w
  exact Ro.put (by decide) ⟨h.bel, (fun c0 c1 => (h.f0 c0 c1).old hb), (fun c0 => h.f1 c0), (fun c0 => h.f2 c0), (fun c0 => (h.f3 c0).old hb), (fun c0 c1 => (h.f4 c0 c1).old hb), (fun c0 => h.f5 c0), (fun c0 => h.f6 c0), (fun c0 => (h.f7 c0).old hb), (fun _ => ⟨(show _ = Value.agg #[x 47, x 51] by rw [e1, e2]; rfl), l3, l7⟩), (fun c0 c1 => (h.f9 c0 c1).old hb), (fun c0 => ⟨(h.f10 c0).1.old hb, (h.f10 c0).2⟩)⟩
theorem Rd.op9 (_o : Ro a0 w8 e0 n ho hc vo vc vb) (h : Rd w8 e0 n ho hc vo vc vb l x w) (hi : ops[9]? = some { dst := some 8, op := .alloc 47, type := ty, pos := pos, after := after, guard := none }) (neg : l 9 = false) : wpOp Tryz.prog ops Q 9 (Rf a0 w8 e0 n ho hc vo vc vb (setL l 9)) (fillF a0 x slots3) w := by
  refine wpOp_allocR hi ?_
  have hb := below_own (w := w) (.cells #[.slice none 0 0, .slice none 0 0] 47)
  exact Ro.put (by decide) ⟨h.bel.trans (hb.mono h.bel.size), (fun c0 c1 => (h.f0 c0 c1).old hb), (fun c0 => h.f1 c0), (fun c0 => h.f2 c0), (fun c0 => (h.f3 c0).old hb), (fun c0 c1 => (h.f4 c0 c1).old hb), (fun c0 => h.f5 c0), (fun c0 => h.f6 c0), (fun c0 => (h.f7 c0).old hb), (fun c0 => h.f8 c0), (fun _ _ => ⟨w.heap.size, rfl, h.bel.size, heap_alloc_new w _⟩), (fun c0 => no_bool neg (h.f10 c0).2.2.2)⟩
theorem Rd.op10 (o : Ro a0 w8 e0 n ho hc vo vc vb) (h : Rd w8 e0 n ho hc vo vc vb l x w) (hi : ops[10]? = some { dst := none, op := .store 47 (.tmp 8) (.tmp 52), type := ty, pos := pos, after := after, guard := none }) (neg : l 10 = false) (l9 : l 9 = true) (l8 : l 8 = true) : wpOp Tryz.prog ops Q 10 (Rf a0 w8 e0 n ho hc vo vc vb (setL l 10)) (fillF a0 x slots3) w := by
  obtain ⟨e8, l3, l7⟩ := h.f8 l8
  obtain ⟨a1, d1, e1, -⟩ := h.f3 l3
  obtain ⟨a2, d2, e2, -⟩ := h.f7 l7
  obtain ⟨g, eg, hB, hg⟩ := h.f9 l9 neg
  rw [e1, e2] at e8
  refine wpOp_storeR hi ((o.get (by decide) (by decide)).trans eg) ((o.get (by decide) (by decide)).trans e8) hg ?_
  obtain ⟨q1, q2⟩ := two_set (.slice a1 n d1) (.slice a2 n d2) hg rfl
  generalize (w.setCell ⟨g, 0, none⟩ (.slice a1 n d1)).setCell ⟨g, 1, none⟩ (.slice a2 n d2) = w' at q1 q2
  have hf := far_block hg q2
  have hbel : Below w8.heap.size w8 w' := h.bel.grown q2 h.bel.size (fun k hk => by obtain rfl := Option.some.inj hk; exact hB)
  rw [← e1, ← e2] at q1
  exact ⟨x, rfl, hbel, (fun c0 c1 => (h.f0 c0 c1).far hf (by decide)), (fun c0 => h.f1 c0), (fun c0 => h.f2 c0), (fun c0 => (h.f3 c0).far hf (by decide)), (fun c0 c1 => (h.f4 c0 c1).far hf (by decide)), (fun c0 => h.f5 c0), (fun c0 => h.f6 c0), (fun c0 => (h.f7 c0).far hf (by decide)), (fun c0 => h.f8 c0), (fun c0 c1 => no_bool c1 rfl), (fun _ => ⟨⟨g, eg, hB, q1⟩, l3, l7, l9⟩)⟩
theorem Rd.start (w8 : World) (e0 : E10) (n : Nat) (ho : Option Addr) (hc : Nat) (vo : Option Addr) (vc : Nat) (vb : Nat) (x : Nat → Value) {l : Nat → Bool} (hl : ∀ j, l j = false) : Rd w8 e0 n ho hc vo vc vb l x w8.drew :=
  ⟨below_drew (Below.refl _ _), (fun c0 _ => no_bool (hl _) c0), (fun c0 => no_bool (hl _) c0), (fun c0 => no_bool (hl _) c0), (fun c0 => no_bool (hl _) c0), (fun c0 _ => no_bool (hl _) c0), (fun c0 => no_bool (hl _) c0), (fun c0 => no_bool (hl _) c0), (fun c0 => no_bool (hl _) c0), (fun c0 => no_bool (hl _) c0), (fun c0 _ => no_bool (hl _) c0), (fun c0 => no_bool (hl _) c0)⟩
end
end Go.Proofs.YtnnhgbncghpecaaGreat
