/- PatternFills: an env that has a variable more. -/
import Derived.Test.YtjcmbljpjimdiaaReg10
namespace Go.Proofs.Ytjcmbljpjimdiaa
open Go.RowKit

def Lit0 (B : Nat) (w : World) (y : Value) : Prop := ∃ g, y = .slice (some ⟨g, 0, none⟩) 0 0 ∧ B ≤ g ∧ w.heap[g]? = some (.cells #[] 4 (0, 0))
def LitB (w : World) (y : Value) : Prop := ∃ g, y = .slice (some ⟨g, 0, none⟩) 1 1 ∧ w.heap[g]? = some (.cells #[.bool true] 4 (0, 0))
def LitV (v : V3) (w : World) (y : Value) : Prop := ∃ g, y = .slice (some ⟨g, 0, none⟩) 1 1 ∧ w.heap[g]? = some (.cells #[.int .u8 v.1, .int .i64 v.2.1, .string v.2.2] 27 (0, 0))
def RowB (B : Nat) (w : World) (y : Value) (n : Nat) (l : List Bool) : Prop := ∃ a d, y = .slice a n d ∧ w.ownsRow B 4 1 y n (cellsB l)
def RowV (B : Nat) (w : World) (y : Value) (n : Nat) (l : List V3) : Prop := ∃ a d, y = .slice a n d ∧ w.ownsRow B 27 3 y n (cellsV l)
def BoxE (B : Nat) (w : World) (y z0 z1 : Value) : Prop := ∃ g, y = .pointer (some ⟨g, 0, none⟩) ∧ B ≤ g ∧ w.heap[g]? = some (.cells #[z0, z1] 42 (0, 0))
def ApartL (y z : Value) : Prop := ∀ g g', y = .slice (some ⟨g, 0, none⟩) 0 0 → z = .slice (some ⟨g', 0, none⟩) 1 1 → g ≠ g'
section
variable {B : Nat} {w w' : World} {y z0 z1 : Value} {n : Nat}
/-- A change of the world that leaves all blocks that are no row of elements e. -/
def Far (e : TypeId) (w w' : World) : Prop := (∀ (k : Nat) (cs : Array Value) (t : TypeId) (fz : Nat × Nat), w.heap[k]? = some (Obj.cells cs t fz) → t ≠ e → w'.heap[k]? = some (Obj.cells cs t fz)) ∧ ∀ (base : Nat) (e1 : TypeId) (size : Nat) (v : Value) (n : Nat) (xs : List Value), e1 ≠ e → w.ownsRow base e1 size v n xs → w'.ownsRow base e1 size v n xs
theorem far_row {base e size n : Nat} {v : Value} {xs : List Value} (h : w.ownsRow base e size v n xs) (g : w.grownBy w' v.ownBlock) : Far e w w' :=
  ⟨fun k cs t fz hk hne => (g.block k (lt_of_heap hk) (fun e' => by
    obtain ⟨cs', fz', h1⟩ := owns_tag h k e'.symm
    rw [hk] at h1
    injection h1 with h1
    injection h1 with _ h1 _
    exact hne h1)).trans hk, fun base e1 size v n xs hne ho => owns_far ho hne g (owns_tag h)⟩
theorem far_block {g : Nat} {cs : Array Value} {e : TypeId} {fz : Nat × Nat} (h : w.heap[g]? = some (.cells cs e fz)) (gr : w.grownBy w' (some g)) : Far e w w' :=
  ⟨fun k cs' t fz' hk hne => (gr.block k (lt_of_heap hk) (fun e' => by
    obtain rfl := Option.some.inj e'
    rw [hk] at h
    injection h with h
    injection h with _ h _
    exact hne h)).trans hk, fun base e1 size v n xs hne ho => owns_far ho hne gr (fun k hk => by obtain rfl := Option.some.inj hk; exact ⟨cs, fz, h⟩)⟩
theorem Lit0.old (h : Lit0 B w y) (b : Below w.heap.size w w') : Lit0 B w' y := by obtain ⟨g, h1, h2, h3⟩ := h; exact ⟨g, h1, h2, (b.block g (lt_of_heap h3)).trans h3⟩
theorem LitB.old (h : LitB w y) (b : Below w.heap.size w w') : LitB w' y := by obtain ⟨g, h1, h3⟩ := h; exact ⟨g, h1, (b.block g (lt_of_heap h3)).trans h3⟩
theorem LitV.old {v : V3} (h : LitV v w y) (b : Below w.heap.size w w') : LitV v w' y := by obtain ⟨g, h1, h3⟩ := h; exact ⟨g, h1, (b.block g (lt_of_heap h3)).trans h3⟩
theorem RowB.old {l : List Bool} (h : RowB B w y n l) (b : Below w.heap.size w w') : RowB B w' y n l := by obtain ⟨a, d, h1, h2⟩ := h; exact ⟨a, d, h1, owns_below h2 b⟩
theorem RowV.old {l : List V3} (h : RowV B w y n l) (b : Below w.heap.size w w') : RowV B w' y n l := by obtain ⟨a, d, h1, h2⟩ := h; exact ⟨a, d, h1, owns_below h2 b⟩
theorem BoxE.old (h : BoxE B w y z0 z1) (b : Below w.heap.size w w') : BoxE B w' y z0 z1 := by obtain ⟨g, h1, h2, h3⟩ := h; exact ⟨g, h1, h2, (b.block g (lt_of_heap h3)).trans h3⟩
theorem Lit0.far {e : TypeId} (h : Lit0 B w y) (f : Far e w w') (hne : 4 ≠ e) : Lit0 B w' y := by obtain ⟨g, h1, h2, h3⟩ := h; exact ⟨g, h1, h2, f.1 _ _ _ _ h3 hne⟩
theorem LitB.far {e : TypeId} (h : LitB w y) (f : Far e w w') (hne : 4 ≠ e) : LitB w' y := by obtain ⟨g, h1, h3⟩ := h; exact ⟨g, h1, f.1 _ _ _ _ h3 hne⟩
theorem LitV.far {v : V3} {e : TypeId} (h : LitV v w y) (f : Far e w w') (hne : 27 ≠ e) : LitV v w' y := by obtain ⟨g, h1, h3⟩ := h; exact ⟨g, h1, f.1 _ _ _ _ h3 hne⟩
theorem RowB.far {l : List Bool} {e : TypeId} (h : RowB B w y n l) (f : Far e w w') (hne : 4 ≠ e) : RowB B w' y n l := by obtain ⟨a, d, h1, h2⟩ := h; exact ⟨a, d, h1, f.2 _ _ _ _ _ _ hne h2⟩
theorem RowV.far {l : List V3} {e : TypeId} (h : RowV B w y n l) (f : Far e w w') (hne : 27 ≠ e) : RowV B w' y n l := by obtain ⟨a, d, h1, h2⟩ := h; exact ⟨a, d, h1, f.2 _ _ _ _ _ _ hne h2⟩
theorem BoxE.far {e : TypeId} (h : BoxE B w y z0 z1) (f : Far e w w') (hne : 42 ≠ e) : BoxE B w' y z0 z1 := by obtain ⟨g, h1, h2, h3⟩ := h; exact ⟨g, h1, h2, f.1 _ _ _ _ h3 hne⟩
end
def setL (l : Nat → Bool) (i : Nat) : Nat → Bool := fun j => if j = i then true else l j
/-- On the way through the region. -/
structure Wd (w8 : World) (e0 : E10) (n : Nat) (ho : Option Addr) (hc : Nat) (vo : Option Addr) (vc : Nat) (v : V3) (l : Nat → Bool) (x : Nat → Value) (w : World) : Prop where
  bel : Below w8.heap.size w8 w
  f0 : l 0 = true → l 2 = false → Lit0 w8.heap.size w (x 295)
  f1 : l 1 = true → x 296 = .slice ho n hc
  f2 : l 2 = true → l 4 = false → RowB w8.heap.size w (x 297) n e0.1
  f3 : l 3 = true → l 4 = false → LitB w (x 298)
  fA : l 0 = true → l 3 = true → l 2 = false → l 4 = false → ApartL (x 295) (x 298)
  f4 : l 4 = true → RowB w8.heap.size w (x 299) (n + 1) (e0.1 ++ [true]) ∧ l 2 = true
  f5 : l 5 = true → x 300 = .slice vo n vc
  f6 : l 6 = true → l 9 = false → RowV w8.heap.size w (x 301) n e0.2
  f7 : l 7 = true → x 302 = aggV v
  f8 : l 8 = true → l 9 = false → LitV v w (x 303)
  f9 : l 9 = true → RowV w8.heap.size w (x 304) (n + 1) (e0.2 ++ [v])
  f10 : l 10 = true → x 305 = .agg #[x 299, x 304] ∧ l 4 = true ∧ l 9 = true
  f11 : l 11 = true → l 12 = false → BoxE w8.heap.size w (x 26) (.slice none 0 0) (.slice none 0 0)
  f12 : l 12 = true → BoxE w8.heap.size w (x 26) (x 299) (x 304) ∧ l 4 = true ∧ l 9 = true ∧ l 11 = true
def slots37 : List Nat := [295, 296, 297, 298, 299, 300, 301, 302, 303, 304, 305, 26]
/-- The region's frames. -/
def Wf (a0 : Act) (w8 : World) (e0 : E10) (n : Nat) (ho : Option Addr) (hc : Nat) (vo : Option Addr) (vc : Nat) (v : V3) (l : Nat → Bool) (a : Act) (w : World) : Prop := ∃ x, a = fillF a0 x slots37 ∧ Wd w8 e0 n ho hc vo vc v l x w
/-- What stood ahead of it. -/
structure Wo (a0 : Act) (w8 : World) (e0 : E10) (n : Nat) (ho : Option Addr) (hc : Nat) (vo : Option Addr) (vc : Nat) (v : V3) (vb : Nat) : Prop where
  size : a0.tmps.size = 346
  s2 : a0.eval (.tmp 2) = .slice ho n hc
  s3 : a0.eval (.tmp 3) = .slice vo n vc
  s9 : a0.eval (.tmp 9) = .pointer (some ⟨vb, 0, none⟩)
  env : Env10 w8.heap.size w8 e0 ho hc vo vc
  even : Even n e0
  few : n ≤ 2000
  vbox : w8.heap[vb]? = some (.cells #[.int .u8 v.1, .int .i64 v.2.1, .string v.2.2] 27 (0, 0))
section
variable {ops : Array Oper} {Q : Exit → Act → World → Prop} {a0 a : Act} {w w8 : World} {ty : TypeId} {pos : String} {after : Array Edge} {ts : Array TypeId} {e0 : E10} {n : Nat} {ho : Option Addr} {hc : Nat} {vo : Option Addr} {vc : Nat} {v : V3} {vb : Nat} {l : Nat → Bool} {x : Nat → Value}
theorem Wo.get (o : Wo a0 w8 e0 n ho hc vo vc v vb) {t : Nat} (h : t ∈ slots37) (h2 : t < 346) : (fillF a0 x slots37).eval (.tmp t) = x t := fillF_mem a0 x t slots37 h (by rw [o.size]; exact h2)
theorem Wo.put {l' : Nat → Bool} {w' : World} {d : Nat} {u : Value} (hd : d ∈ slots37) (h : Wd w8 e0 n ho hc vo vc v l' (updF x d u) w') : Wf a0 w8 e0 n ho hc vo vc v l' ((fillF a0 x slots37).put (some d) u) w' := ⟨_, fillF_put a0 x d u slots37 hd, h⟩
theorem no_bool {p : Prop} {b : Bool} (h : b = false) (h' : b = true) : p := by rw [h] at h'; cases h'
theorem Wd.op0 (_o : Wo a0 w8 e0 n ho hc vo vc v vb) (h : Wd w8 e0 n ho hc vo vc v l x w) (hi : ops[0]? = some { dst := some 295, op := .buildSlice 34 0 #[], type := ty, pos := pos, after := after, guard := none }) (_neg : l 0 = false) : wpOp Try.prog ops Q 0 (Wf a0 w8 e0 n ho hc vo vc v (setL l 0)) (fillF a0 x slots37) w := by
  refine wpOp_lit0 hi ?_
  have hb := below_own (w := w) (.cells #[] 4)
  exact Wo.put (by decide) ⟨h.bel.trans (hb.mono h.bel.size), (fun _ _ => ⟨w.heap.size, rfl, h.bel.size, heap_alloc_new w _⟩), (fun c0 => h.f1 c0), (fun c0 c1 => (h.f2 c0 c1).old hb), (fun c0 c1 => (h.f3 c0 c1).old hb), (fun _ c1 _ c3 => fun g g' e1 e2 => by obtain ⟨q, e3, h3⟩ := h.f3 c1 c3; have h4 := lt_of_heap h3; have e5 : x 298 = .slice (some ⟨g', 0, none⟩) 1 1 := e2; rw [e3] at e5; have e6 : Value.slice (some ⟨w.heap.size, 0, none⟩) 0 0 = .slice (some ⟨g, 0, none⟩) 0 0 := e1; cases e5; cases e6; omega), (fun c0 => ⟨(h.f4 c0).1.old hb, (h.f4 c0).2⟩), (fun c0 => h.f5 c0), (fun c0 c1 => (h.f6 c0 c1).old hb), (fun c0 => h.f7 c0), (fun c0 c1 => (h.f8 c0 c1).old hb), (fun c0 => (h.f9 c0).old hb), (fun c0 => h.f10 c0), (fun c0 c1 => (h.f11 c0 c1).old hb), (fun c0 => ⟨(h.f12 c0).1.old hb, (h.f12 c0).2⟩)⟩
theorem Wd.op1 (o : Wo a0 w8 e0 n ho hc vo vc v vb) (h : Wd w8 e0 n ho hc vo vc v l x w) (hi : ops[1]? = some { dst := some 296, op := .move (.tmp 2), type := ty, pos := pos, after := after, guard := none }) (_neg : l 1 = false) : wpOp Try.prog ops Q 1 (Wf a0 w8 e0 n ho hc vo vc v (setL l 1)) (fillF a0 x slots37) w := by
  refine wpOp_move hi ?_
  have hb := Below.refl w.heap.size w
  rw [fillF_ne a0 x 2 slots37 (by decide), o.s2]
  exact Wo.put (by decide) ⟨h.bel, (fun c0 c1 => (h.f0 c0 c1).old hb), (fun _ => rfl), (fun c0 c1 => (h.f2 c0 c1).old hb), (fun c0 c1 => (h.f3 c0 c1).old hb), (fun c0 c1 c2 c3 => h.fA c0 c1 c2 c3), (fun c0 => ⟨(h.f4 c0).1.old hb, (h.f4 c0).2⟩), (fun c0 => h.f5 c0), (fun c0 c1 => (h.f6 c0 c1).old hb), (fun c0 => h.f7 c0), (fun c0 c1 => (h.f8 c0 c1).old hb), (fun c0 => (h.f9 c0).old hb), (fun c0 => h.f10 c0), (fun c0 c1 => (h.f11 c0 c1).old hb), (fun c0 => ⟨(h.f12 c0).1.old hb, (h.f12 c0).2⟩)⟩
theorem Wd.op5 (o : Wo a0 w8 e0 n ho hc vo vc v vb) (h : Wd w8 e0 n ho hc vo vc v l x w) (hi : ops[5]? = some { dst := some 300, op := .move (.tmp 3), type := ty, pos := pos, after := after, guard := none }) (_neg : l 5 = false) : wpOp Try.prog ops Q 5 (Wf a0 w8 e0 n ho hc vo vc v (setL l 5)) (fillF a0 x slots37) w := by
  refine wpOp_move hi ?_
  have hb := Below.refl w.heap.size w
  rw [fillF_ne a0 x 3 slots37 (by decide), o.s3]
  exact Wo.put (by decide) ⟨h.bel, (fun c0 c1 => (h.f0 c0 c1).old hb), (fun c0 => h.f1 c0), (fun c0 c1 => (h.f2 c0 c1).old hb), (fun c0 c1 => (h.f3 c0 c1).old hb), (fun c0 c1 c2 c3 => h.fA c0 c1 c2 c3), (fun c0 => ⟨(h.f4 c0).1.old hb, (h.f4 c0).2⟩), (fun _ => rfl), (fun c0 c1 => (h.f6 c0 c1).old hb), (fun c0 => h.f7 c0), (fun c0 c1 => (h.f8 c0 c1).old hb), (fun c0 => (h.f9 c0).old hb), (fun c0 => h.f10 c0), (fun c0 c1 => (h.f11 c0 c1).old hb), (fun c0 => ⟨(h.f12 c0).1.old hb, (h.f12 c0).2⟩)⟩
theorem Wd.op2 (o : Wo a0 w8 e0 n ho hc vo vc v vb) (h : Wd w8 e0 n ho hc vo vc v l x w) (hi : ops[2]? = some { dst := some 297, op := .call { callee := Callee.builtin Builtin.append, args := #[.tmp 295, .tmp 296], argTypes := #[34, 34] }, type := ty, pos := pos, after := after, guard := none }) (neg : l 2 = false) (l0 : l 0 = true) (l1 : l 1 = true) : wpOp Try.prog ops Q 2 (Wf a0 w8 e0 n ho hc vo vc v (setL l 2)) (fillF a0 x slots37) w := by
  obtain ⟨i0, hi0, hz0, hz1, hz2⟩ := info_parts infoB
  obtain ⟨g, e1, hB, hg⟩ := h.f0 l0 neg
  have hn := o.even.1
  have hE := o.env.has
  have hnn := hE.nil
  rw [hn] at hnn
  have hown : w.ownsRow w8.heap.size 4 1 (.slice (some ⟨g, 0, none⟩) 0 0) 0 [] := ⟨rfl, Or.inr ⟨g, 0, #[], rfl, hB, hg, Nat.le_refl _, Nat.zero_le _, rfl, rfl⟩⟩
  have few := o.few
  refine wpOp_append hi w8.heap.size 4 i0 (.bool false) 1 1 Try.underlying34 hi0 hz0 hz1 hz2 rfl (by decide) _ 0 [] ((o.get (by decide) (by decide)).trans e1) hown ho n hc (cellsB e0.1) ((o.get (by decide) (by decide)).trans (h.f1 l1)) (by rw [cellsB_length, hn]; omega) hnn (hE.cells _ h.bel) (cellsB_one _) (by unfold maxLen; omega) (by omega) h.bel.size ?_
  intro v' w' hown' hgr
  simp only [Nat.zero_add, List.nil_append] at hown'
  obtain ⟨a1, d1, rfl⟩ := owns_slice hown'
  have keep : ∀ k, k < w.heap.size → k ≠ g → w'.heap[k]? = w.heap[k]? := fun k hk hne => hgr.block k hk (fun e => hne (Option.some.inj e))
  have hbel : Below w8.heap.size w8 w' := h.bel.grown hgr h.bel.size (fun k hk => by obtain rfl := Option.some.inj hk; exact hB)
  have hf := far_row hown hgr
  exact Wo.put (by decide) ⟨hbel, (fun _ c1 => no_bool c1 rfl), (fun c0 => h.f1 c0), (fun _ _ => ⟨a1, d1, rfl, hown'⟩), (fun c0 c1 => by obtain ⟨g', e3, h3⟩ := h.f3 c0 c1; exact ⟨g', e3, (keep g' (lt_of_heap h3) (h.fA l0 c0 neg c1 g g' e1 e3).symm).trans h3⟩), (fun _ _ c2 _ => no_bool c2 rfl), (fun c0 => no_bool neg (h.f4 c0).2), (fun c0 => h.f5 c0), (fun c0 c1 => (h.f6 c0 c1).far hf (by decide)), (fun c0 => h.f7 c0), (fun c0 c1 => (h.f8 c0 c1).far hf (by decide)), (fun c0 => (h.f9 c0).far hf (by decide)), (fun c0 => h.f10 c0), (fun c0 c1 => (h.f11 c0 c1).far hf (by decide)), (fun c0 => ⟨(h.f12 c0).1.far hf (by decide), (h.f12 c0).2⟩)⟩
theorem Wd.op3 (_o : Wo a0 w8 e0 n ho hc vo vc v vb) (h : Wd w8 e0 n ho hc vo vc v l x w) (hi : ops[3]? = some { dst := some 298, op := .buildSlice 34 1 #[(0, .const (.bool true))], type := ty, pos := pos, after := after, guard := none }) (_neg : l 3 = false) : wpOp Try.prog ops Q 3 (Wf a0 w8 e0 n ho hc vo vc v (setL l 3)) (fillF a0 x slots37) w := by
  refine wpOp_litB hi ?_
  have hb := below_own (w := w) (.cells #[.bool true] 4)
  exact Wo.put (by decide) ⟨h.bel.trans (hb.mono h.bel.size), (fun c0 c1 => (h.f0 c0 c1).old hb), (fun c0 => h.f1 c0), (fun c0 c1 => (h.f2 c0 c1).old hb), (fun _ _ => ⟨w.heap.size, rfl, heap_alloc_new w _⟩), (fun c0 _ c2 _ => fun g g' e1 e2 => by obtain ⟨q, e3, -, h3⟩ := h.f0 c0 c2; have h4 := lt_of_heap h3; have e5 : x 295 = .slice (some ⟨g, 0, none⟩) 0 0 := e1; rw [e3] at e5; have e6 : Value.slice (some ⟨w.heap.size, 0, none⟩) 1 1 = .slice (some ⟨g', 0, none⟩) 1 1 := e2; cases e5; cases e6; omega), (fun c0 => ⟨(h.f4 c0).1.old hb, (h.f4 c0).2⟩), (fun c0 => h.f5 c0), (fun c0 c1 => (h.f6 c0 c1).old hb), (fun c0 => h.f7 c0), (fun c0 c1 => (h.f8 c0 c1).old hb), (fun c0 => (h.f9 c0).old hb), (fun c0 => h.f10 c0), (fun c0 c1 => (h.f11 c0 c1).old hb), (fun c0 => ⟨(h.f12 c0).1.old hb, (h.f12 c0).2⟩)⟩
theorem Wd.op4 (o : Wo a0 w8 e0 n ho hc vo vc v vb) (h : Wd w8 e0 n ho hc vo vc v l x w) (hi : ops[4]? = some { dst := some 299, op := .call { callee := Callee.builtin Builtin.append, args := #[.tmp 297, .tmp 298], argTypes := #[34, 34] }, type := ty, pos := pos, after := after, guard := none }) (neg : l 4 = false) (l2 : l 2 = true) (l3 : l 3 = true) : wpOp Try.prog ops Q 4 (Wf a0 w8 e0 n ho hc vo vc v (setL l 4)) (fillF a0 x slots37) w := by
  obtain ⟨i0, hi0, hz0, hz1, hz2⟩ := info_parts infoB
  obtain ⟨g, e1, hg⟩ := h.f3 l3 neg
  obtain ⟨a1, d1, e2, hown⟩ := h.f2 l2 neg
  have few := o.few
  refine wpOp_append hi w8.heap.size 4 i0 (.bool false) 1 1 Try.underlying34 hi0 hz0 hz1 hz2 rfl (by decide) _ n (cellsB e0.1) (o.get (by decide) (by decide)) hown (some ⟨g, 0, none⟩) 1 1 [.bool true] ((o.get (by decide) (by decide)).trans e1) rfl (fun e => by cases e) (fun ad e j u hu => by obtain rfl := Option.some.inj e; rw [show (Addr.add ⟨g, 0, none⟩ j) = ⟨g, j, none⟩ by simp [Addr.add]; exact fun h => h.symm]; exact (Lib.cell_of_heap hg j).trans (List.getElem?_toArray.trans hu)) (fun u hu => by obtain rfl := List.mem_singleton.1 hu; rfl) (by unfold maxLen; omega) (by omega) h.bel.size ?_
  intro v' w' hown' hgr
  have ec : cellsB e0.1 ++ [.bool true] = cellsB (e0.1 ++ [true]) := by simp [cellsB]
  rw [ec] at hown'
  obtain ⟨a2, d2, rfl⟩ := owns_slice hown'
  have hf := far_row hown hgr
  have hbel : Below w8.heap.size w8 w' := h.bel.grown hgr h.bel.size (fun k hk => (World.ownsRow.lt hown k hk).1)
  exact Wo.put (by decide) ⟨hbel, (fun c0 c1 => no_bool c1 l2), (fun c0 => h.f1 c0), (fun _ c1 => no_bool c1 rfl), (fun _ c1 => no_bool c1 rfl), (fun _ _ _ c3 => no_bool c3 rfl), (fun _ => ⟨⟨a2, d2, rfl, hown'⟩, l2⟩), (fun c0 => h.f5 c0), (fun c0 c1 => (h.f6 c0 c1).far hf (by decide)), (fun c0 => h.f7 c0), (fun c0 c1 => (h.f8 c0 c1).far hf (by decide)), (fun c0 => (h.f9 c0).far hf (by decide)), (fun c0 => no_bool neg (h.f10 c0).2.1), (fun c0 c1 => (h.f11 c0 c1).far hf (by decide)), (fun c0 => no_bool neg (h.f12 c0).2.1)⟩
theorem Wd.op6 (o : Wo a0 w8 e0 n ho hc vo vc v vb) (h : Wd w8 e0 n ho hc vo vc v l x w) (hi : ops[6]? = some { dst := some 301, op := .call { callee := .value (.func 10), args := #[.tmp 300], argTypes := ts }, type := ty, pos := pos, after := after, guard := none }) (_neg : l 6 = false) (l5 : l 5 = true) : wpOp Try.prog ops Q 6 (Wf a0 w8 e0 n ho hc vo vc v (setL l 6)) (fillF a0 x slots37) w := by
  have hn := o.even.2
  have few := o.few
  refine wpOp_call (vs := #[.slice vo n vc]) hi (enters_of Try.func10 (by kernel_rfl) rfl) (by simp [o.get (x := x) (t := 300) (by decide) (by decide), h.f5 l5]) ?_
  have hc := copyV_any e0.2 vo vc w (o.env.vals.up h.bel h.bel.size) (by omega)
  rw [hn] at hc
  refine hc.mono ?_
  rintro e w' ⟨u, rfl, hu, hb⟩
  refine ⟨u, rfl, ?_⟩
  obtain ⟨a1, d1, rfl⟩ := owns_slice hu
  exact Wo.put (by decide) ⟨h.bel.trans (hb.mono h.bel.size), (fun c0 c1 => (h.f0 c0 c1).old hb), (fun c0 => h.f1 c0), (fun c0 c1 => (h.f2 c0 c1).old hb), (fun c0 c1 => (h.f3 c0 c1).old hb), (fun c0 c1 c2 c3 => h.fA c0 c1 c2 c3), (fun c0 => ⟨(h.f4 c0).1.old hb, (h.f4 c0).2⟩), (fun c0 => h.f5 c0), (fun _ _ => ⟨a1, d1, rfl, owns_mono hu h.bel.size⟩), (fun c0 => h.f7 c0), (fun c0 c1 => (h.f8 c0 c1).old hb), (fun c0 => (h.f9 c0).old hb), (fun c0 => h.f10 c0), (fun c0 c1 => (h.f11 c0 c1).old hb), (fun c0 => ⟨(h.f12 c0).1.old hb, (h.f12 c0).2⟩)⟩
theorem Wd.op7 (o : Wo a0 w8 e0 n ho hc vo vc v vb) (h : Wd w8 e0 n ho hc vo vc v l x w) (hi : ops[7]? = some { dst := some 302, op := .load 27 (.tmp 9), type := ty, pos := pos, after := after, guard := none }) (_neg : l 7 = false) : wpOp Try.prog ops Q 7 (Wf a0 w8 e0 n ho hc vo vc v (setL l 7)) (fillF a0 x slots37) w := by
  have hg := (h.bel.block vb (lt_of_heap o.vbox)).trans o.vbox
  refine wpOp_loadV hi ((fillF_ne a0 x 9 slots37 (by decide)).trans o.s9) (fun j => Lib.cell_of_heap hg j) ?_
  have hb := Below.refl w.heap.size w
  exact Wo.put (by decide) ⟨h.bel, (fun c0 c1 => (h.f0 c0 c1).old hb), (fun c0 => h.f1 c0), (fun c0 c1 => (h.f2 c0 c1).old hb), (fun c0 c1 => (h.f3 c0 c1).old hb), (fun c0 c1 c2 c3 => h.fA c0 c1 c2 c3), (fun c0 => ⟨(h.f4 c0).1.old hb, (h.f4 c0).2⟩), (fun c0 => h.f5 c0), (fun c0 c1 => (h.f6 c0 c1).old hb), (fun _ => rfl), (fun c0 c1 => (h.f8 c0 c1).old hb), (fun c0 => (h.f9 c0).old hb), (fun c0 => h.f10 c0), (fun c0 c1 => (h.f11 c0 c1).old hb), (fun c0 => ⟨(h.f12 c0).1.old hb, (h.f12 c0).2⟩)⟩
theorem Wd.op8 (o : Wo a0 w8 e0 n ho hc vo vc v vb) (h : Wd w8 e0 n ho hc vo vc v l x w) (hi : ops[8]? = some { dst := some 303, op := .buildSlice 35 1 #[(0, .tmp 302)], type := ty, pos := pos, after := after, guard := none }) (_neg : l 8 = false) (l7 : l 7 = true) : wpOp Try.prog ops Q 8 (Wf a0 w8 e0 n ho hc vo vc v (setL l 8)) (fillF a0 x slots37) w := by
  refine wpOp_litV hi ((o.get (by decide) (by decide)).trans (h.f7 l7)) ?_
  have hb := below_own (w := w) (.cells #[.int .u8 v.1, .int .i64 v.2.1, .string v.2.2] 27)
  exact Wo.put (by decide) ⟨h.bel.trans (hb.mono h.bel.size), (fun c0 c1 => (h.f0 c0 c1).old hb), (fun c0 => h.f1 c0), (fun c0 c1 => (h.f2 c0 c1).old hb), (fun c0 c1 => (h.f3 c0 c1).old hb), (fun c0 c1 c2 c3 => h.fA c0 c1 c2 c3), (fun c0 => ⟨(h.f4 c0).1.old hb, (h.f4 c0).2⟩), (fun c0 => h.f5 c0), (fun c0 c1 => (h.f6 c0 c1).old hb), (fun c0 => h.f7 c0), (fun _ _ => ⟨w.heap.size, rfl, heap_alloc_new w _⟩), (fun c0 => (h.f9 c0).old hb), (fun c0 => h.f10 c0), (fun c0 c1 => (h.f11 c0 c1).old hb), (fun c0 => ⟨(h.f12 c0).1.old hb, (h.f12 c0).2⟩)⟩
theorem Wd.op9 (o : Wo a0 w8 e0 n ho hc vo vc v vb) (h : Wd w8 e0 n ho hc vo vc v l x w) (hi : ops[9]? = some { dst := some 304, op := .call { callee := Callee.builtin Builtin.append, args := #[.tmp 301, .tmp 303], argTypes := #[35, 35] }, type := ty, pos := pos, after := after, guard := none }) (neg : l 9 = false) (l6 : l 6 = true) (l8 : l 8 = true) : wpOp Try.prog ops Q 9 (Wf a0 w8 e0 n ho hc vo vc v (setL l 9)) (fillF a0 x slots37) w := by
  obtain ⟨i0, hi0, hz0, hz1, hz2⟩ := info_parts infoV
  obtain ⟨g, e1, hg⟩ := h.f8 l8 neg
  obtain ⟨a1, d1, e2, hown⟩ := h.f6 l6 neg
  have few := o.few
  refine wpOp_append hi w8.heap.size 27 i0 (.agg #[.int .u8 0, .int .i64 0, .string ⟨#[]⟩]) 3 32 Try.underlying35 hi0 hz0 hz1 hz2 rfl (by decide) _ n (cellsV e0.2) (o.get (by decide) (by decide)) hown (some ⟨g, 0, none⟩) 1 1 [.int .u8 v.1, .int .i64 v.2.1, .string v.2.2] ((o.get (by decide) (by decide)).trans e1) rfl (fun e => by cases e) (fun ad e j u hu => by obtain rfl := Option.some.inj e; rw [show (Addr.add ⟨g, 0, none⟩ j) = ⟨g, j, none⟩ by simp [Addr.add]; exact fun h => h.symm]; exact (Lib.cell_of_heap hg j).trans (List.getElem?_toArray.trans hu)) (fun u hu => by simp at hu; rcases hu with rfl | rfl | rfl <;> rfl) (by unfold maxLen; omega) (by omega) h.bel.size ?_
  intro v' w' hown' hgr
  have ec : cellsV e0.2 ++ [.int .u8 v.1, .int .i64 v.2.1, .string v.2.2] = cellsV (e0.2 ++ [v]) := by rw [cellsV_append]; rfl
  rw [ec] at hown'
  obtain ⟨a2, d2, rfl⟩ := owns_slice hown'
  have hf := far_row hown hgr
  have hbel : Below w8.heap.size w8 w' := h.bel.grown hgr h.bel.size (fun k hk => (World.ownsRow.lt hown k hk).1)
  exact Wo.put (by decide) ⟨hbel, (fun c0 c1 => (h.f0 c0 c1).far hf (by decide)), (fun c0 => h.f1 c0), (fun c0 c1 => (h.f2 c0 c1).far hf (by decide)), (fun c0 c1 => (h.f3 c0 c1).far hf (by decide)), (fun c0 c1 c2 c3 => h.fA c0 c1 c2 c3), (fun c0 => ⟨(h.f4 c0).1.far hf (by decide), (h.f4 c0).2⟩), (fun c0 => h.f5 c0), (fun _ c1 => no_bool c1 rfl), (fun c0 => h.f7 c0), (fun _ c1 => no_bool c1 rfl), (fun _ => ⟨a2, d2, rfl, hown'⟩), (fun c0 => no_bool neg (h.f10 c0).2.2), (fun c0 c1 => (h.f11 c0 c1).far hf (by decide)), (fun c0 => no_bool neg (h.f12 c0).2.2.1)⟩
theorem Wd.op10 (o : Wo a0 w8 e0 n ho hc vo vc v vb) (h : Wd w8 e0 n ho hc vo vc v l x w) (hi : ops[10]? = some { dst := some 305, op := .build 42 #[(0, .tmp 299), (1, .tmp 304)], type := ty, pos := pos, after := after, guard := none }) (_neg : l 10 = false) (l4 : l 4 = true) (l9 : l 9 = true) : wpOp Try.prog ops Q 10 (Wf a0 w8 e0 n ho hc vo vc v (setL l 10)) (fillF a0 x slots37) w := by
  obtain ⟨⟨a1, d1, e1, -⟩, -⟩ := h.f4 l4
  obtain ⟨a2, d2, e2, -⟩ := h.f9 l9
  refine wpOp_build hi ((o.get (by decide) (by decide)).trans e1) ((o.get (by decide) (by decide)).trans e2) ?_
  have hb := Below.refl w.heap.size w
  exact Wo.put (by decide) ⟨h.bel, (fun c0 c1 => (h.f0 c0 c1).old hb), (fun c0 => h.f1 c0), (fun c0 c1 => (h.f2 c0 c1).old hb), (fun c0 c1 => (h.f3 c0 c1).old hb), (fun c0 c1 c2 c3 => h.fA c0 c1 c2 c3), (fun c0 => ⟨(h.f4 c0).1.old hb, (h.f4 c0).2⟩), (fun c0 => h.f5 c0), (fun c0 c1 => (h.f6 c0 c1).old hb), (fun c0 => h.f7 c0), (fun c0 c1 => (h.f8 c0 c1).old hb), (fun c0 => (h.f9 c0).old hb), (fun _ => ⟨(show _ = Value.agg #[x 299, x 304] by rw [e1, e2]; rfl), l4, l9⟩), (fun c0 c1 => (h.f11 c0 c1).old hb), (fun c0 => ⟨(h.f12 c0).1.old hb, (h.f12 c0).2⟩)⟩
theorem Wd.op11 (_o : Wo a0 w8 e0 n ho hc vo vc v vb) (h : Wd w8 e0 n ho hc vo vc v l x w) (hi : ops[11]? = some { dst := some 26, op := .alloc 42, type := ty, pos := pos, after := after, guard := none }) (neg : l 11 = false) : wpOp Try.prog ops Q 11 (Wf a0 w8 e0 n ho hc vo vc v (setL l 11)) (fillF a0 x slots37) w := by
  refine wpOp_allocE hi ?_
  have hb := below_own (w := w) (.cells #[.slice none 0 0, .slice none 0 0] 42)
  exact Wo.put (by decide) ⟨h.bel.trans (hb.mono h.bel.size), (fun c0 c1 => (h.f0 c0 c1).old hb), (fun c0 => h.f1 c0), (fun c0 c1 => (h.f2 c0 c1).old hb), (fun c0 c1 => (h.f3 c0 c1).old hb), (fun c0 c1 c2 c3 => h.fA c0 c1 c2 c3), (fun c0 => ⟨(h.f4 c0).1.old hb, (h.f4 c0).2⟩), (fun c0 => h.f5 c0), (fun c0 c1 => (h.f6 c0 c1).old hb), (fun c0 => h.f7 c0), (fun c0 c1 => (h.f8 c0 c1).old hb), (fun c0 => (h.f9 c0).old hb), (fun c0 => h.f10 c0), (fun _ _ => ⟨w.heap.size, rfl, h.bel.size, heap_alloc_new w _⟩), (fun c0 => no_bool neg (h.f12 c0).2.2.2)⟩
theorem Wd.op12 (o : Wo a0 w8 e0 n ho hc vo vc v vb) (h : Wd w8 e0 n ho hc vo vc v l x w) (hi : ops[12]? = some { dst := none, op := .store 42 (.tmp 26) (.tmp 305), type := ty, pos := pos, after := after, guard := none }) (neg : l 12 = false) (l11 : l 11 = true) (l10 : l 10 = true) : wpOp Try.prog ops Q 12 (Wf a0 w8 e0 n ho hc vo vc v (setL l 12)) (fillF a0 x slots37) w := by
  obtain ⟨e10, l4, l9⟩ := h.f10 l10
  obtain ⟨⟨a1, d1, e1, -⟩, -⟩ := h.f4 l4
  obtain ⟨a2, d2, e2, -⟩ := h.f9 l9
  obtain ⟨g, eg, hB, hg⟩ := h.f11 l11 neg
  rw [e1, e2] at e10
  refine wpOp_storeE hi ((o.get (by decide) (by decide)).trans eg) ((o.get (by decide) (by decide)).trans e10) hg ?_
  obtain ⟨q1, q2⟩ := two_set (.slice a1 (n + 1) d1) (.slice a2 (n + 1) d2) hg rfl
  generalize (w.setCell ⟨g, 0, none⟩ (.slice a1 (n + 1) d1)).setCell ⟨g, 1, none⟩ (.slice a2 (n + 1) d2) = w' at q1 q2
  have hf := far_block hg q2
  have hbel : Below w8.heap.size w8 w' := h.bel.grown q2 h.bel.size (fun k hk => by obtain rfl := Option.some.inj hk; exact hB)
  rw [← e1, ← e2] at q1
  exact ⟨x, rfl, hbel, (fun c0 c1 => (h.f0 c0 c1).far hf (by decide)), (fun c0 => h.f1 c0), (fun c0 c1 => (h.f2 c0 c1).far hf (by decide)), (fun c0 c1 => (h.f3 c0 c1).far hf (by decide)), (fun c0 c1 c2 c3 => h.fA c0 c1 c2 c3), (fun c0 => ⟨(h.f4 c0).1.far hf (by decide), (h.f4 c0).2⟩), (fun c0 => h.f5 c0), (fun c0 c1 => (h.f6 c0 c1).far hf (by decide)), (fun c0 => h.f7 c0), (fun c0 c1 => (h.f8 c0 c1).far hf (by decide)), (fun c0 => (h.f9 c0).far hf (by decide)), (fun c0 => h.f10 c0), (fun c0 c1 => no_bool c1 rfl), (fun _ => ⟨⟨g, eg, hB, q1⟩, l4, l9, l11⟩)⟩
theorem Sl10.pre {B : Nat} {w : World} {k c : Nat} {a : Option Addr} {cs ds : List Value} (h : Sl10 B w (k + 1) a c (cs ++ ds)) : Sl10 B w k a c cs :=
  ⟨fun hne => by
    obtain ⟨g, o, e, l, r⟩ := h.row (fun h0 => hne (List.append_eq_nil_iff.1 h0).1)
    exact ⟨g, o, e, l, fun i u hu => r i u (by rw [List.getElem?_append_left (List.getElem?_eq_some_iff.1 hu).1]; exact hu)⟩, fun hn => absurd (h.nil hn).1 (by omega), by have := h.cap; omega, h.top⟩
theorem same10 {w : World} {l : List V3} {k c1 c2 : Nat} {a1 a2 : Option Addr} (hk : l.length = k) (h1 : Sl10 w.heap.size w k a1 c1 (cellsV l)) (h2 : Sl10 w.heap.size w k a2 c2 (cellsV l)) (q : Nat) (os : Array Obj) :
    Calls Try.prog 12 #[.slice a1 k c1, .slice a2 k c2] (Sort.grow (w.drewN q) os) fun e w' => e = .returned (.bool true) ∧ ∃ q' os', w' = Sort.grow ((Sort.grow (w.drewN q) os).drewN q') os' := by
  subst hk
  have hb := Gr.below (a := w) (b := Sort.grow (w.drewN q) os) ⟨q, os, rfl⟩
  exact (sameV_yes l a1 c1 a2 c2 _ (h1.up hb hb.size) (h2.up hb hb.size)).mono fun e w' h => ⟨h.1, h.2.out⟩
theorem Wd.start (w8 : World) (e0 : E10) (n : Nat) (ho : Option Addr) (hc : Nat) (vo : Option Addr) (vc : Nat) (v : V3) (x : Nat → Value) {l : Nat → Bool} (hl : ∀ j, l j = false) : Wd w8 e0 n ho hc vo vc v l x w8.drew :=
  ⟨below_drew (Below.refl _ _), (fun c0 _ => no_bool (hl _) c0), (fun c0 => no_bool (hl _) c0), (fun c0 _ => no_bool (hl _) c0), (fun c0 _ => no_bool (hl _) c0), (fun c0 _ _ _ => no_bool (hl _) c0), (fun c0 => no_bool (hl _) c0), (fun c0 => no_bool (hl _) c0), (fun c0 _ => no_bool (hl _) c0), (fun c0 => no_bool (hl _) c0), (fun c0 _ => no_bool (hl _) c0), (fun c0 => no_bool (hl _) c0), (fun c0 => no_bool (hl _) c0), (fun c0 _ => no_bool (hl _) c0), (fun c0 => no_bool (hl _) c0)⟩
theorem replicate_getD (m j : Nat) : (Array.replicate m false).getD j false = false := by
  by_cases h : j < m
  · simp [h]
  · simp [h]
end
end Go.Proofs.Ytjcmbljpjimdiaa
