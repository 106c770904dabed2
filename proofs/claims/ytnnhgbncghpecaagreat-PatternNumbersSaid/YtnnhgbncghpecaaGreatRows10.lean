/- pattern.rows: both rows of an env, copied. -/
import Derived.Test.YtnnhgbncghpecaaGreatClone10
namespace Go.Proofs.YtnnhgbncghpecaaGreat
open Go.RowKit

theorem below_drew {B : Nat} {a w : World} (h : Below B a w) : Below B a w.drew := ⟨h.os, h.tape, h.output, h.size, h.block⟩
theorem heap_two {w : World} (o1 o2 : Obj) : ((w.alloc o1).alloc o2).heap[w.heap.size]? = some o1 ∧ ((w.alloc o1).alloc o2).heap[w.heap.size + 1]? = some o2 := by
  constructor
  · rw [Below.heap_alloc _ _ _ (by simp)]
    exact heap_alloc_new w _
  · have := heap_alloc_new (w.alloc o1) o2
    simpa using this
theorem two_cells (cs : Array Value) (hs : cs.size = 2) (v0 v1 : Value) : (cs.setIfInBounds 0 v0).setIfInBounds 1 v1 = #[v0, v1] := by
  obtain ⟨l⟩ := cs
  rcases l with _ | ⟨a, _ | ⟨b, _ | ⟨c, l⟩⟩⟩
  · exact absurd hs (by simp)
  · exact absurd hs (by simp)
  · simp
  · exact absurd hs (by simp)
theorem grown_set2 {w w1 : World} {g i : Nat} {v : Value} (h : w.grownBy w1 (some g)) : w.grownBy (w1.setCell ⟨g, i, none⟩ v) (some g) := Lib.grownBy_trans h (Lib.grownBy_setCell w1 g i v)
theorem two_set {W : World} {g : Nat} {cs : Array Value} {T : TypeId} (v0 v1 : Value) (h : W.heap[g]? = some (.cells cs T (0, 0))) (hs : cs.size = 2) :
    ((W.setCell ⟨g, 0, none⟩ v0).setCell ⟨g, 1, none⟩ v1).heap[g]? = some (.cells #[v0, v1] T (0, 0)) ∧ W.grownBy ((W.setCell ⟨g, 0, none⟩ v0).setCell ⟨g, 1, none⟩ v1) (some g) := by
  have g0 := Lib.grownBy_setCell W g 0 v0
  have e0 := Joins.block_setCell h v0 (i := 0)
  generalize W.setCell ⟨g, 0, none⟩ v0 = W0 at g0 e0 ⊢
  have g1 := grown_set2 (i := 1) (v := v1) g0
  have e1 := Joins.block_setCell e0 v1 (i := 1)
  rw [two_cells cs hs] at e1
  exact ⟨e1, g1⟩
/-- A function whose result is an env that stands in a cell. -/
theorem env_end {F : Func} {Q : Ending → World → Prop} {a : Act} {W : World} {g slot : Nat} {cs : Array Value} {v0 v1 : Value} (hr : F.results = #[ResultVar.cell slot 44]) (hp : a.tmps[slot]?.getD undef = .pointer (some ⟨g, 0, none⟩)) (hd : a.defers = []) (h : W.heap[g]? = some (.cells cs 44 (0, 0))) (hs : cs.size = 2)
    (hQ : ∀ W3, W3.heap[g]? = some (.cells #[v0, v1] 44 (0, 0)) → W.grownBy W3 (some g) → Q (.returned (.agg #[v0, v1])) W3) :
    bodyPost Tryz.prog F Q .ret a ((W.setCell ⟨g, 0, none⟩ v0).setCell ⟨g, 1, none⟩ v1) := by
  obtain ⟨h3, g3⟩ := two_set v0 v1 h hs
  generalize ((W.setCell ⟨g, 0, none⟩ v0).setCell ⟨g, 1, none⟩ v1) = W3 at h3 g3 ⊢
  have d0 := Lib.cell_of_heap h3 0
  have d1 := Lib.cell_of_heap h3 1
  exact bodyPost_ret (v := .agg #[v0, v1]) (by simp [results, hr, hp, go_sem, d0, d1]) hd (hQ W3 h3 g3)
/-- A row of one's own stays where a block of another type turns. -/
theorem Own10.far {base : Nat} {w w' : World} {e : E10} {hv vv : Value} {g : Nat} {cs : Array Value} {T : TypeId} {fz : Nat × Nat} (h : Own10 base w e hv vv) (hg : w.grownBy w' (some g)) (hb : w.heap[g]? = some (.cells cs T fz)) (h1 : 4 ≠ T) (h2 : 27 ≠ T) : Own10 base w' e hv vv :=
  ⟨owns_far h.has h1 hg (fun k hk => by obtain rfl := Option.some.inj hk; exact ⟨cs, fz, hb⟩), owns_far h.vals h2 hg (fun k hk => by obtain rfl := Option.some.inj hk; exact ⟨cs, fz, hb⟩)⟩
set_option maxRecDepth 100000 in
set_option maxHeartbeats 4000000 in
theorem rows_any (e : E10) (n : Nat) (he : Even n e) (ho : Option Addr) (hc : Nat) (vo : Option Addr) (vc : Nat) (w : World) (h : Env10 w.heap.size w e ho hc vo vc) (hn : n ≤ 100000) :
    Calls Tryz.prog 46 #[aggE e ho hc vo vc] w (RowsP e w) := by
  obtain ⟨h1, h2⟩ := he
  obtain ⟨w0, hw0⟩ : ∃ w0, w0 = (w.alloc (.cells #[.slice ho e.1.length hc, .slice vo e.2.length vc] 44)).alloc (.cells #[.slice none 0 0, .slice none 0 0] 44) := ⟨_, rfl⟩
  have hsz : w0.heap.size = w.heap.size + 2 := by rw [hw0]; simp
  have HB0 : Hid (Below w.heap.size w w0) := by rw [hw0]; exact below_new (below_own _) _
  have CB := Lib.hid (fun W (hW : Below w.heap.size w W) => cloneB_any e.1 ho hc W (h.has.up hW hW.size) (by omega))
  have CV := Lib.hid (fun W (hW : Below w.heap.size w W) => cloneV_any e.2 vo vc W (h.vals.up hW hW.size) (by omega))
  have h12 : w0.heap[w.heap.size]? = some (.cells #[.slice ho e.1.length hc, .slice vo e.2.length vc] 44 (0, 0)) ∧ w0.heap[w.heap.size + 1]? = some (.cells #[.slice none 0 0, .slice none 0 0] 44 (0, 0)) := by
    rw [hw0]
    exact heap_two _ _
  obtain ⟨h1b, h2b⟩ := h12
  clear h
  unfold RowsP aggE
  have H1 := Lib.hid h1b
  have H2 := Lib.hid h2b
  clear h1b h2b h1 h2
  go_enter Tryz.func46, Tryz.ntmps46
  go_wp2_with fail
  rw [← hw0]
  have y1 := fun j => Lib.cell_of_heap H1.out j
  have l1 : w.heap.size < w0.heap.size := by omega
  have HBd := Lib.hid (below_drew HB0.out)
  have H1d : Hid (w0.drew.heap[w.heap.size]? = _) := H1
  have H2d : Hid (w0.drew.heap[w.heap.size + 1]? = _) := H2
  clear hw0 HB0 H1 H2
  go_region_with (first
    | (go_at_call 58; go_must (refine (CB.out _ HBd.out).mono ?_; rintro e1 w1 ⟨v1, rfl, hown1, hb1⟩; obtain ⟨ao1, c1, rfl⟩ := owns_slice hown1; have HO1 := Lib.hid (owns_mono hown1 HBd.out.size); have HB1 := Lib.hid (HBd.out.trans (hb1.mono HBd.out.size)); have H11 := Lib.hid ((hb1.block w.heap.size l1).trans H1d.out); have H21 := Lib.hid ((hb1.block (w.heap.size + 1) (by show _ < w0.heap.size; omega)).trans H2d.out); have y2 := (fun j => Lib.cell_of_heap H11.out j); have l2 : w.heap.size + 1 < w1.heap.size := lt_of_heap H21.out; clear hown1 hb1))
    | (go_at_call 59; go_must (refine (CV.out _ HB1.out).mono ?_; rintro e2 w2 ⟨v2, rfl, hown2, hb2⟩; obtain ⟨ao2, c2, rfl⟩ := owns_slice hown2; have HO2 := Lib.hid (owns_mono hown2 HB1.out.size); have HO12 := Lib.hid (owns_below HO1.out hb2); have HB2 := Lib.hid (HB1.out.trans (hb2.mono HB1.out.size)); have H22 := Lib.hid ((hb2.block (w.heap.size + 1) l2).trans H21.out); have y22 := (fun j => Lib.cell_of_heap H22.out j); have z22 := (fun j => Lib.frozen_of_heap H22.out j); clear hown2 hb2)))
  all_goals
    go_wp2
    exact env_end (g := w.heap.size + 1) rfl rfl rfl H22.out rfl fun W3 _ g3 => ⟨_, _, _, _, rfl, Own10.far ⟨HO12.out, HO2.out⟩ g3 H22.out (by decide) (by decide), HB2.out.grown g3 HB2.out.size (fun k hk => by cases hk; omega)⟩
end Go.Proofs.YtnnhgbncghpecaaGreat
