/- A match binds a variable. -/
import Derived.Test.YtnnhgbncghpecaaGreatMatch10
namespace Go.Proofs.YtnnhgbncghpecaaGreat
open Go.RowKit

theorem M10.old {B : Nat} {w w' : World} {nb n : Nat} {e0 e : E10} {ho : Option Addr} {hc : Nat} {vo : Option Addr} {vc : Nat} {bd : Bool} (h : M10 B w nb n e0 e ho hc vo vc bd) (b : Below w.heap.size w w') : M10 B w' nb n e0 e ho hc vo vc bd := by
  obtain ⟨hv, vv, h1, h2, h3⟩ := h.lies
  exact ⟨h.low, h.few, h.even0, h.even, h.ahead.up (b.mono (Nat.le_trans h.low (Nat.le_of_lt (lt_of_heap h1)))) (Nat.le_refl _), hv, vv, (b.block nb (lt_of_heap h1)).trans h1, h2, fun e => (h3 e).old b⟩
theorem M10.lt {B : Nat} {w : World} {nb n : Nat} {e0 e : E10} {ho : Option Addr} {hc : Nat} {vo : Option Addr} {vc : Nat} {bd : Bool} (h : M10 B w nb n e0 e ho hc vo vc bd) : nb < w.heap.size := by
  obtain ⟨hv, vv, h1, -⟩ := h.lies
  exact lt_of_heap h1
theorem bind_no {B : Nat} {w : World} {nb n : Nat} {e0 e : E10} {ho : Option Addr} {hc : Nat} {vo : Option Addr} {vc : Nat} {bd : Bool} (h : M10 B w nb n e0 e ho hc vo vc bd) (i : Int) (hi : known10 i n = false) (v : V3) :
    Calls Tryz.prog 91 #[.pointer (some ⟨nb, 0, none⟩), .int .i64 i, aggV v] w fun r w' => r = .returned (.bool false) ∧ Below w.heap.size w w' := by
  have HK := Lib.hid (knows_any (h.old (below_own (.cells #[.int .u8 v.1, .int .i64 v.2.1, .string v.2.2] 27))) i)
  rw [hi] at HK
  clear h
  go_enter Tryz.func91, Tryz.ntmps91
  go_wp2_with (go_at_call 92; go_must (refine (HK.out).mono ?_; rintro e w1 ⟨rfl, rfl⟩))
  go_ret
  exact ⟨rfl, below_own _⟩
/-- A variable of the match's own rows is set. -/
theorem own_bind {base : Nat} {w : World} {e : E10} {g1 c1 g2 c2 : Nat} (h : Own10 base w e (.slice (some ⟨g1, 0, none⟩) e.1.length c1) (.slice (some ⟨g2, 0, none⟩) e.2.length c2)) (hne : g1 ≠ g2) (k : Nat) (v : V3) (b : Bool) :
    Own10 base ((((w.setCell ⟨g1, k, none⟩ (.bool b)).setCell ⟨g2, k * 3, none⟩ (.int .u8 v.1)).setCell ⟨g2, k * 3 + 1, none⟩ (.int .i64 v.2.1)).setCell ⟨g2, k * 3 + 2, none⟩ (.string v.2.2)) (e.1.set k b, e.2.set k v) (.slice (some ⟨g1, 0, none⟩) e.1.length c1) (.slice (some ⟨g2, 0, none⟩) e.2.length c2) := by
  obtain ⟨s1, q1⟩ := h.has.stored k (.bool b)
  have v1 := owns_apart h.vals q1 (by simp [Value.ownBlock]; exact fun e => hne e.symm)
  generalize w.setCell ⟨g1, k, none⟩ (.bool b) = w1 at *
  obtain ⟨s2, q2⟩ := v1.stored (k * 3) (.int .u8 v.1)
  have h2 := owns_apart s1 q2 (by simp [Value.ownBlock]; exact hne)
  generalize w1.setCell ⟨g2, k * 3, none⟩ _ = w2 at *
  obtain ⟨s3, q3⟩ := s2.stored (k * 3 + 1) (.int .i64 v.2.1)
  have h3 := owns_apart h2 q3 (by simp [Value.ownBlock]; exact hne)
  generalize w2.setCell ⟨g2, k * 3 + 1, none⟩ _ = w3 at *
  obtain ⟨s4, q4⟩ := s3.stored (k * 3 + 2) (.string v.2.2)
  have h4 := owns_apart h3 q4 (by simp [Value.ownBlock]; exact hne)
  generalize w3.setCell ⟨g2, k * 3 + 2, none⟩ _ = w4 at *
  refine ⟨?_, ?_⟩
  · rw [cellsB_set, List.length_set]
    exact h4
  · rw [cellsV_set, List.length_set]
    exact s4
theorem heap_set4 {w : World} {g1 g2 i j1 j2 j3 nb : Nat} {u u1 u2 u3 : Value} {o : Obj} (h : w.heap[nb]? = some o) (h1 : nb ≠ g1) (h2 : nb ≠ g2) : ((((w.setCell ⟨g1, i, none⟩ u).setCell ⟨g2, j1, none⟩ u1).setCell ⟨g2, j2, none⟩ u2).setCell ⟨g2, j3, none⟩ u3).heap[nb]? = some o := by
  rw [heap_setCell_other _ ⟨g2, j3, none⟩ nb _ (by simpa using h2), heap_setCell_other _ ⟨g2, j2, none⟩ nb _ (by simpa using h2), heap_setCell_other _ ⟨g2, j1, none⟩ nb _ (by simpa using h2), heap_setCell_other _ ⟨g1, i, none⟩ nb _ (by simpa using h1)]
  exact h

/-- A match whose variable k was set: to b, and to v. -/
theorem m10_set {B : Nat} {w : World} {nb n : Nat} {e0 e : E10} {ho : Option Addr} {hc : Nat} {vo : Option Addr} {vc : Nat} {g1 c1 g2 c2 : Nat} (h : M10 B w nb n e0 e ho hc vo vc true)
    (h1 : w.heap[nb]? = some (.cells #[.slice (some ⟨g1, 0, none⟩) n c1, .slice (some ⟨g2, 0, none⟩) n c2, .slice ho n hc, .slice vo n vc, .bool true] 70 (0, 0))) (hO : Own10 B w e (.slice (some ⟨g1, 0, none⟩) n c1) (.slice (some ⟨g2, 0, none⟩) n c2)) (hn : 0 < n) (k : Nat) (v : V3) (b : Bool) :
    let W := (((w.setCell ⟨g1, k, none⟩ (.bool b)).setCell ⟨g2, k * 3, none⟩ (.int .u8 v.1)).setCell ⟨g2, k * 3 + 1, none⟩ (.int .i64 v.2.1)).setCell ⟨g2, k * 3 + 2, none⟩ (.string v.2.2)
    M10 B W nb n e0 (e.1.set k b, e.2.set k v) ho hc vo vc true ∧ MFr B nb w W := by
  intro W
  obtain ⟨g1', c1', cur1, e1, hg1b, hg1, -⟩ := owns_at hO.has (by have := h.even.1; omega)
  obtain ⟨g2', c2', cur2, e2, hg2b, hg2, -⟩ := owns_at hO.vals (by have := h.even.2; omega)
  simp only [Value.slice.injEq, Option.some.injEq, Addr.mk.injEq, and_true] at e1 e2
  obtain ⟨rfl, -⟩ := e1
  obtain ⟨rfl, -⟩ := e2
  have n12 : g1 ≠ g2 := ne_block hg1 hg2 (by decide)
  have nb1 : nb ≠ g1 := ne_block h1 hg1 (by decide)
  have nb2 : nb ≠ g2 := ne_block h1 hg2 (by decide)
  have q : MFr B nb w W := by
    refine ⟨(((Below.refl B w).setCell hg1b _ |>.setCell hg2b _).setCell hg2b _).setCell hg2b _, fun i cs t fz hi hne ht1 ht2 => ?_⟩
    have i1 : i ≠ g1 := ne_block hi hg1 ht1
    have i2 : i ≠ g2 := ne_block hi hg2 ht2
    exact heap_set4 hi i1 i2
  have hO2 : Own10 B W (e.1.set k b, e.2.set k v) (.slice (some ⟨g1, 0, none⟩) n c1) (.slice (some ⟨g2, 0, none⟩) n c2) := by
    have := own_bind (base := B) (w := w) (e := e) (g1 := g1) (c1 := c1) (g2 := g2) (c2 := c2) (by rw [h.even.1, h.even.2]; exact hO) n12 k v b
    rw [h.even.1, h.even.2] at this
    exact this
  exact ⟨⟨h.low, h.few, h.even0, ⟨by rw [List.length_set]; exact h.even.1, by rw [List.length_set]; exact h.even.2⟩, h.ahead.up q.bel (Nat.le_refl _), _, _, heap_set4 h1 nb1 nb2, (fun e => by cases e), fun _ => hO2⟩, q⟩
theorem M10.drew {B : Nat} {w : World} {nb n : Nat} {e0 e : E10} {ho : Option Addr} {hc : Nat} {vo : Option Addr} {vc : Nat} {bd : Bool} (h : M10 B w nb n e0 e ho hc vo vc bd) : M10 B w.drew nb n e0 e ho hc vo vc bd := h.old (below_drew (Below.refl _ _))
set_option maxRecDepth 100000 in
set_option maxHeartbeats 4000000 in
theorem bind_own {B : Nat} {w : World} {nb n : Nat} {e0 e : E10} {ho : Option Addr} {hc : Nat} {vo : Option Addr} {vc : Nat} (h : M10 B w nb n e0 e ho hc vo vc true) (k : Nat) (hk : k < n) (v : V3) :
    Calls Tryz.prog 91 #[.pointer (some ⟨nb, 0, none⟩), .int .i64 k, aggV v] w fun r w' => r = .returned (.bool true) ∧ M10 B w' nb n e0 (bind10 k v e) ho hc vo vc true ∧ MFr B nb w w' := by
  have hk1 := known10_iff.2 ⟨k, rfl, hk⟩
  obtain ⟨w0, hw0⟩ : ∃ w0, w0 = w.alloc (.cells #[.int .u8 v.1, .int .i64 v.2.1, .string v.2.2] 27) := ⟨_, rfl⟩
  have hb0 : Below w.heap.size w w0 := by rw [hw0]; exact below_own _
  have hg0 : w0.heap[w.heap.size]? = some (.cells #[.int .u8 v.1, .int .i64 v.2.1, .string v.2.2] 27 (0, 0)) := by rw [hw0]; exact heap_alloc_new w _
  have h0 := h.old hb0
  have HK := Lib.hid (knows_any h0 k)
  rw [hk1] at HK
  have hnb := h.lt
  have hlow := h.low
  have hfew := h.few
  obtain ⟨a1, c1, a2, c2, h1, -, h3⟩ := h0.slices
  have h4 := h3 rfl
  obtain ⟨g1, c1', cur1, e1, hg1b, hg1, hnc1, hcm1, hc1⟩ := owns_at h4.has (by have := h0.even.1; omega)
  obtain ⟨g2, c2', cur2, e2, hg2b, hg2, hnc2, hcm2, hc2⟩ := owns_at h4.vals (by have := h0.even.2; omega)
  rw [h0.even.1] at e1 hnc1
  rw [h0.even.2] at e2 hnc2
  simp only [Value.slice.injEq, true_and] at e1 e2
  obtain ⟨rfl, rfl⟩ := e1
  obtain ⟨rfl, rfl⟩ := e2
  have hg2o : g2 < w.heap.size := by
    obtain ⟨a1', c1', a2', c2', h1', -, h3'⟩ := h.slices
    have e := (hb0.block nb hnb).trans h1'
    rw [h1] at e
    simp only [Option.some.injEq, Obj.cells.injEq, Array.mk.injEq, List.cons.injEq, Value.slice.injEq, true_and, and_true] at e
    have e2 : (some ⟨g2, 0, none⟩ : Option Addr) = a2' := by simp_all
    have := ((h3' rfl).vals.lt g2 (by rw [← e2]; rfl)).2
    exact this
  have n12 : g1 ≠ g2 := ne_block hg1 hg2 (by decide)
  have nb1 : nb ≠ g1 := ne_block h1 hg1 (by decide)
  have nb2 : nb ≠ g2 := ne_block h1 hg2 (by decide)
  have nbg : nb ≠ w.heap.size := by omega
  have ng1 : w.heap.size ≠ g1 := ne_block hg0 hg1 (by decide)
  have ng2 : w.heap.size ≠ g2 := by omega
  have y := fun j => Lib.cell_of_heap h1 j
  have yg := fun j => Lib.cell_of_heap hg0 j
  have z1 := fun j => Lib.frozen_of_heap hg1 j
  have z2 := fun j => Lib.frozen_of_heap hg2 j
  have x1 : w0.cell? ⟨g1, k, none⟩ = some (.bool (e.1.getD k false)) := by
    rw [hc1 k (by have := h0.even.1; omega)]
    exact cellsB_get _ _ (by rw [h0.even.1]; exact hk)
  have hv3 := cellsV_get e.2 k (by rw [h0.even.2]; exact hk)
  have x2 : w0.cell? ⟨g2, k * 3, none⟩ = _ := (hc2 (k * 3) (by have := h0.even.2; omega)).trans hv3.1
  have x3 : w0.cell? ⟨g2, k * 3 + 1, none⟩ = _ := (hc2 (k * 3 + 1) (by have := h0.even.2; omega)).trans hv3.2.1
  have x4 : w0.cell? ⟨g2, k * 3 + 2, none⟩ = _ := (hc2 (k * 3 + 2) (by have := h0.even.2; omega)).trans hv3.2.2
  have HB := Lib.hid hb0
  have HM := Lib.hid h0
  have HO := Lib.hid h4
  have H1 := Lib.hid h1
  have HG1 := Lib.hid hg1
  have HG2 := Lib.hid hg2
  clear h h0 hk1 h3 h4 hg1b hg2b hc1 hc2 hv3 hb0 hg0 h1 hg1 hg2 hg2o
  go_enter Tryz.func91, Tryz.ntmps91
  go_wp2_with (go_at_call 92; go_must (rw [← hw0]; clear hw0; refine (HK.out).mono ?_; rintro e w1 ⟨rfl, rfl⟩))
  go_region
  all_goals
    go_wp2
    go_ret
    obtain ⟨m1, m2⟩ := m10_set HM.out H1.out HO.out (by omega) k v true
    exact ⟨rfl, m1.drew, ((MFr.of_below HB.out (by omega)).trans m2).drew⟩
end Go.Proofs.YtnnhgbncghpecaaGreat
