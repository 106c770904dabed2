/- A match binds its first variable: its rows are copied ahead of it. -/
import Derived.Test.YtnnhgbncghpecaaGreatBind10
namespace Go.Proofs.YtnnhgbncghpecaaGreat
open Go.RowKit

theorem five_own {W : World} {nb : Nat} {T : TypeId} {u0 u1 u2 u3 u4 v0 v1 v4 : Value} (h : W.heap[nb]? = some (.cells #[u0, u1, u2, u3, u4] T (0, 0))) :
    (((W.setCell ⟨nb, 0, none⟩ v0).setCell ⟨nb, 1, none⟩ v1).setCell ⟨nb, 4, none⟩ v4).heap[nb]? = some (.cells #[v0, v1, u2, u3, v4] T (0, 0)) ∧ W.grownBy (((W.setCell ⟨nb, 0, none⟩ v0).setCell ⟨nb, 1, none⟩ v1).setCell ⟨nb, 4, none⟩ v4) (some nb) := by
  have g0 := Lib.grownBy_setCell W nb 0 v0
  have e0 := Joins.block_setCell h v0 (i := 0)
  generalize W.setCell ⟨nb, 0, none⟩ v0 = W0 at g0 e0 ⊢
  have g1 := grown_set2 (i := 1) (v := v1) g0
  have e1 := Joins.block_setCell e0 v1 (i := 1)
  generalize W0.setCell ⟨nb, 1, none⟩ v1 = W1 at g1 e1 ⊢
  have g2 := grown_set2 (i := 4) (v := v4) g1
  have e2 := Joins.block_setCell e1 v4 (i := 4)
  exact ⟨by simpa using e2, g2⟩
set_option maxRecDepth 100000 in
set_option maxHeartbeats 4000000 in
theorem bind_first {B : Nat} {w : World} {nb n : Nat} {e0 e : E10} {ho : Option Addr} {hc : Nat} {vo : Option Addr} {vc : Nat} (h : M10 B w nb n e0 e ho hc vo vc false) (k : Nat) (hk : k < n) (v : V3) :
    Calls Tryz.prog 91 #[.pointer (some ⟨nb, 0, none⟩), .int .i64 k, aggV v] w fun r w' => r = .returned (.bool true) ∧ M10 B w' nb n e0 (bind10 k v e) ho hc vo vc true ∧ MFr B nb w w' := by
  have hk1 := known10_iff.2 ⟨k, rfl, hk⟩
  obtain ⟨w0, hw0⟩ : ∃ w0, w0 = w.alloc (.cells #[.int .u8 v.1, .int .i64 v.2.1, .string v.2.2] 27) := ⟨_, rfl⟩
  have hb0 : Below w.heap.size w w0 := by rw [hw0]; exact below_own _
  have hs0 : w0.heap.size = w.heap.size + 1 := by rw [hw0]; simp
  have hg0 : w0.heap[w.heap.size]? = some (.cells #[.int .u8 v.1, .int .i64 v.2.1, .string v.2.2] 27 (0, 0)) := by rw [hw0]; exact heap_alloc_new w _
  have h0 := h.old hb0
  have HK := Lib.hid (knows_any h0 k)
  rw [hk1] at HK
  have hnb := h.lt
  have hlow := h.low
  have hfew := h.few
  obtain ⟨a1, c1, a2, c2, h1, h2, -⟩ := h0.slices
  obtain ⟨e1, e2, rfl⟩ := h2 rfl
  rw [e1, e2] at h1
  have HR := Lib.hid (rows_any e n h0.even ho hc vo vc w0 (h0.ahead.up (Below.refl _ _) (by omega)) hfew)
  unfold RowsP aggE at HR
  have y := fun j => Lib.cell_of_heap h1 j
  have hEn := h0.even
  have HAh := Lib.hid h0.ahead
  have HE := Lib.hid hEn
  rw [hEn.1, hEn.2] at HR
  have HB := Lib.hid hb0
  have H1 := Lib.hid h1
  have HG := Lib.hid hg0
  clear h h0 hk1 hb0 hg0 h1 h2 e1 e2 hEn
  go_enter Tryz.func91, Tryz.ntmps91
  go_wp2_with (first
    | (go_at_call 92; go_must (rw [← hw0]; clear hw0; refine (HK.out).mono ?_; rintro e w1 ⟨rfl, rfl⟩))
    | (go_at_call 46; go_must (refine (HR.out).mono ?_; rintro r w1 ⟨b1, d1, b2, d2, rfl, hO, hb⟩; have HO := Lib.hid hO; have HB1 := Lib.hid hb; have H11 := Lib.hid ((hb.block nb (by omega)).trans H1.out); have HG1 := Lib.hid ((hb.block w.heap.size (by omega)).trans HG.out); have y1 := (fun j => Lib.cell_of_heap H11.out j); have z1 := (fun j => Lib.frozen_of_heap H11.out j); clear hO hb y)))
  obtain ⟨q1, q2⟩ := five_own (v0 := .slice b1 n d1) (v1 := .slice b2 n d2) (v4 := .bool true) H11.out
  have hO2 := HO.out.far q2 H11.out (by decide) (by decide)
  have hG2 : (((w1.setCell ⟨nb, 0, none⟩ (.slice b1 n d1)).setCell ⟨nb, 1, none⟩ (.slice b2 n d2)).setCell ⟨nb, 4, none⟩ (.bool true)).heap[w.heap.size]? = _ := (q2.block w.heap.size (lt_of_heap HG1.out) (by simp; omega)).trans HG1.out
  have hF : MFr B nb w (((w1.setCell ⟨nb, 0, none⟩ (.slice b1 n d1)).setCell ⟨nb, 1, none⟩ (.slice b2 n d2)).setCell ⟨nb, 4, none⟩ (.bool true)) := ((((MFr.of_below HB.out (by omega)).trans (MFr.of_below HB1.out (by omega))).set_nb hlow _ _).set_nb hlow _ _).set_nb hlow _ _
  have hsz : w.heap.size < w1.heap.size := lt_of_heap HG1.out
  generalize (((w1.setCell ⟨nb, 0, none⟩ (.slice b1 n d1)).setCell ⟨nb, 1, none⟩ (.slice b2 n d2)).setCell ⟨nb, 4, none⟩ (.bool true)) = W at *
  obtain ⟨g1, c1', cur1, e1, hg1b, hg1, hnc1, hcm1, hc1⟩ := owns_at hO2.has (by have := HE.out.1; omega)
  obtain ⟨g2, c2', cur2, e2, hg2b, hg2, hnc2, hcm2, hc2⟩ := owns_at hO2.vals (by have := HE.out.2; omega)
  have hO3 : Own10 B W e (.slice b1 n d1) (.slice b2 n d2) := ⟨owns_mono hO2.has (by omega), owns_mono hO2.vals (by omega)⟩
  rw [HE.out.1] at e1 hnc1
  rw [HE.out.2] at e2 hnc2
  simp only [Value.slice.injEq, true_and] at e1 e2
  obtain ⟨rfl, rfl⟩ := e1
  obtain ⟨rfl, rfl⟩ := e2
  have n12 : g1 ≠ g2 := ne_block hg1 hg2 (by decide)
  have nb1 : nb ≠ g1 := ne_block q1 hg1 (by decide)
  have nb2 : nb ≠ g2 := ne_block q1 hg2 (by decide)
  have nbg : nb ≠ w.heap.size := by omega
  have ng1 : w.heap.size ≠ g1 := ne_block hG2 hg1 (by decide)
  have ng2 : w.heap.size ≠ g2 := by omega
  have y := fun j => Lib.cell_of_heap q1 j
  have yg := fun j => Lib.cell_of_heap hG2 j
  have z1 := fun j => Lib.frozen_of_heap hg1 j
  have z2 := fun j => Lib.frozen_of_heap hg2 j
  have x1 : W.cell? ⟨g1, k, none⟩ = some (.bool (e.1.getD k false)) := by
    rw [hc1 k (by have := HE.out.1; omega)]
    exact cellsB_get _ _ (by rw [HE.out.1]; exact hk)
  have hv3 := cellsV_get e.2 k (by rw [HE.out.2]; exact hk)
  have x2 : W.cell? ⟨g2, k * 3, none⟩ = _ := (hc2 (k * 3) (by have := HE.out.2; omega)).trans hv3.1
  have x3 : W.cell? ⟨g2, k * 3 + 1, none⟩ = _ := (hc2 (k * 3 + 1) (by have := HE.out.2; omega)).trans hv3.2.1
  have x4 : W.cell? ⟨g2, k * 3 + 2, none⟩ = _ := (hc2 (k * 3 + 2) (by have := HE.out.2; omega)).trans hv3.2.2
  have hM : M10 B W nb n e e ho hc vo vc true := ⟨hlow, hfew, HE.out, HE.out, HAh.out.up ((HB1.out.mono (by omega)).trans (⟨q2.os, q2.tape, q2.output, q2.size, fun i hi => q2.block i (by omega) (by simp; omega)⟩)) (Nat.le_refl _), _, _, q1, (fun e => by cases e), fun _ => hO3⟩
  have HM := Lib.hid hM
  have HF := Lib.hid hF
  have HQ := Lib.hid q1
  have HO3 := Lib.hid hO3
  clear hM hF q1 q2 hO3 hO2 hG2 hv3 hc1 hc2 hg1 hg2 hg1b hg2b HR HK HAh HB1 H11 H1 HG HG1 HO
  go_region
  all_goals
    go_wp2
    go_ret
    obtain ⟨m1, m2⟩ := m10_set HM.out HQ.out HO3.out (by omega) k v true
    exact ⟨rfl, m1.drew, (HF.out.trans m2).drew⟩
/-- A match binds a variable. -/
theorem bind_any {B : Nat} {w : World} {nb n : Nat} {e0 e : E10} {ho : Option Addr} {hc : Nat} {vo : Option Addr} {vc : Nat} {bd : Bool} (h : M10 B w nb n e0 e ho hc vo vc bd) (k : Nat) (hk : k < n) (v : V3) :
    Calls Tryz.prog 91 #[.pointer (some ⟨nb, 0, none⟩), .int .i64 k, aggV v] w fun r w' => r = .returned (.bool true) ∧ M10 B w' nb n e0 (bind10 k v e) ho hc vo vc true ∧ MFr B nb w w' := by
  cases bd with
  | true => exact bind_own h k hk v
  | false => exact bind_first h k hk v
end Go.Proofs.YtnnhgbncghpecaaGreat
