/- What was bound is taken back. -/
import Derived.Test.YtnnhgbncghpecaaGreatFits10
import Derived.Deep.RegionHeld3
namespace Go.Proofs.YtnnhgbncghpecaaGreat
open Go.RowKit

section
variable {B : Nat} {w : World} {nb n : Nat} {e0 e : E10} {ho : Option Addr} {hc : Nat} {vo : Option Addr} {vc : Nat} {bd : Bool}
/-- Where a variable of the env ahead is read. -/
theorem Env10.reads {W : World} (h : Env10 B W e0 ho hc vo vc) (he : Even n e0) {k : Nat} (hk : k < n) :
    ∃ g1 o1 g2 o2, ho = some ⟨g1, o1, none⟩ ∧ vo = some ⟨g2, o2, none⟩ ∧ g1 < B ∧ g2 < B ∧
      W.cell? ⟨g1, o1 + k, none⟩ = some (.bool (e0.1.getD k false)) ∧ W.cell? ⟨g2, o2 + k * 3, none⟩ = some (.int .u8 (e0.2.getD k zeroT).1) ∧ W.cell? ⟨g2, o2 + k * 3 + 1, none⟩ = some (.int .i64 (e0.2.getD k zeroT).2.1) ∧ W.cell? ⟨g2, o2 + k * 3 + 2, none⟩ = some (.string (e0.2.getD k zeroT).2.2) := by
  have q1 := cellsB_get e0.1 k (by rw [he.1]; exact hk)
  obtain ⟨q2, q3, q4⟩ := cellsV_get e0.2 k (by rw [he.2]; exact hk)
  obtain ⟨g1, o1, rfl, l1, r1⟩ := h.has.row (fun hn => by rw [hn] at q1; cases q1)
  obtain ⟨g2, o2, rfl, l2, r2⟩ := h.vals.row (fun hn => by rw [hn] at q2; cases q2)
  exact ⟨g1, o1, g2, o2, rfl, rfl, l1, l2, r1 _ _ q1, r2 _ _ q2, by rw [Nat.add_assoc]; exact r2 _ _ q3, by rw [Nat.add_assoc]; exact r2 _ _ q4⟩
/-- An argument of a row, where it stands. -/
theorem Sl10.arg {W : World} {al : List A10} {ao : Option Addr} {c : Nat} (h : Sl10 B W al.length ao c (cellsA al)) {j : Nat} (hj : j < al.length) :
    ∃ g o, ao = some ⟨g, o, none⟩ ∧ g < B ∧ W.cell? ⟨g, o + j * 5, none⟩ = some (.int .u8 al[j].kind) ∧ W.cell? ⟨g, o + j * 5 + 1, none⟩ = some (.int .i64 al[j].var) ∧ W.cell? ⟨g, o + j * 5 + 2, none⟩ = some (.int .u8 al[j].val.1) ∧ W.cell? ⟨g, o + j * 5 + 3, none⟩ = some (.int .i64 al[j].val.2.1) ∧ W.cell? ⟨g, o + j * 5 + 4, none⟩ = some (.string al[j].val.2.2) := by
  obtain ⟨q0, q1, q2, q3, q4⟩ := cellsA_at al j hj
  obtain ⟨g, o, rfl, l, r⟩ := h.row (fun hn => by rw [hn] at q0; cases q0)
  exact ⟨g, o, rfl, l, r _ _ q0, by rw [Nat.add_assoc]; exact r _ _ q1, by rw [Nat.add_assoc]; exact r _ _ q2, by rw [Nat.add_assoc]; exact r _ _ q3, by rw [Nat.add_assoc]; exact r _ _ q4⟩

set_option maxRecDepth 100000 in
set_option maxHeartbeats 4000000 in
theorem undo_any (h : M10 B w nb n e0 e ho hc vo vc bd) (hB : B ≤ w.heap.size) (al : List A10) (ao : Option Addr) (c : Nat) (ha : Sl10 B w al.length ao c (cellsA al)) (hbd : bd = false → ∀ a, a ∈ al → a.kind ≠ 2) (hb : BindsOf n al) :
    Calls Tryz.prog 57 #[.pointer (some ⟨nb, 0, none⟩), .slice ao al.length c] w fun r w' => r = .returned (.tuple #[]) ∧ M10 B w' nb n e0 (undoL e0 al e) ho hc vo vc bd ∧ MFr B nb w w' := by
  have HA := Lib.hid ha
  have HBd := Lib.hid hbd
  have HBi := Lib.hid hb
  have hm : al.length ≤ 9223372036854775807 := by have := ha.cap; have := ha.top; unfold maxLen at this; omega
  have hM0 := Lib.hid h
  have hfew := h.few
  have hlow := h.low
  clear h ha hbd hb
  have mixed : Tryz.prog.follows .mixedOrders = true := by kernel_rfl
  go_enter Tryz.func57, Tryz.ntmps57
  go_wp2_with fail
  go_loopw [8] (fun i wr => ∃ j : Nat, j ≤ al.length ∧ i = .int .i64 j ∧ Hid (M10 B wr nb n e0 (undoL e0 (al.take j) e) ho hc vo vc bd) ∧ Hid (MFr B nb w wr)) (fun i _ => al.length - (intOf i).toNat)
  case atStart => exact ⟨0, by omega, rfl, hM0, MFr.refl _ _ _⟩
  case round =>
    obtain ⟨j, hj, rfl, HM, HF⟩ := hrel
    by_cases hlt : j < al.length
    · obtain ⟨g, o, rfl, hgB, a0, a1, a2, a3, a4⟩ := (HA.out.up HF.out.bel (Nat.le_refl _)).arg hlt
      have hgl : g < wr.heap.size := by have := HF.out.bel.size; omega
      have hstep : undoL e0 (al.take (j + 1)) e = undo1 e0 al[j] (undoL e0 (al.take j) e) := by rw [take_snoc _ _ hlt, undoL_snoc]
      have hk2 : al[j].kind = 2 → bd = true ∧ ∃ k : Nat, al[j].var = k ∧ k < n := fun h2 => ⟨by
        cases hbd : bd with
        | true => rfl
        | false => exact absurd h2 (HBd.out hbd _ (List.getElem_mem hlt)), HBi.out _ (List.getElem_mem hlt) h2⟩
      have HS := Lib.hid hstep
      have HK2 := Lib.hid hk2
      clear hstep hk2
      generalize al[j] = a at *
      obtain ⟨ak, ai, av1, av2, av3⟩ := a
      simp only at a0 a1 a2 a3 a4
      have hjn : (j : Int) < (al.length : Int) := by omega
      generalize al.length = m at *
      by_cases h2 : ak = 2
      · subst h2
        obtain ⟨rfl, k, rfl, hkn⟩ := HK2.out rfl
        obtain ⟨W, hW⟩ : ∃ W, W = wr.alloc (.cells #[.int .u8 2, .int .i64 k, .int .u8 av1, .int .i64 av2, .string av3] 64) := ⟨_, rfl⟩
        have hbW : Below wr.heap.size wr W := by rw [hW]; exact below_own _
        have hgW : W.heap[wr.heap.size]? = some (.cells #[.int .u8 2, .int .i64 k, .int .u8 av1, .int .i64 av2, .string av3] 64 (0, 0)) := by rw [hW]; exact heap_alloc_new wr _
        have hsW : W.heap.size = wr.heap.size + 1 := by rw [hW]; simp
        have hMW := HM.out.old hbW
        have hFW : MFr B nb w W := HF.out.trans (MFr.of_below hbW (Nat.le_trans hB HF.out.bel.size))
        have hnb := HM.out.lt
        obtain ⟨s1, d1, s2, d2, q1, -, q3⟩ := hMW.slices
        have hO := q3 rfl
        obtain ⟨p1, p1o, p2, p2o, rfl, rfl, pl1, pl2, r1, r2, r3, r4⟩ := hMW.ahead.reads hMW.even0 hkn
        obtain ⟨g1, c1', cur1, e1, hg1b, hg1, hnc1, hcm1, hc1⟩ := owns_at hO.has (by have := hMW.even.1; omega)
        obtain ⟨g2, c2', cur2, e2, hg2b, hg2, hnc2, hcm2, hc2⟩ := owns_at hO.vals (by have := hMW.even.2; omega)
        rw [hMW.even.1] at e1 hnc1 hc1
        rw [hMW.even.2] at e2 hnc2 hc2
        simp only [Value.slice.injEq, true_and] at e1 e2
        obtain ⟨rfl, rfl⟩ := e1
        obtain ⟨rfl, rfl⟩ := e2
        have n12 : g1 ≠ g2 := ne_block hg1 hg2 (by decide)
        have nb1 : nb ≠ g1 := ne_block q1 hg1 (by decide)
        have nb2 : nb ≠ g2 := ne_block q1 hg2 (by decide)
        have nbg : nb ≠ wr.heap.size := by omega
        have ng1 : wr.heap.size ≠ g1 := ne_block hgW hg1 (by decide)
        have ng2 : wr.heap.size ≠ g2 := ne_block hgW hg2 (by decide)
        have np1 : p1 ≠ g1 := by omega
        have np2 : p1 ≠ g2 := by omega
        have np3 : p2 ≠ g1 := by omega
        have np4 : p2 ≠ g2 := by omega
        have y := fun j => Lib.cell_of_heap q1 j
        have yg := fun j => Lib.cell_of_heap hgW j
        have z1 := fun j => Lib.frozen_of_heap hg1 j
        have z2 := fun j => Lib.frozen_of_heap hg2 j
        have u1 := cellsB_get (undoL e0 (al.take j) e).1 k (by rw [hMW.even.1]; exact hkn)
        obtain ⟨u2, u3, u4⟩ := cellsV_get (undoL e0 (al.take j) e).2 k (by rw [hMW.even.2]; exact hkn)
        have x1 := (hc1 k (by omega)).trans u1
        have x2 := (hc2 (k * 3) (by omega)).trans u2
        have x3 := (hc2 (k * 3 + 1) (by omega)).trans u3
        have x4 := (hc2 (k * 3 + 2) (by omega)).trans u4
        have HSet := Lib.hid (m10_set hMW q1 hO (by omega) k (e0.2.getD k zeroT) (e0.1.getD k false))
        have hkn' : (k : Int) < (n : Int) := by omega
        have HS' : undoL e0 (al.take (j + 1)) e = ((undoL e0 (al.take j) e).1.set k (e0.1.getD k false), (undoL e0 (al.take j) e).2.set k (e0.2.getD k zeroT)) := HS.out
        have HFW := Lib.hid hFW
        have HS2 := Lib.hid HS'
        clear HS HS' hFW hMW hO q1 q3 hc1 hc2 u1 u2 u3 u4 hg1 hg2 hgW HK2 HM HF hg1b hg2b
        generalize e0.2.getD k zeroT = zv at *
        generalize e0.1.getD k false = zb at *
        generalize undoL e0 (al.take j) e = ej at *
        obtain ⟨zv1, zv2, zv3⟩ := zv
        simp only at r2 r3 r4
        have m1 := n12.symm
        have m2 := nb1.symm
        have m3 := nb2.symm
        have m4 := nbg.symm
        have m5 := ng1.symm
        have m6 := ng2.symm
        have m7 := np1.symm
        have m8 := np2.symm
        have m9 := np3.symm
        have m10 := np4.symm
        have y0 := y 0
        have y1 := y 1
        have y2 := y 2
        have y3 := y 3
        have yg1 := yg 1
        simp only [List.getElem?_toArray, List.getElem?_cons_zero, List.getElem?_cons_succ] at y0 y1 y2 y3 yg1
        go_wp2_with fail
        rw [← hW]
        clear hW y yg
        go_region_held3 (fun W' => W'.cell? ⟨nb, 0, none⟩ = some (.slice (some ⟨g1, 0, none⟩) n d1) ∧ W'.cell? ⟨nb, 1, none⟩ = some (.slice (some ⟨g2, 0, none⟩) n d2) ∧ W'.cell? ⟨nb, 2, none⟩ = some (.slice (some ⟨p1, p1o, none⟩) n hc) ∧ W'.cell? ⟨nb, 3, none⟩ = some (.slice (some ⟨p2, p2o, none⟩) n vc) ∧ W'.cell? ⟨wr.heap.size, 1, none⟩ = some (.int .i64 k) ∧ W'.cell? ⟨p1, p1o + k, none⟩ = some (.bool zb) ∧ W'.cell? ⟨p2, p2o + k * 3, none⟩ = some (.int .u8 zv1) ∧ W'.cell? ⟨p2, p2o + k * 3 + 1, none⟩ = some (.int .i64 zv2) ∧ W'.cell? ⟨p2, p2o + k * 3 + 2, none⟩ = some (.string zv3))
          (go_keep) (first | fail)
        all_goals
          obtain ⟨t1, t2⟩ := HSet.out
          have HM2 := Lib.hid (HS2.out ▸ t1.drew)
          have HF2 := Lib.hid ((HFW.out.trans t2).drew)
          clear HSet t1 t2 HFW y0 y1 y2 y3 yg1 r1 r2 r3 r4 x1 x2 x3 x4 z1 z2 HS2
          go_wp2
          go_roundw
          case rel => exact ⟨j + 1, by omega, by go_num, HM2, HF2⟩
          case measure => simp [intOf]; omega
      · have b2 : (ak == 2) = false := by simp [h2]
        have HM' : Hid (∀ o1, M10 B (wr.alloc o1) nb n e0 (undoL e0 (al.take (j + 1)) e) ho hc vo vc bd) := fun o1 => by
          rw [HS.out]
          unfold undo1
          rw [if_neg h2]
          exact HM.out.old (below_own _)
        have HF' : Hid (∀ o1, MFr B nb w (wr.alloc o1)) := fun o1 => HF.out.trans (MFr.of_below (below_own _) (Nat.le_trans hB HF.out.bel.size))
        clear h2 HS HK2
        go_wp2
        go_roundw
        case rel => exact ⟨j + 1, by omega, by go_num, HM'.out _, HF'.out _⟩
        case measure => simp [intOf]; omega
    · obtain rfl : j = al.length := by omega
      rw [List.take_length] at HM
      go_wp2
      go_end0
      exact ⟨rfl, HM.out, HF.out⟩
end
end Go.Proofs.YtnnhgbncghpecaaGreat
