/- All arguments, each with its value. -/
import Derived.Test.YtnnhgbncghpecaaGreatUndo10
namespace Go.Proofs.YtnnhgbncghpecaaGreat
open Go.RowKit

section
variable {B : Nat} {w : World} {nb n : Nat} {e0 e : E10} {ho : Option Addr} {hc : Nat} {vo : Option Addr} {vc : Nat} {bd : Bool}
theorem Sl10.vat {W : World} {fs : List V3} {ao : Option Addr} {c : Nat} (h : Sl10 B W fs.length ao c (cellsV fs)) {j : Nat} (hj : j < fs.length) :
    ∃ g o, ao = some ⟨g, o, none⟩ ∧ g < B ∧ W.cell? ⟨g, o + j * 3, none⟩ = some (.int .u8 fs[j].1) ∧ W.cell? ⟨g, o + j * 3 + 1, none⟩ = some (.int .i64 fs[j].2.1) ∧ W.cell? ⟨g, o + j * 3 + 2, none⟩ = some (.string fs[j].2.2) := by
  obtain ⟨q0, q1, q2⟩ := cellsV_get fs j hj
  rw [List.getD_eq_getElem?_getD, List.getElem?_eq_getElem hj] at q0 q1 q2
  obtain ⟨g, o, rfl, l, r⟩ := h.row (fun hn => by rw [hn] at q0; cases q0)
  exact ⟨g, o, rfl, l, r _ _ q0, by rw [Nat.add_assoc]; exact r _ _ q1, by rw [Nat.add_assoc]; exact r _ _ q2⟩
theorem Sl10.take {W : World} {al : List A10} {ao : Option Addr} {c : Nat} (h : Sl10 B W al.length ao c (cellsA al)) (j : Nat) (hj : j ≤ al.length) (hn : 0 < al.length) : Sl10 B W (al.take j).length ao c (cellsA (al.take j)) := by
  have hl : (al.take j).length = j := by rw [List.length_take]; omega
  have e : cellsA al = cellsA (al.take j) ++ cellsA (al.drop j) := by rw [← cellsA_append, List.take_append_drop]
  refine ⟨fun hne => ?_, fun hnone => ?_, by rw [hl]; have := h.cap; omega, h.top⟩
  · obtain ⟨g, o, e1, l, r⟩ := h.row (fun h0 => hne (by rw [h0] at e; exact (List.append_eq_nil_iff.1 e.symm).1))
    refine ⟨g, o, e1, l, fun i u hu => r i u ?_⟩
    rw [e, List.getElem?_append_left (List.getElem?_eq_some_iff.1 hu).1]
    exact hu
  · have := (h.nil hnone).1
    omega
theorem zip_take_fst (al : List A10) (fs : List V3) (h : fs.length = al.length) (j : Nat) : ((al.zip fs).take j).map Prod.fst = al.take j := by
  rw [List.map_take, List.map_fst_zip (by omega)]
def ThroughP (B nb n : Nat) (e0 : E10) (ho : Option Addr) (hc : Nat) (vo : Option Addr) (vc : Nat) (al : List A10) (fs : List V3) (w : World) (r : Ending) (w' : World) : Prop :=
  ∃ bd', r = .returned (.bool (fitsP (al.zip fs) e0).isSome) ∧ M10 B w' nb n e0 ((fitsP (al.zip fs) e0).getD e0) ho hc vo vc bd' ∧ MFr B nb w w'

set_option maxRecDepth 100000 in
set_option maxHeartbeats 4000000 in
theorem through_any (h : M10 B w nb n e0 e0 ho hc vo vc bd) (hB : B ≤ w.heap.size) (al : List A10) (ao : Option Addr) (c : Nat) (ha : Sl10 B w al.length ao c (cellsA al)) (fs : List V3) (fo : Option Addr) (fc : Nat) (hf : Sl10 B w fs.length fo fc (cellsV fs)) (hlen : fs.length = al.length) :
    Calls Tryz.prog 45 #[.pointer (some ⟨nb, 0, none⟩), .slice ao al.length c, .slice fo fs.length fc] w (ThroughP B nb n e0 ho hc vo vc al fs w) := by
  have HA := Lib.hid ha
  have HV := Lib.hid hf
  have hm : al.length ≤ 9223372036854775807 := by have := ha.cap; have := ha.top; unfold maxLen at this; omega
  have hM0 := Lib.hid h
  have HL := Lib.hid hlen
  have HCap := Lib.hid (And.intro ha.cap ha.top)
  unfold ThroughP
  rw [hlen]
  clear h ha hf hlen
  have mixed : Tryz.prog.follows .mixedOrders = true := by kernel_rfl
  go_enter Tryz.func45, Tryz.ntmps45
  go_wp2_with fail
  go_loopw [11] (fun i wr => ∃ (j : Nat) (ej : E10) (bj : Bool), j ≤ al.length ∧ i = .int .i64 j ∧ Hid (fitsP ((al.zip fs).take j) e0 = some ej) ∧ Hid (M10 B wr nb n e0 ej ho hc vo vc bj) ∧ Hid (bj = false → ∀ a, a ∈ al.take j → a.kind ≠ 2) ∧ Hid (MFr B nb w wr)) (fun i _ => al.length - (intOf i).toNat)
  case atStart => exact ⟨0, e0, bd, by omega, rfl, rfl, hM0, (fun _ a ha => by cases ha), MFr.refl _ _ _⟩
  case round =>
    obtain ⟨j, ej, bj, hj, rfl, HE, HM, HN, HF⟩ := hrel
    by_cases hlt : j < al.length
    · obtain ⟨g, o, rfl, hgB, a0, a1, a2, a3, a4⟩ := (HA.out.up HF.out.bel (Nat.le_refl _)).arg hlt
      obtain ⟨g2, o2, rfl, hgB2, b0, b1, b2⟩ := (HV.out.up HF.out.bel (Nat.le_refl _)).vat (by rw [HL.out]; exact hlt)
      have hBw := HF.out.bel.size
      have hgl : g < wr.heap.size := by omega
      have hgl2 : g2 < wr.heap.size := by omega
      have hz : j < (al.zip fs).length := by rw [List.length_zip, HL.out, Nat.min_self]; exact hlt
      have hzj : (al.zip fs)[j] = (al[j], fs[j]'(by rw [HL.out]; exact hlt)) := by rw [List.getElem_zip]
      have HStep : Hid (fitsP ((al.zip fs).take (j + 1)) e0 = fit1 al[j] (fs[j]'(by rw [HL.out]; exact hlt)) ej) := by
        rw [take_snoc _ _ hz, fitsP_snoc HE.out, hzj]
        exact rfl
      have HFail : Hid (fit1 al[j] (fs[j]'(by rw [HL.out]; exact hlt)) ej = none → fitsP (al.zip fs) e0 = none) := fun h0 => by
        rw [split_at (al.zip fs) j hz]
        exact fitsP_fail HE.out (by rw [hzj]; exact h0)
      have HTake : Hid (∀ a, a ∈ al.take (j + 1) → a ∈ al.take j ∨ a = al[j]) := fun a ha => by
        rw [take_snoc _ _ hlt] at ha
        rcases List.mem_append.1 ha with h | h
        · exact Or.inl h
        · exact Or.inr (List.mem_singleton.1 h)
      have HFits := Lib.hid (fun W (hW : Below wr.heap.size wr W) => fits_any (HM.out.old hW) (Nat.le_trans (Nat.le_trans hB hBw) hW.size) al[j] (fs[j]'(by rw [HL.out]; exact hlt)))
      have HUndo : Hid (∀ W, M10 B W nb n e0 ej ho hc vo vc bj → MFr B nb w W → Calls Tryz.prog 57 #[.pointer (some ⟨nb, 0, none⟩), .slice (some ⟨g, o, none⟩) j c] W fun r w' => r = .returned (.tuple #[]) ∧ M10 B w' nb n e0 e0 ho hc vo vc bj ∧ MFr B nb W w') := fun W hMW hFW => by
        have hl : (al.take j).length = j := by rw [List.length_take]; omega
        have := undo_any hMW (Nat.le_trans hB hFW.bel.size) (al.take j) (some ⟨g, o, none⟩) c ((HA.out.up hFW.bel (Nat.le_refl _)).take j hj (by omega)) HN.out (by
          have := (fitsP_like HE.out HM.out.even0).2
          rwa [zip_take_fst _ _ HL.out] at this)
        rw [hl] at this
        have e2 : undoL e0 (al.take j) ej = e0 := by
          have := undo_fits HE.out HM.out.even0
          rwa [zip_take_fst _ _ HL.out] at this
        rwa [e2] at this
      have hcap : j ≤ c := by have := HCap.out.1; omega
      have hcm : c ≤ 9223372036854775807 := by have := HCap.out.2; unfold maxLen at this; omega
      clear HE HA HV hz hzj
      generalize al[j] = a at *
      generalize fs[j]'(by rw [HL.out]; exact hlt) = v at *
      obtain ⟨ak, ai, av1, av2, av3⟩ := a
      obtain ⟨v1, v2, v3⟩ := v
      simp only at a0 a1 a2 a3 a4 b0 b1 b2
      have hjn : (j : Int) < (al.length : Int) := by omega
      have HB0 : Hid (∀ o1, Below wr.heap.size wr (wr.alloc o1)) := fun o1 => below_own _
      have HF0 : Hid (∀ W, Below wr.heap.size wr W → MFr B nb w W) := fun W hW => HF.out.trans (MFr.of_below hW (Nat.le_trans hB hBw))
      cases hfit : fit1 ⟨ak, ai, av1, av2, av3⟩ (v1, v2, v3) ej with
      | none =>
        have HNo : Hid (∀ W, Below wr.heap.size wr W → Calls Tryz.prog 56 #[.pointer (some ⟨nb, 0, none⟩), aggA ⟨ak, ai, av1, av2, av3⟩, aggV (v1, v2, v3)] W fun r w' => r = .returned (.bool false) ∧ M10 B w' nb n e0 ej ho hc vo vc bj ∧ MFr B nb w w') := fun W hW => (HFits.out W hW).mono fun r w' ⟨h, hf⟩ => by
          rcases h with ⟨e', bd', h1, -⟩ | ⟨-, h2, h3⟩
          · rw [hfit] at h1; cases h1
          · exact ⟨h2, h3, (HF0.out W hW).trans hf⟩
        have HR := Lib.hid (HFail.out hfit)
        have e1 : (fitsP (al.zip fs) e0).isSome = false := by rw [HR.out]; rfl
        have e2 : (fitsP (al.zip fs) e0).getD e0 = e0 := by rw [HR.out]; rfl
        have E1 := Lib.hid e1
        have E2 := Lib.hid e2
        clear HFits HStep HFail HTake HN HM hfit HR e1 e2
        have hcap' : (j : Int) ≤ (c : Int) := by omega
        go_wp2_with fail
        go_region_with (go_at_call 56; go_must (refine (HNo.out _ (below_drew (HB0.out _))).mono ?_; rintro r w1 ⟨rfl, hm1, hf1⟩; have HM1 := Lib.hid hm1; have HF1 := Lib.hid hf1; clear hm1 hf1))
        all_goals
          clear HNo
          go_wp2_with (go_at_call 57; go_must (refine (HUndo.out _ HM1.out HF1.out).mono ?_; rintro r w2 ⟨rfl, hm2, hf2⟩; have HM2 := Lib.hid hm2; have HF2 := Lib.hid (HF1.out.trans hf2); clear hm2 hf2))
          go_ret
          exact ⟨_, by rw [E1.out]; rfl, by rw [E2.out]; exact HM2.out, HF2.out⟩
      | some e' =>
        have HYes : Hid (∀ W, Below wr.heap.size wr W → Calls Tryz.prog 56 #[.pointer (some ⟨nb, 0, none⟩), aggA ⟨ak, ai, av1, av2, av3⟩, aggV (v1, v2, v3)] W fun r w' => r = .returned (.bool true) ∧ ∃ bd', M10 B w' nb n e0 e' ho hc vo vc bd' ∧ (bj = true → bd' = true) ∧ (ak = 2 → bd' = true) ∧ MFr B nb w w') := fun W hW => (HFits.out W hW).mono fun r w' ⟨h, hf⟩ => by
          rcases h with ⟨e2, bd', h1, h2, h3, h4, h5⟩ | ⟨h1, -⟩
          · rw [hfit] at h1
            obtain rfl := Option.some.inj h1
            exact ⟨h2, bd', h3, h4, h5, (HF0.out W hW).trans hf⟩
          · rw [hfit] at h1; cases h1
        have HStep2 := Lib.hid (HStep.out.trans hfit)
        clear HFits HStep HFail HUndo HM hfit
        have HN2 : Hid (∀ bd', (bj = true → bd' = true) → (ak = 2 → bd' = true) → bd' = false → ∀ a, a ∈ al.take (j + 1) → a.kind ≠ 2) := fun bd' h4 h5 hb' a ha => by
          subst hb'
          rcases HTake.out a ha with h | h
          · refine HN.out ?_ a h
            cases bj with
            | false => rfl
            | true => exact absurd (h4 rfl) (by decide)
          · intro h2
            rw [h] at h2
            exact absurd (h5 h2) (by decide)
        clear HTake HN
        go_wp2_with fail
        go_region_with (go_at_call 56; go_must (refine (HYes.out _ (below_drew (HB0.out _))).mono ?_; rintro r w1 ⟨rfl, bd', hm1, h4, h5, hf1⟩; have HM1 := Lib.hid hm1; have HF1 := Lib.hid hf1; have HN3 := Lib.hid (HN2.out bd' h4 h5); clear hm1 hf1 h4 h5))
        all_goals
          clear HYes HN2
          go_wp2
          go_roundw
          case rel => exact ⟨j + 1, e', bd', by omega, by go_num, HStep2, HM1, HN3, HF1⟩
          case measure => simp [intOf]; omega
    · obtain rfl : j = al.length := by omega
      have hz : (al.zip fs).take al.length = al.zip fs := List.take_of_length_le (by rw [List.length_zip, HL.out, Nat.min_self]; exact Nat.le_refl _)
      have HE' := HE.out
      rw [hz] at HE'
      have e1 : (fitsP (al.zip fs) e0).isSome = true := by rw [HE']; rfl
      have e2 : (fitsP (al.zip fs) e0).getD e0 = ej := by rw [HE']; rfl
      have E1 := Lib.hid e1
      have E2 := Lib.hid e2
      clear HE HE' hz e1 e2
      go_wp2
      go_ret
      exact ⟨_, by rw [E1.out]; rfl, by rw [E2.out]; exact HM.out, HF.out⟩
end
end Go.Proofs.YtnnhgbncghpecaaGreat
