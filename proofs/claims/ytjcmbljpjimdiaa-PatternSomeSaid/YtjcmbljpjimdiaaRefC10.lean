/- The document's Match, where its head is right. -/
import Derived.Test.YtjcmbljpjimdiaaRefB10
import Derived.Deep.CutRange
import Derived.Deep.DeepCutAuto
namespace Go.Proofs.Ytjcmbljpjimdiaa
open Go.RowKit

section
variable {w : World} {c : C10} {ao : Option Addr} {ac : Nat} {xo : Option Addr} {xc : Nat} {f : F10} {fo : Option Addr} {fc : Nat} {e : E10} {ho : Option Addr} {hc : Nat} {vo : Option Addr} {vc : Nat}
set_option maxRecDepth 100000 in
set_option maxHeartbeats 4000000 in
theorem ref_goes (hA : Sl10 w.heap.size w c.args.length ao ac (cellsA c.args)) (hF : Sl10 w.heap.size w f.args.length fo fc (cellsV f.args)) (hE : Env10 w.heap.size w e ho hc vo vc) (hn : e.1.length ≤ 100000) (hh : headB c f e = true) :
    Calls Try.prog 18 #[aggC c ao ac xo xc, aggF f fo fc, aggE e ho hc vo vc] w (RefP (firstB c [f] e) w) := by
  rw [firstB_fits hh]
  have HA := Lib.hid hA
  have HF := Lib.hid hF
  have HE := Lib.hid hE
  have m1 : c.args.length ≤ 9223372036854775807 := by have := hA.cap; have := hA.top; unfold maxLen at this; omega
  have m2 : f.args.length ≤ 9223372036854775807 := by have := hF.cap; have := hF.top; unfold maxLen at this; omega
  obtain ⟨w0, hw0⟩ : ∃ w0, w0 = (((w.alloc (.cells (cellsC c ao ac xo xc) 33)).alloc (.cells #[.int .i64 f.id, .int .i64 f.type, .slice fo f.args.length fc] 39)).alloc (.cells #[.slice ho e.1.length hc, .slice vo e.2.length vc] 45)).alloc (.cells #[.slice none 0 0, .slice none 0 0] 45) := ⟨_, rfl⟩
  have hb0 : Below w.heap.size w w0 := by rw [hw0]; exact below_new (below_new (below_new (below_own _) _) _) _
  have hs0 : w0.heap.size = w.heap.size + 4 := by rw [hw0]; simp
  obtain ⟨q1, q2, q3, q4⟩ : w0.heap[w.heap.size]? = some (.cells (cellsC c ao ac xo xc) 33 (0, 0)) ∧ w0.heap[w.heap.size + 1]? = some (.cells #[.int .i64 f.id, .int .i64 f.type, .slice fo f.args.length fc] 39 (0, 0)) ∧ w0.heap[w.heap.size + 2]? = some (.cells #[.slice ho e.1.length hc, .slice vo e.2.length vc] 45 (0, 0)) ∧ w0.heap[w.heap.size + 3]? = some (.cells #[.slice none 0 0, .slice none 0 0] 45 (0, 0)) := by
    rw [hw0]
    exact heap_four _ _ _ _
  have HB0 := Lib.hid hb0
  have HQ1 := Lib.hid q1
  have HQ2 := Lib.hid q2
  have HQ4 := Lib.hid q4
  have HQ3 := Lib.hid q3
  have HM := Lib.hid (refMade_any e ho hc vo vc w0 (hE.up hb0 hb0.size))
  unfold aggE at HM ⊢
  obtain ⟨ck, ct, cl, cx⟩ := c
  obtain ⟨fi, ft, fl⟩ := f
  have hh' := hh
  unfold headB at hh'
  simp only [Bool.and_eq_true, Bool.or_eq_true, decide_eq_true_eq] at hh'
  obtain ⟨hmd, hkind, htype, hlen⟩ := hh'
  simp only at m1 m2 hw0 HQ1 HQ2 HA HF
  rw [hmd] at HM
  have hev := made_even hmd
  have HEv := Lib.hid hev
  have hn2 : e.2.length = e.1.length := hev.2
  clear hA hF hE q1 q2 q3 q4 hb0 hh hmd hev
  rw [hn2] at HM HQ3 hw0 ⊢
  have HL := Lib.hid hlen
  rw [hlen] at m2 hw0 HQ2
  subst htype
  obtain ⟨n, hnn⟩ : ∃ n, n = e.1.length := ⟨_, rfl⟩
  have HN := Lib.hid hnn
  rw [← hnn] at HM HQ3 hw0 hn hn2 HEv ⊢
  clear hnn
  simp only
  unfold aggF
  simp only
  rw [hlen]
  clear hlen
  go_enter Try.func18, Try.ntmps18
  go_upto_region 1 with fail
  rw [← hw0]
  clear hw0
  go_cut [42] from 14 to 42 (fun s42 wx => s42 = .bool false ∧ Hid (Below w0.heap.size w0 wx))
  case first =>
    have y3 := fun j => Lib.cell_of_heap HQ3.out j
    rcases hkind with rfl | rfl
    all_goals
      go_wp2_with (go_at_call 28; go_must (refine (HM.out).mono ?_; rintro r w1 ⟨rfl, hb⟩; have HB1 := Lib.hid hb; have H1 := Lib.hid ((hb.block w.heap.size (by omega)).trans HQ1.out); have H2 := Lib.hid ((hb.block (w.heap.size + 1) (by omega)).trans HQ2.out); have y1 := (fun j => Lib.cell_of_heap H1.out j); have y2 := (fun j => Lib.cell_of_heap H2.out j); clear hb))
      go_meet
      exact ⟨rfl, HB1⟩
  case rest =>
    obtain ⟨rfl, HBc⟩ := hcut
    have HB1 := Lib.hid (HB0.out.trans (HBc.out.mono HB0.out.size))
    have H1 := Lib.hid ((HBc.out.block w.heap.size (by omega)).trans HQ1.out)
    have H2 := Lib.hid ((HBc.out.block (w.heap.size + 1) (by omega)).trans HQ2.out)
    have H3 := Lib.hid ((HBc.out.block (w.heap.size + 2) (by omega)).trans HQ3.out)
    have H4 := Lib.hid ((HBc.out.block (w.heap.size + 3) (by omega)).trans HQ4.out)
    have hsz : w.heap.size + 4 ≤ wc.heap.size := by have := HBc.out.size; omega
    clear HQ1 HQ2 HQ3 HQ4 HB0 HBc HM hs0
    generalize wc = w8 at *
    go_upto_region 3 with fail
    generalize ha0 : ({ tmps := _, defers := _ } : Act) = a0
    have o : Ro a0 w8 e n ho hc vo vc (w.heap.size + 2) := by
      rw [← ha0]
      exact ⟨rfl, rfl, HE.out.up HB1.out HB1.out.size, HEv.out, hn, H3.out⟩
    refine wp_region_inv (fun listed a W => Rf a0 w8 e n ho hc vo vc (w.heap.size + 2) (fun j => listed.getD j false) a W) (by kernel_rfl) (by kernel_rfl) ⟨_, (fillF_self a0 slots3 (fun d hd => by rw [o.size]; exact (by decide : ∀ d ∈ slots3, d < 131) d hd)).symm, Rd.start _ _ _ _ _ _ _ _ _ (fun j => replicate_getD _ j)⟩ (fun listed a W i hs h hi => ?_) (fun listed a W h hall => ?_)
    · obtain ⟨x, rfl, hW⟩ := h
      have hs13 : listed.size = 11 := hs
      have hi13 : i < 11 := ready_lt hi
      have neg : listed.getD i false = false := ready_not hs hi
      have el : (fun j => (listed.setIfInBounds i true).getD j false) = setL (fun j => listed.getD j false) i := funext fun j => getD_listed (by omega) j
      refine wpOp_mono (K := Rf a0 w8 e n ho hc vo vc (w.heap.size + 2) (setL (fun j => listed.getD j false) i)) (fun a' w' h' => by show Rf _ _ _ _ _ _ _ _ _ (fun j => (listed.setIfInBounds i true).getD j false) _ _; rw [el]; exact h') ?_
      clear el ha0
      obtain rfl | rfl | rfl | rfl | rfl | rfl | rfl | rfl | rfl | rfl | rfl : i = 0 ∨ i = 1 ∨ i = 2 ∨ i = 3 ∨ i = 4 ∨ i = 5 ∨ i = 6 ∨ i = 7 ∨ i = 8 ∨ i = 9 ∨ i = 10 := by omega
      · exact Rd.op0 o hW rfl neg
      · exact Rd.op1 o hW rfl neg
      · exact Rd.op2 o hW rfl neg (waits_done hi (by kernel_rfl))
      · exact Rd.op3 o hW rfl neg (waits_done hi (by kernel_rfl)) (waits_done hi (by kernel_rfl))
      · exact Rd.op4 o hW rfl neg
      · exact Rd.op5 o hW rfl neg
      · exact Rd.op6 o hW rfl neg (waits_done hi (by kernel_rfl))
      · exact Rd.op7 o hW rfl neg (waits_done hi (by kernel_rfl)) (waits_done hi (by kernel_rfl))
      · exact Rd.op8 o hW rfl neg (waits_done hi (by kernel_rfl)) (waits_done hi (by kernel_rfl))
      · exact Rd.op9 o hW rfl neg
      · exact Rd.op10 o hW rfl neg (waits_done hi (by kernel_rfl)) (waits_done hi (by kernel_rfl))
    · obtain ⟨x, rfl, hW⟩ := h
      obtain ⟨⟨g8, eg8, hB8, hg8⟩, -⟩ := hW.f10 (hall 10 (by decide))
      obtain ⟨a1, d1, e47, ho1⟩ := hW.f3 (hall 3 (by decide))
      obtain ⟨a2, d2, e51, ho2⟩ := hW.f7 (hall 7 (by decide))
      rw [e47, e51] at hg8
      rw [e47] at ho1
      rw [e51] at ho2
      have hbW := hW.bel
      have hR : RAt w W ⟨ck, ft, cl, cx⟩ ao ac xo xc fi ft fo fc n e g8 a1 d1 a2 d2 := by
        refine ⟨HB1.out.trans (hbW.mono HB1.out.size), Nat.le_trans hsz hbW.size, (hbW.block _ (by omega)).trans H1.out, (hbW.block _ (by omega)).trans H2.out, (hbW.block _ (by omega)).trans H4.out, hg8, by omega, ⟨?_, ?_⟩, HEv.out⟩
        · rw [HEv.out.1]; exact owns_mono ho1 HB1.out.size
        · rw [HEv.out.2]; exact owns_mono ho2 HB1.out.size
      have HR := Lib.hid hR
      refine (by assumption : ∀ (a : Act) (w : World), Code.wp _ _ _ a w → _) _ W ?_
      clear hW hall o ho1 ho2 hg8 hbW hR H1 H2 H3 H4 HB1
      simp only [fillF, slots3, eg8]
      clear e47 e51 eg8
      rw [← ha0]
      clear ha0
      go_simp
      go_wp2_with fail
      go_loopw [9] (fun i wr => ∃ (j : Nat) (ej : E10), j ≤ cl.length ∧ i = .int .i64 j ∧ Hid (fitsP ((cl.zip fl).take j) e = some ej) ∧ Hid (RAt w wr ⟨ck, ft, cl, cx⟩ ao ac xo xc fi ft fo fc n ej g8 a1 d1 a2 d2)) (fun i _ => cl.length - (intOf i).toNat)
      case atStart => exact ⟨0, e, by omega, rfl, rfl, HR⟩
      case round =>
        obtain ⟨j, ej, hj, rfl, HFt, HW⟩ := hrel
        have y1 : ∀ k, wr.cell? ⟨w.heap.size, k, none⟩ = (cellsC ⟨ck, ft, cl, cx⟩ ao ac xo xc)[k]? := fun k => Lib.cell_of_heap HW.out.cb k
        have y2 : ∀ k, wr.cell? ⟨w.heap.size + 1, k, none⟩ = (#[Value.int .i64 fi, .int .i64 ft, .slice fo cl.length fc])[k]? := fun k => Lib.cell_of_heap HW.out.fb k
        have hle := HW.out.le
        by_cases hlt : j < cl.length
        · obtain ⟨ga, oa, rfl, hgB, x0, x1, x2, x3, x4⟩ := (HA.out.up HW.out.bel (Nat.le_refl _)).arg hlt
          obtain ⟨gv, ov, rfl, hgB2, v0, v1, v2⟩ := (HF.out.up HW.out.bel (Nat.le_refl _)).vget (j := j) (by rw [HL.out]; exact hlt)
          have hz : j < (cl.zip fl).length := by rw [List.length_zip, HL.out, Nat.min_self]; exact hlt
          have hzj : (cl.zip fl)[j] = (cl[j], fl.getD j zeroT) := by
            have := zip_get HL.out hlt
            rw [List.getElem?_eq_getElem hz] at this
            exact Option.some.inj this
          have HStep : Hid (fitsP ((cl.zip fl).take (j + 1)) e = fit1 cl[j] (fl.getD j zeroT) ej) := by
            rw [take_snoc _ _ hz, fitsP_snoc HFt.out, hzj]
            exact rfl
          have HFail : Hid (fit1 cl[j] (fl.getD j zeroT) ej = none → fitsP (cl.zip fl) e = none) := fun h0 => by
            rw [split_at (cl.zip fl) j hz]
            exact fitsP_fail HFt.out (by rw [hzj]; exact h0)
          clear hz hzj HFt
          try simp only at x0 x1 x2 x3 x4
          generalize cl[j] = a at *
          generalize fl.getD j zeroT = v at *
          obtain ⟨ak, ai, av1, av2, av3⟩ := a
          obtain ⟨w1', w2', w3'⟩ := v
          try simp only at x0 x1 x2 x3 x4 v0 v1 v2
          have hjn : (j : Int) < (cl.length : Int) := by omega
          have hga : ga < wr.heap.size := by omega
          have hgv : gv < wr.heap.size := by omega
          have e1 : wr.heap.size ≠ ga := by omega
          have e2 : wr.heap.size ≠ gv := by omega
          have e3 : wr.heap.size ≠ w.heap.size := by omega
          have e4 : wr.heap.size ≠ w.heap.size + 1 := by omega
          have e5 : wr.heap.size + 1 ≠ ga := by omega
          have e6 : wr.heap.size + 1 ≠ gv := by omega
          have e7 : wr.heap.size + 1 ≠ w.heap.size := by omega
          have e8 : wr.heap.size ≠ w.heap.size := by omega
          have f1 := e1.symm
          have f2 := e2.symm
          have f3 := e3.symm
          have f4 := e4.symm
          have f5 := e5.symm
          have f6 := e6.symm
          have f7 := e7.symm
          have y10 : wr.cell? ⟨w.heap.size, 2, none⟩ = some (.slice (some ⟨ga, oa, none⟩) cl.length ac) := y1 2
          have y20 : wr.cell? ⟨w.heap.size + 1, 2, none⟩ = some (.slice (some ⟨gv, ov, none⟩) cl.length fc) := y2 2
          have mixed : Try.prog.follows .mixedOrders = true := by kernel_rfl
          go_upto_region 7 with fail
          go_cut [10, 11] from 53 to 129 (fun s10 s11 wx => ∃ p q, s10 = .pointer (some ⟨p, 0, none⟩) ∧ s11 = .pointer (some ⟨q, 0, none⟩) ∧ Hid (wx.heap[p]? = some (.cells #[.int .u8 ak, .int .i64 ai, .int .u8 av1, .int .i64 av2, .string av3] 55 (0, 0))) ∧ Hid (wx.heap[q]? = some (.cells #[.int .u8 w1', .int .i64 w2', .string w3'] 27 (0, 0))) ∧ Hid (wr.heap.size ≤ q) ∧ Hid (Below wr.heap.size wr wx))
          case first =>
            clear y1 y2
            go_region_held3 (fun W' => W'.cell? ⟨w.heap.size, 2, none⟩ = some (.slice (some ⟨ga, oa, none⟩) cl.length ac) ∧ W'.cell? ⟨w.heap.size + 1, 2, none⟩ = some (.slice (some ⟨gv, ov, none⟩) cl.length fc) ∧ W'.cell? ⟨ga, oa + j * 5, none⟩ = some (.int .u8 ak) ∧ W'.cell? ⟨ga, oa + j * 5 + 1, none⟩ = some (.int .i64 ai) ∧ W'.cell? ⟨ga, oa + j * 5 + 2, none⟩ = some (.int .u8 av1) ∧ W'.cell? ⟨ga, oa + j * 5 + 3, none⟩ = some (.int .i64 av2) ∧ W'.cell? ⟨ga, oa + j * 5 + 4, none⟩ = some (.string av3) ∧ W'.cell? ⟨gv, ov + j * 3, none⟩ = some (.int .u8 w1') ∧ W'.cell? ⟨gv, ov + j * 3 + 1, none⟩ = some (.int .i64 w2') ∧ W'.cell? ⟨gv, ov + j * 3 + 2, none⟩ = some (.string w3'))
              (go_keep) (first | fail)
            all_goals (go_wp2_with fail; go_meet)
            all_goals first
              | exact ⟨_, _, rfl, rfl, (heap_two _ _).1, (heap_two _ _).2, Nat.le_succ _, below_drew (below_new (below_own _) _)⟩
              | exact ⟨_, _, rfl, rfl, (heap_two _ _).2, (heap_two _ _).1, Nat.le_refl _, below_drew (below_new (below_own _) _)⟩
          case rest =>
            obtain ⟨p, q, rfl, rfl, HP, HQ, Hq, HBx⟩ := hcut
            have HWc := Lib.hid (HW.out.old HBx.out)
            clear e1 e2 e3 e4 e5 e6 e7 e8 f1 f2 f3 f4 f5 f6 f7 y1 y2 y10 y20 x0 x1 x2 x3 x4 v0 v1 v2 HW hga hgv
            have Hle := Lib.hid HBx.out.size
            clear HBx
            generalize wc = wx at *
            have yp := fun i => Lib.cell_of_heap HP.out i
            have yq := fun i => Lib.cell_of_heap HQ.out i
            have ye := fun i => Lib.cell_of_heap HWc.out.eb i
            have yr := fun i => Lib.cell_of_heap HWc.out.rb i
            have zr := fun i => Lib.frozen_of_heap HWc.out.rb i
            have hpl := lt_of_heap HP.out
            have hql := lt_of_heap HQ.out
            have hel := lt_of_heap HWc.out.eb
            have y1 : ∀ k, wx.cell? ⟨w.heap.size, k, none⟩ = (cellsC ⟨ck, ft, cl, cx⟩ (some ⟨ga, oa, none⟩) ac xo xc)[k]? := fun k => Lib.cell_of_heap HWc.out.cb k
            go_upto_region 8 with fail
            go_cut [12] from 53 to 129 (fun s12 wy => s12 = .bool (known10 ai n) ∧ wy = wx)
            case first =>
              by_cases g0 : 0 ≤ ai
              · by_cases g1 : ai < (n : Int)
                · have hk : known10 ai n = true := by simp [known10, g0, g1]
                  go_wp2_with fail
                  go_meet
                  exact ⟨by rw [hk], rfl⟩
                · have hk : known10 ai n = false := by simp [known10, g1]
                  go_wp2_with fail
                  go_meet
                  exact ⟨by rw [hk], rfl⟩
              · have hk : known10 ai n = false := by simp [known10, g0]
                go_wp2_with fail
                go_meet
                exact ⟨by rw [hk], rfl⟩
            case rest =>
              obtain ⟨rfl, hwx⟩ := hcut
              subst hwx
              have hg := eqGuardV
              by_cases h1 : ak = 1
              · subst h1
                as_aux_lemma =>
                have HYes := Lib.hid (HStep.out.trans (rfl))
                clear HFail HStep
                go_wp2_with fail
                go_roundw
                case rel => exact ⟨j + 1, _, by omega, by go_num, HYes, HWc⟩
                case measure => simp [intOf]; omega
              · by_cases h2 : ak = 2
                · subst h2
                  cases hk : known10 ai n with
                  | false =>
                    as_aux_lemma =>
                    have HNo := Lib.hid (HFail.out (fit1_two_no HWc.out.even hk))
                    clear HFail HStep
                    go_wp2_with fail
                    exact ref_end rfl rfl rfl HWc.out.rb rfl fun W3 g3 => ⟨_, _, _, _, _, _, by rw [HNo.out]; rfl, HWc.out.bel.grown g3 HWc.out.bel.size (fun k hk => by obtain rfl := Option.some.inj hk; omega)⟩
                  | true =>
                    as_aux_lemma =>
                    obtain ⟨k, rfl, hkn⟩ := known10_iff.1 hk
                    obtain ⟨g1, g2, rfl, rfl, b1, b2, hx1, hx2, r0, r1, r2, r3⟩ := HWc.out.reads hkn
                    have HB := Lib.hid (HWc.out.bind k (w1', w2', w3') hx1 hx2 b1 b2)
                    obtain ⟨cs1, hx1⟩ := hx1
                    obtain ⟨cs2, hx2⟩ := hx2
                    have z1 := fun j => Lib.frozen_of_heap hx1 j
                    have z2 := fun j => Lib.frozen_of_heap hx2 j
                    have n12 : g1 ≠ g2 := ne_block hx1 hx2 (by decide)
                    have n21 := n12.symm
                    have np1 : p ≠ g1 := ne_block HP.out hx1 (by decide)
                    have np2 : p ≠ g2 := ne_block HP.out hx2 (by decide)
                    have nq1 : q ≠ g1 := ne_block HQ.out hx1 (by decide)
                    have ne1 : g8 ≠ g1 := ne_block HWc.out.eb hx1 (by decide)
                    have ne2 : g8 ≠ g2 := ne_block HWc.out.eb hx2 (by decide)
                    have np1' := np1.symm
                    have np2' := np2.symm
                    have nq1' := nq1.symm
                    have ne1' := ne1.symm
                    have ne2' := ne2.symm
                    have hkn1 : (k : Int) < (n : Int) := by omega
                    clear hx1 hx2
                    have HYes := Lib.hid (HStep.out.trans (fit1_two_yes HWc.out.even hk))
                    clear HFail HStep
                    go_wp2_with fail
                    go_roundw
                    case rel => exact ⟨j + 1, _, by omega, by go_num, HYes, HB⟩
                    case measure => simp [intOf]; omega
                · by_cases h3 : ak = 3
                  · subst h3
                    cases hk : known10 ai n with
                    | false =>
                      as_aux_lemma =>
                      have HNo := Lib.hid (HFail.out (fit1_three_no HWc.out.even hk))
                      clear HFail HStep
                      go_wp2_with fail
                      go_quiet (fail)
                      go_wp2
                      exact ref_end rfl rfl rfl HWc.out.rb rfl fun W3 g3 => ⟨_, _, _, _, _, _, by rw [HNo.out]; rfl, HWc.out.bel.grown (Fr.trans (Fr.of_below (below_drewN (Below.refl _ _) _)) g3) HWc.out.bel.size (fun k hk => by obtain rfl := Option.some.inj hk; omega)⟩
                    | true =>
                      obtain ⟨k, rfl, hkn⟩ := known10_iff.1 hk
                      obtain ⟨g1, g2, rfl, rfl, b1, b2, ⟨cs1, hx1⟩, ⟨cs2, hx2⟩, r0, r1, r2, r3⟩ := HWc.out.reads hkn
                      have hl1 := lt_of_heap hx1
                      have hl2 := lt_of_heap hx2
                      have hkn1 : (k : Int) < (n : Int) := by omega
                      have HF1 : Hid (fit1 ⟨3, (k : Int), av1, av2, av3⟩ (w1', w2', w3') ej = if (ej.1.getD k false && eqvB (ej.2.getD k zeroT) (w1', w2', w3')) = true then some ej else none) := by
                        unfold fit1
                        rw [if_neg (show ¬ (3 : Int) = 1 by decide), if_neg (show ¬ (3 : Int) = 2 by decide), if_pos rfl, HWc.out.even.1, hk]
                        exact rfl
                      clear hx1 hx2
                      cases hb : ej.1.getD k false with
                      | false =>
                        as_aux_lemma =>
                        rw [hb] at r0
                        have HNo := Lib.hid (HFail.out (by rw [HF1.out, hb]; exact rfl))
                        clear HFail HStep
                        go_wp2_with fail
                        go_quiet (fail)
                        go_wp2
                        exact ref_end rfl rfl rfl HWc.out.rb rfl fun W3 g3 => ⟨_, _, _, _, _, _, by rw [HNo.out]; rfl, HWc.out.bel.grown (Fr.trans (Fr.of_below (below_drewN (Below.refl _ _) _)) g3) HWc.out.bel.size (fun k hk => by obtain rfl := Option.some.inj hk; omega)⟩
                      | true =>
                        rw [hb] at r0 HF1
                        generalize ej.2.getD k zeroT = u at *
                        obtain ⟨u1, u2, u3⟩ := u
                        simp only at r1 r2 r3
                        have heq := fun W => eqV u1 u2 w1' w2' u3 w3' W
                        cases hq : eqvB (u1, u2, u3) (w1', w2', w3') with
                        | false =>
                          as_aux_lemma =>
                          rw [hq] at heq HF1
                          have HNo := Lib.hid (HFail.out (by rw [HF1.out]; exact rfl))
                          clear HFail HStep
                          go_wp2_with fail
                          go_quiet (fail)
                          go_wp2
                          exact ref_end rfl rfl rfl HWc.out.rb rfl fun W3 g3 => ⟨_, _, _, _, _, _, by rw [HNo.out]; rfl, HWc.out.bel.grown (Fr.trans (Fr.of_below (below_drewN (Below.refl _ _) _)) g3) HWc.out.bel.size (fun k hk => by obtain rfl := Option.some.inj hk; omega)⟩
                        | true =>
                          as_aux_lemma =>
                          rw [hq] at heq HF1
                          have HYes := Lib.hid (HStep.out.trans HF1.out)
                          clear HFail HStep
                          go_wp2_with fail
                          go_quiet (fail)
                          go_wp2
                          go_roundw
                          case rel => exact ⟨j + 1, _, by omega, by go_num, HYes, HWc.out.old (below_drewN (Below.refl _ _) _)⟩
                          case measure => simp [intOf]; omega
                  · by_cases h4 : ak = 4
                    · subst h4
                      have heq := fun W => eqV av1 av2 w1' w2' av3 w3' W
                      cases hq : eqvB (av1, av2, av3) (w1', w2', w3') with
                      | false =>
                        as_aux_lemma =>
                        rw [hq] at heq
                        have HNo := Lib.hid (HFail.out (fit1_four hq))
                        clear HFail HStep
                        go_wp2_with fail
                        exact ref_end rfl rfl rfl HWc.out.rb rfl fun W3 g3 => ⟨_, _, _, _, _, _, by rw [HNo.out]; rfl, HWc.out.bel.grown g3 HWc.out.bel.size (fun k hk => by obtain rfl := Option.some.inj hk; omega)⟩
                      | true =>
                        as_aux_lemma =>
                        rw [hq] at heq
                        have HYes := Lib.hid (HStep.out.trans (fit1_four hq))
                        clear HFail HStep
                        go_wp2_with fail
                        go_roundw
                        case rel => exact ⟨j + 1, _, by omega, by go_num, HYes, HWc⟩
                        case measure => simp [intOf]; omega
                    · as_aux_lemma =>
                      have c1 : (ak == 1) = false := by simp [h1]
                      have c2 : (ak == 2) = false := by simp [h2]
                      have c3 : (ak == 3) = false := by simp [h3]
                      have c4 : (ak == 4) = false := by simp [h4]
                      have HNo := Lib.hid (HFail.out (by unfold fit1; rw [if_neg h1, if_neg h2, if_neg h3, if_neg h4]))
                      clear HFail HStep
                      go_wp2_with fail
                      exact ref_end rfl rfl rfl HWc.out.rb rfl fun W3 g3 => ⟨_, _, _, _, _, _, by rw [HNo.out]; rfl, HWc.out.bel.grown g3 HWc.out.bel.size (fun k hk => by obtain rfl := Option.some.inj hk; omega)⟩
        · obtain rfl : j = cl.length := by omega
          have hz : (cl.zip fl).take cl.length = cl.zip fl := List.take_of_length_le (by rw [List.length_zip, HL.out, Nat.min_self]; exact Nat.le_refl _)
          have HE' := HFt.out
          rw [hz] at HE'
          have HY := Lib.hid HE'
          have ye := fun i => Lib.cell_of_heap HW.out.eb i
          have yr := fun i => Lib.cell_of_heap HW.out.rb i
          have zr := fun i => Lib.frozen_of_heap HW.out.rb i
          clear HE' hz HFt
          go_wp2
          exact ref_end rfl rfl rfl HW.out.rb rfl fun W3 g3 => ⟨_, _, _, _, _, _, by rw [HY.out]; rfl, HW.out.bel.grown g3 HW.out.bel.size (fun k hk => by obtain rfl := Option.some.inj hk; omega)⟩
end
end Go.Proofs.Ytjcmbljpjimdiaa
