/- The document's Better. -/
import Derived.Test.YtlkmabnjmklkpaaGreatDoorSal14
import Derived.Test.YtlkmabnjmklkpaaGreatDoorMark14
namespace Go.Proofs.YtlkmabnjmklkpaaGreatDoor
open Go.RowKit

theorem gr_mk (w : World) (q : Nat) (os : Array Obj) : Gr w (Sort.grow (w.drewN q) os) := ⟨q, os, rfl⟩
/-- A row of its own, read. -/
theorem owns_slI' {w : World} {base n : Nat} {v : Value} {l : List Int} (h : w.ownsRow base 3 1 v n (icells l)) (hn : n = l.length) : ∃ ao c, v = .slice ao l.length c ∧ SlG w.heap.size w ao (icells l) := by
  subst hn
  obtain ⟨ao, c, rfl⟩ := owns_slice h
  exact ⟨ao, c, rfl, owns_slI h⟩

set_option maxRecDepth 100000 in
set_option maxHeartbeats 8000000 in
theorem refBetter_any (s : List Int) (x y : TK) (ao ao1 ao2 : Option Addr) (c c1 c2 : Nat) (hm1 : x.2.length ≤ 1000000) (hm2 : y.2.length ≤ 1000000) (w : World) (h : SlG w.heap.size w ao (rcells s)) (h1 : SlG w.heap.size w ao1 (icells x.2)) (h2 : SlG w.heap.size w ao2 (icells y.2)) :
    Calls Tryz.prog 11 #[aggR ao s.length c, aggK x.1 ao1 x.2.length c1, aggK y.1 ao2 y.2.length c2] w (SaysP (better14 s x y) w) := by
  obtain ⟨r1, d1⟩ := x
  obtain ⟨r2, d2⟩ := y
  simp only at hm1 hm2 h1 h2 ⊢
  have mixed : Tryz.prog.follows .mixedOrders = true := by kernel_rfl
  have HB0 := Lib.hid (gr_three w (.cells #[.slice none 0 0, .slice ao s.length c] 31) (.cells #[.int .i64 r1, .slice ao1 d1.length c1] 24) (.cells #[.int .i64 r2, .slice ao2 d2.length c2] 24))
  have HR := Lib.hid h
  have H1 := Lib.hid h1
  have H2 := Lib.hid h2
  have HM1 := Lib.hid hm1
  have HM2 := Lib.hid hm2
  clear h h1 h2 hm1 hm2
  obtain ⟨z1, z2, z3⟩ := three_boxes (w := w) (Below.refl _ (((w.alloc (.cells #[.slice none 0 0, .slice ao s.length c] 31)).alloc (.cells #[.int .i64 r1, .slice ao1 d1.length c1] 24)).alloc (.cells #[.int .i64 r2, .slice ao2 d2.length c2] 24)))
  have HZ : Hid ((((w.alloc (.cells #[.slice none 0 0, .slice ao s.length c] 31)).alloc (.cells #[.int .i64 r1, .slice ao1 d1.length c1] 24)).alloc (.cells #[.int .i64 r2, .slice ao2 d2.length c2] 24)).heap.size = w.heap.size + 3) := by simp [Hid]
  have HRes : Hid ((salOf14 s r1 ≠ salOf14 s r2 → better14 s (r1, d1) (r2, d2) = decide (salOf14 s r2 < salOf14 s r1)) ∧ (salOf14 s r1 = salOf14 s r2 → falling14 d1 ≠ falling14 d2 → better14 s (r1, d1) (r2, d2) = gtL (falling14 d1) (falling14 d2)) ∧ (salOf14 s r1 = salOf14 s r2 → falling14 d1 = falling14 d2 → r1 ≠ r2 → better14 s (r1, d1) (r2, d2) = decide (r1 < r2)) ∧ (salOf14 s r1 = salOf14 s r2 → falling14 d1 = falling14 d2 → r1 = r2 → better14 s (r1, d1) (r2, d2) = ltL d1 d2)) := by
    refine ⟨fun a => ?_, fun a b => ?_, fun a b e => ?_, fun a b e => ?_⟩
    · simp only [better14]; rw [if_neg a]
    · simp only [better14]; rw [if_pos a, if_neg b]
    · simp only [better14]; rw [if_pos a, if_pos b, if_neg e]
    · simp only [better14]; rw [if_pos a, if_pos b, if_pos e]
  have HLp := Lib.hid (falling_len d1)
  have HLq := Lib.hid (falling_len d2)
  generalize hW0 : ((w.alloc (.cells #[.slice none 0 0, .slice ao s.length c] 31)).alloc (.cells #[.int .i64 r1, .slice ao1 d1.length c1] 24)).alloc (.cells #[.int .i64 r2, .slice ao2 d2.length c2] 24) = W0 at z1 z2 z3 HB0 HZ
  have y1 := cellG (by rw [HZ.out]; omega) (z1 0)
  have y2 := cellG (by rw [HZ.out]; omega) (z1 1)
  have y3 := cellG (by rw [HZ.out]; omega) (z2 0)
  have y4 := cellG (by rw [HZ.out]; omega) (z2 1)
  have y5 := cellG (by rw [HZ.out]; omega) (z3 0)
  have y6 := cellG (by rw [HZ.out]; omega) (z3 1)
  have KS1 := Lib.hid (fun W (hW : Gr W0 W) => refSal_any s r1 ao ao1 c d1.length c1 W (HR.out.up (HB0.out.trans hW).below (HB0.out.trans hW).below.size))
  have KS2 := Lib.hid (fun W (hW : Gr W0 W) => refSal_any s r2 ao ao2 c d2.length c2 W (HR.out.up (HB0.out.trans hW).below (HB0.out.trans hW).below.size))
  generalize hs1 : salOf14 s r1 = s1 at HRes KS1
  generalize hs2 : salOf14 s r2 = s2 at HRes KS2
  clear z1 z2 z3 hs1 hs2
  go_enter Tryz.func11, Tryz.ntmps11
  go_wp2_with fail
  subst hW0
  refine wp_region_quiet_grown (by assumption) (by kernel_rfl) ?_
  repeat (go_big_quiet_step (fail))
  go_big_quiet_step ((go_at_call 32; go_must (exact Calls.grown_of ((KS1.out _ ⟨_, _, rfl⟩).mono fun _ _ h => ⟨h.1, h.2.out⟩))))
  repeat (go_big_quiet_step (fail))
  go_big_quiet_step ((go_at_call 32; go_must (exact Calls.grown_of ((KS2.out _ ⟨_, _, rfl⟩).mono fun _ _ h => ⟨h.1, h.2.out⟩))))
  repeat (go_big_quiet_step (fail))
  refine wpQuiet_nil ?_
  intro w1 hw'
  obtain ⟨⟨nq, osq⟩, hw1⟩ := hw'
  have HG1 := Lib.hid (HB0.out.trans ⟨nq, osq, hw1⟩)
  obtain ⟨z1, z2, z3⟩ := three_boxes (Gr.below ⟨nq, osq, hw1⟩)
  have b1 := z2 0
  have b2 := z2 1
  have b3 := z3 0
  have b4 := z3 1
  have HZ1 : Hid (w.heap.size + 3 ≤ w1.heap.size) := by
    have := (Gr.below ⟨nq, osq, hw1⟩ : Below _ _ w1).size
    simp at this
    exact this
  have HC : Hid (∀ W, Below w1.heap.size w1 W → W.cell? ⟨w.heap.size + 1, 0, none⟩ = some (.int .i64 r1) ∧ W.cell? ⟨w.heap.size + 1, 1, none⟩ = some (.slice ao1 d1.length c1) ∧ W.cell? ⟨w.heap.size + 1 + 1, 0, none⟩ = some (.int .i64 r2) ∧ W.cell? ⟨w.heap.size + 1 + 1, 1, none⟩ = some (.slice ao2 d2.length c2)) := fun W hW => by
    have hz := HZ1.out
    have hc := (bcell hW).1
    exact ⟨(hc _ _ (by omega)).trans b1, (hc _ _ (by omega)).trans b2, (hc _ _ (by omega)).trans b3, (hc _ _ (by omega)).trans b4⟩
  clear hw1 z1 z2 z3 y1 y2 y3 y4 y5 y6 KS1 KS2 HB0
  by_cases hs : s1 = s2
  · subst hs
    have HRes2 := Lib.hid (And.intro (HRes.out.2.1 rfl) (And.intro (HRes.out.2.2.1 rfl) (HRes.out.2.2.2 rfl)))
    clear HRes
    have KP := Lib.hid (fun W (hW : Below w.heap.size w W) => refFalling_any d1 ao1 c1 HM1.out W (H1.out.up hW hW.size))
    have KQ := Lib.hid (fun W (hW : Below w.heap.size w W) => refFalling_any d2 ao2 c2 HM2.out W (H2.out.up hW hW.size))
    generalize hp : falling14 d1 = p at HRes2 KP HLp
    generalize hq : falling14 d2 = q at HRes2 KQ HLq
    have HB1 := Lib.hid HG1.out.below
    clear hp hq HG1
    go_wp2_with fail
    go_region_with (go_at_call 33; go_must (first
      | (refine (KP.out _ ?_).mono ?_; (first | exact HB1.out | exact below_drew HB1.out); rintro e w2 ⟨v2, rfl, ho2, hb2⟩; have HB2 := Lib.hid ((below_drew HB1.out).trans (hb2.mono (below_drew HB1.out).size)); have HO2 := Lib.hid ho2; have HBw := Lib.hid ((below_drew (Below.refl w1.heap.size w1)).trans (hb2.mono (Nat.le_refl _))); obtain ⟨b5, b6, b7, b8⟩ := HC.out w2 HBw.out; clear KP ho2 hb2)
      | (refine (KQ.out _ ?_).mono ?_; (first | exact HB2.out | exact below_drew HB2.out); rintro e w3 ⟨v3, rfl, ho3, hb3⟩; have HB3 := Lib.hid (below_step HB2.out hb3); have HO3 := Lib.hid (owns_below HO2.out hb3); have HQ3 := Lib.hid ho3; have HBx := Lib.hid (HBw.out.trans (hb3.mono HBw.out.size)); obtain ⟨b9, b10, b11, b12⟩ := HC.out w3 HBx.out; clear KQ ho3 hb3)))
    all_goals
      obtain ⟨ap, cp, rfl⟩ := owns_slice HO3.out
      obtain ⟨aq, cq, rfl⟩ := owns_slice HQ3.out
      have HP4 := Lib.hid (owns_slI HO3.out)
      have HQ4 := Lib.hid (owns_slI HQ3.out)
      replace HBw : Hid (Below w1.heap.size w1 w3) := by
        have := HB3.out.size
        exact HBx.out
      have HW0 : Hid (Below w3.heap.size w3 w3) := Below.refl _ _
      have hpm : p.length ≤ 1000000 := by have := HLp.out; have := HM1.out; omega
      have hdm : d1.length ≤ 1000000 := HM1.out
      clear HO3 HQ3 HO2 HB2 HB3 HBx b1 b2 b3 b4 b5 b6 b7 b8 b9 b10 b11 b12
      go_wp2_with fail
      go_loopw [11] (fun i wr => ∃ (k : Nat), k ≤ p.length ∧ k ≤ q.length ∧ i = .int .i64 k ∧ Hid (p.take k = q.take k) ∧ Hid (Below w3.heap.size w3 wr)) (fun i _ => p.length - (intOf i).toNat)
      case atStart => exact ⟨0, by omega, by omega, rfl, rfl, HW0⟩
      case round =>
        clear HW0
        obtain ⟨k, hkp, hkq, rfl, HT, HWr⟩ := hrel
        by_cases hp : k < p.length
        · have hpi : (k : Int) < (p.length : Int) := by omega
          by_cases hq : k < q.length
          · have hqi : (k : Int) < (q.length : Int) := by omega
            obtain ⟨sb, off, rfl, hsb, hc⟩ := (HP4.out.below HWr.out).cellI (by omega)
            obtain ⟨sb2, off2, rfl, hsb2, hc2⟩ := (HQ4.out.below HWr.out).cellI (by omega)
            have e1 := hc k hp
            have e2 := hc2 k hq
            have HN1 : Hid (p.take (k + 1) = p.take k ++ [p[k]]) := by rw [Hid, List.take_add_one, List.getElem?_eq_getElem hp]; rfl
            have HN2 : Hid (q.take (k + 1) = q.take k ++ [q[k]]) := by rw [Hid, List.take_add_one, List.getElem?_eq_getElem hq]; rfl
            have HNe : Hid (p[k] ≠ q[k] → better14 s (r1, d1) (r2, d2) = decide (q[k] < p[k])) := fun h => by
              rw [HRes2.out.1 (fun e => h (by subst e; rfl))]
              exact gtL_at p q k hp hq HT.out h
            clear hc hc2
            generalize p[k] = x1 at e1 HN1 HNe
            generalize q[k] = x2 at e2 HN2 HNe
            by_cases hx : x1 = x2
            · subst hx
              go_wp2_with fail
              go_quiet (fail)
              go_wp2_with fail
              go_roundw
              case rel => exact ⟨k + 1, by omega, by omega, by go_num, by rw [Hid, HN1.out, HN2.out, HT.out], RowKit_drewN HWr.out _⟩
              case measure => simp [intOf]; omega
            · have hd : (x1 == x2) = false := by simpa using hx
              have HR5 := Lib.hid (HNe.out hx)
              clear HNe hx
              go_wp2_with fail
              go_quiet (fail)
              have e1' : (wr.drewN nq).cell? ⟨sb, off + k, none⟩ = some (.int .i64 x1) := e1
              have e2' : (wr.drewN nq).cell? ⟨sb2, off2 + k, none⟩ = some (.int .i64 x2) := e2
              have HWd := Lib.hid (RowKit_drewN HWr.out nq)
              clear e1 e2 HWr
              generalize wr.drewN nq = w6 at e1' e2' HWd
              go_wp2_with fail
              go_quiet (fail)
              go_wp2
              go_ret
              exact ⟨by rw [HR5.out]; rfl, HB1.out.trans ((HBw.out.trans ((RowKit_drewN HWd.out _).mono HBw.out.size)).mono HB1.out.size)⟩
          · obtain rfl : k = q.length := by omega
            have hq1 : decide ((q.length : Int) < (p.length : Int)) = true := by simp; omega
            have HEnd := Lib.hid (gtL_end p q q.length (by omega) (by omega) (by omega) HT.out)
            have HW4 := Lib.hid (HBw.out.trans (HWr.out.mono HBw.out.size))
            obtain ⟨b13, b14, b15, b16⟩ := HC.out wr HW4.out
            have hl : p.length ≠ q.length := by omega
            have hd : ((p.length : Int) == (q.length : Int)) = false := by simp; omega
            have HR5 : Hid (better14 s (r1, d1) (r2, d2) = decide (q.length < p.length)) := by
              rw [Hid, HRes2.out.1 (fun e => hl (by rw [e])), HEnd.out.1]
            clear hl
            go_wp2_with fail
            go_ret
            exact ⟨by rw [HR5.out]; first | rfl | (simp [go_sem]; done) | (simp [go_sem]; omega), HB1.out.trans (HW4.out.mono HB1.out.size)⟩
        · obtain rfl : k = p.length := by omega
          have HEnd := Lib.hid (gtL_end p q p.length (by omega) (by omega) (by omega) HT.out)
          have HW4 := Lib.hid (HBw.out.trans (HWr.out.mono HBw.out.size))
          obtain ⟨b13, b14, b15, b16⟩ := HC.out wr HW4.out
          by_cases hl : p.length = q.length
          · have hpq := HEnd.out.2 hl
            have HDl : Hid (d1.length = d2.length) := by
              have := HLp.out
              have := HLq.out
              rw [Hid]
              omega
            have HPQ := Lib.hid hpq
            have hl2 : (p.length : Int) = (q.length : Int) := by omega
            have hdl : ((p.length : Int) == (q.length : Int)) = true := by simp; omega
            clear hpq HEnd
            by_cases hr : r1 = r2
            · subst hr
              have HR4 := Lib.hid (HRes2.out.2.2 HPQ.out rfl)
              clear HRes2
              go_wp2_with fail
              go_loopw [12] (fun i wr => ∃ (m : Nat), m ≤ d1.length ∧ i = .int .i64 m ∧ Hid (d1.take m = d2.take m) ∧ Hid (Below w1.heap.size w1 wr)) (fun i _ => d1.length - (intOf i).toNat)
              case atStart => exact ⟨0, by omega, rfl, rfl, HW4⟩
              case round =>
                clear HW4 b13 b14 b15 b16
                obtain ⟨m, hm, rfl, HT, HWr⟩ := hrel
                obtain ⟨b13, b14, b15, b16⟩ := HC.out wr HWr.out
                by_cases hlt : m < d1.length
                · have hlt2 : m < d2.length := by have := HDl.out; omega
                  have hbw := Lib.hid (HB1.out.trans (HWr.out.mono HB1.out.size))
                  obtain ⟨sb, off, rfl, hsb, hc⟩ := (H1.out.below hbw.out).cellI (by omega)
                  obtain ⟨sb2, off2, rfl, hsb2, hc2⟩ := (H2.out.below hbw.out).cellI (by omega)
                  have e1 := hc m hlt
                  have e2 := hc2 m hlt2
                  have HN1 : Hid (d1.take (m + 1) = d1.take m ++ [d1[m]]) := by rw [Hid, List.take_add_one, List.getElem?_eq_getElem hlt]; rfl
                  have HN2 : Hid (d2.take (m + 1) = d2.take m ++ [d2[m]]) := by rw [Hid, List.take_add_one, List.getElem?_eq_getElem hlt2]; rfl
                  have HNe : Hid (d1[m] ≠ d2[m] → better14 s (r1, d1) (r1, d2) = decide (d1[m] < d2[m])) := fun h => by rw [HR4.out]; exact ltL_at d1 d2 m hlt hlt2 HT.out h
                  have hmi : (m : Int) < (d1.length : Int) := by omega
                  have hmi2 : (m : Int) < (d2.length : Int) := by omega
                  clear hc hc2
                  generalize d1[m] = x1 at e1 HN1 HNe
                  generalize d2[m] = x2 at e2 HN2 HNe
                  by_cases hx : x1 = x2
                  · subst hx
                    go_wp2_with fail
                    go_quiet (fail)
                    go_wp2_with fail
                    go_roundw
                    case rel => exact ⟨m + 1, by omega, by go_num, by rw [Hid, HN1.out, HN2.out, HT.out], RowKit_drewN HWr.out _⟩
                    case measure => simp [intOf]; omega
                  · have hd : (x1 == x2) = false := by simpa using hx
                    have HR5 := Lib.hid (HNe.out hx)
                    clear HNe hx
                    go_wp2_with fail
                    go_quiet (fail)
                    have e1' : (wr.drewN nq).cell? ⟨sb, off + m, none⟩ = some (.int .i64 x1) := e1
                    have e2' : (wr.drewN nq).cell? ⟨sb2, off2 + m, none⟩ = some (.int .i64 x2) := e2
                    have b14' : (wr.drewN nq).cell? ⟨w.heap.size + 1, 1, none⟩ = _ := b14
                    have b16' : (wr.drewN nq).cell? ⟨w.heap.size + 1 + 1, 1, none⟩ = _ := b16
                    have HWd := Lib.hid (RowKit_drewN HWr.out nq)
                    clear e1 e2 b13 b14 b15 b16 hbw HWr
                    generalize wr.drewN nq = w6 at e1' e2' b14' b16' HWd
                    go_wp2_with fail
                    go_quiet (fail)
                    go_wp2
                    go_ret
                    exact ⟨by rw [HR5.out]; rfl, HB1.out.trans ((RowKit_drewN HWd.out _).mono HB1.out.size)⟩
                · obtain rfl : m = d1.length := by omega
                  have HR5 : Hid (better14 s (r1, d1) (r1, d2) = false) := by
                    rw [Hid, HR4.out]
                    exact ltL_end d1 d2 HDl.out HT.out
                  go_wp2_with fail
                  go_ret
                  exact ⟨by rw [HR5.out]; rfl, HB1.out.trans (HWr.out.mono HB1.out.size)⟩
            · have hd : (r1 == r2) = false := by simpa using hr
              have HR5 := Lib.hid (HRes2.out.2.1 HPQ.out hr)
              go_wp2_with fail
              go_ret
              exact ⟨by rw [HR5.out]; rfl, HB1.out.trans (HW4.out.mono HB1.out.size)⟩
          · have hd : ((p.length : Int) == (q.length : Int)) = false := by simp; omega
            have HR5 : Hid (better14 s (r1, d1) (r2, d2) = decide (q.length < p.length)) := by
              rw [Hid, HRes2.out.1 (fun e => hl (by rw [e])), HEnd.out.1]
            clear hl
            go_wp2_with fail
            go_ret
            exact ⟨by rw [HR5.out]; first | rfl | (simp [go_sem]; done) | (simp [go_sem]; omega), HB1.out.trans (HW4.out.mono HB1.out.size)⟩
  · have hd : (s1 == s2) = false := by simpa using hs
    have HR5 := Lib.hid (HRes.out.1 hs)
    go_wp2_with fail
    go_ret
    exact ⟨by rw [HR5.out]; rfl, HG1.out.below⟩
end Go.Proofs.YtlkmabnjmklkpaaGreatDoor
