/- FrameTorn is true: what is put is scanned; of a beginning just the frames that are whole are told; what is scanned is put as just the bytes that were used. -/
import Derived.Test.YtlkoibincacknaaDoorTornP
namespace Go.Proofs.YtlkoibincacknaaDoor
open Go.RowKit

theorem len_flat (l : List FR) : l.length ≤ (l.flatMap frB).length := by
  induction l with
  | nil => exact Nat.le_refl _
  | cons f l ih =>
    rw [List.flatMap_cons, List.length_append, frB_length, List.length_cons]
    omega

set_option maxRecDepth 100000 in
set_option maxHeartbeats 4000000 in
theorem frameTorn_any (ao : Option Addr) (l : List FR) (c : Nat) (cut : Int) (ao2 : Option Addr) (b : List UInt8) (c2 : Nat) (W : World) (hs : SlFr W.heap.size W ao l) (hlc : l.length ≤ c) (hcm : c ≤ maxLen)
    (hb : SlG W.heap.size W ao2 (bcells b)) (hbc : b.length ≤ c2) (hc2m : c2 ≤ maxLen) (hn2 : ao2 = none → c2 = 0) :
    Calls Tryd.prog 4 #[.slice ao l.length c, .int .i64 cut, .slice ao2 b.length c2] W (YesP W) := by
  have HS := Lib.hid hs
  have HLC := Lib.hid hlc
  have HCM := Lib.hid hcm
  have HRb := Lib.hid hb
  have HC2 := Lib.hid hbc
  have HC2m := Lib.hid hc2m
  have HN2 := Lib.hid hn2
  have KG := Lib.hid (fun (W1 : World) (b1 : Below W.heap.size W W1) => great_any ao l c (by unfold maxLen at hcm; omega) W1 (hs.up b1 b1.size))
  have hlm : l.length ≤ 9223372036854775807 := by unfold maxLen at hcm; omega
  have hbm : b.length ≤ 9223372036854775807 := by unfold maxLen at hc2m; omega
  clear hs hb hbc hc2m hn2 hcm hlc
  cases hgr : greatF 0 l with
  | true =>
    rw [hgr] at KG
    go_enter Tryd.func4, Tryd.ntmps4
    go_wp2_with (first
      | (go_at_call 6; refine (awake_any _).mono ?_; rintro e w1 ⟨rfl, hb⟩; have HB1 := Lib.hid hb; clear hb)
      | (go_at_call 11; refine (KG.out _ HB1.out).mono ?_; rintro e w2 ⟨rfl, rfl⟩))
    go_ret
    exact ⟨rfl, HB1.out⟩
  | false =>
    rw [hgr] at KG
    obtain ⟨hlen, hdat⟩ := greatF_small l 0 hgr
    by_cases hbig : 20000 < b.length
    · have hd : decide ((20000 : Int) < (b.length : Int)) = true := by simp; omega
      have hd' : decide (20000 < b.length) = true := by simp; omega
      go_enter Tryd.func4, Tryd.ntmps4
      go_wp2_with (first
        | (go_at_call 6; refine (awake_any _).mono ?_; rintro e w1 ⟨rfl, hb⟩; have HB1 := Lib.hid hb; clear hb)
        | (go_at_call 11; refine (KG.out _ HB1.out).mono ?_; rintro e w2 ⟨rfl, rfl⟩))
      go_ret
      exact ⟨rfl, HB1.out⟩
    · have hd : decide ((20000 : Int) < (b.length : Int)) = false := by simp; omega
      have hd' : decide (20000 < b.length) = false := by simp; omega
      have HSm : Hid (b.length ≤ 20000) := by unfold Hid; omega
      obtain ⟨ms, u, sp, hrb⟩ : ∃ ms u sp, scanP b = (ms, u, sp) := ⟨_, _, _, rfl⟩
      obtain ⟨x1, x2, x3⟩ := scan_back (b.length + 1) b (by omega)
      rw [hrb] at x1 x2 x3
      simp only at x1 x2 x3
      obtain ⟨D, hD⟩ : ∃ D, D = b.take u := ⟨_, rfl⟩
      have hDl : D.length = u := by rw [hD, List.length_take]; omega
      have hml : ms.length ≤ u := by
        have := len_flat ms
        rw [x3, ← hD] at this
        omega
      have KScan : Hid (∀ W1, Below W.heap.size W W1 → Calls Tryd.prog 14 #[.slice ao2 b.length c2] W1 (ScannedP (ms, u, sp) W1)) := fun W1 b1 => by
        have := scan_any ao2 b c2 (by omega) HC2.out (by have := HC2m.out; unfold maxLen at this; omega) HN2.out W1 (HRb.out.up b1 b1.size)
        rwa [hrb] at this
      have KPut : Hid (∀ (W1 : World) (a : Option Addr) (k : Nat), SlFr W1.heap.size W1 a ms → Calls Tryd.prog 12 #[.slice a ms.length k] W1 (PuttedP (D, 0) W1)) := fun W1 a k h1 => by
        have := put_any a ms k (by omega) W1 h1 (by rw [x3, ← hD]; omega)
        rwa [putF_ok ms x1, x3, ← hD] at this
      have KSame : Hid (∀ (W1 : World), Below W.heap.size W W1 → ∀ (a : Option Addr) (k : Nat), SlG W1.heap.size W1 a (bcells D) → Calls Tryd.prog 16 #[.slice a D.length k, .slice ao2 u c2] W1 (YesP W1)) := fun W1 b1 a k h1 => by
        have h2 := (HRb.out.up b1 b1.size).takeB u
        rw [← hD] at h2
        exact sameB_at a ao2 _ _ k c2 D rfl hDl.symm (by omega) W1 h1 h2
      have hu2 : u ≤ c2 := by have := HC2.out; omega
      have hu3 : u ≤ 20000 := by omega
      have g1 : decide ((u : Int) ≤ (b.length : Int)) = true := by simp; omega
      have g2 : decide (u ≤ b.length) = true := by simp; omega
      have g3 : max (u : Int) 0 = (u : Int) := by omega
      have g4 : max u 0 = u := by omega
      have HLen : Hid (lenF l ≤ 20000) := by unfold Hid; omega
      have HDat := Lib.hid hdat
      have KP : Hid (∀ W1, Below W.heap.size W W1 → Calls Tryd.prog 12 #[.slice ao l.length c] W1 (PuttedP (putF l) W1)) := fun W1 b1 => put_any ao l c hlm W1 (HS.out.up b1 b1.size) (by have := HLen.out; unfold lenF at this; omega)
      clear hbig hbm hgr hlen hdat x1 x2 x3 hD hDl hml hrb
      by_cases hok : (putF l).2 = 0
      · have hOk := ok_of_put hok
        rw [putF_ok l hOk] at KP
        have HOk := Lib.hid hOk
        have HCut := Lib.hid (fun k => scan_cut l hOk k)
        have HAll := Lib.hid (scan_all l hOk)
        obtain ⟨L, hL⟩ : ∃ L, L = l.flatMap frB := ⟨_, rfl⟩
        rw [← hL] at KP HCut HAll
        have HLL : Hid (L.length = lenF l) := by unfold lenF; rw [← hL]; exact rfl
        clear hL
        clear hok hOk
        go_enter Tryd.func4, Tryd.ntmps4
        go_wp2_with (first
          | (go_at_call 6; refine (awake_any _).mono ?_; rintro e w1 ⟨rfl, hb⟩; have HB1 := Lib.hid hb; clear hb)
          | (go_at_call 11; refine (KG.out _ HB1.out).mono ?_; rintro e w2 ⟨rfl, rfl⟩)
          | (go_at_call 12; refine (KP.out _ HB1.out).mono ?_; rintro e w3 ⟨aoc, cc, rfl, hoc, hb⟩; refine Hid.out ?_))
        have HB3 := Lib.hid (HB1.out.trans (hb.mono HB1.out.size))
        have HO3 := Lib.hid hoc
        have KS1 : Hid (Calls Tryd.prog 14 #[.slice aoc L.length cc] w3 (ScannedP (l, L.length, false) w3)) := by
          obtain ⟨k1, k2, k3⟩ := owns_cap hoc
          have h2 := scan_any aoc L cc (by have := HLL.out; have := HLen.out; omega) k1 (by unfold maxLen at k2; omega) k3 w3 (owns_slB hoc)
          rwa [HAll.out, ← HLL.out] at h2
        obtain ⟨k, hk⟩ : ∃ k, k = pickI cut (L.length + 1) := ⟨_, rfl⟩
        have hkL : k ≤ L.length := by have := pickI_lt cut (L.length + 1) (by omega); omega
        have hLs : L.length ≤ 20000 := by have := HLL.out; have := HLen.out; omega
        have KPi : Hid (∀ W1, Calls Tryd.prog 13 #[.int .i64 cut, .int .i64 ((L.length : Int) + 1)] W1 fun e w' => e = .returned (.int .i64 ((k : Nat) : Int)) ∧ W1 = w') := fun W1 => by
          have := pick_any cut (L.length + 1) (by omega) (by omega) W1
          rw [← hk] at this
          simpa using this
        clear hb hoc hk KP
        refine Lib.hid ?_
        go_wp2_with (first
          | (go_at_call 13; refine (KPi.out _).mono ?_; rintro e w4 ⟨rfl, rfl⟩)
          | (go_at_call 14; refine (KS1.out).mono ?_; rintro e w4 ⟨ao4, c4, p4, rfl, hp4, hr4, hb⟩; refine Hid.out ?_))
        have HB4 := Lib.hid (HB3.out.trans (hb.mono HB3.out.size))
        have HO4 := Lib.hid (owns_below HO3.out hb)
        have KSF1 : Hid (Calls Tryd.prog 15 #[.slice ao l.length c, .slice ao4 l.length c4] w4 (YesP w4)) := by
          have hpal : l.length = p4.length := by rw [← hp4, List.length_map]
          have hr4' : RowFr w4 w3.heap.size (.slice ao4 p4.length c4) p4 := by rw [← hpal]; exact hr4
          have hs4 := hr4'.sl
          rw [hp4] at hs4
          exact sameFrames ao ao4 c c4 l hlm (fun x hx => by have := HDat.out x hx; omega) w4 (HS.out.up HB4.out HB4.out.size) hs4
        clear hb hp4 hr4 KS1 KPi HO3 HB3
        refine Lib.hid ?_
        go_wp2_with (first
          | (go_at_call 15; refine (KSF1.out).mono ?_; rintro e w5 ⟨rfl, hb⟩; have HB5 := Lib.hid (HB4.out.trans (hb.mono HB4.out.size)); have HO5 := Lib.hid (owns_below HO4.out hb); clear hb))
        clear HO4 HB4 KSF1 KG
        go_loop [12, 13, 14] (fun wh n i => ∃ j m : Nat, j ≤ l.length ∧ i = .int .i64 j ∧ wh = .int .i64 j ∧ n = .int .i64 m ∧ Hid (m = lenF (l.take j)) ∧ m ≤ k ∧ Hid (wholeF l k = j + wholeF (l.drop j) (k - m))) (fun _ _ i => l.length - (intOf i).toNat)
        case atStart => exact ⟨0, 0, by omega, rfl, rfl, rfl, rfl, by omega, by simp [Hid]⟩
        case round =>
          obtain ⟨j, m, hj, rfl, rfl, rfl, HM, hmk, HW⟩ := hrel
          by_cases hlt : j < l.length
          · obtain ⟨sb, off, rfl, hsb, hcl⟩ := (HS.out.up HB5.out HB5.out.size).at (by omega)
            obtain ⟨a1, c1, k1, k2, -, -⟩ := hcl j hlt
            have HT := Lib.hid (lenF_take l j hlt)
            have HW1 := Lib.hid (fun h1 h2 => whole_step l j k hlt h1 h2)
            have HW2 := Lib.hid (fun h0 h1 h2 => whole_stop l j k hlt h0 h1 h2)
            have hdl := HDat.out (l[j]'hlt) (List.getElem_mem hlt)
            rw [← HM.out] at HT HW1 HW2
            clear hcl k1
            generalize (l[j]'hlt) = f at k2 HT HW1 HW2 hdl
            obtain ⟨fk, d⟩ := f
            simp only at k2 hdl
            by_cases hle : m + 9 + d.length ≤ k
            · have e1 : decide ((m : Int) + 9 + (d.length : Int) ≤ (k : Int)) = true := by simp; omega
              have e2 : decide (m + 9 + d.length ≤ k) = true := by simp; omega
              have HWn : Hid (wholeF l k = (j + 1) + wholeF (l.drop (j + 1)) (k - (m + 9 + d.length))) := by
                have := HW1.out hle HW.out
                rwa [HT.out] at this
              go_wp2_with fail
              clear e1 e2
              go_round
              case rel => exact ⟨j + 1, m + 9 + d.length, by omega, by go_num, by go_num, by go_num, HT.out.symm, hle, HWn.out⟩
              case measure => simp [intOf]; omega
            · have e1 : decide ((m : Int) + 9 + (d.length : Int) ≤ (k : Int)) = false := by simp; omega
              have e2 : decide (m + 9 + d.length ≤ k) = false := by simp; omega
              have hwh0 := HW2.out hmk hle HW.out
              clear HW1 HW2 HT HW
              have hwh := Lib.hid hwh0
              clear hwh0
              have HC3 := Lib.hid (HCut.out k)
              rw [hwh.out] at HC3
              obtain ⟨lj, hlj⟩ : ∃ lj, lj = l.take j := ⟨_, rfl⟩
              have hjl : lj.length = j := by rw [hlj, List.length_take]; omega
              have HSj : Hid (SlFr W.heap.size W (some ⟨sb, off, none⟩) lj) := by rw [hlj]; exact HS.out.take j
              have HDj : Hid (∀ f, f ∈ lj → f.2.length ≤ 9223372036854775807) := fun f hf => by rw [hlj] at hf; have := HDat.out f (List.mem_of_mem_take hf); omega
              rw [← hlj] at HC3 HM
              rw [← HM.out] at HC3
              have KS2 : Hid (Calls Tryd.prog 14 #[.slice aoc k cc] w5 (ScannedP (lj, m, false) w5)) := by
                have hkl : (L.take k).length = k := by rw [List.length_take]; omega
                have h1 := (owns_slB HO5.out).takeB k
                have h2 := scan_any aoc (L.take k) cc (by omega) (by have := (owns_cap HO5.out).1; omega) (by have := (owns_cap HO5.out).2.1; unfold maxLen at this; omega) (owns_cap HO5.out).2.2 w5 h1
                rwa [hkl, HC3.out] at h2
              have hjc : j ≤ c := by have := HLC.out; omega
              have hkc : k ≤ cc := by have := (owns_cap HO5.out).1; omega
              have KSF2 : Hid (∀ (W1 : World), Below w5.heap.size w5 W1 → ∀ (a : Option Addr) (q : Nat), SlFr W1.heap.size W1 a lj → Calls Tryd.prog 15 #[.slice a lj.length q, .slice (some ⟨sb, off, none⟩) j c] W1 (YesP W1)) := fun W1 b1 a q h1 => by
                have hb6 := below_step HB5.out b1
                have h2 := sameFrames a (some ⟨sb, off, none⟩) q c lj (by omega) HDj.out W1 h1 (HSj.out.up hb6 hb6.size)
                rw [hjl] at h2 ⊢
                exact h2
              clear hlj HC3 HCut hjl
              go_wp2_with (first
                | (go_at_call 14; refine (KS2.out).mono ?_; rintro e w6 ⟨ao6, c6, p6, rfl, hp6, hr6, hb⟩; refine Hid.out ?_))
              have HB6 := Lib.hid hb
              have HB6W := Lib.hid (HB5.out.trans (hb.mono HB5.out.size))
              have hpal : lj.length = p6.length := by rw [← hp6, List.length_map]
              have hr6' : RowFr w6 w5.heap.size (.slice ao6 p6.length c6) p6 := by rw [← hpal]; exact hr6
              have hs6 := hr6'.sl
              rw [hp6] at hs6
              have KE6 := Lib.hid (KSF2.out w6 HB6.out ao6 c6 hs6)
              clear hb hp6 hr6 hr6' hs6 hpal KS2 KSF2
              refine Lib.hid ?_
              go_wp2_with (first
                | (go_at_call 15; refine (KE6.out).mono ?_; rintro e w7 ⟨rfl, hb⟩; have HB7 := Lib.hid (HB6W.out.trans (hb.mono HB6W.out.size)); clear hb; refine Hid.out ?_))
              -- what is scanned of any bytes is put as just the bytes that were used
              have KSB := Lib.hid (KScan.out w7 HB7.out)
              refine Lib.hid ?_
              go_wp2_with (go_at_call 14; refine (KSB.out).mono ?_; rintro e wa ⟨aoa, ca, pa, rfl, hpa, hra, hb⟩; refine Hid.out ?_)
              have HBa := Lib.hid (HB7.out.trans (hb.mono HB7.out.size))
              have KPB : Hid (Calls Tryd.prog 12 #[.slice aoa ms.length ca] wa (PuttedP (D, 0) wa)) := by
                have hpal : ms.length = pa.length := by rw [← hpa, List.length_map]
                have hra' : RowFr wa w7.heap.size (.slice aoa pa.length ca) pa := by rw [← hpal]; exact hra
                have hs := hra'.sl
                rw [hpa] at hs
                exact KPut.out wa aoa ca hs
              clear hb hra hpa KSB HB7
              refine Lib.hid ?_
              go_wp2_with (go_at_call 12; refine (KPB.out).mono ?_; rintro e wb ⟨aob, cb, rfl, hob, hb⟩; refine Hid.out ?_)
              have HBb := Lib.hid (HBa.out.trans (hb.mono HBa.out.size))
              have KE : Hid (Calls Tryd.prog 16 #[.slice aob D.length cb, .slice ao2 u c2] wb (YesP wb)) := KSame.out wb HBb.out aob cb (owns_slB hob)
              clear hb hob KPB HBa
              refine Lib.hid ?_
              go_wp2_with (go_at_call 16; refine (KE.out).mono ?_; rintro e wc ⟨rfl, hb⟩)
              go_ret
              exact ⟨rfl, below_step HBb.out hb⟩
          · obtain rfl : j = l.length := by omega
            have hwh0 : wholeF l k = l.length := whole_end l k (by rw [← HM.out]; exact HW.out)
            clear HW
            have hwh := Lib.hid hwh0
            clear hwh0
            have HC3 := Lib.hid (HCut.out k)
            rw [hwh.out] at HC3
            obtain ⟨lj, hlj⟩ : ∃ lj, lj = l.take l.length := ⟨_, rfl⟩
            have hjl : lj.length = l.length := by rw [hlj, List.length_take]; omega
            have HSj : Hid (SlFr W.heap.size W ao lj) := by rw [hlj]; exact HS.out.take l.length
            have HDj : Hid (∀ f, f ∈ lj → f.2.length ≤ 9223372036854775807) := fun f hf => by rw [hlj] at hf; have := HDat.out f (List.mem_of_mem_take hf); omega
            rw [← hlj] at HC3 HM
            rw [← HM.out] at HC3
            have KS2 : Hid (Calls Tryd.prog 14 #[.slice aoc k cc] w5 (ScannedP (lj, m, false) w5)) := by
              have hkl : (L.take k).length = k := by rw [List.length_take]; omega
              have h1 := (owns_slB HO5.out).takeB k
              have h2 := scan_any aoc (L.take k) cc (by omega) (by have := (owns_cap HO5.out).1; omega) (by have := (owns_cap HO5.out).2.1; unfold maxLen at this; omega) (owns_cap HO5.out).2.2 w5 h1
              rwa [hkl, HC3.out] at h2
            have hjc : l.length ≤ c := by have := HLC.out; omega
            have hkc : k ≤ cc := by have := (owns_cap HO5.out).1; omega
            have KSF2 : Hid (∀ (W1 : World), Below w5.heap.size w5 W1 → ∀ (a : Option Addr) (q : Nat), SlFr W1.heap.size W1 a lj → Calls Tryd.prog 15 #[.slice a lj.length q, .slice ao l.length c] W1 (YesP W1)) := fun W1 b1 a q h1 => by
              have hb6 := below_step HB5.out b1
              have h2 := sameFrames a ao q c lj (by omega) HDj.out W1 h1 (HSj.out.up hb6 hb6.size)
              rw [hjl] at h2 ⊢
              exact h2
            clear hlj HC3 HCut hjl
            go_wp2_with (first
              | (go_at_call 14; refine (KS2.out).mono ?_; rintro e w6 ⟨ao6, c6, p6, rfl, hp6, hr6, hb⟩; refine Hid.out ?_))
            have HB6 := Lib.hid hb
            have HB6W := Lib.hid (HB5.out.trans (hb.mono HB5.out.size))
            have hpal : lj.length = p6.length := by rw [← hp6, List.length_map]
            have hr6' : RowFr w6 w5.heap.size (.slice ao6 p6.length c6) p6 := by rw [← hpal]; exact hr6
            have hs6 := hr6'.sl
            rw [hp6] at hs6
            have KE6 := Lib.hid (KSF2.out w6 HB6.out ao6 c6 hs6)
            clear hb hp6 hr6 hr6' hs6 hpal KS2 KSF2
            refine Lib.hid ?_
            go_wp2_with (first
              | (go_at_call 15; refine (KE6.out).mono ?_; rintro e w7 ⟨rfl, hb⟩; have HB7 := Lib.hid (HB6W.out.trans (hb.mono HB6W.out.size)); clear hb; refine Hid.out ?_))
            -- what is scanned of any bytes is put as just the bytes that were used
            have KSB := Lib.hid (KScan.out w7 HB7.out)
            refine Lib.hid ?_
            go_wp2_with (go_at_call 14; refine (KSB.out).mono ?_; rintro e wa ⟨aoa, ca, pa, rfl, hpa, hra, hb⟩; refine Hid.out ?_)
            have HBa := Lib.hid (HB7.out.trans (hb.mono HB7.out.size))
            have KPB : Hid (Calls Tryd.prog 12 #[.slice aoa ms.length ca] wa (PuttedP (D, 0) wa)) := by
              have hpal : ms.length = pa.length := by rw [← hpa, List.length_map]
              have hra' : RowFr wa w7.heap.size (.slice aoa pa.length ca) pa := by rw [← hpal]; exact hra
              have hs := hra'.sl
              rw [hpa] at hs
              exact KPut.out wa aoa ca hs
            clear hb hra hpa KSB HB7
            refine Lib.hid ?_
            go_wp2_with (go_at_call 12; refine (KPB.out).mono ?_; rintro e wb ⟨aob, cb, rfl, hob, hb⟩; refine Hid.out ?_)
            have HBb := Lib.hid (HBa.out.trans (hb.mono HBa.out.size))
            have KE : Hid (Calls Tryd.prog 16 #[.slice aob D.length cb, .slice ao2 u c2] wb (YesP wb)) := KSame.out wb HBb.out aob cb (owns_slB hob)
            clear hb hob KPB HBa
            refine Lib.hid ?_
            go_wp2_with (go_at_call 16; refine (KE.out).mono ?_; rintro e wc ⟨rfl, hb⟩)
            go_ret
            exact ⟨rfl, below_step HBb.out hb⟩
      · have hne : (((putF l).2 : Int) == 0) = false := by simp; omega
        generalize hq : putF l = q at KP hne
        obtain ⟨q1, q2⟩ := q
        simp only at hne
        clear hok hq
        go_enter Tryd.func4, Tryd.ntmps4
        go_wp2_with (first
          | (go_at_call 6; refine (awake_any _).mono ?_; rintro e w1 ⟨rfl, hb⟩; have HB1 := Lib.hid hb; clear hb)
          | (go_at_call 11; refine (KG.out _ HB1.out).mono ?_; rintro e w2 ⟨rfl, rfl⟩)
          | (go_at_call 12; refine (KP.out _ HB1.out).mono ?_; rintro e w3 ⟨aoc, cc, rfl, hoc, hb⟩; have HB3 := Lib.hid (HB1.out.trans (hb.mono HB1.out.size)); clear hb hoc; refine Hid.out ?_))
        -- what is scanned of any bytes is put as just the bytes that were used
        have KSB := Lib.hid (KScan.out w3 HB3.out)
        refine Lib.hid ?_
        go_wp2_with (go_at_call 14; refine (KSB.out).mono ?_; rintro e wa ⟨aoa, ca, pa, rfl, hpa, hra, hb⟩; refine Hid.out ?_)
        have HBa := Lib.hid (HB3.out.trans (hb.mono HB3.out.size))
        have KPB : Hid (Calls Tryd.prog 12 #[.slice aoa ms.length ca] wa (PuttedP (D, 0) wa)) := by
          have hpal : ms.length = pa.length := by rw [← hpa, List.length_map]
          have hra' : RowFr wa w3.heap.size (.slice aoa pa.length ca) pa := by rw [← hpal]; exact hra
          have hs := hra'.sl
          rw [hpa] at hs
          exact KPut.out wa aoa ca hs
        clear hb hra hpa KSB HB3
        refine Lib.hid ?_
        go_wp2_with (go_at_call 12; refine (KPB.out).mono ?_; rintro e wb ⟨aob, cb, rfl, hob, hb⟩; refine Hid.out ?_)
        have HBb := Lib.hid (HBa.out.trans (hb.mono HBa.out.size))
        have KE : Hid (Calls Tryd.prog 16 #[.slice aob D.length cb, .slice ao2 u c2] wb (YesP wb)) := KSame.out wb HBb.out aob cb (owns_slB hob)
        clear hb hob KPB HBa
        refine Lib.hid ?_
        go_wp2_with (go_at_call 16; refine (KE.out).mono ?_; rintro e wc ⟨rfl, hb⟩)
        go_ret
        exact ⟨rfl, below_step HBb.out hb⟩
end Go.Proofs.YtlkoibincacknaaDoor
