/- FrameSpoilt is true: frames in one of which some of 32 bits of Data were turned are told up to that one, and it is spoilt. -/
import Derived.Test.YtlkoibincacknaaDoorSpoiltP
namespace Go.Proofs.YtlkoibincacknaaDoor
open Go.RowKit

theorem xor_u8 (y s : Nat) (hy : y < 2 ^ 8) (hs : s < 8) : bits .xor .u8 (y : Int) ((2 : Int) ^ s % 256) = ((UInt8.ofNat (y ^^^ 2 ^ s)).toNat : Int) := by
  have h2 : 2 ^ s < 2 ^ 8 := Nat.pow_lt_pow_right (by decide) hs
  have e : (2 : Int) ^ s % 256 = ((2 ^ s : Nat) : Int) := by
    rw [Int.natCast_pow]
    have : ((2 ^ s : Nat) : Int) < 256 := by omega
    rw [Int.natCast_pow] at this
    have h0 : (0 : Int) ≤ ((2 ^ s : Nat) : Int) := Int.natCast_nonneg _
    rw [Int.natCast_pow] at h0
    exact Int.emod_eq_of_lt h0 this
  have hx := Nat.xor_lt_two_pow hy h2
  rw [e, u8_xor_nat y (2 ^ s) (by omega) (by omega), UInt8.toNat_ofNat', Nat.mod_eq_of_lt hx]

set_option maxRecDepth 100000 in
set_option maxHeartbeats 4000000 in
theorem frameSpoilt_any (ao : Option Addr) (l : List FR) (c : Nat) (which at_ : Int) (t : Nat) (ht : t < 4294967296) (W : World) (hs : SlFr W.heap.size W ao l) (hlc : l.length ≤ c) (hcm : c ≤ maxLen) :
    Calls Tryd.prog 5 #[.slice ao l.length c, .int .i64 which, .int .i64 at_, .int .u32 t] W (YesP W) := by
  have HS := Lib.hid hs
  have HLC := Lib.hid hlc
  have hlm : l.length ≤ 9223372036854775807 := by unfold maxLen at hcm; omega
  have KG := Lib.hid (fun (W1 : World) (b1 : Below W.heap.size W W1) => great_any ao l c hlm W1 (hs.up b1 b1.size))
  clear hs hcm hlc
  cases hgr : greatF 0 l with
  | true =>
    rw [hgr] at KG
    go_enter Tryd.func5, Tryd.ntmps5
    go_wp2_with (first
      | (go_at_call 6; refine (awake_any _).mono ?_; rintro e w1 ⟨rfl, hb⟩; have HB1 := Lib.hid hb; clear hb)
      | (go_at_call 11; refine (KG.out _ HB1.out).mono ?_; rintro e w2 ⟨rfl, rfl⟩))
    go_ret
    exact ⟨rfl, HB1.out⟩
  | false =>
    rw [hgr] at KG
    obtain ⟨hlen, hdat⟩ := greatF_small l 0 hgr
    have HLen : Hid (lenF l ≤ 20000) := by unfold Hid; omega
    have HDat := Lib.hid hdat
    clear hgr hlen hdat
    by_cases hl0 : l.length = 0
    · have hll : l = [] := List.eq_nil_of_length_eq_zero hl0
      subst hll
      clear hl0
      go_enter Tryd.func5, Tryd.ntmps5
      go_wp2_with (first
        | (go_at_call 6; refine (awake_any _).mono ?_; rintro e w1 ⟨rfl, hb⟩; have HB1 := Lib.hid hb; clear hb)
        | (go_at_call 11; refine (KG.out _ HB1.out).mono ?_; rintro e w2 ⟨rfl, rfl⟩))
      go_ret
      exact ⟨rfl, HB1.out⟩
    · have e0 : ((l.length : Int) == 0) = false := by rw [beq_eq_false_iff_ne]; omega
      by_cases ht0 : t = 0
      · subst ht0
        go_enter Tryd.func5, Tryd.ntmps5
        go_wp2_with (first
          | (go_at_call 6; refine (awake_any _).mono ?_; rintro e w1 ⟨rfl, hb⟩; have HB1 := Lib.hid hb; clear hb)
          | (go_at_call 11; refine (KG.out _ HB1.out).mono ?_; rintro e w2 ⟨rfl, rfl⟩))
        go_ret
        exact ⟨rfl, HB1.out⟩
      · have e1 : ((t : Int) == 0) = false := by rw [beq_eq_false_iff_ne]; omega
        have HT0 : Hid (t ≠ 0) := ht0
        have hpos : 0 < l.length := by omega
        obtain ⟨wh, hwh⟩ : ∃ wh, wh = pickI which l.length := ⟨_, rfl⟩
        have hwl : wh < l.length := by rw [hwh]; exact pickI_lt _ _ hpos
        have KPi : Hid (∀ W1, Calls Tryd.prog 13 #[.int .i64 which, .int .i64 ((l.length : Nat) : Int)] W1 fun e w' => e = .returned (.int .i64 ((wh : Nat) : Int)) ∧ W1 = w') := fun W1 => by
          rw [hwh]
          exact pick_any which l.length hpos hlm W1
        clear hwh ht0 hl0
        obtain ⟨f, hf⟩ : ∃ f, f = l[wh] := ⟨_, rfl⟩
        have HFd : Hid (f.2.length ≤ 20000) := by rw [hf]; exact HDat.out _ (List.getElem_mem hwl)
        obtain ⟨sb, off, rfl, -, -⟩ := HS.out.at hpos
        have HCell : Hid (∀ W1, Below W.heap.size W W1 → ∃ a q, W1.cell? ⟨sb, off + wh * 2 + 1, none⟩ = some (.slice a f.2.length q)) := fun W1 b1 => by
          obtain ⟨sb', off', e, -, hc⟩ := (HS.out.up b1 b1.size).at hpos
          simp only [Option.some.injEq, Addr.mk.injEq, and_true] at e
          obtain ⟨rfl, rfl⟩ := e
          obtain ⟨a, q, -, h2, -⟩ := hc wh hwl
          rw [hf]
          exact ⟨a, q, h2⟩
        have HF := Lib.hid hf
        clear hf
        obtain ⟨dl, hdl⟩ : ∃ dl, dl = f.2.length := ⟨_, rfl⟩
        rw [← hdl] at HCell HFd
        have HDl := Lib.hid hdl
        clear hdl
        have KP : Hid (∀ W1, Below W.heap.size W W1 → Calls Tryd.prog 12 #[.slice (some ⟨sb, off, none⟩) l.length c] W1 (PuttedP (putF l) W1)) := fun W1 b1 => put_any _ l c hlm W1 (HS.out.up b1 b1.size) (by have := HLen.out; unfold lenF at this; omega)
        have hwi : (wh : Int) < (l.length : Int) := by omega
        by_cases hok : (putF l).2 = 0
        · have hOk := ok_of_put hok
          rw [putF_ok l hOk] at KP
          have HOk := Lib.hid hOk
          obtain ⟨L, hL⟩ : ∃ L, L = l.flatMap frB := ⟨_, rfl⟩
          rw [← hL] at KP
          have HL := Lib.hid hL
          clear hok hOk hL
          by_cases hd4 : dl < 4
          · have g1 : decide ((dl : Int) < 4) = true := by simp; omega
            have g2 : decide (dl < 4) = true := by simp; omega
            go_enter Tryd.func5, Tryd.ntmps5
            go_wp2_with (first
              | (go_at_call 6; refine (awake_any _).mono ?_; rintro e w1 ⟨rfl, hb⟩; have HB1 := Lib.hid hb; clear hb)
              | (go_at_call 11; refine (KG.out _ HB1.out).mono ?_; rintro e w2 ⟨rfl, rfl⟩)
              | (go_at_call 13; refine (KPi.out _).mono ?_; rintro e w2 ⟨rfl, rfl⟩; obtain ⟨ad, qd, hcd⟩ := HCell.out _ HB1.out)
              | (go_at_call 12; refine (KP.out _ HB1.out).mono ?_; rintro e w3 ⟨aoc, cc, rfl, hoc, hb⟩; have HB3 := Lib.hid (HB1.out.trans (hb.mono HB1.out.size)); clear hb hoc))
            go_ret
            exact ⟨rfl, HB3.out⟩
          · have g1 : decide ((dl : Int) < 4) = false := by simp; omega
            have g2 : decide (dl < 4) = false := by simp; omega
            go_enter Tryd.func5, Tryd.ntmps5
            go_wp2_with (first
              | (go_at_call 6; refine (awake_any _).mono ?_; rintro e w1 ⟨rfl, hb⟩; have HB1 := Lib.hid hb; clear hb)
              | (go_at_call 11; refine (KG.out _ HB1.out).mono ?_; rintro e w2 ⟨rfl, rfl⟩)
              | (go_at_call 13; refine (KPi.out _).mono ?_; rintro e w2 ⟨rfl, rfl⟩; obtain ⟨ad, qd, hcd⟩ := HCell.out _ HB1.out)
              | (go_at_call 12; refine (KP.out _ HB1.out).mono ?_; rintro e w3 ⟨aoc, cc, rfl, hoc, hb⟩; have HB3 := Lib.hid (HB1.out.trans (hb.mono HB1.out.size)); have HO3 := Lib.hid hoc; clear hb hoc))
            have hW1 : W.heap.size ≤ w1.heap.size := HB1.out.size
            clear g1 g2 e0 e1 KG KP hcd HB1
            go_loop [12, 13] (fun n i => ∃ j m : Nat, j ≤ wh ∧ i = .int .i64 j ∧ n = .int .i64 m ∧ Hid (m = lenF (l.take j)) ∧ m ≤ 20000) (fun _ i => wh - (intOf i).toNat)
            case atStart => exact ⟨0, 0, by omega, rfl, rfl, rfl, by omega⟩
            case round =>
              obtain ⟨j, m, hj, rfl, rfl, HM, hm2⟩ := hrel
              by_cases hlt : j < wh
              · have hjl : j < l.length := by omega
                obtain ⟨sb', off', e, -, hcl⟩ := (HS.out.up HB3.out HB3.out.size).at hpos
                simp only [Option.some.injEq, Addr.mk.injEq, and_true] at e
                obtain ⟨rfl, rfl⟩ := e
                obtain ⟨a1, c1, k1, k2, -, -⟩ := hcl j hjl
                have HT := Lib.hid (lenF_take l j hjl)
                have hm3 : m + 9 + (l[j]'hjl).2.length ≤ 20000 := by
                  have h1 := lenF_take_le l (j + 1)
                  have h2 := HLen.out
                  have h3 := HM.out
                  have h4 := HT.out
                  omega
                rw [← HM.out] at HT
                clear hcl k1
                generalize (l[j]'hjl) = fj at k2 HT hm3
                obtain ⟨fk, d⟩ := fj
                simp only at k2 hm3
                go_wp2_with fail
                go_round
                case rel => exact ⟨j + 1, m + 9 + d.length, by omega, by go_num, by go_num, HT.out.symm, hm3⟩
                case measure => simp [intOf]; omega
              · obtain rfl : j = wh := by omega
                have hLl : L.length = lenF l := by rw [HL.out]; rfl
                have hLs : L.length ≤ 20000 := by rw [hLl]; exact HLen.out
                have hmd : m + 9 + dl ≤ L.length := by
                  have h1 := lenF_take_le l (j + 1)
                  have h2 := lenF_take l j hwl
                  rw [← HM.out, ← HF.out, ← HDl.out] at h2
                  omega
                have q1 : decide ((L.length : Int) < (m : Int) + 9 + (dl : Int)) = false := by simp; omega
                have q2 : decide (L.length < m + 9 + dl) = false := by simp; omega
                obtain ⟨A, hA⟩ : ∃ A, A = pickI at_ (8 * dl - 31) := ⟨_, rfl⟩
                have hA2 : A + 31 < 8 * dl := by have := pickI_lt at_ (8 * dl - 31) (by omega); omega
                have hdl2 : dl ≤ 20000 := HFd.out
                have KPa : Hid (∀ W1, Calls Tryd.prog 13 #[.int .i64 at_, .int .i64 (8 * (dl : Int) - 31)] W1 fun e w' => e = .returned (.int .i64 ((A : Nat) : Int)) ∧ W1 = w') := fun W1 => by
                  have := pick_any at_ (8 * dl - 31) (by omega) (by omega) W1
                  rw [← hA, show ((8 * dl - 31 : Nat) : Int) = 8 * (dl : Int) - 31 by omega] at this
                  exact this
                obtain ⟨g, rfl, hg1, hcc, HR0⟩ := RowAtG.of_owns HO3.out (by omega)
                have hLc : L.length ≤ cc := by obtain ⟨_, _, _, h, _⟩ := HR0; exact h
                obtain ⟨P, hP⟩ : ∃ P, P = (l.take j).flatMap frB ++ headF f := ⟨_, rfl⟩
                obtain ⟨Q, hQ⟩ : ∃ Q, Q = (l.drop (j + 1)).flatMap frB := ⟨_, rfl⟩
                have hPl : P.length = m + 9 := by rw [hP, pre_length, ← HM.out]
                have hLe : L = P ++ f.2 ++ Q := by rw [HL.out, hP, hQ, HF.out]; exact flat_split l j hwl
                have HSc : Hid (∀ d, d.length = dl → leN d = leN f.2 ^^^ (t * 2 ^ A) → scanP (P ++ d ++ Q) = (l.take j, m, true)) := fun d h1 h2 => by
                  have := scan_spoilt l HOk.out j hwl d (by rw [← HF.out, ← HDl.out]; exact h1) t A (by omega) HT0.out (by omega) (by rw [← HF.out]; exact h2)
                  rw [← HF.out, ← hP, ← hQ, ← HM.out] at this
                  exact this
                have HPl := Lib.hid hPl
                have HRow0 : Hid (RowAtG w3 g cc (P ++ f.2 ++ Q)) := by rw [← hLe]; exact HR0
                have HTot : Hid (L.length = P.length + dl + Q.length) := by rw [hLe, HDl.out]; unfold Hid; simp only [List.length_append]
                have HLl := Lib.hid hLl
                have hg0 : W.heap.size ≤ g ∨ True := Or.inr trivial
                clear hPl hLe HR0 hLl hP hQ hA hg0 KPi HCell
                go_wp2_with (first
                  | (go_at_call 13; refine (KPa.out _).mono ?_; rintro e w4 ⟨rfl, rfl⟩))
                clear q1 q2
                go_loopw [14] (fun i wr => ∃ (k : Nat) (d : List UInt8), k ≤ 32 ∧ i = .int .i64 k ∧ Hid (d.length = dl) ∧ Hid (leN d = leN f.2 ^^^ (t % 2 ^ k * 2 ^ A)) ∧ Hid (RowAtG wr g cc (P ++ d ++ Q)) ∧ Hid (Below W.heap.size W wr)) (fun i _ => 32 - (intOf i).toNat)
                case atStart => exact ⟨0, f.2, by omega, rfl, HDl.out.symm, by simp [Hid, Nat.mod_one], HRow0.out, HB3.out⟩
                case round =>
                  obtain ⟨k, d, hk, rfl, HD, HE, HRo, HBe⟩ := hrel
                  clear HB3 HRow0 HO3
                  by_cases hlt2 : k < 32
                  · have hdv : (t : Int) / 2 ^ k = ((t / 2 ^ k : Nat) : Int) := by rw [Int.natCast_ediv, Int.natCast_pow]; rfl
                    have hb := and_one (t / 2 ^ k) (Nat.lt_of_le_of_lt (Nat.div_le_self _ _) ht)
                    rw [← hdv] at hb
                    have HDV := Lib.hid hdv
                    clear hdv
                    rcases Nat.mod_two_eq_zero_or_one (t / 2 ^ k) with hm0 | hm0
                    · have HE1 : Hid (leN d = leN f.2 ^^^ (t % 2 ^ (k + 1) * 2 ^ A)) := by rw [low_same t k hm0]; exact HE.out
                      rw [hm0] at hb
                      clear hm0
                      go_wp2_with fail
                      go_roundw
                      case rel => exact ⟨k + 1, d, by omega, by go_num, HD, HE1, HRo, HBe⟩
                      case measure => simp [intOf]; omega
                    · have hid8 : (A + k) / 8 < dl := by omega
                      have hdi : (A + k) / 8 < d.length := by rw [HD.out]; exact hid8
                      have HE1 := Lib.hid (leN_burst f.2 d t k A hm0 HE.out hdi)
                      have hxl : m + 9 + (A + k) / 8 < (P ++ d ++ Q).length := by
                        simp only [List.length_append]
                        have := HPl.out
                        omega
                      have hcell : wr.cell? ⟨g, m + 9 + (A + k) / 8, none⟩ = some (.int .u8 ((d[(A + k) / 8]).toNat : Int)) := by
                        have h1 := HRo.out.get (P.length + (A + k) / 8) (by rw [HPl.out]; exact hxl)
                        rw [get_mid P d Q _ hdi, HPl.out] at h1
                        exact h1
                      have hfr := HRo.out.free (m + 9 + (A + k) / 8)
                      have HSet : Hid (∀ b : UInt8, RowAtG (wr.setCell ⟨g, m + 9 + (A + k) / 8, none⟩ (.int .u8 (b.toNat : Int))) g cc (P ++ d.set ((A + k) / 8) b ++ Q)) := fun b => by
                        have h1 := HRo.out.set (P.length + (A + k) / 8) b
                        rw [set_mid P d Q _ hdi, HPl.out] at h1
                        exact h1
                      have hxi : (m : Int) + 9 + ((A : Int) + (k : Int)) / 8 < (L.length : Int) := by have := HTot.out; have := HPl.out; omega
                      have hxn : m + 9 + (A + k) / 8 < L.length := by have := HTot.out; have := HPl.out; omega
                      have hyb := (d[(A + k) / 8]).toNat_lt
                      have HDn : Hid (∀ b : UInt8, (d.set ((A + k) / 8) b).length = dl) := fun b => by rw [List.length_set]; exact HD.out
                      rw [hm0] at hb
                      clear hm0 hxl
                      generalize (d[(A + k) / 8]'hdi).toNat = y at hcell HE1 hyb
                      go_wp2_with fail
                      have hg2 : W.heap.size ≤ g := by omega
                      rw [xor_u8 y _ hyb (by omega)]
                      have R1 := Lib.hid (HSet.out (UInt8.ofNat (y ^^^ 2 ^ ((A + k) % 8))))
                      have R2 := Lib.hid (HBe.out.setCell (p := ⟨g, m + 9 + (A + k) / 8, none⟩) hg2 (.int .u8 ((UInt8.ofNat (y ^^^ 2 ^ ((A + k) % 8))).toNat : Int)))
                      clear hb hcell hfr hxi hxn
                      go_roundw
                      case rel => exact ⟨k + 1, _, by omega, by go_num, HDn.out _, HE1, R1.out, R2.out⟩
                      case measure => simp [intOf]; omega
                  · obtain rfl : k = 32 := by omega
                    have hjc : j ≤ c := by have := HLC.out; omega
                    have HK := HSc.out d HD.out (by have := HE.out; rwa [Nat.mod_eq_of_lt (show t < 2 ^ 32 by omega)] at this)
                    obtain ⟨lj, hlj⟩ : ∃ lj, lj = l.take j := ⟨_, rfl⟩
                    have hjl : lj.length = j := by rw [hlj, List.length_take]; omega
                    have HSj : Hid (SlFr W.heap.size W (some ⟨sb, off, none⟩) lj) := by rw [hlj]; exact HS.out.take j
                    have HDj : Hid (∀ f, f ∈ lj → f.2.length ≤ 9223372036854775807) := fun f hf => by rw [hlj] at hf; have := HDat.out f (List.mem_of_mem_take hf); omega
                    rw [← hlj] at HK
                    have hll : (P ++ d ++ Q).length = L.length := by
                      simp only [List.length_append]
                      have := HTot.out
                      have := HD.out
                      omega
                    have KS2 : Hid (Calls Tryd.prog 14 #[.slice (some ⟨g, 0, none⟩) L.length cc] wr (ScannedP (lj, m, true) wr)) := by
                      have h2 := scan_any (some ⟨g, 0, none⟩) (P ++ d ++ Q) cc (by omega) (by omega) (by unfold maxLen at hcc; omega) (by simp) wr HRo.out.sl
                      rwa [hll, HK] at h2
                    have KSF2 : Hid (∀ (W1 : World), Below wr.heap.size wr W1 → ∀ (a : Option Addr) (q : Nat), SlFr W1.heap.size W1 a lj → Calls Tryd.prog 15 #[.slice a lj.length q, .slice (some ⟨sb, off, none⟩) j c] W1 (YesP W1)) := fun W1 b1 a q h1 => by
                      have hb6 := below_step HBe.out b1
                      have h2 := sameFrames a (some ⟨sb, off, none⟩) q c lj (by omega) HDj.out W1 h1 (HSj.out.up hb6 hb6.size)
                      rw [hjl] at h2 ⊢
                      exact h2
                    clear hlj HK hjl hll HE HD HRo
                    go_wp2_with (first
                      | (go_at_call 14; refine (KS2.out).mono ?_; rintro e w6 ⟨ao6, c6, p6, rfl, hp6, hr6, hb⟩; refine Hid.out ?_))
                    have HB6 := Lib.hid hb
                    have HB6W := Lib.hid (HBe.out.trans (hb.mono HBe.out.size))
                    have hpal : lj.length = p6.length := by rw [← hp6, List.length_map]
                    have hr6' : RowFr w6 wr.heap.size (.slice ao6 p6.length c6) p6 := by rw [← hpal]; exact hr6
                    have hs6 := hr6'.sl
                    rw [hp6] at hs6
                    have KE6 := Lib.hid (KSF2.out w6 HB6.out ao6 c6 hs6)
                    clear hb hp6 hr6 hr6' hs6 hpal KS2 KSF2
                    refine Lib.hid ?_
                    go_wp2_with (first
                      | (go_at_call 15; refine (KE6.out).mono ?_; rintro e w7 ⟨rfl, hb⟩))
                    go_ret
                    exact ⟨rfl, below_step HB6W.out hb⟩
        · have hne : (((putF l).2 : Int) != 0) = true := by simp; omega
          generalize hq : putF l = q at KP hne
          obtain ⟨q1, q2⟩ := q
          simp only at hne
          clear hok hq
          go_enter Tryd.func5, Tryd.ntmps5
          go_wp2_with (first
            | (go_at_call 6; refine (awake_any _).mono ?_; rintro e w1 ⟨rfl, hb⟩; have HB1 := Lib.hid hb; clear hb)
            | (go_at_call 11; refine (KG.out _ HB1.out).mono ?_; rintro e w2 ⟨rfl, rfl⟩)
            | (go_at_call 13; refine (KPi.out _).mono ?_; rintro e w2 ⟨rfl, rfl⟩; obtain ⟨ad, qd, hcd⟩ := HCell.out _ HB1.out)
            | (go_at_call 12; refine (KP.out _ HB1.out).mono ?_; rintro e w3 ⟨aoc, cc, rfl, hoc, hb⟩; have HB3 := Lib.hid (HB1.out.trans (hb.mono HB1.out.size)); clear hb hoc))
          go_ret
          exact ⟨rfl, HB3.out⟩
end Go.Proofs.YtlkoibincacknaaDoor
