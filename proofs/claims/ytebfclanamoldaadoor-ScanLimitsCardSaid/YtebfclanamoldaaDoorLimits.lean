/- ScanLimits. -/
import Derived.Test.YtebfclanamoldaaDoorLimP
namespace Go.Proofs.YtebfclanamoldaaDoor
open Go.RowKit

theorem infoByte : (Tryd.prog.info? 5).map (fun i => (i.zero, i.size, i.bytes)) = some (some (.int .u8 0), 1, 1) := by kernel_rfl

set_option maxRecDepth 100000 in
set_option maxHeartbeats 4000000 in
theorem scanLimits_any (more c : Int) (hc : 0 ≤ c ∧ c ≤ 255) (w : World) (he : Errs w) : Calls Tryd.prog 5 #[.int .i64 more, .int .u8 c] w (YesP w) := by
  obtain ⟨i0, hi, hz0, hz1, hz2⟩ := info_parts infoByte
  have e0 := Int.emod_nonneg c (b := 26) (by omega)
  have e1 := Int.emod_lt_of_pos c (b := 26) (by omega)
  have ht : c.tmod 26 = c % 26 := Int.tmod_eq_emod_of_nonneg hc.1
  obtain ⟨b, hbt⟩ : ∃ b : UInt8, 97 + c % 26 = (b.toNat : Int) := ⟨UInt8.ofNat (97 + (c % 26).toNat), by rw [UInt8.toNat_ofNat']; omega⟩
  have hbl : lowB b = true := by unfold lowB; simp; omega
  have HBL := Lib.hid hbl
  have KA := Lib.hid (awake_any w he)
  have HE := Lib.hid he
  have KT := Lib.hid (fun s w' (h : Errs w') => tokens_any s w' h)
  have hk3 := pickI_lt more 3 (by decide)
  have KP := Lib.hid (fun w => pick_any more 3 (by decide) (by decide) w)
  generalize pickI more 3 = k at hk3 KP
  obtain ⟨n, hn⟩ : ∃ n : Nat, n = 16383 + k := ⟨_, rfl⟩
  have hn' : (16383 : Int) + (k : Int) = (n : Int) := by omega
  have hn1 : n ≤ 16385 := by omega
  have hk3' : (k : Int) < 3 := by omega
  have HN := Lib.hid hn
  have HNL := Lib.hid hn1
  clear he hn
  go_enter Tryd.func5, Tryd.ntmps5
  go_wp2_with (first
    | (go_at_call 8; refine (KA.out).mono ?_; rintro e w1 ⟨rfl, hb1⟩; have HB1 := Lib.hid hb1; clear hb1)
    | (go_at_call 16; refine (KP.out _).mono ?_; rintro e w2 ⟨rfl, rfl⟩)
    | (at_make; refine wpList_make_full _ rfl _ _ 36 rfl w1.heap.size 5 i0 (.int .u8 0) 1 Tryd.underlying36 hi hz0 hz1 .i64 .i64 _ _ n rfl rfl rfl rfl (by have := HNL.out; rw [hz2]; omega) (by have := HNL.out; unfold maxLen; omega) (Nat.le_refl _) ?_; intro w2 hown2 hgrow2; rw [fill_first n 32] at hown2))
  have HB2 : Hid (Below w.heap.size w w2) := HB1.out.grown hgrow2 HB1.out.size (fun r h => by cases h)
  have HO2 := Lib.hid hown2
  have HL2 : Hid (w1.heap.size < w2.heap.size) := (owns_at hown2).2.2
  have HL1 : Hid (w.heap.size ≤ w1.heap.size) := HB1.out.size
  clear hown2 hgrow2
  go_loopw [7] (fun i wr => ∃ k : Nat, k ≤ n ∧ i = .int .i64 k ∧ Hid (wr.ownsRow w1.heap.size 5 1 (.slice (some ⟨w1.heap.size, 0, none⟩) n n) n (bcells (List.replicate k (32 : UInt8) ++ List.replicate (n - k) 0))) ∧ Hid (Below w.heap.size w wr)) (fun i _ => n - (intOf i).toNat)
  case atStart => exact ⟨0, Nat.zero_le _, rfl, HO2, HB2⟩
  case round =>
    clear HO2 HB2 HL2
    obtain ⟨j, hj, rfl, HO, HB⟩ := hrel
    obtain ⟨hcl, hfr, hlt0⟩ := owns_at HO.out
    by_cases hlt : j < n
    · have c0 : wr.cell? ⟨w1.heap.size, j, none⟩ = some (.int .u8 0) := hcl j _ (fill_cell n j hlt 32)
      have HO' : Hid ((wr.setCell ⟨w1.heap.size, j, none⟩ (.int .u8 32)).ownsRow w1.heap.size 5 1 (.slice (some ⟨w1.heap.size, 0, none⟩) n n) n (bcells (List.replicate (j + 1) (32 : UInt8) ++ List.replicate (n - (j + 1)) 0))) := by
        have h := (HO.out.stored j (.int .u8 32)).1
        rw [show (Value.int .u8 32) = .int .u8 (((32 : UInt8).toNat : Nat) : Int) from rfl, fill_step n j hlt 32] at h
        exact h
      have HB' : Hid (Below w.heap.size w (wr.setCell ⟨w1.heap.size, j, none⟩ (.int .u8 32))) := HB.out.setCell (p := ⟨w1.heap.size, j, none⟩) HL1.out _
      clear HO HB hcl hlt0
      go_wp2
      go_roundw
      case rel => exact ⟨j + 1, by omega, by go_num, HO', HB'⟩
      case measure => clear c0 hfr; simp [intOf]; omega
    · obtain rfl : j = n := by omega
      have hcv : (convert 36 9 (.slice (some ⟨w1.heap.size, 0, none⟩) j j)).run Tryd.prog wr = .ok (.string ⟨(List.replicate j (32 : UInt8)).toArray⟩) wr := by
        rw [fill_last] at hcl
        have := conv_at (c := j) hcl
        rwa [List.length_replicate] at this
      clear hcl hfr hlt hj HO
      obtain ⟨z, hz⟩ : ∃ z : ByteArray, z = ⟨(List.replicate j (32 : UInt8)).toArray⟩ := ⟨_, rfl⟩
      rw [← hz] at hcv
      obtain rfl | rfl | rfl : k = 2 ∨ k = 0 ∨ k = 1 := by omega
      · have KT1 : Hid (Calls Tryd.prog 9 #[.string z] wr fun e w' => ∃ ao c, e = .returned (.tuple #[.slice ao 0 c, .agg #[.int .i64 3, .int .i64 0]]) ∧ Below wr.heap.size wr w') := by
          refine (KT.out z wr (HE.out.below HB.out)).mono ?_
          rintro e w' ⟨ao, c, rfl, _, hb⟩
          have hd : z.data.toList = List.replicate j (32 : UInt8) := by rw [hz]
          obtain ⟨h1, h2⟩ := told_much z.data.toList (by rw [hd, List.length_replicate, HN.out]; omega)
          rw [h1, h2]
          exact ⟨ao, c, rfl, hb⟩
        clear hz
        go_wp2_with (first
          | (go_at_call 9; refine (KT1.out).mono ?_; rintro e w3 ⟨ao, c3, rfl, hb3⟩; have HB3 := Lib.hid (below_new (below_step HB.out hb3) (.cells #[.int .i64 3, .int .i64 0] 26)); clear hb3)
          | (at_make; refine wpList_make_full _ rfl _ _ 36 rfl (w3.alloc (.cells #[.int .i64 3, .int .i64 0] 26)).heap.size 5 i0 (.int .u8 0) 1 Tryd.underlying36 hi hz0 hz1 .i64 .i64 _ _ 25 rfl rfl rfl rfl (by rw [hz2]; omega) (by unfold maxLen; omega) (Nat.le_refl _) ?_; intro w4 hown4 hgrow4; rw [fill_first 25 b] at hown4))
        have HB4 : Hid (Below w.heap.size w w4) := HB3.out.grown hgrow4 HB3.out.size (fun r h => by cases h)
        obtain ⟨g4, hg4⟩ : ∃ g4, g4 = (w3.alloc (.cells #[.int .i64 3, .int .i64 0] 26)).heap.size := ⟨_, rfl⟩
        have HG4 : Hid (w.heap.size ≤ g4) := by rw [hg4]; exact HB3.out.size
        rw [← hg4] at hown4
        have hg4' : w3.heap.size + 1 = g4 := by rw [hg4, World.size_alloc]
        have HO4 := Lib.hid hown4
        rw [hg4']
        clear hown4 hgrow4 hg4 hg4' KT1 HB HB3 hcv
        go_loopw [11] (fun i wr => ∃ k : Nat, k ≤ 25 ∧ i = .int .i64 k ∧ Hid (wr.ownsRow g4 5 1 (.slice (some ⟨g4, 0, none⟩) 25 25) 25 (bcells (List.replicate k b ++ List.replicate (25 - k) 0))) ∧ Hid (Below w.heap.size w wr)) (fun i _ => 25 - (intOf i).toNat)
        case atStart => exact ⟨0, Nat.zero_le _, rfl, HO4, HB4⟩
        case round =>
          clear HO4 HB4
          obtain ⟨p, hp, rfl, HO, HB⟩ := hrel
          obtain ⟨hcl, hfr, hlt0⟩ := owns_at HO.out
          by_cases hlt : p < 25
          · have c0 := hcl p _ (fill_cell 25 p hlt b)
            have HO' := HO.out.stored p (.int .u8 (b.toNat : Int))
            rw [fill_step 25 p hlt b] at HO'
            have HO'' := Lib.hid HO'.1
            have HB' := Lib.hid (HB.out.setCell (p := ⟨g4, p, none⟩) HG4.out (.int .u8 (b.toNat : Int)))
            clear HO HB hcl hlt0 HO'
            go_wp2
            go_roundw
            case rel => exact ⟨p + 1, by omega, by go_num, HO'', HB'⟩
            case measure => clear c0 hfr; simp [intOf]; omega
          · have hpe : p = 25 := by omega
            have hcw : (convert 36 9 (.slice (some ⟨g4, 0, none⟩) 25 25)).run Tryd.prog wr = .ok (.string ⟨(List.replicate 25 b).toArray⟩) wr := by
              rw [hpe, fill_last] at hcl
              have := conv_at (c := 25) hcl
              rwa [List.length_replicate] at this
            have hcx : (convert 36 9 (.slice (some ⟨wr.heap.size, 0, none⟩) 1 1)).run Tryd.prog (wr.alloc (.cells #[.int .u8 56] 5)) = .ok (.string ⟨#[56]⟩) (wr.alloc (.cells #[.int .u8 56] 5)) :=
              conv_at (l := [56]) (c := 1) (fun j u hu => cells_made wr #[.int .u8 56] _ j u (by simpa [bcells, Lib.byteCells] using hu))
            obtain ⟨y, hy⟩ : ∃ y : ByteArray, y = ⟨(List.replicate 25 b).toArray⟩ := ⟨_, rfl⟩
            rw [← hy] at hcw
            have hys : y.size = 25 := by rw [hy]; simp [ByteArray.size]
            have hl1 : ¬ 9223372036854775807 < 1 + y.size := by omega
            have HY := Lib.hid hy
            have ey : y.data.toList = List.replicate 25 b := by rw [hy]
            obtain ⟨zs, hzs⟩ : ∃ zs : List ByteArray, zs = [y, ⟨#[63]⟩ ++ y, ⟨#[39]⟩ ++ y, ⟨#[57, 50, 50, 51, 51, 55, 50, 48, 51, 54, 56, 53, 52, 55, 55, 53, 56, 48]⟩ ++ ⟨#[56]⟩] := ⟨_, rfl⟩
            have HZL : Hid (zs.length = 4) := by rw [hzs]; rfl
            have HTX : Hid (∀ x ∈ zs, TextK 2 x.data.toList) := by
              intro x hx
              rw [hzs] at hx
              simp only [List.mem_cons, List.not_mem_nil, or_false] at hx
              rcases hx with rfl | rfl | rfl | rfl
              · rw [ey]
                exact text_name 2 (by decide) b HBL.out
              · rw [ByteArray.data_append, Array.toList_append, ey]
                exact text_named 63 (.inl rfl) 2 (by decide) b HBL.out
              · rw [ByteArray.data_append, Array.toList_append, ey]
                exact text_named 39 (.inr rfl) 2 (by decide) b HBL.out
              · exact text_number 2 (by decide)
            have HSZ : Hid (Sets ((wr.alloc (.cells #[.int .u8 56] 5)).alloc (.cells #[.string y, .string (⟨#[63]⟩ ++ y), .string (⟨#[39]⟩ ++ y), .string (⟨#[57, 50, 50, 51, 51, 55, 50, 48, 51, 54, 56, 53, 52, 55, 55, 53, 56, 48]⟩ ++ ⟨#[56]⟩)] 9)) (wr.heap.size + 1) zs) := by
              have := sets_made (wr.alloc (.cells #[.int .u8 56] 5)) zs #[.string y, .string (⟨#[63]⟩ ++ y), .string (⟨#[39]⟩ ++ y), .string (⟨#[57, 50, 50, 51, 51, 55, 50, 48, 51, 54, 56, 53, 52, 55, 55, 53, 56, 48]⟩ ++ ⟨#[56]⟩)] 9 (by rw [hzs]; rfl)
              rwa [World.size_alloc] at this
            have HB5 : Hid (Below w.heap.size w ((wr.alloc (.cells #[.int .u8 56] 5)).alloc (.cells #[.string y, .string (⟨#[63]⟩ ++ y), .string (⟨#[39]⟩ ++ y), .string (⟨#[57, 50, 50, 51, 51, 55, 50, 48, 51, 54, 56, 53, 52, 55, 55, 53, 56, 48]⟩ ++ ⟨#[56]⟩)] 9))) := below_new (below_new HB.out _) _
            clear hcl hfr hp HO hy ey hzs HB hpe
            go_wp2
            generalize ((wr.alloc (.cells #[.int .u8 56] 5)).alloc (.cells #[.string y, .string (⟨#[63]⟩ ++ y), .string (⟨#[39]⟩ ++ y), .string (⟨#[57, 50, 50, 51, 51, 55, 50, 48, 51, 54, 56, 53, 52, 55, 55, 53, 56, 48]⟩ ++ ⟨#[56]⟩)] 9)) = w5 at HSZ HB5 ⊢
            generalize wr.heap.size + 1 = gT at HSZ ⊢
            clear hcw hcx HY hys hl1
            go_loopw [13] (fun i wr => ∃ k : Nat, k ≤ 4 ∧ i = .int .i64 k ∧ Hid (Sets wr gT zs) ∧ Hid (Below w.heap.size w wr)) (fun i _ => 4 - (intOf i).toNat)
            case atStart => exact ⟨0, Nat.zero_le _, rfl, HSZ, HB5⟩
            case round =>
              clear HSZ HB5
              obtain ⟨q, hq4, rfl, HSZ, HB⟩ := hrel
              by_cases hlt : q < 4
              · have hqz : q < zs.length := by rw [HZL.out]; exact hlt
                have c0 := HSZ.out.cell q hqz
                have hx := HTX.out _ (List.getElem_mem hqz)
                generalize zs[q] = x at c0 hx
                have KT2 : Hid (Calls Tryd.prog 9 #[.string x] wr fun e w' => ∃ ao c, e = .returned (.tuple #[.slice ao 0 c, .agg #[.int .i64 201, .int .i64 0]]) ∧ Below wr.heap.size wr w') := by
                  refine (KT.out x wr (HE.out.below HB.out)).mono ?_
                  rintro e w' ⟨ao, c, rfl, _, hb⟩
                  obtain ⟨h1, h2⟩ := hx
                  rw [h1, h2]
                  exact ⟨ao, c, rfl, hb⟩
                clear hx hqz
                go_wp2_with (go_at_call 9; refine (KT2.out).mono ?_; rintro e w6 ⟨ao6, c6, rfl, hb6⟩; have HB6 := Lib.hid (below_new (below_step HB.out hb6) (.cells #[.int .i64 201, .int .i64 0] 26)); have HS6 := Lib.hid ((HSZ.out.below hb6).below (below_own (.cells #[.int .i64 201, .int .i64 0] 26))); clear hb6)
                go_roundw
                case rel => exact ⟨q + 1, by omega, by go_num, HS6, HB6⟩
                case measure => clear c0; simp [intOf]; omega
              · obtain rfl : q = 4 := by omega
                go_wp2
                go_ret
                exact ⟨rfl, HB.out⟩
      · have KT1 : Hid (Calls Tryd.prog 9 #[.string z] wr fun e w' => ∃ ao c, e = .returned (.tuple #[.slice ao 1 c, .agg #[.int .i64 0, .int .i64 0]]) ∧ Below wr.heap.size wr w') := by
          refine (KT.out z wr (HE.out.below HB.out)).mono ?_
          rintro e w' ⟨ao, c, rfl, _, hb⟩
          have hd : z.data.toList = List.replicate j (32 : UInt8) := by rw [hz]
          obtain ⟨h1, h2⟩ := by have := told_blank j (by rw [HN.out]; omega); rw [← hd] at this; exact this
          rw [h1, h2]
          exact ⟨ao, c, rfl, hb⟩
        clear hz
        go_wp2_with (first
          | (go_at_call 9; refine (KT1.out).mono ?_; rintro e w3 ⟨ao, c3, rfl, hb3⟩; have HB3 := Lib.hid (below_new (below_step HB.out hb3) (.cells #[.int .i64 0, .int .i64 0] 26)); clear hb3)
          | (at_make; refine wpList_make_full _ rfl _ _ 36 rfl (w3.alloc (.cells #[.int .i64 0, .int .i64 0] 26)).heap.size 5 i0 (.int .u8 0) 1 Tryd.underlying36 hi hz0 hz1 .i64 .i64 _ _ 23 rfl rfl rfl rfl (by rw [hz2]; omega) (by unfold maxLen; omega) (Nat.le_refl _) ?_; intro w4 hown4 hgrow4; rw [fill_first 23 b] at hown4))
        have HB4 : Hid (Below w.heap.size w w4) := HB3.out.grown hgrow4 HB3.out.size (fun r h => by cases h)
        obtain ⟨g4, hg4⟩ : ∃ g4, g4 = (w3.alloc (.cells #[.int .i64 0, .int .i64 0] 26)).heap.size := ⟨_, rfl⟩
        have HG4 : Hid (w.heap.size ≤ g4) := by rw [hg4]; exact HB3.out.size
        rw [← hg4] at hown4
        have hg4' : w3.heap.size + 1 = g4 := by rw [hg4, World.size_alloc]
        have HO4 := Lib.hid hown4
        rw [hg4']
        clear hown4 hgrow4 hg4 hg4' KT1 HB HB3 hcv
        go_loopw [11] (fun i wr => ∃ k : Nat, k ≤ 23 ∧ i = .int .i64 k ∧ Hid (wr.ownsRow g4 5 1 (.slice (some ⟨g4, 0, none⟩) 23 23) 23 (bcells (List.replicate k b ++ List.replicate (23 - k) 0))) ∧ Hid (Below w.heap.size w wr)) (fun i _ => 23 - (intOf i).toNat)
        case atStart => exact ⟨0, Nat.zero_le _, rfl, HO4, HB4⟩
        case round =>
          clear HO4 HB4
          obtain ⟨p, hp, rfl, HO, HB⟩ := hrel
          obtain ⟨hcl, hfr, hlt0⟩ := owns_at HO.out
          by_cases hlt : p < 23
          · have c0 := hcl p _ (fill_cell 23 p hlt b)
            have HO' := HO.out.stored p (.int .u8 (b.toNat : Int))
            rw [fill_step 23 p hlt b] at HO'
            have HO'' := Lib.hid HO'.1
            have HB' := Lib.hid (HB.out.setCell (p := ⟨g4, p, none⟩) HG4.out (.int .u8 (b.toNat : Int)))
            clear HO HB hcl hlt0 HO'
            go_wp2
            go_roundw
            case rel => exact ⟨p + 1, by omega, by go_num, HO'', HB'⟩
            case measure => clear c0 hfr; simp [intOf]; omega
          · have hpe : p = 23 := by omega
            have hcw : (convert 36 9 (.slice (some ⟨g4, 0, none⟩) 23 23)).run Tryd.prog wr = .ok (.string ⟨(List.replicate 23 b).toArray⟩) wr := by
              rw [hpe, fill_last] at hcl
              have := conv_at (c := 23) hcl
              rwa [List.length_replicate] at this
            have hcx : (convert 36 9 (.slice (some ⟨wr.heap.size, 0, none⟩) 1 1)).run Tryd.prog (wr.alloc (.cells #[.int .u8 54] 5)) = .ok (.string ⟨#[54]⟩) (wr.alloc (.cells #[.int .u8 54] 5)) :=
              conv_at (l := [54]) (c := 1) (fun j u hu => cells_made wr #[.int .u8 54] _ j u (by simpa [bcells, Lib.byteCells] using hu))
            obtain ⟨y, hy⟩ : ∃ y : ByteArray, y = ⟨(List.replicate 23 b).toArray⟩ := ⟨_, rfl⟩
            rw [← hy] at hcw
            have hys : y.size = 23 := by rw [hy]; simp [ByteArray.size]
            have hl1 : ¬ 9223372036854775807 < 1 + y.size := by omega
            have HY := Lib.hid hy
            have ey : y.data.toList = List.replicate 23 b := by rw [hy]
            obtain ⟨zs, hzs⟩ : ∃ zs : List ByteArray, zs = [y, ⟨#[63]⟩ ++ y, ⟨#[39]⟩ ++ y, ⟨#[57, 50, 50, 51, 51, 55, 50, 48, 51, 54, 56, 53, 52, 55, 55, 53, 56, 48]⟩ ++ ⟨#[54]⟩] := ⟨_, rfl⟩
            have HZL : Hid (zs.length = 4) := by rw [hzs]; rfl
            have HTX : Hid (∀ x ∈ zs, TextK 0 x.data.toList) := by
              intro x hx
              rw [hzs] at hx
              simp only [List.mem_cons, List.not_mem_nil, or_false] at hx
              rcases hx with rfl | rfl | rfl | rfl
              · rw [ey]
                exact text_name 0 (by decide) b HBL.out
              · rw [ByteArray.data_append, Array.toList_append, ey]
                exact text_named 63 (.inl rfl) 0 (by decide) b HBL.out
              · rw [ByteArray.data_append, Array.toList_append, ey]
                exact text_named 39 (.inr rfl) 0 (by decide) b HBL.out
              · exact text_number 0 (by decide)
            have HSZ : Hid (Sets ((wr.alloc (.cells #[.int .u8 54] 5)).alloc (.cells #[.string y, .string (⟨#[63]⟩ ++ y), .string (⟨#[39]⟩ ++ y), .string (⟨#[57, 50, 50, 51, 51, 55, 50, 48, 51, 54, 56, 53, 52, 55, 55, 53, 56, 48]⟩ ++ ⟨#[54]⟩)] 9)) (wr.heap.size + 1) zs) := by
              have := sets_made (wr.alloc (.cells #[.int .u8 54] 5)) zs #[.string y, .string (⟨#[63]⟩ ++ y), .string (⟨#[39]⟩ ++ y), .string (⟨#[57, 50, 50, 51, 51, 55, 50, 48, 51, 54, 56, 53, 52, 55, 55, 53, 56, 48]⟩ ++ ⟨#[54]⟩)] 9 (by rw [hzs]; rfl)
              rwa [World.size_alloc] at this
            have HB5 : Hid (Below w.heap.size w ((wr.alloc (.cells #[.int .u8 54] 5)).alloc (.cells #[.string y, .string (⟨#[63]⟩ ++ y), .string (⟨#[39]⟩ ++ y), .string (⟨#[57, 50, 50, 51, 51, 55, 50, 48, 51, 54, 56, 53, 52, 55, 55, 53, 56, 48]⟩ ++ ⟨#[54]⟩)] 9))) := below_new (below_new HB.out _) _
            clear hcl hfr hp HO hy ey hzs HB hpe
            go_wp2
            generalize ((wr.alloc (.cells #[.int .u8 54] 5)).alloc (.cells #[.string y, .string (⟨#[63]⟩ ++ y), .string (⟨#[39]⟩ ++ y), .string (⟨#[57, 50, 50, 51, 51, 55, 50, 48, 51, 54, 56, 53, 52, 55, 55, 53, 56, 48]⟩ ++ ⟨#[54]⟩)] 9)) = w5 at HSZ HB5 ⊢
            generalize wr.heap.size + 1 = gT at HSZ ⊢
            clear hcw hcx HY hys hl1
            go_loopw [13] (fun i wr => ∃ k : Nat, k ≤ 4 ∧ i = .int .i64 k ∧ Hid (Sets wr gT zs) ∧ Hid (Below w.heap.size w wr)) (fun i _ => 4 - (intOf i).toNat)
            case atStart => exact ⟨0, Nat.zero_le _, rfl, HSZ, HB5⟩
            case round =>
              clear HSZ HB5
              obtain ⟨q, hq4, rfl, HSZ, HB⟩ := hrel
              by_cases hlt : q < 4
              · have hqz : q < zs.length := by rw [HZL.out]; exact hlt
                have c0 := HSZ.out.cell q hqz
                have hx := HTX.out _ (List.getElem_mem hqz)
                generalize zs[q] = x at c0 hx
                have KT2 : Hid (Calls Tryd.prog 9 #[.string x] wr fun e w' => ∃ ao c, e = .returned (.tuple #[.slice ao 2 c, .agg #[.int .i64 0, .int .i64 0]]) ∧ Below wr.heap.size wr w') := by
                  refine (KT.out x wr (HE.out.below HB.out)).mono ?_
                  rintro e w' ⟨ao, c, rfl, _, hb⟩
                  obtain ⟨h1, h2⟩ := hx
                  rw [h1, h2]
                  exact ⟨ao, c, rfl, hb⟩
                clear hx hqz
                go_wp2_with (go_at_call 9; refine (KT2.out).mono ?_; rintro e w6 ⟨ao6, c6, rfl, hb6⟩; have HB6 := Lib.hid (below_new (below_step HB.out hb6) (.cells #[.int .i64 0, .int .i64 0] 26)); have HS6 := Lib.hid ((HSZ.out.below hb6).below (below_own (.cells #[.int .i64 0, .int .i64 0] 26))); clear hb6)
                go_roundw
                case rel => exact ⟨q + 1, by omega, by go_num, HS6, HB6⟩
                case measure => clear c0; simp [intOf]; omega
              · obtain rfl : q = 4 := by omega
                go_wp2
                go_ret
                exact ⟨rfl, HB.out⟩
      · have KT1 : Hid (Calls Tryd.prog 9 #[.string z] wr fun e w' => ∃ ao c, e = .returned (.tuple #[.slice ao 1 c, .agg #[.int .i64 0, .int .i64 0]]) ∧ Below wr.heap.size wr w') := by
          refine (KT.out z wr (HE.out.below HB.out)).mono ?_
          rintro e w' ⟨ao, c, rfl, _, hb⟩
          have hd : z.data.toList = List.replicate j (32 : UInt8) := by rw [hz]
          obtain ⟨h1, h2⟩ := by have := told_blank j (by rw [HN.out]; omega); rw [← hd] at this; exact this
          rw [h1, h2]
          exact ⟨ao, c, rfl, hb⟩
        clear hz
        go_wp2_with (first
          | (go_at_call 9; refine (KT1.out).mono ?_; rintro e w3 ⟨ao, c3, rfl, hb3⟩; have HB3 := Lib.hid (below_new (below_step HB.out hb3) (.cells #[.int .i64 0, .int .i64 0] 26)); clear hb3)
          | (at_make; refine wpList_make_full _ rfl _ _ 36 rfl (w3.alloc (.cells #[.int .i64 0, .int .i64 0] 26)).heap.size 5 i0 (.int .u8 0) 1 Tryd.underlying36 hi hz0 hz1 .i64 .i64 _ _ 24 rfl rfl rfl rfl (by rw [hz2]; omega) (by unfold maxLen; omega) (Nat.le_refl _) ?_; intro w4 hown4 hgrow4; rw [fill_first 24 b] at hown4))
        have HB4 : Hid (Below w.heap.size w w4) := HB3.out.grown hgrow4 HB3.out.size (fun r h => by cases h)
        obtain ⟨g4, hg4⟩ : ∃ g4, g4 = (w3.alloc (.cells #[.int .i64 0, .int .i64 0] 26)).heap.size := ⟨_, rfl⟩
        have HG4 : Hid (w.heap.size ≤ g4) := by rw [hg4]; exact HB3.out.size
        rw [← hg4] at hown4
        have hg4' : w3.heap.size + 1 = g4 := by rw [hg4, World.size_alloc]
        have HO4 := Lib.hid hown4
        rw [hg4']
        clear hown4 hgrow4 hg4 hg4' KT1 HB HB3 hcv
        go_loopw [11] (fun i wr => ∃ k : Nat, k ≤ 24 ∧ i = .int .i64 k ∧ Hid (wr.ownsRow g4 5 1 (.slice (some ⟨g4, 0, none⟩) 24 24) 24 (bcells (List.replicate k b ++ List.replicate (24 - k) 0))) ∧ Hid (Below w.heap.size w wr)) (fun i _ => 24 - (intOf i).toNat)
        case atStart => exact ⟨0, Nat.zero_le _, rfl, HO4, HB4⟩
        case round =>
          clear HO4 HB4
          obtain ⟨p, hp, rfl, HO, HB⟩ := hrel
          obtain ⟨hcl, hfr, hlt0⟩ := owns_at HO.out
          by_cases hlt : p < 24
          · have c0 := hcl p _ (fill_cell 24 p hlt b)
            have HO' := HO.out.stored p (.int .u8 (b.toNat : Int))
            rw [fill_step 24 p hlt b] at HO'
            have HO'' := Lib.hid HO'.1
            have HB' := Lib.hid (HB.out.setCell (p := ⟨g4, p, none⟩) HG4.out (.int .u8 (b.toNat : Int)))
            clear HO HB hcl hlt0 HO'
            go_wp2
            go_roundw
            case rel => exact ⟨p + 1, by omega, by go_num, HO'', HB'⟩
            case measure => clear c0 hfr; simp [intOf]; omega
          · have hpe : p = 24 := by omega
            have hcw : (convert 36 9 (.slice (some ⟨g4, 0, none⟩) 24 24)).run Tryd.prog wr = .ok (.string ⟨(List.replicate 24 b).toArray⟩) wr := by
              rw [hpe, fill_last] at hcl
              have := conv_at (c := 24) hcl
              rwa [List.length_replicate] at this
            have hcx : (convert 36 9 (.slice (some ⟨wr.heap.size, 0, none⟩) 1 1)).run Tryd.prog (wr.alloc (.cells #[.int .u8 55] 5)) = .ok (.string ⟨#[55]⟩) (wr.alloc (.cells #[.int .u8 55] 5)) :=
              conv_at (l := [55]) (c := 1) (fun j u hu => cells_made wr #[.int .u8 55] _ j u (by simpa [bcells, Lib.byteCells] using hu))
            obtain ⟨y, hy⟩ : ∃ y : ByteArray, y = ⟨(List.replicate 24 b).toArray⟩ := ⟨_, rfl⟩
            rw [← hy] at hcw
            have hys : y.size = 24 := by rw [hy]; simp [ByteArray.size]
            have hl1 : ¬ 9223372036854775807 < 1 + y.size := by omega
            have HY := Lib.hid hy
            have ey : y.data.toList = List.replicate 24 b := by rw [hy]
            obtain ⟨zs, hzs⟩ : ∃ zs : List ByteArray, zs = [y, ⟨#[63]⟩ ++ y, ⟨#[39]⟩ ++ y, ⟨#[57, 50, 50, 51, 51, 55, 50, 48, 51, 54, 56, 53, 52, 55, 55, 53, 56, 48]⟩ ++ ⟨#[55]⟩] := ⟨_, rfl⟩
            have HZL : Hid (zs.length = 4) := by rw [hzs]; rfl
            have HTX : Hid (∀ x ∈ zs, TextK 1 x.data.toList) := by
              intro x hx
              rw [hzs] at hx
              simp only [List.mem_cons, List.not_mem_nil, or_false] at hx
              rcases hx with rfl | rfl | rfl | rfl
              · rw [ey]
                exact text_name 1 (by decide) b HBL.out
              · rw [ByteArray.data_append, Array.toList_append, ey]
                exact text_named 63 (.inl rfl) 1 (by decide) b HBL.out
              · rw [ByteArray.data_append, Array.toList_append, ey]
                exact text_named 39 (.inr rfl) 1 (by decide) b HBL.out
              · exact text_number 1 (by decide)
            have HSZ : Hid (Sets ((wr.alloc (.cells #[.int .u8 55] 5)).alloc (.cells #[.string y, .string (⟨#[63]⟩ ++ y), .string (⟨#[39]⟩ ++ y), .string (⟨#[57, 50, 50, 51, 51, 55, 50, 48, 51, 54, 56, 53, 52, 55, 55, 53, 56, 48]⟩ ++ ⟨#[55]⟩)] 9)) (wr.heap.size + 1) zs) := by
              have := sets_made (wr.alloc (.cells #[.int .u8 55] 5)) zs #[.string y, .string (⟨#[63]⟩ ++ y), .string (⟨#[39]⟩ ++ y), .string (⟨#[57, 50, 50, 51, 51, 55, 50, 48, 51, 54, 56, 53, 52, 55, 55, 53, 56, 48]⟩ ++ ⟨#[55]⟩)] 9 (by rw [hzs]; rfl)
              rwa [World.size_alloc] at this
            have HB5 : Hid (Below w.heap.size w ((wr.alloc (.cells #[.int .u8 55] 5)).alloc (.cells #[.string y, .string (⟨#[63]⟩ ++ y), .string (⟨#[39]⟩ ++ y), .string (⟨#[57, 50, 50, 51, 51, 55, 50, 48, 51, 54, 56, 53, 52, 55, 55, 53, 56, 48]⟩ ++ ⟨#[55]⟩)] 9))) := below_new (below_new HB.out _) _
            clear hcl hfr hp HO hy ey hzs HB hpe
            go_wp2
            generalize ((wr.alloc (.cells #[.int .u8 55] 5)).alloc (.cells #[.string y, .string (⟨#[63]⟩ ++ y), .string (⟨#[39]⟩ ++ y), .string (⟨#[57, 50, 50, 51, 51, 55, 50, 48, 51, 54, 56, 53, 52, 55, 55, 53, 56, 48]⟩ ++ ⟨#[55]⟩)] 9)) = w5 at HSZ HB5 ⊢
            generalize wr.heap.size + 1 = gT at HSZ ⊢
            clear hcw hcx HY hys hl1
            go_loopw [13] (fun i wr => ∃ k : Nat, k ≤ 4 ∧ i = .int .i64 k ∧ Hid (Sets wr gT zs) ∧ Hid (Below w.heap.size w wr)) (fun i _ => 4 - (intOf i).toNat)
            case atStart => exact ⟨0, Nat.zero_le _, rfl, HSZ, HB5⟩
            case round =>
              clear HSZ HB5
              obtain ⟨q, hq4, rfl, HSZ, HB⟩ := hrel
              by_cases hlt : q < 4
              · have hqz : q < zs.length := by rw [HZL.out]; exact hlt
                have c0 := HSZ.out.cell q hqz
                have hx := HTX.out _ (List.getElem_mem hqz)
                generalize zs[q] = x at c0 hx
                have KT2 : Hid (Calls Tryd.prog 9 #[.string x] wr fun e w' => ∃ ao c, e = .returned (.tuple #[.slice ao 2 c, .agg #[.int .i64 0, .int .i64 0]]) ∧ Below wr.heap.size wr w') := by
                  refine (KT.out x wr (HE.out.below HB.out)).mono ?_
                  rintro e w' ⟨ao, c, rfl, _, hb⟩
                  obtain ⟨h1, h2⟩ := hx
                  rw [h1, h2]
                  exact ⟨ao, c, rfl, hb⟩
                clear hx hqz
                go_wp2_with (go_at_call 9; refine (KT2.out).mono ?_; rintro e w6 ⟨ao6, c6, rfl, hb6⟩; have HB6 := Lib.hid (below_new (below_step HB.out hb6) (.cells #[.int .i64 0, .int .i64 0] 26)); have HS6 := Lib.hid ((HSZ.out.below hb6).below (below_own (.cells #[.int .i64 0, .int .i64 0] 26))); clear hb6)
                go_roundw
                case rel => exact ⟨q + 1, by omega, by go_num, HS6, HB6⟩
                case measure => clear c0; simp [intOf]; omega
              · obtain rfl : q = 4 := by omega
                go_wp2
                go_ret
                exact ⟨rfl, HB.out⟩
end Go.Proofs.YtebfclanamoldaaDoor
