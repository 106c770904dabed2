/- FrameNumbers. -/
import Derived.Test.YtagjipkoheimjaaGreatDoorNumsQ
namespace Go.Proofs.YtagjipkoheimjaaGreatDoor
open Go.RowKit

set_option maxRecDepth 100000 in
set_option maxHeartbeats 4000000 in
theorem frameNumbers_any (w : World) : Calls Tryz.prog 5 #[] w (YesP w) := by
  obtain ⟨i0, hi, hz0, hz1, hz2⟩ := info_parts infoB
  go_enter Tryz.func5, Tryz.ntmps5
  go_wp2_with (first
    | (at_make; go_must (refine wpList_make_full _ rfl _ _ 26 rfl w.heap.size 5 i0 (.int .u8 0) 1 Tryz.underlying26 hi hz0 hz1 .i64 .i64 _ _ 40 rfl rfl rfl rfl (by rw [hz2]; omega) (by unfold maxLen; omega) (by simp) ?_; intro w2 hown2 hgrow2; rw [fill0 40] at hown2))
    | (go_at_call 9; go_must (refine (put3 w2 w.heap.size (w.heap.size + 1) ?_ ?_).mono ?_)))
  · exact (slG_made w _ [1, 2, 3] rfl).up ((Below.refl _ _).grown hgrow2 (Nat.le_refl _) (fun k h => by cases h)) hgrow2.size
  · have h := owns_slB (l := List.replicate 40 0) (c := 40) (by rw [List.length_replicate]; exact hown2)
    simpa using h
  have HB2 : Hid (Below w.heap.size w w2) := (below_own (w := w) _).trans (((Below.refl _ _).grown hgrow2 (Nat.le_refl _) (fun k h => by cases h)).mono (below_own (w := w) _).size)
  clear hown2 hgrow2
  rintro e w3 ⟨bb, cb, rfl, hbody, hcb, hcm, hb⟩
  have HBo := Lib.hid hbody
  have HB3 := Lib.hid (HB2.out.trans (hb.mono HB2.out.size))
  have HCb := Lib.hid (And.intro hcb hcm)
  clear hbody hb HB2 hcm hcb
  have hcb : (70 : Int) ≤ (cb : Int) := by have := HCb.out.1; omega
  go_wp2_with fail
  go_loopw [4] (fun i wr => ∃ k : Nat, k ≤ 71 ∧ i = .int .i64 k ∧ Hid (Below w3.heap.size w3 wr)) (fun i _ => 71 - (intOf i).toNat)
  case atStart => exact ⟨0, by omega, rfl, Below.refl _ _⟩
  case round =>
    obtain ⟨k, hk, rfl, HB⟩ := hrel
    by_cases hlt : k ≤ 70
    · have hk70 : (k : Int) ≤ 70 := by omega
      have hkc : (k : Int) ≤ (cb : Int) := by omega
      have hlen : (D3.take k).length = k := by rw [List.length_take, D3_len]; omega
      have KS : Hid (∀ W, Below w3.heap.size w3 W → Calls Tryz.prog 4 #[.slice (some ⟨bb, 0, none⟩) k cb] W (YesP W)) := fun W hW => by
        have h := frameScans_any (some ⟨bb, 0, none⟩) (D3.take k) cb W (slG_takeB ((HBo.out.below hW).slG) k) (by simp) (by have := HCb.out.1; omega) HCb.out.2
        rwa [hlen] at h
      have KC : Hid (∀ W, Below w3.heap.size w3 W → Calls Tryz.prog 22 #[.slice (some ⟨bb, 0, none⟩) k cb] W (fun e w' => ∃ ao' c', e = .returned (.slice ao' k c') ∧ w'.ownsRow W.heap.size 5 1 (.slice ao' k c') k (bcells (D3.take k)) ∧ Below W.heap.size W w')) := fun W hW => by
        have h := copyB_any (some ⟨bb, 0, none⟩) cb (D3.take k) W (by omega) (slG_takeB ((HBo.out.below hW).slG) k) (by simp)
        rwa [hlen] at h
      go_wp2_with (first
        | (go_at_call 4; go_must (refine (KS.out _ HB.out).mono ?_; rintro e w4 ⟨rfl, hb⟩; refine Hid.out ?_)))
      have HB4 := Lib.hid (HB.out.trans (hb.mono HB.out.size))
      clear hb
      refine Lib.hid ?_
      go_wp2_with (go_at_call 22; go_must (refine (KC.out _ HB4.out).mono ?_; rintro e w5 ⟨a5, c5, rfl, ho5, hb⟩; refine Hid.out ?_))
      have HO5 := Lib.hid ho5
      have HB5 := Lib.hid (HB4.out.trans (hb.mono HB4.out.size))
      have H45 := Lib.hid hb.size
      clear ho5 hb
      refine Lib.hid ?_
      go_wp2_with (at_builtin; go_must (refine wpList_append_when _ rfl _ _ 26 rfl w4.heap.size 5 i0 (.int .u8 0) 1 1 Tryz.underlying26 hi hz0 hz1 hz2 rfl (by decide) _ k (bcells (D3.take k)) rfl (World.ownsRow.alloc HO5.out _) ⟨w5.heap.size, 0, none⟩ 4 4 (bcells [0, 16, 0, 1]) rfl rfl (fun i u hu => by rw [Addr.add_lit, Nat.zero_add]; exact cells_made w5 _ _ i u (by simpa [Lib.byteCells] using hu)) (Lib.byteCells_one _) (by unfold maxLen; omega) (by omega) (Nat.le_trans H45.out (below_own _).size) ?_; intro v6 w6 hown6 hgrow6; obtain ⟨a6, c6, rfl⟩ := owns_slice hown6; refine Hid.out ?_))
      rw [← bcells_append] at hown6
      have HB6 : Hid (Below w3.heap.size w3 w6) := (below_new HB5.out _).grown hgrow6 (Nat.le_trans HB5.out.size (below_own _).size) (fun q hq => Nat.le_trans HB4.out.size (HO5.out.lt q hq).1)
      have KS6 := Lib.hid (scans_own hown6 (by rw [List.length_append, hlen]; rfl))
      clear hown6 hgrow6 HO5 HB5 H45
      refine Lib.hid ?_
      go_wp2_with (go_at_call 4; go_must (refine (KS6.out).mono ?_; rintro e w7 ⟨rfl, hb⟩; refine Hid.out ?_))
      have HB7 := Lib.hid (HB6.out.trans (hb.mono HB6.out.size))
      clear hb KS6 HB6 HB4
      refine Lib.hid ?_
      go_wp2_with (go_at_call 22; go_must (refine (KC.out _ HB7.out).mono ?_; rintro e w8 ⟨a8, c8, rfl, ho8, hb⟩; refine Hid.out ?_))
      have HO8 := Lib.hid ho8
      have HB8 := Lib.hid (HB7.out.trans (hb.mono HB7.out.size))
      have H78 := Lib.hid hb.size
      clear ho8 hb
      refine Lib.hid ?_
      go_wp2_with (at_builtin; go_must (refine wpList_append_when _ rfl _ _ 26 rfl w7.heap.size 5 i0 (.int .u8 0) 1 1 Tryz.underlying26 hi hz0 hz1 hz2 rfl (by decide) _ k (bcells (D3.take k)) rfl (World.ownsRow.alloc HO8.out _) ⟨w8.heap.size, 0, none⟩ 5 5 (bcells [0, 16, 0, 0, 1]) rfl rfl (fun i u hu => by rw [Addr.add_lit, Nat.zero_add]; exact cells_made w8 _ _ i u (by simpa [Lib.byteCells] using hu)) (Lib.byteCells_one _) (by unfold maxLen; omega) (by omega) (Nat.le_trans H78.out (below_own _).size) ?_; intro v9 w9 hown9 hgrow9; obtain ⟨a9, c9, rfl⟩ := owns_slice hown9; refine Hid.out ?_))
      rw [← bcells_append] at hown9
      have HB9 : Hid (Below w3.heap.size w3 w9) := (below_new HB8.out _).grown hgrow9 (Nat.le_trans HB8.out.size (below_own _).size) (fun q hq => Nat.le_trans HB7.out.size (HO8.out.lt q hq).1)
      have KS9 := Lib.hid (scans_own hown9 (by rw [List.length_append, hlen]; rfl))
      clear hown9 hgrow9 HO8 HB8 H78
      refine Lib.hid ?_
      go_wp2_with (go_at_call 4; go_must (refine (KS9.out).mono ?_; rintro e w10 ⟨rfl, hb⟩; refine Hid.out ?_))
      have HB10 := Lib.hid (HB9.out.trans (hb.mono HB9.out.size))
      clear hb KS9 HB9 HB7
      refine Lib.hid ?_
      by_cases hk2 : k < 70
      · have hk3 : (k : Int) < 70 := by omega
        have KB : Hid (∀ W, Below w3.heap.size w3 W → Calls Tryz.prog 22 #[.slice (some ⟨bb, 0, none⟩) 70 cb] W (fun e w' => ∃ g c, e = .returned (.slice (some ⟨g, 0, none⟩) 70 c) ∧ w'.ownsRow W.heap.size 5 1 (.slice (some ⟨g, 0, none⟩) 70 c) 70 (bcells D3) ∧ Below W.heap.size W w')) := fun W hW => by
          have h := copyB_any (some ⟨bb, 0, none⟩) cb D3 W (by rw [D3_len]; omega) (HBo.out.below hW).slG (by simp)
          rw [D3_len] at h
          refine h.mono fun e w' ⟨ao, c, h1, h2, h3⟩ => ?_
          obtain ⟨g, rfl, _, _⟩ := own_body h2 (by omega)
          exact ⟨g, c, h1, h2, h3⟩
        go_wp2_with (go_at_call 22; go_must (refine (KB.out _ HB10.out).mono ?_; rintro e w11 ⟨g11, c11, rfl, ho11, hb⟩; refine Hid.out ?_))
        have HO11 := Lib.hid ho11
        have HB11 := Lib.hid (HB10.out.trans (hb.mono HB10.out.size))
        have hg11 : w10.heap.size ≤ g11 := (ho11.lt g11 rfl).1
        have hg11' : w3.heap.size ≤ g11 := Nat.le_trans HB10.out.size hg11
        have hkD : k < D3.length := by rw [D3_len]; exact hk2
        have x11 : w11.cell? ⟨g11, k, none⟩ = some (.int .u8 ((D3[k]).toNat : Int)) := by
          have := ho11.cells (g := g11) rfl k (.int .u8 ((D3[k]).toNat : Int)) (by simp [Lib.byteCells, hkD])
          rwa [Addr.add_lit, Nat.zero_add] at this
        have f11 : w11.frozen? ⟨g11, k, none⟩ = false := ho11.frozenAt k
        have KB11 : Hid (∀ v, Calls Tryz.prog 22 #[.slice (some ⟨bb, 0, none⟩) 70 cb] (w11.setCell ⟨g11, k, none⟩ v) (fun e w' => ∃ g c, e = .returned (.slice (some ⟨g, 0, none⟩) 70 c) ∧ w'.ownsRow (w11.setCell ⟨g11, k, none⟩ v).heap.size 5 1 (.slice (some ⟨g, 0, none⟩) 70 c) 70 (bcells D3) ∧ Below (w11.setCell ⟨g11, k, none⟩ v).heap.size (w11.setCell ⟨g11, k, none⟩ v) w')) := fun v => KB.out _ (HB11.out.setCell (p := ⟨g11, k, none⟩) hg11' _)
        have hx11 := (D3[k]).toNat_lt
        generalize (D3[k]).toNat = x at x11 hx11
        clear ho11 hb HB10 hkD
        refine Lib.hid ?_
        go_wp2_with (go_at_call 22; go_must (refine (KB11.out _).mono ?_; rintro e w12 ⟨g12, c12, rfl, ho12, hb⟩; refine Hid.out ?_))
        obtain ⟨y, hy⟩ := byte_of (((x : Int) + 1) % 256) (by omega) (by omega)
        rw [hy] at ho12 hb
        have hs11 := (HO11.out.stored k (.int .u8 (y.toNat : Int))).1
        rw [bcells_set] at hs11
        have HC12 := Lib.hid (owns_below hs11 hb)
        have HB12 := Lib.hid ((HB11.out.setCell (p := ⟨g11, k, none⟩) hg11' (.int .u8 (y.toNat : Int))).trans (hb.mono (HB11.out.setCell (p := ⟨g11, k, none⟩) hg11' (.int .u8 (y.toNat : Int))).size))
        have hg12 : (w11.setCell ⟨g11, k, none⟩ (.int .u8 (y.toNat : Int))).heap.size ≤ g12 := (ho12.lt g12 rfl).1
        have hne : g11 ≠ g12 := by
          have := (hs11.lt g11 rfl).2
          omega
        have hg12' : w3.heap.size ≤ g12 := Nat.le_trans (HB11.out.setCell (p := ⟨g11, k, none⟩) hg11' (.int .u8 (y.toNat : Int))).size hg12
        have HO12 := Lib.hid ho12
        have hkD : k < D3.length := by rw [D3_len]; exact hk2
        have x12 : w12.cell? ⟨g12, k, none⟩ = some (.int .u8 ((D3[k]).toNat : Int)) := by
          have := ho12.cells (g := g12) rfl k (.int .u8 ((D3[k]).toNat : Int)) (by simp [Lib.byteCells, hkD])
          rwa [Addr.add_lit, Nat.zero_add] at this
        have f12 : w12.frozen? ⟨g12, k, none⟩ = false := ho12.frozenAt k
        have KS12 : Hid (∀ v, Calls Tryz.prog 4 #[.slice (some ⟨g11, 0, none⟩) 70 c11] (w12.setCell ⟨g12, k, none⟩ v) (YesP (w12.setCell ⟨g12, k, none⟩ v))) := fun v =>
          scans_own (HC12.out.kept (Lib.grownBy_setCell w12 g12 k v) (Or.inr (fun e => hne (Option.some.inj (show some g11 = some g12 from e))))) (by rw [List.length_set, D3_len])
        have KS13 : Hid (∀ (v : UInt8) (W : World), Below (w12.setCell ⟨g12, k, none⟩ (.int .u8 (v.toNat : Int))).heap.size (w12.setCell ⟨g12, k, none⟩ (.int .u8 (v.toNat : Int))) W → Calls Tryz.prog 4 #[.slice (some ⟨g12, 0, none⟩) 70 c12] W (YesP W)) := fun v W hW => by
          have h := (HO12.out.stored k (.int .u8 (v.toNat : Int))).1
          rw [bcells_set] at h
          exact scans_own (owns_below h hW) (by rw [List.length_set, D3_len])
        have hx12 := (D3[k]).toNat_lt
        generalize (D3[k]).toNat = x2 at x12 hx12
        clear ho12 hb hs11 hkD HO11 x11 f11 KB11 hg11 hg12 HB11
        refine Lib.hid ?_
        go_wp2_with (go_at_call 4; go_must (refine (KS12.out _).mono ?_; rintro e w13 ⟨rfl, hb⟩; refine Hid.out ?_))
        obtain ⟨y2, hy2⟩ := xor_byte (x2 : Int)
        rw [hy2] at hb
        have HB13 : Hid (Below w3.heap.size w3 w13) := (HB12.out.setCell (p := ⟨g12, k, none⟩) hg12' (.int .u8 (y2.toNat : Int))).trans (hb.mono (HB12.out.setCell (p := ⟨g12, k, none⟩) hg12' (.int .u8 (y2.toNat : Int))).size)
        have KS14 := Lib.hid (KS13.out y2 w13 hb)
        clear hb KS12 KS13 HC12 HB12 HO12 x12 f12 hy hy2
        refine Lib.hid ?_
        go_wp2_with (go_at_call 4; go_must (refine (KS14.out).mono ?_; rintro e w14 ⟨rfl, hb⟩; refine Hid.out ?_))
        have HB14 := Lib.hid (HB13.out.trans (hb.mono HB13.out.size))
        clear hb KS14 HB13
        refine Lib.hid ?_
        go_wp2_with fail
        go_roundw
        case rel => exact ⟨k + 1, by omega, by go_num, HB14⟩
        case measure => simp [intOf]; omega
      · have hk3 : ¬ (k : Int) < 70 := by omega
        go_wp2_with fail
        go_roundw
        case rel => exact ⟨k + 1, by omega, by go_num, HB10⟩
        case measure => simp [intOf]; omega
    · have hk3 : ¬ (k : Int) ≤ 70 := by omega
      have HBw := Lib.hid (HB3.out.trans (HB.out.mono HB3.out.size))
      clear HBo HB3 HCb hcb HB hk hlt
      obtain ⟨V, rfl⟩ : ∃ V, V = wr := ⟨wr, rfl⟩
      go_wp2_with fail
      clear hk3
      go_loopw [8] (fun i wr => ∃ j : Nat, j ≤ 6 ∧ i = .int .i64 j ∧ Hid (Below (V.alloc (.cells kindCs 3)).heap.size (V.alloc (.cells kindCs 3)) wr)) (fun i _ => 6 - (intOf i).toNat)
      case atStart => exact ⟨0, by omega, rfl, Below.refl _ _⟩
      case round =>
        obtain ⟨j, hj, rfl, HB⟩ := hrel
        by_cases hlt : j < 6
        · have hj6 : (j : Int) < 6 := by omega
          obtain ⟨x, hx⟩ := kind_at V j hlt
          have x0 := (hx wr HB.out)
          have HX := Lib.hid hx
          clear hx
          go_wp2_with (go_at_call 3; go_must (refine (putsA x wr).mono ?_; rintro e w5 ⟨rfl, hb⟩; refine Hid.out ?_))
          have HB5 := Lib.hid (HB.out.trans (((below_new (below_own (w := wr) _) _).trans (hb.mono (below_new (below_own (w := wr) _) _).size)).mono HB.out.size))
          have x5 := HX.out w5 HB5.out
          clear hb x0
          refine Lib.hid ?_
          go_wp2_with (go_at_call 3; go_must (refine (putsB x w5).mono ?_; rintro e w6 ⟨rfl, hb⟩; refine Hid.out ?_))
          have HB6 := Lib.hid (HB5.out.trans (((below_own (w := w5) _).trans (hb.mono (below_own (w := w5) _).size)).mono HB5.out.size))
          clear hb x5
          refine Lib.hid ?_
          go_wp2_with fail
          go_roundw
          case rel => exact ⟨j + 1, by omega, by go_num, HB6⟩
          case measure => simp [intOf]; omega
        · have hj6 : ¬ (j : Int) < 6 := by omega
          have HBv : Hid (Below w.heap.size w wr) := (below_new HBw.out _).trans (HB.out.mono (below_new HBw.out _).size)
          clear HB HBw
          go_wp2_with (at_make; go_must (refine wpList_make_full _ rfl _ _ 26 rfl wr.heap.size 5 i0 (.int .u8 0) 1 Tryz.underlying26 hi hz0 hz1 .i64 .i64 _ _ 1048576 rfl rfl rfl rfl (by rw [hz2]; omega) (by unfold maxLen; omega) (Nat.le_refl _) ?_; intro w20 hown20 hgrow20; rw [fill0] at hown20; refine Hid.out ?_))
          have HS20 : Hid (SlG w20.heap.size w20 (some ⟨wr.heap.size, 0, none⟩) (bcells (zeros 1048576))) := by
            have h := owns_slB (l := zeros 1048576) (c := 1048576) (ao := some ⟨wr.heap.size, 0, none⟩) (w := w20) (base := wr.heap.size) (by rw [zeros_len]; exact hown20)
            exact h
          have HB20 : Hid (Below w.heap.size w w20) := HBv.out.grown hgrow20 HBv.out.size (fun r h => by cases h)
          clear hown20 hgrow20
          refine Lib.hid ?_
          go_wp2_with (at_make; go_must (refine wpList_make_full _ rfl _ _ 26 rfl w20.heap.size 5 i0 (.int .u8 0) 1 Tryz.underlying26 hi hz0 hz1 .i64 .i64 _ _ 1048577 rfl rfl rfl rfl (by rw [hz2]; omega) (by unfold maxLen; omega) (below_own _).size ?_; intro w21 hown21 hgrow21; rw [fill0] at hown21; refine Hid.out ?_))
          have es : (w20.alloc (.cells #[.int .i64 1, .slice (some ⟨wr.heap.size, 0, none⟩) 1048576 1048576] 44)).heap.size = w20.heap.size + 1 := by simp
          have hb21a : Below (w20.alloc (.cells #[.int .i64 1, .slice (some ⟨wr.heap.size, 0, none⟩) 1048576 1048576] 44)).heap.size (w20.alloc (.cells #[.int .i64 1, .slice (some ⟨wr.heap.size, 0, none⟩) 1048576 1048576] 44)) w21 := (Below.refl _ _).grown hgrow21 (Nat.le_refl _) (fun r h => by cases h)
          have hb21 : Below w20.heap.size w20 w21 := (below_own _).trans (hb21a.mono (below_own _).size)
          have hbx : w21.heap[w20.heap.size]? = some (.cells #[.int .i64 1, .slice (some ⟨wr.heap.size, 0, none⟩) 1048576 1048576] 44 (0, 0)) := (hb21a.block w20.heap.size (by simp)).trans (heap_alloc_new w20 _)
          have xb0 : ∀ O, (w21.alloc O).cell? ⟨w20.heap.size, 0, none⟩ = some (.int .i64 1) := fun O => ((below_own (w := w21) O).cell (p := ⟨w20.heap.size, 0, none⟩) (lt_of_heap hbx)).trans (Lib.cell_of_heap hbx 0)
          have xb1 : ∀ O, (w21.alloc O).cell? ⟨w20.heap.size, 1, none⟩ = some (.slice (some ⟨wr.heap.size, 0, none⟩) 1048576 1048576) := fun O => ((below_own (w := w21) O).cell (p := ⟨w20.heap.size, 1, none⟩) (lt_of_heap hbx)).trans (Lib.cell_of_heap hbx 1)
          have HS21 : Hid (SlG w21.heap.size w21 (some ⟨w20.heap.size + 1, 0, none⟩) (bcells (zeros 1048577))) := by
            rw [es] at hown21
            have h := owns_slB (l := zeros 1048577) (c := 1048577) (ao := some ⟨w20.heap.size + 1, 0, none⟩) (w := w21) (base := w20.heap.size) (by rw [zeros_len]; exact hown21)
            exact h
          have HB21 : Hid (Below w.heap.size w w21) := HB20.out.trans (hb21.mono HB20.out.size)
          have hb22 := below_own (w := w21) (.cells #[.int .i64 1, .slice (some ⟨w20.heap.size + 1, 0, none⟩) 1048577 1048577] 44)
          have KP : Hid (Calls Tryz.prog 9 #[.slice (some ⟨w21.heap.size + 1, 0, none⟩) 2 2] ((w21.alloc (.cells #[.int .i64 1, .slice (some ⟨w20.heap.size + 1, 0, none⟩) 1048577 1048577] 44)).alloc (.cells #[.int .i64 1, .slice (some ⟨wr.heap.size, 0, none⟩) 1048576 1048576, .int .i64 2, .slice none 0 0] 44)) (fun e w' => ∃ ao c, e = .returned (.tuple #[.slice ao 1048594 c, .int .i64 0]) ∧ w'.ownsRow (w21.alloc (.cells #[.int .i64 1, .slice (some ⟨w20.heap.size + 1, 0, none⟩) 1048577 1048577] 44)).heap.size 5 1 (.slice ao 1048594 c) 1048594 (bcells D2) ∧ Below (w21.alloc (.cells #[.int .i64 1, .slice (some ⟨w20.heap.size + 1, 0, none⟩) 1048577 1048577] 44)).heap.size (w21.alloc (.cells #[.int .i64 1, .slice (some ⟨w20.heap.size + 1, 0, none⟩) 1048577 1048577] 44)) w')) := by
            have h := put2 (w21.alloc (.cells #[.int .i64 1, .slice (some ⟨w20.heap.size + 1, 0, none⟩) 1048577 1048577] 44)) wr.heap.size (HS20.out.up (hb21.trans (hb22.mono hb21.size)) (Nat.le_trans hb21.size hb22.size))
            have e2 : (some ⟨(w21.alloc (.cells #[.int .i64 1, .slice (some ⟨w20.heap.size + 1, 0, none⟩) 1048577 1048577] 44)).heap.size, 0, none⟩ : Option Addr) = some ⟨w21.heap.size + 1, 0, none⟩ := by simp
            rw [e2] at h
            exact h
          clear hown21 hgrow21 hb21 hb21a HS20 es hbx hb22
          refine Lib.hid ?_
          go_wp2_with (go_at_call 9; go_must (refine (KP.out).mono ?_; rintro e w22 ⟨ao22, c22, rfl, ho22, hb⟩; refine Hid.out ?_))
          have KS := Lib.hid (scan2 ho22)
          have hbz := hb.block w21.heap.size (by simp)
          have HX : Hid (w22.heap[w21.heap.size]? = some (.cells #[.int .i64 1, .slice (some ⟨w20.heap.size + 1, 0, none⟩) 1048577 1048577] 44 (0, 0))) := hbz.trans (heap_alloc_new w21 _)
          have HB22 : Hid (Below w21.heap.size w21 w22) := (below_own _).trans (hb.mono (below_own _).size)
          clear ho22 hb KP HBv HB20 xb0 xb1 hbz
          refine Lib.hid ?_
          go_wp2_with (go_at_call 16; go_must (refine (KS.out).mono ?_; rintro e w23 ⟨ao23, c23, rfl, hb⟩; refine Hid.out ?_))
          have HX3 := Lib.hid ((hb.block w21.heap.size (lt_of_heap HX.out)).trans HX.out)
          have y0 := Lib.cell_of_heap HX3.out 0
          have y1 := Lib.cell_of_heap HX3.out 1
          simp only [List.getElem?_toArray, List.getElem?_cons_zero, List.getElem?_cons_succ] at y0 y1
          have HB23 := Lib.hid (HB22.out.trans (hb.mono HB22.out.size))
          have KQ := Lib.hid (put3b w23 (w20.heap.size + 1) (HS21.out.up HB23.out HB23.out.size))
          clear hb KS HB22 HX
          refine Lib.hid ?_
          go_wp2_with (go_at_call 9; go_must (refine (KQ.out).mono ?_; rintro e w24 ⟨ao24, c24, rfl, hb⟩; refine Hid.out ?_))
          have HX4 := Lib.hid ((hb.block w21.heap.size (lt_of_heap HX3.out)).trans HX3.out)
          have z0 := Lib.cell_of_heap HX4.out 0
          have z1 := Lib.cell_of_heap HX4.out 1
          simp only [List.getElem?_toArray, List.getElem?_cons_zero, List.getElem?_cons_succ] at z0 z1
          have HB24 := Lib.hid (HB23.out.trans (hb.mono HB23.out.size))
          have KR := Lib.hid (put2b w24 (w20.heap.size + 1) (HS21.out.up HB24.out HB24.out.size))
          clear hb KQ HB23 y0 y1 HX3
          refine Lib.hid ?_
          go_wp2_with (go_at_call 9; go_must (refine (KR.out).mono ?_; rintro e w25 ⟨ao25, c25, rfl, hb⟩; refine Hid.out ?_))
          have HB25 := Lib.hid (HB21.out.trans ((HB24.out.trans (hb.mono HB24.out.size)).mono HB21.out.size))
          clear hb KR HB24 HB21 HS21 z0 z1 HX4
          refine Lib.hid ?_
          go_wp2_with (first
            | (go_at_call 3; go_must (refine (putsNil _).mono ?_; rintro e w26 ⟨rfl, hb⟩; have HB26 := Lib.hid (HB25.out.trans (hb.mono HB25.out.size)); clear hb))
            | (go_at_call 7; go_must (refine (awake_any _).mono ?_; rintro e w27 ⟨rfl, hb⟩)))
          go_ret
          exact ⟨rfl, HB26.out.trans (hb.mono HB26.out.size)⟩
end Go.Proofs.YtagjipkoheimjaaGreatDoor
