/- Rows of bytes that lie apart are told so. -/
import Derived.Test.YtagjipkoheimjaaGreatDoorFlat
import Derived.StillTailTactics
import Derived.ArgAppend
namespace Go.Proofs.YtagjipkoheimjaaGreatDoor
open Go.RowKit

theorem mark_big (k i : Int) (hk : 0 ≤ k) (hk2 : k ≤ 1000000) (hi : 0 ≤ i) (hi2 : i ≤ 1000000) (w : World) :
    Calls Tryz.prog 41 #[.int .i64 k, .int .i64 i] w fun e w' => e = .returned (.int .i64 (1000003 * (k + 7) + i)) ∧ w' = w := by
  go_enter Tryz.func41, Tryz.ntmps41
  go_wp2
  go_ret
  exact ⟨rfl, rfl⟩

set_option maxRecDepth 100000 in
theorem markByte_big (k i : Int) (hk : 0 ≤ k) (hk2 : k ≤ 1000000) (hi : 0 ≤ i) (hi2 : i ≤ 1000000) (w : World) :
    Calls Tryz.prog 36 #[.int .i64 k, .int .i64 i] w fun e w' => e = .returned (.int .u8 (mbI k i)) ∧ w' = w := by
  have HM := Lib.hid (mark_big k i hk hk2 hi hi2 w)
  obtain ⟨x, hx⟩ : ∃ x, x = 1000003 * (k + 7) + i := ⟨_, rfl⟩
  have hw : IntKind.u64.wrap x = x := by rw [IntKind.wrap_u64]; omega
  rw [← hx] at HM
  have HX := Lib.hid hx
  clear hx hk hk2 hi hi2
  go_enter Tryz.func36, Tryz.ntmps36
  go_wp2_with (go_at_call 41; refine (HM.out).mono ?_; rintro e w' ⟨rfl, rfl⟩)
  go_ret
  refine ⟨?_, rfl⟩
  unfold mbI theMul
  rw [← HX.out]
  rfl
theorem markByte_walk (k i : Int) (hk : 0 ≤ k) (hk2 : k ≤ 1000000) (hi : 0 ≤ i) (hi2 : i ≤ 1000000) (w : World) :
    Calls Tryz.prog 36 #[.int .i64 k, .int .i64 i] w fun e w' => e = .returned (.int .u8 (mbI k i)) ∧ w = w' :=
  (markByte_big k i hk hk2 hi hi2 w).mono fun _ _ h => ⟨h.1, h.2.symm⟩

theorem infoS : (Tryz.prog.info? 26).map (fun i => (i.zero, i.size, i.bytes)) = some (some (.slice none 0 0), 1, 24) := by kernel_rfl
theorem below_drew (w : World) : Below w.heap.size w w.drew := (Below.refl _ _).drew
def mkB (k i : Nat) : List Value := [.int .u8 (mbI (k : Int) (i : Int))]
theorem mkB_length (k i : Nat) : (mkB k i).length = 1 := rfl
theorem marksB_one (k n : Nat) : ∀ u ∈ marksR mkB k n, u.oneCell' = true := by
  intro u hu
  simp only [marksR, List.mem_flatMap, mkB, List.mem_singleton] at hu
  obtain ⟨_, _, rfl⟩ := hu
  rfl

set_option maxRecDepth 100000 in
set_option maxHeartbeats 8000000 in
theorem flatB_any (base : Nat) (al : Option Addr) (cl : Nat) (hs : List Hd) (X : Nat → List Value) (w : World) (hB : base ≤ w.heap.size) (hR : Rows w base 5 1 hs X) (hL : LsAt w 26 al hs) (hK : hs.length ≤ 100000) (hN : ∀ h, h ∈ hs → h.2.1 ≤ 100000) :
    Calls Tryz.prog 51 #[.slice al hs.length cl] w (fun e w' => e = .returned (.bool true) ∧ FK 5 base w w') := by
  have HR := Lib.hid hR
  have HL := Lib.hid hL
  have HN := Lib.hid hN
  have HB := Lib.hid hB
  obtain ⟨i0, hi, hz0, hz1, hz2⟩ := info_parts infoB
  have hT : (26 : Nat) ≠ 5 := by decide
  clear hR hL hN hB
  go_enter Tryz.func51, Tryz.ntmps51
  go_wp2_with fail
  go_loopw [3] (fun ik wr => ∃ (k : Nat) (Z : Nat → List Value), k ≤ hs.length ∧ ik = .int .i64 k ∧ Hid (Rows wr base 5 1 hs Z) ∧ Hid (∀ j, j < k → (hj : j < hs.length) → Z j = marksR mkB j (hs[j]).2.1) ∧ Hid (FK 5 base w wr)) (fun ik _ => hs.length - (intOf ik).toNat)
  case atStart => exact ⟨0, X, by omega, rfl, HR.out, (fun j hj => by omega), FK.refl _ _ _⟩
  case round =>
    obtain ⟨k, Z, hk, rfl, HZ, HM, HF⟩ := hrel
    by_cases hlt : k < hs.length
    · go_wp2_with fail
      go_loopw [4] (fun ii wr => ∃ (i : Nat) (Z : Nat → List Value) (rest : List Value), i ≤ (hs[k]).2.1 ∧ ii = .int .i64 i ∧ Hid (Rows wr base 5 1 hs Z) ∧ Hid (∀ j, j < k → (hj : j < hs.length) → Z j = marksR mkB j (hs[j]).2.1) ∧ Hid (Z k = marksR mkB k i ++ rest) ∧ Hid (FK 5 base w wr)) (fun ii _ => (hs[k]).2.1 - (intOf ii).toNat)
      case atStart => exact ⟨0, Z, Z k, by omega, rfl, HZ, HM, rfl, HF⟩
      case round =>
        obtain ⟨i, Z, rest, hi2, rfl, HZ, HM, HZk, HF⟩ := hrel
        obtain ⟨lb, lo, rfl, hcl⟩ := (HL.out.fk HF.out hT).cell (by omega)
        have hck := hcl k hlt
        have hnk := HN.out _ (List.getElem_mem hlt)
        have hown := HZ.out.own k hlt
        have HOne := Lib.hid (fun b hb w' g ys ho => HZ.out.one (w' := w') k hlt b hb g ys ho)
        clear hcl
        generalize hh : hs[k] = h at hck hnk hown HOne hi2
        obtain ⟨a, n, c⟩ := h
        simp only [hv] at hck hnk hown HOne hi2
        by_cases hin : i < n
        · obtain ⟨b, rfl⟩ := own_block hown (show 0 < n by omega)
          have hzl := hown.1
          have hca := hown.cellAt i (show i < n * 1 by omega)
          have hzl' : i < (Z k).length := by simp only at hzl; rw [hzl]; omega
          obtain ⟨old, hold⟩ : ∃ old, (Z k)[i]? = some old := ⟨_, List.getElem?_eq_getElem hzl'⟩
          rw [hold] at hca
          have hfz := hown.frozenAt i
          have KM := Lib.hid (fun W => markByte_big (k : Int) (i : Int) (by omega) (by omega) (by omega) (by omega) W)
          have HOwn := Lib.hid hown
          have hini : (i : Int) < (n : Int) := by omega
          have HZn : Hid (∀ u, mkB k i = [u] → (Z k).set i u = marksR mkB k (i + 1) ++ rest.drop 1) := fun u hu => marks_set1 mkB_length hu HZk.out hzl'
          clear hown hzl hold hzl'
          generalize hmb : mbI (k : Int) (i : Int) = mb at KM
          go_wp2_with fail
          refine wp_region_still_tail 9 (by kernel_rfl) (by kernel_rfl) ?_
          simp only [List.take_succ_cons, List.take_zero, List.drop_succ_cons, List.drop_zero]
          repeat still_step
          still_call (KM.out _)
          repeat still_step
          refine wpStill_nil ?_
          change wpList _ _ _ _ _ wr.drew
          have hca' : wr.drew.cell? ⟨b, i, none⟩ = some old := hca
          have hfz' : wr.drew.frozen? ⟨b, i, none⟩ = false := hfz
          go_wp2_with fail
          obtain ⟨st1, st2⟩ := HOwn.out.stored i (.int .u8 mb)
          have hmk : mkB k i = [.int .u8 mb] := by unfold mkB; rw [hmb]
          have R1 := Lib.hid ((HOne.out b rfl _ st2 _ st1).below (below_drew _))
          have R2 : Hid (∀ j, j < k → (hj : j < hs.length) → (fun j => if j = k then (Z k).set i (.int .u8 mb) else Z j) j = marksR mkB j (hs[j]).2.1) := fun j hj1 hj2 => by
            simp only
            rw [if_neg (by omega)]
            exact HM.out j hj1 hj2
          have R3 : Hid ((fun j => if j = k then (Z k).set i (.int .u8 mb) else Z j) k = marksR mkB k (i + 1) ++ rest.drop 1) := by
            unfold Hid
            simp only [if_true]
            exact HZn.out _ hmk
          have R4 : Hid (FK 5 base w (wr.setCell ⟨b, i, none⟩ (.int .u8 mb)).drew) := (HF.out.grown st2 HB.out (fun q hq => by
            obtain rfl := Option.some.inj hq
            exact ⟨(HOwn.out.lt b rfl).1, Or.inl (owns_tag HOwn.out b rfl)⟩)).step (below_drew _) HB.out
          clear hca hfz hca' hfz' hck KM HOne HOwn HZn st1 st2 hini
          go_roundw
          case rel => exact ⟨i + 1, _, _, by omega, by go_num, R1, R2, R3, R4⟩
          case measure => simp [intOf]; omega
        · obtain rfl : i = n := by omega
          have hzl := hown.1
          have hfull := marks_full mkB_length HZk.out hzl
          have R2 : Hid (∀ j, j < k + 1 → (hj : j < hs.length) → Z j = marksR mkB j (hs[j]).2.1) := fun j hj1 hj2 => by
            by_cases e' : j = k
            · subst e'
              rw [hh]
              exact hfull
            · exact HM.out j (by omega) hj2
          clear hown hzl hfull HZk HM HOne
          go_wp2_with fail
          go_roundw
          case rel => exact ⟨k + 1, Z, by omega, by go_num, HZ, R2, HF⟩
          case measure => simp [intOf]; omega
    · obtain rfl : k = hs.length := by omega
      have HRM : Hid (Rows wr base 5 1 hs (fun j => marksR mkB j (hs.getD j (none, 0, 0)).2.1)) := HZ.out.congr (fun j hj => by
        rw [HM.out j hj hj]
        simp [List.getD, hj])
      obtain ⟨i1, hj1, hy0, hy1, hy2⟩ := info_parts infoS
      obtain ⟨w2, hmake, hrow, hgr⟩ := run_make_full (P := Tryz.prog) wr base 35 26 i1 (.slice none 0 0) 1 Tryz.underlying35 hj1 hy0 hy1 .i64 .i64 hs.length (by rw [hy2]; omega) (by unfold maxLen; omega) (Nat.le_trans HB.out HF.out.bel.size)
      have hb2 : Below wr.heap.size wr w2 := ⟨hgr.os, hgr.tape, hgr.output, hgr.size, fun q hq => hgr.block q hq (by simp)⟩
      have HG2 : Hid (Grown w2 base 5 1 26 wr.heap.size w2.heap.size mkB (fun j => marksR mkB j ((hs.getD j (none, 0, 0)).2.1 + 64)) hs (List.replicate hs.length (none, 0, 0)) 0) := Grown.start (HRM.out.below hb2) (by
        rw [Nat.mul_one] at hrow
        have e' : (madeCells (Value.slice none 0 0).cells hs.length).toList = List.replicate hs.length (.slice none 0 0) := toList_madeCells_one _ _
        rw [e'] at hrow
        exact hrow)
      have HF2 := Lib.hid (HF.out.step hb2 HB.out)
      have hwr0 : w.heap.size ≤ wr.heap.size := HF.out.bel.size
      clear hrow hgr hb2 HZ HM HF HRM HR hy0 hy1 hy2 hj1
      go_wp2_with fail
      clear hmake
      have HGB : Hid (w.heap.size ≤ wr.heap.size) := hwr0
      have HB2 : Hid (w2.heap.size ≤ w2.heap.size) := Nat.le_refl _
      have HBb := Lib.hid (Nat.le_trans HB.out hwr0)
      clear hwr0
      generalize wr.heap.size = gb at HG2 HGB HBb ⊢
      obtain ⟨B2, hB2⟩ : ∃ B2, B2 = w2.heap.size := ⟨_, rfl⟩
      rw [← hB2] at HG2
      have HBz : Hid (B2 ≤ w2.heap.size) := Nat.le_of_eq hB2
      clear HB2 hB2
      go_loopw [6] (fun ik wr => ∃ (k : Nat) (gs : List Hd), k ≤ hs.length ∧ ik = .int .i64 k ∧ Hid (Grown wr base 5 1 26 gb B2 mkB (fun j => marksR mkB j ((hs.getD j (none, 0, 0)).2.1 + 64)) hs gs k) ∧ Hid (FK 5 base w wr) ∧ Hid (B2 ≤ wr.heap.size)) (fun ik _ => hs.length - (intOf ik).toNat)
      case atStart => exact ⟨0, _, by omega, rfl, HG2, HF2, HBz⟩
      case round =>
        obtain ⟨k, gs, hk, rfl, HG, HF, HBr⟩ := hrel
        clear HG2 HF2 HBz
        by_cases hlt : k < hs.length
        · obtain ⟨lb, lo, rfl, hcl⟩ := (HL.out.fk HF.out hT).cell (by omega)
          have hck := hcl k hlt
          have hnk := HN.out _ (List.getElem_mem hlt)
          have hgl := HG.out.len
          have HGB2 : Hid (∀ j, j < k → (hj : j < hs.length) → (hg : j < gs.length) → ∀ b, (hv gs[j]).ownBlock = some b → b < wr.heap.size) := fun j h1 h2 h3 b hb => ((HG.out.gown j h1 h2 h3).1.lt b hb).2
          have hown := HG.out.rows.own k hlt
          have hgd : (hs.getD k (none, 0, 0)) = hs[k] := by simp [List.getD, hlt]
          simp only [hgd] at hown
          have HFit := Lib.hid (fun (wa wb : World) (gg cg q : Nat) (h : Grown wa base 5 1 26 gb B2 mkB (fun j => marksR mkB j ((hs.getD j (none, 0, 0)).2.1 + 64)) hs gs k) => h.fits (w' := wb) (Br := wr.heap.size) (gg := gg) (cg := cg) (q := q) hT hlt mkB_length HBr.out HGB2.out)
          have HPut := Lib.hid (fun (wa : World) (g : Hd) (h : Grown wa base 5 1 26 gb B2 mkB (fun j => marksR mkB j ((hs.getD j (none, 0, 0)).2.1 + 64)) hs gs k) => h.put hT hlt g)
          simp only [hgd] at HPut
          have HCells : Hid (∀ wa, FK 5 base w wa → wa.cell? ⟨lb, lo + k, none⟩ = some (hv hs[k])) := fun wa hf => by
            obtain ⟨lb', lo', e, hcl'⟩ := (HL.out.fk hf hT).cell (by omega)
            simp only [Option.some.injEq, Addr.mk.injEq, and_true] at e
            obtain ⟨rfl, rfl⟩ := e
            exact hcl' k hlt
          have HGl := Lib.hid hgl
          have hkg : k < gs.length := by omega
          have HOwn0 := Lib.hid hown
          clear hcl hgl hgd hown
          generalize hh : hs[k] = h at hck hnk HOwn0 HFit HPut HCells
          obtain ⟨a, n, c⟩ := h
          simp only [hv] at hck hnk HOwn0 HFit HPut HCells
          have HH := Lib.hid hh
          obtain ⟨Br, hBr⟩ : ∃ Br, Br = wr.heap.size := ⟨_, rfl⟩
          rw [← hBr] at HFit HBr
          have HBrl : Hid (Br ≤ wr.heap.size) := Nat.le_of_eq hBr
          clear hBr hh HGB2
          go_wp2_with fail
          go_loopw [7, 8] (fun vg ii wr => ∃ (i : Nat) (ag : Option Addr) (cg : Nat), i ≤ 64 ∧ ii = .int .i64 i ∧ vg = .slice ag (n + i) cg ∧ Hid (Grown wr base 5 1 26 gb B2 mkB (fun j => marksR mkB j ((hs.getD j (none, 0, 0)).2.1 + 64)) hs gs k) ∧ Hid (OwnH wr base 5 1 (ag, n + i, cg) (marksR mkB k (n + i))) ∧ Hid ((ag = a ∧ cg = c) ∨ ∀ b, ag = some ⟨b, 0, none⟩ → Br ≤ b) ∧ Hid (FK 5 base w wr) ∧ Hid (Br ≤ wr.heap.size)) (fun _ ii _ => 64 - (intOf ii).toNat)
          case atStart => exact ⟨0, a, c, by omega, rfl, rfl, HG, HOwn0, Or.inl ⟨rfl, rfl⟩, HF, HBrl⟩
          case round =>
            obtain ⟨i, ag, cg, hi2, rfl, rfl, HG, HO, HW, HF, HBs⟩ := hrel
            clear HBrl
            have hck2 := HCells.out _ HF.out
            clear hck
            by_cases hin : i < 64
            · have KM := Lib.hid (fun W => markByte_walk (k : Int) ((n : Int) + (i : Int)) (by omega) (by omega) (by omega) (by omega) W)
              have hmk : mkB k (n + i) = [.int .u8 (mbI (k : Int) ((n : Int) + (i : Int)))] := by unfold mkB; rw [Int.natCast_add]
              have HMk : Hid (marksR mkB k (n + (i + 1)) = marksR mkB k (n + i) ++ [.int .u8 (mbI (k : Int) ((n : Int) + (i : Int)))]) := by
                unfold Hid
                rw [← Nat.add_assoc, marksR_succ, hmk]
              have hml := marksR_length mkB_length k (n + i)
              have HML := Lib.hid hml
              have HBl := Lib.hid (Nat.le_trans HB.out HF.out.bel.size)
              clear hmk hml
              generalize mbI (k : Int) ((n : Int) + (i : Int)) = mb at KM HMk
              by_cases hfit : n + i + 1 ≤ cg
              · obtain ⟨gg, rfl⟩ := own_cap HO.out (by omega)
                have hown := HO.out.alloc (.cells #[.int .u8 mb] 5)
                go_wp2_with (first
                  | (go_at_call 36; go_must (refine (KM.out _).mono ?_; rintro e w' ⟨rfl, rfl⟩))
                  | (at_builtin; refine wpList_append_fits _ rfl (.tmp 57) (.tmp 67) 26 rfl base 5 i0 1 Tryz.underlying26 hi hz1 gg (n + i) cg _ rfl hown ⟨wr.heap.size, 0, none⟩ 1 1 [.int .u8 mb] rfl rfl (fun j u hu => by rw [Addr.add_lit, Nat.zero_add]; exact cells_made wr _ _ j u (by simpa using hu)) (fun u hu => by simp at hu; subst hu; rfl) hfit ?_; intro w4 hown4 hgrow4; refine Hid.out ?_))
                have hbn := below_own (w := wr) (.cells #[.int .u8 mb] 5)
                have hown5 : w4.ownsRow base 5 1 (.slice (some ⟨gg, 0, none⟩) (n + (i + 1)) cg) (n + (i + 1)) (marksR mkB k (n + (i + 1))) := by
                  rw [HMk.out, ← Nat.add_assoc]
                  exact hown4
                obtain ⟨ys, hys⟩ := marksR_add mkB k n (i + 1)
                have hW2 : (a = some ⟨gg, 0, none⟩ ∧ cg = c) ∨ Br ≤ gg := by
                  rcases HW.out with ⟨h1, h2⟩ | h1
                  · exact Or.inl ⟨h1.symm, h2⟩
                  · exact Or.inr (h1 gg rfl)
                have HG4 := Lib.hid (HFit.out _ w4 gg cg (i + 1) (HG.out.below hbn) (owns_tag hown gg rfl) hW2 hgrow4 ys (by rw [← hys]; exact hown5))
                have HO4 := Lib.hid hown5
                have HF4 : Hid (FK 5 base w w4) := (HF.out.step hbn HB.out).grown hgrow4 HB.out (fun q hq => by
                  obtain rfl := Option.some.inj hq
                  exact ⟨(hown.lt gg rfl).1, Or.inl (owns_tag hown gg rfl)⟩)
                have HB4 : Hid (Br ≤ w4.heap.size) := Nat.le_trans HBs.out (Nat.le_trans hbn.size hgrow4.size)
                clear hown hown4 hgrow4 hown5 hbn hys hW2 KM HMk
                refine Lib.hid ?_
                go_wp2_with fail
                go_roundw
                case rel => exact ⟨i + 1, some ⟨gg, 0, none⟩, cg, by omega, by go_num, rfl, HG4, HO4, HW, HF4, HB4⟩
                case measure => simp [intOf]; omega
              · have hnil := own_nil HO.out
                have hnn : ag = none → n + i = 0 ∧ cg = 0 := hnil
                have hcells : ∀ b, ag = some b → ∀ j u, (marksR mkB k (n + i))[j]? = some u → (wr.alloc (.cells #[.int .u8 mb] 5)).cell? (b.add j) = some u := own_cells (OwnH.alloc' HO.out _)
                have HCe := Lib.hid hcells
                have HNn := Lib.hid hnn
                clear hnil hnn hcells
                go_wp2_with (first
                  | (go_at_call 36; go_must (refine (KM.out _).mono ?_; rintro e w' ⟨rfl, rfl⟩))
                  | (at_builtin; refine wpList_append_grows _ rfl (.tmp 57) (.tmp 67) 26 rfl 5 i0 (.int .u8 0) 1 1 Tryz.underlying26 hi hz0 hz1 hz2 rfl (by decide) ag (n + i) cg (marksR mkB k (n + i)) rfl HNn.out HML.out HCe.out ⟨wr.heap.size, 0, none⟩ 1 1 [.int .u8 mb] rfl rfl (fun j u hu => by rw [Addr.add_lit, Nat.zero_add]; exact cells_made wr _ _ j u (by simpa using hu)) (fun u hu => by simp at hu; subst hu; rfl) (by omega) (by unfold maxLen; omega) (by omega) ?_; intro v' w4 hown4 hgrow4; obtain ⟨ag4, cg4, rfl⟩ := owns_slice hown4; refine Hid.out ?_))
                have hbn := below_own (w := wr) (.cells #[.int .u8 mb] 5)
                have hb4 : Below (wr.alloc (.cells #[.int .u8 mb] 5)).heap.size (wr.alloc (.cells #[.int .u8 mb] 5)) w4 := ⟨hgrow4.os, hgrow4.tape, hgrow4.output, hgrow4.size, fun q hq => hgrow4.block q hq (by simp)⟩
                have HO4 : Hid (OwnH w4 base 5 1 (ag4, n + (i + 1), cg4) (marksR mkB k (n + (i + 1)))) := by
                  have := owns_mono hown4 (Nat.le_trans HBl.out hbn.size)
                  rw [HMk.out]
                  exact this
                have HW4 : Hid ((ag4 = a ∧ cg4 = c) ∨ ∀ b, ag4 = some ⟨b, 0, none⟩ → Br ≤ b) := Or.inr fun b hb => by
                  have h1 := (hown4.lt b (by simp [hb, Value.ownBlock])).1
                  exact Nat.le_trans HBs.out (Nat.le_trans hbn.size h1)
                have HG4 := Lib.hid ((HG.out.below hbn).below hb4)
                have HF4 : Hid (FK 5 base w w4) := (HF.out.step hbn HB.out).step hb4 HB.out
                have HB4 : Hid (Br ≤ w4.heap.size) := Nat.le_trans HBs.out (Nat.le_trans hbn.size hb4.size)
                clear hown4 hgrow4 hbn hb4 KM HMk HCe HNn
                refine Lib.hid ?_
                go_wp2_with fail
                go_roundw
                case rel => exact ⟨i + 1, ag4, cg4, by omega, by go_num, rfl, HG4, HO4, HW4, HF4, HB4⟩
                case measure => simp [intOf]; omega
            · have hi64 : i = 64 := by omega
              subst hi64
              have hcg := HG.out.cellG k hlt hkg
              have hfg := HG.out.freeG k
              have HPt := Lib.hid (HPut.out _ (ag, n + 64, cg) HG.out HO.out rfl (fun b hb => by
                rcases HW.out with ⟨h1, _⟩ | h1
                · left
                  subst h1
                  cases ag with
                  | none => simp [Value.ownBlock] at hb
                  | some ad => simpa [Value.ownBlock] using hb
                · right
                  cases ag with
                  | none => simp [Value.ownBlock] at hb
                  | some ad =>
                    obtain ⟨b', hb'⟩ := own_block HO.out (show 0 < n + 64 by omega)
                    simp only [Value.ownBlock, Option.some.injEq] at hb
                    have h2 := h1 b' hb'
                    have h3 : ad = ⟨b', 0, none⟩ := Option.some.inj hb'
                    rw [h3] at hb
                    simp only at hb
                    have := HBr.out
                    omega))
              have HF4 : Hid (FK 5 base w (wr.setCell ⟨gb, k, none⟩ (.slice ag (n + 64) cg))) := HF.out.grown (Lib.grownBy_setCell wr gb k _) HB.out (fun q hq => by
                obtain rfl := Option.some.inj hq
                exact ⟨HBb.out, Or.inr HGB.out⟩)
              have HB4 : Hid (B2 ≤ (wr.setCell ⟨gb, k, none⟩ (.slice ag (n + 64) cg)).heap.size) := Nat.le_trans HBr.out (Nat.le_trans HBs.out (Nat.le_of_eq (by simp [World.setCell])))
              have hkl : (k : Int) < (hs.length : Int) := by omega
              generalize hv gs[k] = oldg at hcg
              go_wp2_with fail
              clear hcg hfg
              go_roundw
              case rel => exact ⟨k + 1, _, by omega, by go_num, HPt, HF4, HB4⟩
              case measure => simp [intOf]; omega
        · obtain rfl : k = hs.length := by omega
          go_wp2_with fail
          go_loopw [9] (fun ik wr => ∃ (k : Nat), k ≤ hs.length ∧ ik = .int .i64 k ∧ Hid (Grown wr base 5 1 26 gb B2 mkB (fun j => marksR mkB j ((hs.getD j (none, 0, 0)).2.1 + 64)) hs gs hs.length) ∧ Hid (FK 5 base w wr) ∧ Hid (B2 ≤ wr.heap.size)) (fun ik _ => hs.length - (intOf ik).toNat)
          case atStart => exact ⟨0, by omega, rfl, HG, HF, HBr⟩
          case round =>
            clear HG HF HBr
            obtain ⟨k, hk, rfl, HG, HF, HBr⟩ := hrel
            by_cases hlt : k < hs.length
            · have HLk : Hid (∀ wa, FK 5 base w wa → ∃ lb lo, al = some ⟨lb, lo, none⟩ ∧ wa.cell? ⟨lb, lo + k, none⟩ = some (hv hs[k])) := fun wa hf => by
                obtain ⟨lb, lo, e, hcl⟩ := (HL.out.fk hf hT).cell (by omega)
                exact ⟨lb, lo, e, hcl k hlt⟩
              have hkg : k < gs.length := by rw [HG.out.len]; exact hlt
              have hgn := (HG.out.gown k hlt hlt hkg).2
              obtain ⟨⟨a, n, c⟩, hh⟩ : ∃ h, hs[k] = h := ⟨_, rfl⟩
              obtain ⟨⟨ag, m, cg⟩, hg⟩ : ∃ h, gs[k] = h := ⟨_, rfl⟩
              have hnk := HN.out _ (List.getElem_mem hlt)
              rw [hh] at hgn hnk
              rw [hg] at hgn
              simp only at hgn hnk
              subst hgn
              have HH := Lib.hid hh
              have HGG := Lib.hid hg
              have HCG : Hid (∀ wa, Grown wa base 5 1 26 gb B2 mkB (fun j => marksR mkB j ((hs.getD j (none, 0, 0)).2.1 + 64)) hs gs hs.length → wa.cell? ⟨gb, k, none⟩ = some (.slice ag (n + 64) cg)) := fun wa h => by
                have := h.cellG k hlt hkg
                rw [HGG.out] at this
                exact this
              have HCH : Hid (∀ wa, FK 5 base w wa → ∃ lb lo, al = some ⟨lb, lo, none⟩ ∧ wa.cell? ⟨lb, lo + k, none⟩ = some (.slice a n c)) := fun wa hf => by
                have := HLk.out wa hf
                rw [HH.out] at this
                exact this
              have hkl : (k : Int) < (hs.length : Int) := by omega
              clear hh hg HLk
              go_wp2_with fail
              go_loopw [10] (fun ii wr => ∃ (i : Nat), i ≤ n + 64 ∧ ii = .int .i64 i ∧ Hid (Grown wr base 5 1 26 gb B2 mkB (fun j => marksR mkB j ((hs.getD j (none, 0, 0)).2.1 + 64)) hs gs hs.length) ∧ Hid (FK 5 base w wr) ∧ Hid (B2 ≤ wr.heap.size)) (fun ii _ => n + 64 - (intOf ii).toNat)
              case atStart => exact ⟨0, by omega, rfl, HG, HF, HBr⟩
              case round =>
                clear HG HF HBr
                obtain ⟨i, hi2, rfl, HG, HF, HBr⟩ := hrel
                have hcg := HCG.out _ HG.out
                by_cases hin : i < n + 64
                · obtain ⟨lb, lo, rfl, hcl⟩ := HCH.out _ HF.out
                  have KM := Lib.hid (fun W => markByte_big (k : Int) (i : Int) (by omega) (by omega) (by omega) (by omega) W)
                  have hmk : (mkB k i)[0]? = some (.int .u8 (mbI (k : Int) (i : Int))) := rfl
                  obtain ⟨bg, rfl, hcb⟩ := HG.out.atG k hlt hlt hkg HGG.out (by omega) i (.int .u8 (mbI (k : Int) (i : Int))) (by
                    have e1 := HH.out
                    simp only [List.getD, List.getElem?_eq_getElem hlt, Option.getD_some, e1]
                    have := marksR_get mkB_length k (n + 64) i 0 hin (by omega)
                    rw [Nat.mul_one, Nat.add_zero] at this
                    exact this.trans hmk)
                  by_cases hi3 : i < n
                  · obtain ⟨ba, rfl, hca⟩ := HG.out.atH mkB_length k hlt HH.out i 0 hi3 (by omega) _ hmk
                    rw [Nat.mul_one, Nat.add_zero] at hca
                    have hd : decide ((i : Int) < (n : Int)) = true := by simp; omega
                    have hd' : decide (i < n) = true := by simp; omega
                    have hii : (i : Int) < (n : Int) := by omega
                    have hii2 : (i : Int) < (n : Int) + 64 := by omega
                    clear hmk
                    generalize mbI (k : Int) (i : Int) = mb at KM hcb hca
                    go_wp2_with fail
                    go_quiet (first | (go_at_call 36; exact Calls.quiet_of_same (KM.out _)))
                    go_wp2
                    have HG4 := Lib.hid (HG.out.below (RowKit_drewN (Below.refl _ _) nq))
                    have HF4 := Lib.hid (HF.out.drewN nq)
                    have HB4 : Hid (B2 ≤ (wr.drewN nq).heap.size) := HBr.out
                    clear KM hcb hca hcl hcg hd hd' hii hii2
                    go_roundw
                    case rel => exact ⟨i + 1, by omega, by go_num, HG4, HF4, HB4⟩
                    case measure => simp [intOf]; omega
                  · have hd : decide ((i : Int) < (n : Int)) = false := by simp; omega
                    have hd' : decide (i < n) = false := by simp; omega
                    have hii2 : (i : Int) < (n : Int) + 64 := by omega
                    clear hmk
                    generalize mbI (k : Int) (i : Int) = mb at KM hcb
                    go_wp2_with fail
                    go_quiet (first | (go_at_call 36; exact Calls.quiet_of_same (KM.out _)))
                    go_wp2
                    have HG4 := Lib.hid (HG.out.below (RowKit_drewN (Below.refl _ _) nq))
                    have HF4 := Lib.hid (HF.out.drewN nq)
                    have HB4 : Hid (B2 ≤ (wr.drewN nq).heap.size) := HBr.out
                    clear KM hcb hcl hcg hd hd' hii2
                    go_roundw
                    case rel => exact ⟨i + 1, by omega, by go_num, HG4, HF4, HB4⟩
                    case measure => simp [intOf]; omega
                · obtain rfl : i = n + 64 := by omega
                  go_wp2_with fail
                  clear hcg
                  go_roundw
                  case rel => exact ⟨k + 1, by omega, by go_num, HG, HF, HBr⟩
                  case measure => simp [intOf]; omega
            · obtain rfl : k = hs.length := by omega
              go_wp2_with fail
              obtain ⟨B4, hB4⟩ : ∃ B4, B4 = wr.heap.size := ⟨_, rfl⟩
              have HG4 := Lib.hid (HG.out.restart (show B2 ≤ B4 by rw [hB4]; exact HBr.out) (fun j => marksR mkB j (hs.getD j (none, 0, 0)).2.1 ++ marksR mkB (j + hs.length) 64))
              have HB4 : Hid (B4 ≤ wr.heap.size) := Nat.le_of_eq hB4
              have HBB : Hid (base ≤ B4) := by rw [hB4]; exact Nat.le_trans HB.out HF.out.bel.size
              clear hB4 HG HBr
              go_loopw [11] (fun ik wr => ∃ (k : Nat) (gs : List Hd), k ≤ hs.length ∧ ik = .int .i64 k ∧ Hid (Grown wr base 5 1 26 gb B4 mkB (fun j => marksR mkB j (hs.getD j (none, 0, 0)).2.1 ++ marksR mkB (j + hs.length) 64) hs gs k) ∧ Hid (FK 5 base w wr) ∧ Hid (B4 ≤ wr.heap.size)) (fun ik _ => hs.length - (intOf ik).toNat)
              case atStart => exact ⟨0, gs, by omega, rfl, HG4, HF, HB4⟩
              case round =>
                clear HG4 HF HB4
                obtain ⟨k, gs, hk, rfl, HG, HF, HBr⟩ := hrel
                by_cases hlt : k < hs.length
                · have hnk := HN.out _ (List.getElem_mem hlt)
                  have hgd : (hs.getD k (none, 0, 0)) = hs[k] := by simp [List.getD, hlt]
                  have hown := HG.out.rows.own k hlt
                  simp only [hgd] at hown
                  have HGB2 : Hid (∀ j, j < k → (hj : j < hs.length) → (hg : j < gs.length) → ∀ b, (hv gs[j]).ownBlock = some b → b < wr.heap.size) := fun j h1 h2 h3 b hb => ((HG.out.gown j h1 h2 h3).1.lt b hb).2
                  have HFit := Lib.hid (fun (wa wb : World) (gg cg q : Nat) (h : Grown wa base 5 1 26 gb B4 mkB (fun j => marksR mkB j (hs.getD j (none, 0, 0)).2.1 ++ marksR mkB (j + hs.length) 64) hs gs k) => h.fits (w' := wb) (Br := wr.heap.size) (gg := gg) (cg := cg) (q := q) hT hlt mkB_length HBr.out HGB2.out)
                  have HPut := Lib.hid (fun (wa : World) (g : Hd) (h : Grown wa base 5 1 26 gb B4 mkB (fun j => marksR mkB j (hs.getD j (none, 0, 0)).2.1 ++ marksR mkB (j + hs.length) 64) hs gs k) => h.put hT hlt g)
                  simp only [hgd] at HPut
                  have HCH : Hid (∀ wa, FK 5 base w wa → ∃ lb lo, al = some ⟨lb, lo, none⟩ ∧ wa.cell? ⟨lb, lo + k, none⟩ = some (hv hs[k])) := fun wa hf => by
                    obtain ⟨lb, lo, e, hcl⟩ := (HL.out.fk hf hT).cell (by omega)
                    exact ⟨lb, lo, e, hcl k hlt⟩
                  have hkg : k < gs.length := by rw [HG.out.len]; exact hlt
                  have HOwn0 := Lib.hid hown
                  clear hown hgd
                  generalize hh : hs[k] = h at hnk HOwn0 HFit HPut HCH
                  obtain ⟨a, n, c⟩ := h
                  simp only [hv] at hnk HOwn0 HFit HPut HCH
                  have HH := Lib.hid hh
                  have hkl : (k : Int) < (hs.length : Int) := by omega
                  clear hh
                  obtain ⟨w5, hmk5, hrow5, hgr5⟩ := run_make_full (P := Tryz.prog) wr wr.heap.size 26 5 i0 (.int .u8 0) 1 Tryz.underlying26 hi hz0 hz1 .i64 .i64 64 (by rw [hz2]; omega) (by unfold maxLen; omega) (Nat.le_refl _)
                  rw [show ((64 : Nat) : Int) = 64 from rfl] at hmk5
                  have hb5 : Below wr.heap.size wr w5 := ⟨hgr5.os, hgr5.tape, hgr5.output, hgr5.size, fun q hq => hgr5.block q hq (by simp)⟩
                  have HG5 := Lib.hid (HG.out.below hb5)
                  have HF5 := Lib.hid (HF.out.step hb5 HB.out)
                  have HB5 : Hid (B4 ≤ w5.heap.size) := Nat.le_trans HBr.out hb5.size
                  have HM5 : Hid (OwnH w5 wr.heap.size 5 1 (some ⟨wr.heap.size, 0, none⟩, 64, 64) (madeCells (Value.int .u8 0).cells (64 * 1)).toList) := hrow5
                  have HM0 : Hid (B4 ≤ wr.heap.size) := HBr.out
                  clear hrow5 hgr5 hb5 HG HF HBr
                  go_wp2_with fail
                  clear hmk5
                  generalize (madeCells (Value.int .u8 0).cells (64 * 1)).toList = M0 at HM5
                  generalize wr.heap.size = m0 at HM5 HM0 HGB2 HFit ⊢
                  go_loopw [13] (fun ii wr => ∃ (i : Nat) (M rest : List Value), i ≤ 64 ∧ ii = .int .i64 i ∧ Hid (Grown wr base 5 1 26 gb B4 mkB (fun j => marksR mkB j (hs.getD j (none, 0, 0)).2.1 ++ marksR mkB (j + hs.length) 64) hs gs k) ∧ Hid (OwnH wr m0 5 1 (some ⟨m0, 0, none⟩, 64, 64) M) ∧ Hid (M = marksR mkB (k + hs.length) i ++ rest) ∧ Hid (FK 5 base w wr) ∧ Hid (B4 ≤ wr.heap.size)) (fun ii _ => 64 - (intOf ii).toNat)
                  case atStart => exact ⟨0, M0, M0, by omega, rfl, HG5, HM5, rfl, HF5, HB5⟩
                  case round =>
                    clear HG5 HM5 HF5 HB5
                    obtain ⟨i, M, rest, hi2, rfl, HG, HM, HMr, HF, HBr⟩ := hrel
                    by_cases hin : i < 64
                    · have hzl := HM.out.1
                      have hca := HM.out.cellAt i (show i < 64 * 1 by omega)
                      have hzl' : i < M.length := by simp only at hzl; omega
                      obtain ⟨old, hold⟩ : ∃ old, M[i]? = some old := ⟨_, List.getElem?_eq_getElem hzl'⟩
                      rw [hold] at hca
                      have hfz := HM.out.frozenAt i
                      have KM := Lib.hid (fun W => markByte_walk ((k : Int) + (hs.length : Int)) (i : Int) (by omega) (by omega) (by omega) (by omega) W)
                      have hini : (i : Int) < 64 := by omega
                      have HZn : Hid (∀ u, mkB (k + hs.length) i = [u] → M.set i u = marksR mkB (k + hs.length) (i + 1) ++ rest.drop 1) := fun u hu => marks_set1 mkB_length hu HMr.out hzl'
                      have hmk : mkB (k + hs.length) i = [.int .u8 (mbI ((k : Int) + (hs.length : Int)) (i : Int))] := by unfold mkB; rw [Int.natCast_add]
                      have HMk := Lib.hid hmk
                      clear hzl hold hzl' hmk
                      generalize mbI ((k : Int) + (hs.length : Int)) (i : Int) = mb at KM HMk
                      go_wp2_with (go_at_call 36; go_must (refine (KM.out _).mono ?_; rintro e w' ⟨rfl, rfl⟩))
                      obtain ⟨st1, st2⟩ := HM.out.stored i (.int .u8 mb)
                      have R0 := Lib.hid (HG.out.write hT m0 (owns_tag HM.out m0 rfl) st2 (fun j hj e => by
                        have h1 := HG.out.old j hj m0 e
                        have h2 := HM0.out
                        omega) (fun j hj h1 h2 e => by
                        have h3 := HGB2.out j hj h1 h2 m0 e
                        omega))
                      have R1 : Hid (OwnH (wr.setCell ⟨m0, i, none⟩ (.int .u8 mb)) m0 5 1 (some ⟨m0, 0, none⟩, 64, 64) (M.set i (.int .u8 mb))) := st1
                      have R2 := Lib.hid (HZn.out _ HMk.out)
                      have R3 : Hid (FK 5 base w (wr.setCell ⟨m0, i, none⟩ (.int .u8 mb))) := HF.out.grown st2 HB.out (fun q hq => by
                        obtain rfl := Option.some.inj hq
                        exact ⟨Nat.le_trans HBB.out HM0.out, Or.inl (owns_tag HM.out m0 rfl)⟩)
                      have R4 : Hid (B4 ≤ (wr.setCell ⟨m0, i, none⟩ (.int .u8 mb)).heap.size) := Nat.le_trans HBr.out st2.size
                      clear hca hfz KM HMk HZn st1 st2 hini
                      go_roundw
                      case rel => exact ⟨i + 1, _, _, by omega, by go_num, R0, R1, R2, R3, R4⟩
                      case measure => simp [intOf]; omega
                    · have hi64 : i = 64 := by omega
                      subst hi64
                      have hfull := marks_full mkB_length HMr.out HM.out.1
                      subst hfull
                      obtain ⟨lb, lo, rfl, hcl⟩ := HCH.out _ HF.out
                      have HML := Lib.hid (marksR_length mkB_length (k + hs.length) 64)
                      have HMC := Lib.hid (own_cells HM.out)
                      have HM1 := Lib.hid (marksB_one (k + hs.length) 64)
                      have hown := HG.out.rows.own k hlt
                      simp only [List.getD, List.getElem?_eq_getElem hlt, Option.getD_some, HH.out] at hown
                      by_cases hfit : n + 64 ≤ c
                      · obtain ⟨gg, rfl⟩ := own_cap hown (by omega)
                        go_wp2_with (at_builtin; go_must (refine wpList_append_fits _ rfl (.tmp 148) (.tmp 149) 26 rfl base 5 i0 1 Tryz.underlying26 hi hz1 gg n c _ rfl hown ⟨m0, 0, none⟩ 64 64 (marksR mkB (k + hs.length) 64) rfl HML.out (HMC.out _ rfl) HM1.out hfit ?_; intro w4 hown4 hgrow4; refine Hid.out ?_))
                        have hwh : (some (⟨gg, 0, none⟩ : Addr) = some ⟨gg, 0, none⟩ ∧ c = c) ∨ wr.heap.size ≤ gg := Or.inl ⟨rfl, rfl⟩
                        have HG4 := Lib.hid (HG.out.fits (w' := w4) (Br := m0) (gg := gg) (cg := c) (q := 64) hT hlt mkB_length HM0.out HGB2.out (owns_tag hown gg rfl) (Or.inl ⟨by rw [HH.out], by rw [HH.out]⟩) hgrow4 (marksR mkB (k + hs.length) 64) (by rw [HH.out]; exact hown4))
                        have HF4 : Hid (FK 5 base w w4) := HF.out.grown hgrow4 HB.out (fun q hq => by
                          obtain rfl := Option.some.inj hq
                          exact ⟨(hown.lt gg rfl).1, Or.inl (owns_tag hown gg rfl)⟩)
                        have HB4 : Hid (B4 ≤ w4.heap.size) := Nat.le_trans HBr.out hgrow4.size
                        have HPt := Lib.hid (HPut.out w4 (some ⟨gg, 0, none⟩, n + 64, c) HG4.out hown4 rfl (fun b hb => Or.inl hb))
                        have hcg := HG4.out.cellG k hlt hkg
                        have hfg := HG4.out.freeG k
                        have HF6 : Hid (FK 5 base w (w4.setCell ⟨gb, k, none⟩ (.slice (some ⟨gg, 0, none⟩) (n + 64) c))) := HF4.out.grown (Lib.grownBy_setCell w4 gb k _) HB.out (fun q hq => by
                          obtain rfl := Option.some.inj hq
                          exact ⟨HBb.out, Or.inr HGB.out⟩)
                        have HB6 : Hid (B4 ≤ (w4.setCell ⟨gb, k, none⟩ (.slice (some ⟨gg, 0, none⟩) (n + 64) c)).heap.size) := Nat.le_trans HB4.out (Nat.le_of_eq (by simp [World.setCell]))
                        generalize hv gs[k] = oldg at hcg
                        clear hown4 hgrow4 hown hwh HMC HM1 HML hcl
                        refine Lib.hid ?_
                        go_wp2_with fail
                        clear hcg hfg
                        go_roundw
                        case rel => exact ⟨k + 1, _, by omega, by go_num, HPt, HF6, HB6⟩
                        case measure => simp [intOf]; omega
                      · have HNn : Hid (a = none → n = 0 ∧ c = 0) := own_nil hown
                        have HCe := Lib.hid (own_cells hown)
                        have HLe := Lib.hid hown.1
                        clear hown
                        go_wp2_with (at_builtin; go_must (refine wpList_append_grows _ rfl (.tmp 148) (.tmp 149) 26 rfl 5 i0 (.int .u8 0) 1 1 Tryz.underlying26 hi hz0 hz1 hz2 rfl (by decide) a n c (marksR mkB k n) rfl HNn.out HLe.out HCe.out ⟨m0, 0, none⟩ 64 64 (marksR mkB (k + hs.length) 64) rfl HML.out (HMC.out _ rfl) HM1.out (by omega) (by unfold maxLen; omega) (by omega) ?_; intro v' w4 hown4 hgrow4; obtain ⟨ag4, cg4, rfl⟩ := owns_slice hown4; refine Hid.out ?_))
                        have hb4 : Below wr.heap.size wr w4 := ⟨hgrow4.os, hgrow4.tape, hgrow4.output, hgrow4.size, fun q hq => hgrow4.block q hq (by simp)⟩
                        have hown4' : OwnH w4 base 5 1 (ag4, n + 64, cg4) (marksR mkB k n ++ marksR mkB (k + hs.length) 64) := owns_mono hown4 (Nat.le_trans HB.out HF.out.bel.size)
                        have HG4 := Lib.hid (HG.out.below hb4)
                        have HF4 : Hid (FK 5 base w w4) := HF.out.step hb4 HB.out
                        have HB4 : Hid (B4 ≤ w4.heap.size) := Nat.le_trans HBr.out hb4.size
                        have HPt := Lib.hid (HPut.out w4 (ag4, n + 64, cg4) HG4.out hown4' rfl (fun b hb => Or.inr (Nat.le_trans HBr.out (hown4.lt b hb).1)))
                        have hcg := HG4.out.cellG k hlt hkg
                        have hfg := HG4.out.freeG k
                        have HF6 : Hid (FK 5 base w (w4.setCell ⟨gb, k, none⟩ (.slice ag4 (n + 64) cg4))) := HF4.out.grown (Lib.grownBy_setCell w4 gb k _) HB.out (fun q hq => by
                          obtain rfl := Option.some.inj hq
                          exact ⟨HBb.out, Or.inr HGB.out⟩)
                        have HB6 : Hid (B4 ≤ (w4.setCell ⟨gb, k, none⟩ (.slice ag4 (n + 64) cg4)).heap.size) := Nat.le_trans HB4.out (Nat.le_of_eq (by simp [World.setCell]))
                        generalize hv gs[k] = oldg at hcg
                        clear hown4 hown4' hgrow4 hb4 HMC HM1 HML HNn HCe HLe hcl
                        refine Lib.hid ?_
                        go_wp2_with fail
                        clear hcg hfg
                        go_roundw
                        case rel => exact ⟨k + 1, _, by omega, by go_num, HPt, HF6, HB6⟩
                        case measure => simp [intOf]; omega
                · obtain rfl : k = hs.length := by omega
                  go_wp2_with fail
                  go_loopw [14] (fun ik wr => ∃ (k : Nat), k ≤ hs.length ∧ ik = .int .i64 k ∧ Hid (Grown wr base 5 1 26 gb B4 mkB (fun j => marksR mkB j (hs.getD j (none, 0, 0)).2.1 ++ marksR mkB (j + hs.length) 64) hs gs hs.length) ∧ Hid (FK 5 base w wr)) (fun ik _ => hs.length - (intOf ik).toNat)
                  case atStart => exact ⟨0, by omega, rfl, HG, HF⟩
                  case round =>
                    clear HG HF HBr
                    obtain ⟨k, hk, rfl, HG, HF⟩ := hrel
                    by_cases hlt : k < hs.length
                    · have HLk : Hid (∀ wa, FK 5 base w wa → ∃ lb lo, al = some ⟨lb, lo, none⟩ ∧ wa.cell? ⟨lb, lo + k, none⟩ = some (hv hs[k])) := fun wa hf => by
                        obtain ⟨lb, lo, e, hcl⟩ := (HL.out.fk hf hT).cell (by omega)
                        exact ⟨lb, lo, e, hcl k hlt⟩
                      have hkg : k < gs.length := by rw [HG.out.len]; exact hlt
                      have hgn := (HG.out.gown k hlt hlt hkg).2
                      obtain ⟨⟨a, n, c⟩, hh⟩ : ∃ h, hs[k] = h := ⟨_, rfl⟩
                      obtain ⟨⟨ag, m, cg⟩, hg⟩ : ∃ h, gs[k] = h := ⟨_, rfl⟩
                      have hnk := HN.out _ (List.getElem_mem hlt)
                      rw [hh] at hgn hnk
                      rw [hg] at hgn
                      simp only at hgn hnk
                      subst hgn
                      have HH := Lib.hid hh
                      have HGG := Lib.hid hg
                      have HCG : Hid (∀ wa, Grown wa base 5 1 26 gb B4 mkB (fun j => marksR mkB j (hs.getD j (none, 0, 0)).2.1 ++ marksR mkB (j + hs.length) 64) hs gs hs.length → wa.cell? ⟨gb, k, none⟩ = some (.slice ag (n + 64) cg)) := fun wa h => by
                        have := h.cellG k hlt hkg
                        rw [HGG.out] at this
                        exact this
                      have HCH : Hid (∀ wa, FK 5 base w wa → ∃ lb lo, al = some ⟨lb, lo, none⟩ ∧ wa.cell? ⟨lb, lo + k, none⟩ = some (.slice a n c)) := fun wa hf => by
                        have := HLk.out wa hf
                        rw [HH.out] at this
                        exact this
                      have hkl : (k : Int) < (hs.length : Int) := by omega
                      clear hh hg HLk
                      go_wp2_with fail
                      go_loopw [15] (fun ii wr => ∃ (i : Nat), i ≤ n ∧ ii = .int .i64 i ∧ Hid (Grown wr base 5 1 26 gb B4 mkB (fun j => marksR mkB j (hs.getD j (none, 0, 0)).2.1 ++ marksR mkB (j + hs.length) 64) hs gs hs.length) ∧ Hid (FK 5 base w wr)) (fun ii _ => n - (intOf ii).toNat)
                      case atStart => exact ⟨0, by omega, rfl, HG, HF⟩
                      case round =>
                        clear HG HF
                        obtain ⟨i, hi2, rfl, HG, HF⟩ := hrel
                        obtain ⟨lb, lo, rfl, hcl⟩ := HCH.out _ HF.out
                        by_cases hin : i < n
                        · have hcg := HCG.out _ HG.out
                          have KM := Lib.hid (fun W => markByte_big (k : Int) (i : Int) (by omega) (by omega) (by omega) (by omega) W)
                          have hmk : (mkB k i)[0]? = some (.int .u8 (mbI (k : Int) (i : Int))) := rfl
                          obtain ⟨bg, rfl, hcb⟩ := HG.out.atG k hlt hlt hkg HGG.out (by omega) i (.int .u8 (mbI (k : Int) (i : Int))) (by
                            have e1 := HH.out
                            simp only [List.getD, List.getElem?_eq_getElem hlt, Option.getD_some, e1]
                            have := marksR_get mkB_length k n i 0 hin (by omega)
                            rw [Nat.mul_one, Nat.add_zero] at this
                            rw [List.getElem?_append_left (by rw [marksR_length mkB_length]; omega)]
                            exact this.trans hmk)
                          obtain ⟨ba, rfl, hca⟩ := HG.out.atH mkB_length k hlt HH.out i 0 hin (by omega) _ hmk
                          rw [Nat.mul_one, Nat.add_zero] at hca
                          have hii : (i : Int) < (n : Int) := by omega
                          have hii2 : (i : Int) < (n : Int) + 64 := by omega
                          clear hmk
                          generalize mbI (k : Int) (i : Int) = mb at KM hcb hca
                          go_wp2_with fail
                          go_quiet (first | (go_at_call 36; exact Calls.quiet_of_same (KM.out _)))
                          go_wp2
                          have HG4 := Lib.hid (HG.out.below (RowKit_drewN (Below.refl _ _) nq))
                          have HF4 := Lib.hid (HF.out.drewN nq)
                          clear KM hcb hca hcl hcg hii hii2
                          go_roundw
                          case rel => exact ⟨i + 1, by omega, by go_num, HG4, HF4⟩
                          case measure => simp [intOf]; omega
                        · obtain rfl : i = n := by omega
                          go_wp2_with fail
                          clear hcl
                          go_roundw
                          case rel => exact ⟨k + 1, by omega, by go_num, HG, HF⟩
                          case measure => simp [intOf]; omega
                    · obtain rfl : k = hs.length := by omega
                      go_wp2_with fail
                      go_ret
                      exact ⟨rfl, HF.out⟩
end Go.Proofs.YtagjipkoheimjaaGreatDoor
