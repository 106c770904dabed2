/- Rows of values that lie apart are told so. -/
import Derived.Test.YtnnhgbncghpecaaGreatFlatG10
import Derived.Test.YtnnhgbncghpecaaGreatLentV10
import Derived.StillTailTactics
import Derived.ArgAppend
namespace Go.Proofs.YtnnhgbncghpecaaGreat
open Go.RowKit

theorem infoSXV : (Tryz.prog.info? 34).map (fun i => (i.zero, i.size, i.bytes)) = some (some (.slice none 0 0), 1, 24) := by kernel_rfl
theorem markValue_big (k i : Int) (hk : 0 ≤ k) (hk2 : k ≤ 1000000) (hi : 0 ≤ i) (hi2 : i ≤ 1000000) (w : World) :
    Calls Tryz.prog 25 #[.int .i64 k, .int .i64 i] w fun e w' => e = .returned (.agg #[.int .u8 0, .int .i64 (mkI k i), .string ⟨#[]⟩]) ∧ Gr w w' := by
  have HM := Lib.hid (fun W => mark_big k i hk hk2 hi hi2 W)
  have HG := Lib.hid (fun c1 c2 => (Gr.refl w).alloc (.cells c1 c2))
  unfold mkI
  generalize 1000003 * (k + 7) + i = x at HM ⊢
  clear hk hk2 hi hi2
  go_enter Tryz.func25, Tryz.ntmps25
  go_wp2_with (go_at_call 41; refine (HM.out _).mono ?_; rintro e w' ⟨rfl, rfl⟩)
  exact bodyPost_ret (v := .agg #[.int .u8 0, .int .i64 x, .string ⟨#[]⟩]) (by simp [results, Tryz.results25, go_sem]) rfl ⟨rfl, HG.out _ _⟩
def mkXV (k i : Nat) : List Value := [.int .u8 0, .int .i64 (mkI (k : Int) (i : Int)), .string ⟨#[]⟩]
theorem mkXV_length (k i : Nat) : (mkXV k i).length = 3 := rfl
theorem marksXV_one (k n : Nat) : ∀ u ∈ marksR mkXV k n, u.oneCell' = true := by
  intro u hu
  simp only [marksR, List.mem_flatMap, mkXV, List.mem_cons, List.not_mem_nil, or_false] at hu
  obtain ⟨_, _, rfl | rfl | rfl⟩ := hu <;> rfl

set_option maxRecDepth 100000 in
set_option maxHeartbeats 8000000 in
theorem flatV_any (base : Nat) (al : Option Addr) (cl : Nat) (hs : List Hd) (X : Nat → List Value) (w : World) (hB : base ≤ w.heap.size) (hR : Rows w base 27 3 hs X) (hL : LsAt w 34 al hs) (hK : hs.length ≤ 100000) (hN : ∀ h, h ∈ hs → h.2.1 ≤ 100000) :
    Calls Tryz.prog 68 #[.slice al hs.length cl] w (fun e w' => e = .returned (.bool true) ∧ FK 27 base w w') := by
  have HR := Lib.hid hR
  have HL := Lib.hid hL
  have HN := Lib.hid hN
  have HB := Lib.hid hB
  obtain ⟨i0, hi, hz0, hz1, hz2⟩ := info_parts infoV
  have mixed : Tryz.prog.follows .mixedOrders = true := by kernel_rfl
  have hg := eqGuardV
  have hT : (34 : Nat) ≠ 27 := by decide
  clear hR hL hN hB
  go_enter Tryz.func68, Tryz.ntmps68
  go_wp2_with fail
  go_loopw [3] (fun ik wr => ∃ (k : Nat) (Z : Nat → List Value), k ≤ hs.length ∧ ik = .int .i64 k ∧ Hid (Rows wr base 27 3 hs Z) ∧ Hid (∀ j, j < k → (hj : j < hs.length) → Z j = marksR mkXV j (hs[j]).2.1) ∧ Hid (FK 27 base w wr)) (fun ik _ => hs.length - (intOf ik).toNat)
  case atStart => exact ⟨0, X, by omega, rfl, HR.out, (fun j hj => by omega), FK.refl _ _ _⟩
  case round =>
    as_aux_lemma =>
    obtain ⟨k, Z, hk, rfl, HZ, HM, HF⟩ := hrel
    by_cases hlt : k < hs.length
    · go_wp2_with fail
      go_loopw [4] (fun ii wr => ∃ (i : Nat) (Z : Nat → List Value) (rest : List Value), i ≤ (hs[k]).2.1 ∧ ii = .int .i64 i ∧ Hid (Rows wr base 27 3 hs Z) ∧ Hid (∀ j, j < k → (hj : j < hs.length) → Z j = marksR mkXV j (hs[j]).2.1) ∧ Hid (Z k = marksR mkXV k i ++ rest) ∧ Hid (FK 27 base w wr)) (fun ii _ => (hs[k]).2.1 - (intOf ii).toNat)
      case atStart => exact ⟨0, Z, Z k, by omega, rfl, HZ, HM, rfl, HF⟩
      case round =>
        as_aux_lemma =>
        obtain ⟨i, Z, rest, hi2, rfl, HZ, HM, HZk, HF⟩ := hrel
        obtain ⟨lb, lo, rfl, hcl⟩ := (HL.out.fk HF.out hT).cell (by omega)
        have hck := hcl k hlt
        have hnk := HN.out _ (List.getElem_mem hlt)
        have hown := HZ.out.own k hlt
        have HOne := Lib.hid (fun (wm : World) (hm : Gr wr wm) b hb w' g ys ho => (HZ.out.below hm.below).one (w' := w') k hlt b hb g ys ho)
        clear hcl
        generalize hh : hs[k] = h at hck hnk hown HOne hi2
        obtain ⟨a, n, c⟩ := h
        simp only [hv] at hck hnk hown HOne hi2
        by_cases hin : i < n
        · obtain ⟨b, rfl⟩ := own_block hown (show 0 < n by omega)
          have hzl := hown.1
          have hzl' : i * 3 + 2 < (Z k).length := by simp only at hzl; rw [hzl]; omega
          have hca0 := hown.cellAt (i * 3) (show i * 3 < n * 3 by omega)
          obtain ⟨old0, hold0⟩ : ∃ old, (Z k)[i * 3]? = some old := ⟨_, List.getElem?_eq_getElem (by omega)⟩
          rw [hold0] at hca0
          have hfz0 := hown.frozenAt (i * 3)
          have hca1 := hown.cellAt (i * 3 + 1) (show i * 3 + 1 < n * 3 by omega)
          obtain ⟨old1, hold1⟩ : ∃ old, (Z k)[i * 3 + 1]? = some old := ⟨_, List.getElem?_eq_getElem (by omega)⟩
          rw [hold1] at hca1
          have hfz1 := hown.frozenAt (i * 3 + 1)
          have hca2 := hown.cellAt (i * 3 + 2) (show i * 3 + 2 < n * 3 by omega)
          obtain ⟨old2, hold2⟩ : ∃ old, (Z k)[i * 3 + 2]? = some old := ⟨_, List.getElem?_eq_getElem (by omega)⟩
          rw [hold2] at hca2
          have hfz2 := hown.frozenAt (i * 3 + 2)
          have KM := Lib.hid (fun W => markValue_big (k : Int) (i : Int) (by omega) (by omega) (by omega) (by omega) W)
          have HOwn := Lib.hid hown
          have hini : (i : Int) < (n : Int) := by omega
          have HZn : Hid (∀ u0 u1 u2, mkXV k i = [u0, u1, u2] → (((Z k).set (i * 3) u0).set (i * 3 + 1) u1).set (i * 3 + 2) u2 = marksR mkXV k (i + 1) ++ rest.drop 3) := fun u0 u1 u2 hu => marks_set3 mkXV_length hu HZk.out hzl'
          have hbl := (hown.lt b rfl).2
          have hll := cell_lt hck
          have HFacts : Hid (∀ w1, Gr wr w1 → w1.cell? ⟨lb, lo + k, none⟩ = some (.slice (some ⟨b, 0, none⟩) n c) ∧ w1.cell? ⟨b, i * 3, none⟩ = some old0 ∧ w1.cell? ⟨b, i * 3 + 1, none⟩ = some old1 ∧ w1.cell? ⟨b, i * 3 + 2, none⟩ = some old2 ∧ w1.frozen? ⟨b, i * 3, none⟩ = false ∧ w1.frozen? ⟨b, i * 3 + 1, none⟩ = false ∧ w1.frozen? ⟨b, i * 3 + 2, none⟩ = false) := fun w1 h => by
            obtain ⟨x1, x2⟩ := bcell h.below
            exact ⟨(x1 lb _ hll).trans hck, (x1 b _ hbl).trans hca0, (x1 b _ hbl).trans hca1, (x1 b _ hbl).trans hca2, (x2 b _ hbl).trans hfz0, (x2 b _ hbl).trans hfz1, (x2 b _ hbl).trans hfz2⟩
          clear hown hzl hold0 hold1 hold2 hzl' hbl hll
          generalize hmb : mkI (k : Int) (i : Int) = mb at KM
          go_wp2_with fail
          go_region_with (go_at_call 25; refine (KM.out _).mono ?_; rintro e w1 ⟨rfl, hg⟩; have HG1 : Hid (Gr wr w1) := (Gr.refl wr).drew.trans hg; obtain ⟨q0, q1, q2, q3, q4, q5, q6⟩ := HFacts.out w1 HG1.out; clear hg)
          all_goals
            have ho1 : OwnH w1 base 27 3 (some ⟨b, 0, none⟩, n, c) (Z k) := owns_below HOwn.out HG1.out.below
            obtain ⟨st1, st2⟩ := ho1.n3 (i * 3) (i * 3 + 1) (i * 3 + 2) (.int .u8 0) (.int .i64 mb) (.string ⟨#[]⟩)
            have hmk : mkXV k i = [.int .u8 0, .int .i64 mb, .string ⟨#[]⟩] := by unfold mkXV; rw [hmb]
            have R1 := Lib.hid (HOne.out _ HG1.out b rfl _ st2 _ st1)
            have R2 : Hid (∀ j, j < k → (hj : j < hs.length) → (fun j => if j = k then (((Z k).set (i * 3) (.int .u8 0)).set (i * 3 + 1) (.int .i64 mb)).set (i * 3 + 2) (.string ⟨#[]⟩) else Z j) j = marksR mkXV j (hs[j]).2.1) := fun j hj1 hj2 => by
              simp only
              rw [if_neg (by omega)]
              exact HM.out j hj1 hj2
            have R3 : Hid ((fun j => if j = k then (((Z k).set (i * 3) (.int .u8 0)).set (i * 3 + 1) (.int .i64 mb)).set (i * 3 + 2) (.string ⟨#[]⟩) else Z j) k = marksR mkXV k (i + 1) ++ rest.drop 3) := by
              unfold Hid
              simp only [if_true]
              exact HZn.out _ _ _ hmk
            have R4 : Hid (FK 27 base w (((w1.setCell ⟨b, i * 3, none⟩ (.int .u8 0)).setCell ⟨b, i * 3 + 1, none⟩ (.int .i64 mb)).setCell ⟨b, i * 3 + 2, none⟩ (.string ⟨#[]⟩))) := (HF.out.step HG1.out.below HB.out).grown st2 HB.out (fun q hq => by
              obtain rfl := Option.some.inj hq
              exact ⟨(HOwn.out.lt b rfl).1, Or.inl (owns_tag ho1 b rfl)⟩)
            clear hca0 hfz0 hca1 hfz1 hca2 hfz2 hck KM HOne HOwn HZn st1 st2 hini ho1 hmk q0 q1 q2 q3 q4 q5 q6 HFacts HG1
            go_wp2_with fail
            go_roundw
            case rel => exact ⟨i + 1, _, _, by omega, by go_num, R1, R2, R3, R4⟩
            case measure => simp [intOf]; omega
        · obtain rfl : i = n := by omega
          have hzl := hown.1
          have hfull := marks_full mkXV_length HZk.out hzl
          have R2 : Hid (∀ j, j < k + 1 → (hj : j < hs.length) → Z j = marksR mkXV j (hs[j]).2.1) := fun j hj1 hj2 => by
            by_cases e' : j = k
            · subst e'
              rw [hh]
              exact hfull
            · exact HM.out j (by omega) hj2
          clear hown hzl hfull HZk HM HOne
          go_wp2_with fail
          go_roundw
          case rel => exact ⟨k + 1, Z, by omega, by go_num, HZ, R2, HF⟩
          case measure => simp [intOf]; omega
    · obtain rfl : k = hs.length := by omega
      have HRM : Hid (Rows wr base 27 3 hs (fun j => marksR mkXV j (hs.getD j (none, 0, 0)).2.1)) := HZ.out.congr (fun j hj => by
        rw [HM.out j hj hj]
        simp [List.getD, hj])
      obtain ⟨i1, hj1, hy0, hy1, hy2⟩ := info_parts infoSXV
      obtain ⟨w2, hmake, hrow, hgr⟩ := run_make_full (P := Tryz.prog) wr base 78 34 i1 (.slice none 0 0) 1 Tryz.underlying78 hj1 hy0 hy1 .i64 .i64 hs.length (by rw [hy2]; omega) (by unfold maxLen; omega) (Nat.le_trans HB.out HF.out.bel.size)
      have hb2 : Below wr.heap.size wr w2 := ⟨hgr.os, hgr.tape, hgr.output, hgr.size, fun q hq => hgr.block q hq (by simp)⟩
      have HG2 : Hid (Grown w2 base 27 3 34 wr.heap.size w2.heap.size mkXV (fun j => marksR mkXV j ((hs.getD j (none, 0, 0)).2.1 + 64)) hs (List.replicate hs.length (none, 0, 0)) 0) := Grown.start (HRM.out.below hb2) (by
        rw [Nat.mul_one] at hrow
        have e' : (madeCells (Value.slice none 0 0).cells hs.length).toList = List.replicate hs.length (.slice none 0 0) := toList_madeCells_one _ _
        rw [e'] at hrow
        exact hrow)
      have HF2 := Lib.hid (HF.out.step hb2 HB.out)
      have hwr0 : w.heap.size ≤ wr.heap.size := HF.out.bel.size
      clear hrow hgr hb2 HZ HM HF HRM HR hy0 hy1 hy2 hj1
      go_wp2_with fail
      clear hmake
      have HGB : Hid (w.heap.size ≤ wr.heap.size) := hwr0
      have HB2 : Hid (w2.heap.size ≤ w2.heap.size) := Nat.le_refl _
      have HBb := Lib.hid (Nat.le_trans HB.out hwr0)
      clear hwr0
      generalize wr.heap.size = gb at HG2 HGB HBb ⊢
      obtain ⟨B2, hB2⟩ : ∃ B2, B2 = w2.heap.size := ⟨_, rfl⟩
      rw [← hB2] at HG2
      have HBz : Hid (B2 ≤ w2.heap.size) := Nat.le_of_eq hB2
      clear HB2 hB2
      go_loopw [6] (fun ik wr => ∃ (k : Nat) (gs : List Hd), k ≤ hs.length ∧ ik = .int .i64 k ∧ Hid (Grown wr base 27 3 34 gb B2 mkXV (fun j => marksR mkXV j ((hs.getD j (none, 0, 0)).2.1 + 64)) hs gs k) ∧ Hid (FK 27 base w wr) ∧ Hid (B2 ≤ wr.heap.size)) (fun ik _ => hs.length - (intOf ik).toNat)
      case atStart => exact ⟨0, _, by omega, rfl, HG2, HF2, HBz⟩
      case round =>
        as_aux_lemma =>
        obtain ⟨k, gs, hk, rfl, HG, HF, HBr⟩ := hrel
        clear HG2 HF2 HBz
        by_cases hlt : k < hs.length
        · obtain ⟨lb, lo, rfl, hcl⟩ := (HL.out.fk HF.out hT).cell (by omega)
          have hck := hcl k hlt
          have hnk := HN.out _ (List.getElem_mem hlt)
          have hgl := HG.out.len
          have HGB2 : Hid (∀ j, j < k → (hj : j < hs.length) → (hg : j < gs.length) → ∀ b, (hv gs[j]).ownBlock = some b → b < wr.heap.size) := fun j h1 h2 h3 b hb => ((HG.out.gown j h1 h2 h3).1.lt b hb).2
          have hown := HG.out.rows.own k hlt
          have hgd : (hs.getD k (none, 0, 0)) = hs[k] := by simp [List.getD, hlt]
          simp only [hgd] at hown
          have HFit := Lib.hid (fun (wa wb : World) (gg cg q : Nat) (h : Grown wa base 27 3 34 gb B2 mkXV (fun j => marksR mkXV j ((hs.getD j (none, 0, 0)).2.1 + 64)) hs gs k) => h.fits (w' := wb) (Br := wr.heap.size) (gg := gg) (cg := cg) (q := q) hT hlt mkXV_length HBr.out HGB2.out)
          have HPut := Lib.hid (fun (wa : World) (g : Hd) (h : Grown wa base 27 3 34 gb B2 mkXV (fun j => marksR mkXV j ((hs.getD j (none, 0, 0)).2.1 + 64)) hs gs k) => h.put hT hlt g)
          simp only [hgd] at HPut
          have HCells : Hid (∀ wa, FK 27 base w wa → wa.cell? ⟨lb, lo + k, none⟩ = some (hv hs[k])) := fun wa hf => by
            obtain ⟨lb', lo', e, hcl'⟩ := (HL.out.fk hf hT).cell (by omega)
            simp only [Option.some.injEq, Addr.mk.injEq, and_true] at e
            obtain ⟨rfl, rfl⟩ := e
            exact hcl' k hlt
          have HGl := Lib.hid hgl
          have hkg : k < gs.length := by omega
          have HOwn0 := Lib.hid hown
          clear hcl hgl hgd hown
          generalize hh : hs[k] = h at hck hnk HOwn0 HFit HPut HCells
          obtain ⟨a, n, c⟩ := h
          simp only [hv] at hck hnk HOwn0 HFit HPut HCells
          have HH := Lib.hid hh
          obtain ⟨Br, hBr⟩ : ∃ Br, Br = wr.heap.size := ⟨_, rfl⟩
          rw [← hBr] at HFit HBr
          have HBrl : Hid (Br ≤ wr.heap.size) := Nat.le_of_eq hBr
          clear hBr hh HGB2
          go_wp2_with fail
          go_loopw [7, 8] (fun vg ii wr => ∃ (i : Nat) (ag : Option Addr) (cg : Nat), i ≤ 64 ∧ ii = .int .i64 i ∧ vg = .slice ag (n + i) cg ∧ Hid (Grown wr base 27 3 34 gb B2 mkXV (fun j => marksR mkXV j ((hs.getD j (none, 0, 0)).2.1 + 64)) hs gs k) ∧ Hid (OwnH wr base 27 3 (ag, n + i, cg) (marksR mkXV k (n + i))) ∧ Hid ((ag = a ∧ cg = c) ∨ ∀ b, ag = some ⟨b, 0, none⟩ → Br ≤ b) ∧ Hid (FK 27 base w wr) ∧ Hid (Br ≤ wr.heap.size)) (fun _ ii _ => 64 - (intOf ii).toNat)
          case atStart => exact ⟨0, a, c, by omega, rfl, rfl, HG, HOwn0, Or.inl ⟨rfl, rfl⟩, HF, HBrl⟩
          case round =>
            as_aux_lemma =>
            obtain ⟨i, ag, cg, hi2, rfl, rfl, HG, HO, HW, HF, HBs⟩ := hrel
            clear HBrl
            have hck2 := HCells.out _ HF.out
            clear hck
            by_cases hin : i < 64
            · have KM := Lib.hid (fun W => markValue_big (k : Int) ((n : Int) + (i : Int)) (by omega) (by omega) (by omega) (by omega) W)
              have hmk : mkXV k (n + i) = [.int .u8 0, .int .i64 (mkI (k : Int) ((n : Int) + (i : Int))), .string ⟨#[]⟩] := by unfold mkXV; rw [Int.natCast_add]
              have HMk : Hid (marksR mkXV k (n + (i + 1)) = marksR mkXV k (n + i) ++ [.int .u8 0, .int .i64 (mkI (k : Int) ((n : Int) + (i : Int))), .string ⟨#[]⟩]) := by
                unfold Hid
                rw [← Nat.add_assoc, marksR_succ, hmk]
              have hml := marksR_length mkXV_length k (n + i)
              have HML := Lib.hid hml
              have HBl := Lib.hid (Nat.le_trans HB.out HF.out.bel.size)
              clear hmk hml
              generalize mkI (k : Int) ((n : Int) + (i : Int)) = mb at KM HMk
              by_cases hfit : n + i + 1 ≤ cg
              · obtain ⟨gg, rfl⟩ := own_cap HO.out (by omega)
                go_wp2_with (first
                  | (go_at_call 25; go_must (refine (KM.out _).mono ?_; rintro e w1 ⟨rfl, hg⟩; have HG1 := Lib.hid hg.below; have hck3 := HCells.out w1 (HF.out.step hg.below HB.out); clear hg))
                  | (at_builtin; go_must (refine wpList_append_fits _ rfl (.tmp 57) (.tmp 67) 34 rfl base 27 i0 3 Tryz.underlying34 hi hz1 gg (n + i) cg _ rfl (World.ownsRow.alloc (owns_below HO.out HG1.out) _) ⟨w1.heap.size, 0, none⟩ 1 1 [.int .u8 0, .int .i64 mb, .string ⟨#[]⟩] rfl rfl (fun j u hu => by rw [Addr.add_lit, Nat.zero_add]; exact cells_made w1 _ _ j u (by simpa using hu)) (fun u hu => by simp at hu; rcases hu with rfl | rfl | rfl <;> rfl) hfit ?_; intro w4 hown4 hgrow4; refine Hid.out ?_)))
                have hbn : Below wr.heap.size wr (w1.alloc (.cells #[.int .u8 0, .int .i64 mb, .string ⟨#[]⟩] 27)) := below_new HG1.out _
                have hown : OwnH (w1.alloc (.cells #[.int .u8 0, .int .i64 mb, .string ⟨#[]⟩] 27)) base 27 3 (some ⟨gg, 0, none⟩, n + i, cg) (marksR mkXV k (n + i)) := World.ownsRow.alloc (owns_below HO.out HG1.out) _
                have hown5 : w4.ownsRow base 27 3 (.slice (some ⟨gg, 0, none⟩) (n + (i + 1)) cg) (n + (i + 1)) (marksR mkXV k (n + (i + 1))) := by
                  rw [HMk.out, ← Nat.add_assoc]
                  exact hown4
                obtain ⟨ys, hys⟩ := marksR_add mkXV k n (i + 1)
                have hW2 : (a = some ⟨gg, 0, none⟩ ∧ cg = c) ∨ Br ≤ gg := by
                  rcases HW.out with ⟨h1, h2⟩ | h1
                  · exact Or.inl ⟨h1.symm, h2⟩
                  · exact Or.inr (h1 gg rfl)
                have HG4 := Lib.hid (HFit.out _ w4 gg cg (i + 1) (HG.out.below hbn) (owns_tag hown gg rfl) hW2 hgrow4 ys (by rw [← hys]; exact hown5))
                have HO4 := Lib.hid hown5
                have HF4 : Hid (FK 27 base w w4) := (HF.out.step hbn HB.out).grown hgrow4 HB.out (fun q hq => by
                  obtain rfl := Option.some.inj hq
                  exact ⟨(hown.lt gg rfl).1, Or.inl (owns_tag hown gg rfl)⟩)
                have HB4 : Hid (Br ≤ w4.heap.size) := Nat.le_trans HBs.out (Nat.le_trans hbn.size hgrow4.size)
                clear hown hown4 hgrow4 hown5 hbn hys hW2 KM HMk HG1 hck3
                refine Lib.hid ?_
                go_wp2_with fail
                go_roundw
                case rel => exact ⟨i + 1, some ⟨gg, 0, none⟩, cg, by omega, by go_num, rfl, HG4, HO4, HW, HF4, HB4⟩
                case measure => simp [intOf]; omega
              · have HNn : Hid (ag = none → n + i = 0 ∧ cg = 0) := own_nil HO.out
                go_wp2_with (first
                  | (go_at_call 25; go_must (refine (KM.out _).mono ?_; rintro e w1 ⟨rfl, hg⟩; have HG1 := Lib.hid hg.below; have hck3 := HCells.out w1 (HF.out.step hg.below HB.out); clear hg))
                  | (at_builtin; go_must (refine wpList_append_grows _ rfl (.tmp 57) (.tmp 67) 34 rfl 27 i0 (.agg #[.int .u8 0, .int .i64 0, .string ⟨#[]⟩]) 3 32 Tryz.underlying34 hi hz0 hz1 hz2 rfl (by decide) ag (n + i) cg (marksR mkXV k (n + i)) rfl HNn.out HML.out (own_cells (OwnH.alloc' (owns_below HO.out HG1.out) _)) ⟨w1.heap.size, 0, none⟩ 1 1 [.int .u8 0, .int .i64 mb, .string ⟨#[]⟩] rfl rfl (fun j u hu => by rw [Addr.add_lit, Nat.zero_add]; exact cells_made w1 _ _ j u (by simpa using hu)) (fun u hu => by simp at hu; rcases hu with rfl | rfl | rfl <;> rfl) (by omega) (by unfold maxLen; omega) (by omega) ?_; intro v' w4 hown4 hgrow4; obtain ⟨ag4, cg4, rfl⟩ := owns_slice hown4; refine Hid.out ?_)))
                have hbn : Below wr.heap.size wr (w1.alloc (.cells #[.int .u8 0, .int .i64 mb, .string ⟨#[]⟩] 27)) := below_new HG1.out _
                have hb4 : Below (w1.alloc (.cells #[.int .u8 0, .int .i64 mb, .string ⟨#[]⟩] 27)).heap.size (w1.alloc (.cells #[.int .u8 0, .int .i64 mb, .string ⟨#[]⟩] 27)) w4 := ⟨hgrow4.os, hgrow4.tape, hgrow4.output, hgrow4.size, fun q hq => hgrow4.block q hq (by simp)⟩
                have HO4 : Hid (OwnH w4 base 27 3 (ag4, n + (i + 1), cg4) (marksR mkXV k (n + (i + 1)))) := by
                  have := owns_mono hown4 (Nat.le_trans HBl.out hbn.size)
                  rw [HMk.out]
                  exact this
                have HW4 : Hid ((ag4 = a ∧ cg4 = c) ∨ ∀ b, ag4 = some ⟨b, 0, none⟩ → Br ≤ b) := Or.inr fun b hb => by
                  have h1 := (hown4.lt b (by simp [hb, Value.ownBlock])).1
                  exact Nat.le_trans HBs.out (Nat.le_trans hbn.size h1)
                have HG4 := Lib.hid ((HG.out.below hbn).below hb4)
                have HF4 : Hid (FK 27 base w w4) := (HF.out.step hbn HB.out).step hb4 HB.out
                have HB4 : Hid (Br ≤ w4.heap.size) := Nat.le_trans HBs.out (Nat.le_trans hbn.size hb4.size)
                clear hown4 hgrow4 hbn hb4 KM HMk HNn HG1 hck3
                refine Lib.hid ?_
                go_wp2_with fail
                go_roundw
                case rel => exact ⟨i + 1, ag4, cg4, by omega, by go_num, rfl, HG4, HO4, HW4, HF4, HB4⟩
                case measure => simp [intOf]; omega
            · have hi64 : i = 64 := by omega
              subst hi64
              have hcg := HG.out.cellG k hlt hkg
              have hfg := HG.out.freeG k
              have HPt := Lib.hid (HPut.out _ (ag, n + 64, cg) HG.out HO.out rfl (fun b hb => by
                rcases HW.out with ⟨h1, _⟩ | h1
                · left
                  subst h1
                  cases ag with
                  | none => simp [Value.ownBlock] at hb
                  | some ad => simpa [Value.ownBlock] using hb
                · right
                  cases ag with
                  | none => simp [Value.ownBlock] at hb
                  | some ad =>
                    obtain ⟨b', hb'⟩ := own_block HO.out (show 0 < n + 64 by omega)
                    simp only [Value.ownBlock, Option.some.injEq] at hb
                    have h2 := h1 b' hb'
                    have h3 : ad = ⟨b', 0, none⟩ := Option.some.inj hb'
                    rw [h3] at hb
                    simp only at hb
                    have := HBr.out
                    omega))
              have HF4 : Hid (FK 27 base w (wr.setCell ⟨gb, k, none⟩ (.slice ag (n + 64) cg))) := HF.out.grown (Lib.grownBy_setCell wr gb k _) HB.out (fun q hq => by
                obtain rfl := Option.some.inj hq
                exact ⟨HBb.out, Or.inr HGB.out⟩)
              have HB4 : Hid (B2 ≤ (wr.setCell ⟨gb, k, none⟩ (.slice ag (n + 64) cg)).heap.size) := Nat.le_trans HBr.out (Nat.le_trans HBs.out (Nat.le_of_eq (by simp [World.setCell])))
              have hkl : (k : Int) < (hs.length : Int) := by omega
              generalize hv gs[k] = oldg at hcg
              go_wp2_with fail
              clear hcg hfg
              go_roundw
              case rel => exact ⟨k + 1, _, by omega, by go_num, HPt, HF4, HB4⟩
              case measure => simp [intOf]; omega
        · obtain rfl : k = hs.length := by omega
          go_wp2_with fail
          go_loopw [9] (fun ik wr => ∃ (k : Nat), k ≤ hs.length ∧ ik = .int .i64 k ∧ Hid (Grown wr base 27 3 34 gb B2 mkXV (fun j => marksR mkXV j ((hs.getD j (none, 0, 0)).2.1 + 64)) hs gs hs.length) ∧ Hid (FK 27 base w wr) ∧ Hid (B2 ≤ wr.heap.size)) (fun ik _ => hs.length - (intOf ik).toNat)
          case atStart => exact ⟨0, by omega, rfl, HG, HF, HBr⟩
          case round =>
            as_aux_lemma =>
            clear HG HF HBr
            obtain ⟨k, hk, rfl, HG, HF, HBr⟩ := hrel
            by_cases hlt : k < hs.length
            · have HLk : Hid (∀ wa, FK 27 base w wa → ∃ lb lo, al = some ⟨lb, lo, none⟩ ∧ wa.cell? ⟨lb, lo + k, none⟩ = some (hv hs[k])) := fun wa hf => by
                obtain ⟨lb, lo, e, hcl⟩ := (HL.out.fk hf hT).cell (by omega)
                exact ⟨lb, lo, e, hcl k hlt⟩
              have hkg : k < gs.length := by rw [HG.out.len]; exact hlt
              have hgn := (HG.out.gown k hlt hlt hkg).2
              obtain ⟨⟨a, n, c⟩, hh⟩ : ∃ h, hs[k] = h := ⟨_, rfl⟩
              obtain ⟨⟨ag, m, cg⟩, hg⟩ : ∃ h, gs[k] = h := ⟨_, rfl⟩
              have hnk := HN.out _ (List.getElem_mem hlt)
              rw [hh] at hgn hnk
              rw [hg] at hgn
              simp only at hgn hnk
              subst hgn
              have HH := Lib.hid hh
              have HGG := Lib.hid hg
              have HCG : Hid (∀ wa, Grown wa base 27 3 34 gb B2 mkXV (fun j => marksR mkXV j ((hs.getD j (none, 0, 0)).2.1 + 64)) hs gs hs.length → wa.cell? ⟨gb, k, none⟩ = some (.slice ag (n + 64) cg)) := fun wa h => by
                have := h.cellG k hlt hkg
                rw [HGG.out] at this
                exact this
              have HCH : Hid (∀ wa, FK 27 base w wa → ∃ lb lo, al = some ⟨lb, lo, none⟩ ∧ wa.cell? ⟨lb, lo + k, none⟩ = some (.slice a n c)) := fun wa hf => by
                have := HLk.out wa hf
                rw [HH.out] at this
                exact this
              have hkl : (k : Int) < (hs.length : Int) := by omega
              clear hh hg HLk
              go_wp2_with fail
              go_loopw [10] (fun ii wr => ∃ (i : Nat), i ≤ n + 64 ∧ ii = .int .i64 i ∧ Hid (Grown wr base 27 3 34 gb B2 mkXV (fun j => marksR mkXV j ((hs.getD j (none, 0, 0)).2.1 + 64)) hs gs hs.length) ∧ Hid (FK 27 base w wr) ∧ Hid (B2 ≤ wr.heap.size)) (fun ii _ => n + 64 - (intOf ii).toNat)
              case atStart => exact ⟨0, by omega, rfl, HG, HF, HBr⟩
              case round =>
                as_aux_lemma =>
                clear HG HF HBr
                obtain ⟨i, hi2, rfl, HG, HF, HBr⟩ := hrel
                have hcg := HCG.out _ HG.out
                by_cases hin : i < n + 64
                · obtain ⟨lb, lo, rfl, hcl⟩ := HCH.out _ HF.out
                  have KM := Lib.hid (fun W => markValue_big (k : Int) (i : Int) (by omega) (by omega) (by omega) (by omega) W)
                  have hm0 : (mkXV k i)[0]? = some (.int .u8 0) := rfl
                  have hm1 : (mkXV k i)[1]? = some (.int .i64 (mkI (k : Int) (i : Int))) := rfl
                  have hm2 : (mkXV k i)[2]? = some (.string ⟨#[]⟩) := rfl
                  have hY : ∀ r u, r < 3 → (mkXV k i)[r]? = some u → (marksR mkXV k ((hs.getD k (none, 0, 0)).2.1 + 64))[i * 3 + r]? = some u := fun r u hr hu => by
                    have e1 := HH.out
                    simp only [List.getD, List.getElem?_eq_getElem hlt, Option.getD_some, e1]
                    exact (marksR_get mkXV_length k (n + 64) i r hin hr).trans hu
                  obtain ⟨bg0, hag0, hg0⟩ := HG.out.atG k hlt hlt hkg HGG.out (by omega) (i * 3 + 0) (.int .u8 0) (hY 0 _ (by omega) hm0)
                  obtain ⟨bg1, hag1, hg1⟩ := HG.out.atG k hlt hlt hkg HGG.out (by omega) (i * 3 + 1) (.int .i64 (mkI (k : Int) (i : Int))) (hY 1 _ (by omega) hm1)
                  obtain ⟨bg2, hag2, hg2⟩ := HG.out.atG k hlt hlt hkg HGG.out (by omega) (i * 3 + 2) (.string ⟨#[]⟩) (hY 2 _ (by omega) hm2)
                  rw [hag0] at hag1
                  obtain rfl : bg0 = bg1 := by simpa using hag1
                  rw [hag0] at hag2
                  obtain rfl : bg0 = bg2 := by simpa using hag2
                  subst hag0
                  rw [Nat.add_zero] at hg0
                  have z1 := cellG (cell_lt hcg) hcg
                  have z4 := cellG (cell_lt hcl) hcl
                  have zg0 := cellG (cell_lt hg0) hg0
                  have zg1 := cellG (cell_lt hg1) hg1
                  have zg2 := cellG (cell_lt hg2) hg2
                  by_cases hi3 : i < n
                  · obtain ⟨ba0, haa0, ha0⟩ := HG.out.atH mkXV_length k hlt HH.out i 0 hi3 (by omega) _ hm0
                    obtain ⟨ba1, haa1, ha1⟩ := HG.out.atH mkXV_length k hlt HH.out i 1 hi3 (by omega) _ hm1
                    obtain ⟨ba2, haa2, ha2⟩ := HG.out.atH mkXV_length k hlt HH.out i 2 hi3 (by omega) _ hm2
                    rw [haa0] at haa1
                    obtain rfl : ba0 = ba1 := by simpa using haa1
                    rw [haa0] at haa2
                    obtain rfl : ba0 = ba2 := by simpa using haa2
                    subst haa0
                    rw [Nat.add_zero] at ha0
                    have za0 := cellG (cell_lt ha0) ha0
                    have za1 := cellG (cell_lt ha1) ha1
                    have za2 := cellG (cell_lt ha2) ha2
                    have hd : decide ((i : Int) < (n : Int)) = true := by simp; omega
                    have hd' : decide (i < n) = true := by simp; omega
                    have hii : (i : Int) < (n : Int) := by omega
                    have hii2 : (i : Int) < (n : Int) + 64 := by omega
                    have hkl2 : (k : Int) < (hs.length : Int) := by omega
                    clear hm0 hm1 hm2 hY hag1 hag2 haa1 haa2
                    generalize mkI (k : Int) (i : Int) = mb at KM hg1 zg1 ha1 za1
                    have heq := fun W => eqV 0 mb 0 mb ⟨#[]⟩ ⟨#[]⟩ W
                    rw [(eqvB_iff (0, mb, ⟨#[]⟩) (0, mb, ⟨#[]⟩)).2 rfl] at heq
                    as_aux_lemma =>
                    go_wp2_with fail
                    as_aux_lemma =>
                    refine wp_region_quiet_grown (by assumption) (by kernel_rfl) ?_
                    repeat (go_big_quiet_step (first
                      | (go_at_call 25; go_must (exact Calls.grown_of ((KM.out _).mono fun _ _ h => ⟨h.1, h.2.out⟩)))))
                    refine wpQuiet_nil ?_
                    intro _ hw'
                    obtain ⟨⟨nq, osq⟩, hw''⟩ := hw'
                    subst hw''
                    as_aux_lemma =>
                    go_wp2
                    have hgb : Below wr.heap.size wr (Sort.grow (wr.drewN nq) osq) := Gr.below ⟨nq, osq, rfl⟩
                    have HG4 := Lib.hid (HG.out.below hgb)
                    have HF4 := Lib.hid (HF.out.step hgb HB.out)
                    have HB4 : Hid (B2 ≤ (Sort.grow (wr.drewN nq) osq).heap.size) := Nat.le_trans HBr.out hgb.size
                    clear KM heq hg0 zg0 hg1 zg1 hg2 zg2 ha0 za0 ha1 za1 ha2 za2 hcl hcg hd hd' hii hii2 z1 z4 hgb
                    go_roundw
                    case rel => exact ⟨i + 1, by omega, by go_num, HG4, HF4, HB4⟩
                    case measure => simp [intOf]; omega
                  · have hd : decide ((i : Int) < (n : Int)) = false := by simp; omega
                    have hd' : decide (i < n) = false := by simp; omega
                    have hii2 : (i : Int) < (n : Int) + 64 := by omega
                    clear hm0 hm1 hm2 hY hag1 hag2
                    generalize mkI (k : Int) (i : Int) = mb at KM hg1 zg1
                    have heq := fun W => eqV 0 mb 0 mb ⟨#[]⟩ ⟨#[]⟩ W
                    rw [(eqvB_iff (0, mb, ⟨#[]⟩) (0, mb, ⟨#[]⟩)).2 rfl] at heq
                    as_aux_lemma =>
                    go_wp2_with fail
                    as_aux_lemma =>
                    refine wp_region_quiet_grown (by assumption) (by kernel_rfl) ?_
                    repeat (go_big_quiet_step (first
                      | (go_at_call 25; go_must (exact Calls.grown_of ((KM.out _).mono fun _ _ h => ⟨h.1, h.2.out⟩)))))
                    refine wpQuiet_nil ?_
                    intro _ hw'
                    obtain ⟨⟨nq, osq⟩, hw''⟩ := hw'
                    subst hw''
                    as_aux_lemma =>
                    go_wp2
                    have hgb : Below wr.heap.size wr (Sort.grow (wr.drewN nq) osq) := Gr.below ⟨nq, osq, rfl⟩
                    have HG4 := Lib.hid (HG.out.below hgb)
                    have HF4 := Lib.hid (HF.out.step hgb HB.out)
                    have HB4 : Hid (B2 ≤ (Sort.grow (wr.drewN nq) osq).heap.size) := Nat.le_trans HBr.out hgb.size
                    clear KM heq hg0 zg0 hg1 zg1 hg2 zg2 hcl hcg hd hd' hii2 z1 z4 hgb
                    go_roundw
                    case rel => exact ⟨i + 1, by omega, by go_num, HG4, HF4, HB4⟩
                    case measure => simp [intOf]; omega
                · obtain rfl : i = n + 64 := by omega
                  go_wp2_with fail
                  clear hcg
                  go_roundw
                  case rel => exact ⟨k + 1, by omega, by go_num, HG, HF, HBr⟩
                  case measure => simp [intOf]; omega
            · obtain rfl : k = hs.length := by omega
              go_wp2_with fail
              obtain ⟨B4, hB4⟩ : ∃ B4, B4 = wr.heap.size := ⟨_, rfl⟩
              have HG4 := Lib.hid (HG.out.restart (show B2 ≤ B4 by rw [hB4]; exact HBr.out) (fun j => marksR mkXV j (hs.getD j (none, 0, 0)).2.1 ++ marksR mkXV (j + hs.length) 64))
              have HB4 : Hid (B4 ≤ wr.heap.size) := Nat.le_of_eq hB4
              have HBB : Hid (base ≤ B4) := by rw [hB4]; exact Nat.le_trans HB.out HF.out.bel.size
              clear hB4 HG HBr
              go_loopw [11] (fun ik wr => ∃ (k : Nat) (gs : List Hd), k ≤ hs.length ∧ ik = .int .i64 k ∧ Hid (Grown wr base 27 3 34 gb B4 mkXV (fun j => marksR mkXV j (hs.getD j (none, 0, 0)).2.1 ++ marksR mkXV (j + hs.length) 64) hs gs k) ∧ Hid (FK 27 base w wr) ∧ Hid (B4 ≤ wr.heap.size)) (fun ik _ => hs.length - (intOf ik).toNat)
              case atStart => exact ⟨0, gs, by omega, rfl, HG4, HF, HB4⟩
              case round =>
                as_aux_lemma =>
                clear HG4 HF HB4
                obtain ⟨k, gs, hk, rfl, HG, HF, HBr⟩ := hrel
                by_cases hlt : k < hs.length
                · have hnk := HN.out _ (List.getElem_mem hlt)
                  have hgd : (hs.getD k (none, 0, 0)) = hs[k] := by simp [List.getD, hlt]
                  have hown := HG.out.rows.own k hlt
                  simp only [hgd] at hown
                  have HGB2 : Hid (∀ j, j < k → (hj : j < hs.length) → (hg : j < gs.length) → ∀ b, (hv gs[j]).ownBlock = some b → b < wr.heap.size) := fun j h1 h2 h3 b hb => ((HG.out.gown j h1 h2 h3).1.lt b hb).2
                  have HFit := Lib.hid (fun (wa wb : World) (gg cg q : Nat) (h : Grown wa base 27 3 34 gb B4 mkXV (fun j => marksR mkXV j (hs.getD j (none, 0, 0)).2.1 ++ marksR mkXV (j + hs.length) 64) hs gs k) => h.fits (w' := wb) (Br := wr.heap.size) (gg := gg) (cg := cg) (q := q) hT hlt mkXV_length HBr.out HGB2.out)
                  have HPut := Lib.hid (fun (wa : World) (g : Hd) (h : Grown wa base 27 3 34 gb B4 mkXV (fun j => marksR mkXV j (hs.getD j (none, 0, 0)).2.1 ++ marksR mkXV (j + hs.length) 64) hs gs k) => h.put hT hlt g)
                  simp only [hgd] at HPut
                  have HCH : Hid (∀ wa, FK 27 base w wa → ∃ lb lo, al = some ⟨lb, lo, none⟩ ∧ wa.cell? ⟨lb, lo + k, none⟩ = some (hv hs[k])) := fun wa hf => by
                    obtain ⟨lb, lo, e, hcl⟩ := (HL.out.fk hf hT).cell (by omega)
                    exact ⟨lb, lo, e, hcl k hlt⟩
                  have hkg : k < gs.length := by rw [HG.out.len]; exact hlt
                  have HOwn0 := Lib.hid hown
                  clear hown hgd
                  generalize hh : hs[k] = h at hnk HOwn0 HFit HPut HCH
                  obtain ⟨a, n, c⟩ := h
                  simp only [hv] at hnk HOwn0 HFit HPut HCH
                  have HH := Lib.hid hh
                  have hkl : (k : Int) < (hs.length : Int) := by omega
                  clear hh
                  obtain ⟨w5, hmk5, hrow5, hgr5⟩ := run_make_full (P := Tryz.prog) wr wr.heap.size 34 27 i0 (.agg #[.int .u8 0, .int .i64 0, .string ⟨#[]⟩]) 3 Tryz.underlying34 hi hz0 hz1 .i64 .i64 64 (by rw [hz2]; omega) (by unfold maxLen; omega) (Nat.le_refl _)
                  rw [show ((64 : Nat) : Int) = 64 from rfl] at hmk5
                  have hb5 : Below wr.heap.size wr w5 := ⟨hgr5.os, hgr5.tape, hgr5.output, hgr5.size, fun q hq => hgr5.block q hq (by simp)⟩
                  have HG5 := Lib.hid (HG.out.below hb5)
                  have HF5 := Lib.hid (HF.out.step hb5 HB.out)
                  have HB5 : Hid (B4 ≤ w5.heap.size) := Nat.le_trans HBr.out hb5.size
                  have HM5 : Hid (OwnH w5 wr.heap.size 27 3 (some ⟨wr.heap.size, 0, none⟩, 64, 64) (madeCells (Value.agg #[.int .u8 0, .int .i64 0, .string ⟨#[]⟩]).cells (64 * 3)).toList) := hrow5
                  have HM0 : Hid (B4 ≤ wr.heap.size) := HBr.out
                  clear hrow5 hgr5 hb5 HG HF HBr
                  go_wp2_with fail
                  clear hmk5
                  generalize (madeCells (Value.agg #[.int .u8 0, .int .i64 0, .string ⟨#[]⟩]).cells (64 * 3)).toList = M0 at HM5
                  generalize wr.heap.size = m0 at HM5 HM0 HGB2 HFit ⊢
                  go_loopw [13] (fun ii wr => ∃ (i : Nat) (M rest : List Value), i ≤ 64 ∧ ii = .int .i64 i ∧ Hid (Grown wr base 27 3 34 gb B4 mkXV (fun j => marksR mkXV j (hs.getD j (none, 0, 0)).2.1 ++ marksR mkXV (j + hs.length) 64) hs gs k) ∧ Hid (OwnH wr m0 27 3 (some ⟨m0, 0, none⟩, 64, 64) M) ∧ Hid (M = marksR mkXV (k + hs.length) i ++ rest) ∧ Hid (FK 27 base w wr) ∧ Hid (B4 ≤ wr.heap.size)) (fun ii _ => 64 - (intOf ii).toNat)
                  case atStart => exact ⟨0, M0, M0, by omega, rfl, HG5, HM5, rfl, HF5, HB5⟩
                  case round =>
                    as_aux_lemma =>
                    clear HG5 HM5 HF5 HB5
                    obtain ⟨i, M, rest, hi2, rfl, HG, HM, HMr, HF, HBr⟩ := hrel
                    by_cases hin : i < 64
                    · have hzl := HM.out.1
                      have hzl' : i * 3 + 2 < M.length := by simp only at hzl; omega
                      have hca0 := HM.out.cellAt (i * 3) (show i * 3 < 64 * 3 by omega)
                      obtain ⟨old0, hold0⟩ : ∃ old, M[i * 3]? = some old := ⟨_, List.getElem?_eq_getElem (by omega)⟩
                      rw [hold0] at hca0
                      have hfz0 := HM.out.frozenAt (i * 3)
                      have hca1 := HM.out.cellAt (i * 3 + 1) (show i * 3 + 1 < 64 * 3 by omega)
                      obtain ⟨old1, hold1⟩ : ∃ old, M[i * 3 + 1]? = some old := ⟨_, List.getElem?_eq_getElem (by omega)⟩
                      rw [hold1] at hca1
                      have hfz1 := HM.out.frozenAt (i * 3 + 1)
                      have hca2 := HM.out.cellAt (i * 3 + 2) (show i * 3 + 2 < 64 * 3 by omega)
                      obtain ⟨old2, hold2⟩ : ∃ old, M[i * 3 + 2]? = some old := ⟨_, List.getElem?_eq_getElem (by omega)⟩
                      rw [hold2] at hca2
                      have hfz2 := HM.out.frozenAt (i * 3 + 2)
                      have KM := Lib.hid (fun W => markValue_big ((k : Int) + (hs.length : Int)) (i : Int) (by omega) (by omega) (by omega) (by omega) W)
                      have hini : (i : Int) < 64 := by omega
                      have HZn : Hid (∀ u0 u1 u2, mkXV (k + hs.length) i = [u0, u1, u2] → ((M.set (i * 3) u0).set (i * 3 + 1) u1).set (i * 3 + 2) u2 = marksR mkXV (k + hs.length) (i + 1) ++ rest.drop 3) := fun u0 u1 u2 hu => marks_set3 mkXV_length hu HMr.out hzl'
                      have hmk : mkXV (k + hs.length) i = [.int .u8 0, .int .i64 (mkI ((k : Int) + (hs.length : Int)) (i : Int)), .string ⟨#[]⟩] := by unfold mkXV; rw [Int.natCast_add]
                      have HMk := Lib.hid hmk
                      have hbl := (HM.out.lt m0 rfl).2
                      have HFacts : Hid (∀ w1, Below wr.heap.size wr w1 → w1.cell? ⟨m0, i * 3, none⟩ = some old0 ∧ w1.cell? ⟨m0, i * 3 + 1, none⟩ = some old1 ∧ w1.cell? ⟨m0, i * 3 + 2, none⟩ = some old2 ∧ w1.frozen? ⟨m0, i * 3, none⟩ = false ∧ w1.frozen? ⟨m0, i * 3 + 1, none⟩ = false ∧ w1.frozen? ⟨m0, i * 3 + 2, none⟩ = false) := fun w1 h => by
                        obtain ⟨x1, x2⟩ := bcell h
                        exact ⟨(x1 m0 _ hbl).trans hca0, (x1 m0 _ hbl).trans hca1, (x1 m0 _ hbl).trans hca2, (x2 m0 _ hbl).trans hfz0, (x2 m0 _ hbl).trans hfz1, (x2 m0 _ hbl).trans hfz2⟩
                      clear hzl hold0 hold1 hold2 hzl' hmk hbl hca0 hfz0 hca1 hfz1 hca2 hfz2
                      generalize mkI ((k : Int) + (hs.length : Int)) (i : Int) = mb at KM HMk
                      go_wp2_with (go_at_call 25; go_must (refine (KM.out _).mono ?_; rintro e w1 ⟨rfl, hg⟩; have HG1 := Lib.hid hg.below; obtain ⟨q0, q1, q2, q3, q4, q5⟩ := HFacts.out w1 HG1.out; clear hg))
                      have ho1 : OwnH w1 m0 27 3 (some ⟨m0, 0, none⟩, 64, 64) M := owns_below HM.out HG1.out
                      have hgw := HG.out.below HG1.out
                      obtain ⟨st1, st2⟩ := ho1.n3 (i * 3) (i * 3 + 1) (i * 3 + 2) (.int .u8 0) (.int .i64 mb) (.string ⟨#[]⟩)
                      have R0 := Lib.hid (hgw.write hT m0 (owns_tag ho1 m0 rfl) st2 (fun j hj e => by
                        have h1 := hgw.old j hj m0 e
                        have h2 := HM0.out
                        omega) (fun j hj h1 h2 e => by
                        have h3 := HGB2.out j hj h1 h2 m0 e
                        omega))
                      have R1 : Hid (OwnH (((w1.setCell ⟨m0, i * 3, none⟩ (.int .u8 0)).setCell ⟨m0, i * 3 + 1, none⟩ (.int .i64 mb)).setCell ⟨m0, i * 3 + 2, none⟩ (.string ⟨#[]⟩)) m0 27 3 (some ⟨m0, 0, none⟩, 64, 64) (((M.set (i * 3) (.int .u8 0)).set (i * 3 + 1) (.int .i64 mb)).set (i * 3 + 2) (.string ⟨#[]⟩))) := st1
                      have R2 := Lib.hid (HZn.out _ _ _ HMk.out)
                      have R3 : Hid (FK 27 base w (((w1.setCell ⟨m0, i * 3, none⟩ (.int .u8 0)).setCell ⟨m0, i * 3 + 1, none⟩ (.int .i64 mb)).setCell ⟨m0, i * 3 + 2, none⟩ (.string ⟨#[]⟩))) := (HF.out.step HG1.out HB.out).grown st2 HB.out (fun q hq => by
                        obtain rfl := Option.some.inj hq
                        exact ⟨Nat.le_trans HBB.out HM0.out, Or.inl (owns_tag ho1 m0 rfl)⟩)
                      have R4 : Hid (B4 ≤ (((w1.setCell ⟨m0, i * 3, none⟩ (.int .u8 0)).setCell ⟨m0, i * 3 + 1, none⟩ (.int .i64 mb)).setCell ⟨m0, i * 3 + 2, none⟩ (.string ⟨#[]⟩)).heap.size) := Nat.le_trans HBr.out (Nat.le_trans HG1.out.size st2.size)
                      clear KM HMk HZn st1 st2 hini ho1 hgw q0 q1 q2 q3 q4 q5 HFacts HG1
                      go_roundw
                      case rel => exact ⟨i + 1, _, _, by omega, by go_num, R0, R1, R2, R3, R4⟩
                      case measure => simp [intOf]; omega
                    · have hi64 : i = 64 := by omega
                      subst hi64
                      have hfull := marks_full mkXV_length HMr.out HM.out.1
                      subst hfull
                      obtain ⟨lb, lo, rfl, hcl⟩ := HCH.out _ HF.out
                      have HML := Lib.hid (marksR_length mkXV_length (k + hs.length) 64)
                      have HMC := Lib.hid (own_cells HM.out)
                      have HM1 := Lib.hid (marksXV_one (k + hs.length) 64)
                      have hown := HG.out.rows.own k hlt
                      simp only [List.getD, List.getElem?_eq_getElem hlt, Option.getD_some, HH.out] at hown
                      by_cases hfit : n + 64 ≤ c
                      · obtain ⟨gg, rfl⟩ := own_cap hown (by omega)
                        go_wp2_with (at_builtin; go_must (refine wpList_append_fits _ rfl (.tmp 148) (.tmp 149) 34 rfl base 27 i0 3 Tryz.underlying34 hi hz1 gg n c _ rfl hown ⟨m0, 0, none⟩ 64 64 (marksR mkXV (k + hs.length) 64) rfl HML.out (HMC.out _ rfl) HM1.out hfit ?_; intro w4 hown4 hgrow4; refine Hid.out ?_))
                        have hwh : (some (⟨gg, 0, none⟩ : Addr) = some ⟨gg, 0, none⟩ ∧ c = c) ∨ wr.heap.size ≤ gg := Or.inl ⟨rfl, rfl⟩
                        have HG4 := Lib.hid (HG.out.fits (w' := w4) (Br := m0) (gg := gg) (cg := c) (q := 64) hT hlt mkXV_length HM0.out HGB2.out (owns_tag hown gg rfl) (Or.inl ⟨by rw [HH.out], by rw [HH.out]⟩) hgrow4 (marksR mkXV (k + hs.length) 64) (by rw [HH.out]; exact hown4))
                        have HF4 : Hid (FK 27 base w w4) := HF.out.grown hgrow4 HB.out (fun q hq => by
                          obtain rfl := Option.some.inj hq
                          exact ⟨(hown.lt gg rfl).1, Or.inl (owns_tag hown gg rfl)⟩)
                        have HB4 : Hid (B4 ≤ w4.heap.size) := Nat.le_trans HBr.out hgrow4.size
                        have HPt := Lib.hid (HPut.out w4 (some ⟨gg, 0, none⟩, n + 64, c) HG4.out hown4 rfl (fun b hb => Or.inl hb))
                        have hcg := HG4.out.cellG k hlt hkg
                        have hfg := HG4.out.freeG k
                        have HF6 : Hid (FK 27 base w (w4.setCell ⟨gb, k, none⟩ (.slice (some ⟨gg, 0, none⟩) (n + 64) c))) := HF4.out.grown (Lib.grownBy_setCell w4 gb k _) HB.out (fun q hq => by
                          obtain rfl := Option.some.inj hq
                          exact ⟨HBb.out, Or.inr HGB.out⟩)
                        have HB6 : Hid (B4 ≤ (w4.setCell ⟨gb, k, none⟩ (.slice (some ⟨gg, 0, none⟩) (n + 64) c)).heap.size) := Nat.le_trans HB4.out (Nat.le_of_eq (by simp [World.setCell]))
                        generalize hv gs[k] = oldg at hcg
                        clear hown4 hgrow4 hown hwh HMC HM1 HML hcl
                        refine Lib.hid ?_
                        go_wp2_with fail
                        clear hcg hfg
                        go_roundw
                        case rel => exact ⟨k + 1, _, by omega, by go_num, HPt, HF6, HB6⟩
                        case measure => simp [intOf]; omega
                      · have HNn : Hid (a = none → n = 0 ∧ c = 0) := own_nil hown
                        have HCe := Lib.hid (own_cells hown)
                        have HLe := Lib.hid hown.1
                        clear hown
                        go_wp2_with (at_builtin; go_must (refine wpList_append_grows _ rfl (.tmp 148) (.tmp 149) 34 rfl 27 i0 (.agg #[.int .u8 0, .int .i64 0, .string ⟨#[]⟩]) 3 32 Tryz.underlying34 hi hz0 hz1 hz2 rfl (by decide) a n c (marksR mkXV k n) rfl HNn.out HLe.out HCe.out ⟨m0, 0, none⟩ 64 64 (marksR mkXV (k + hs.length) 64) rfl HML.out (HMC.out _ rfl) HM1.out (by omega) (by unfold maxLen; omega) (by omega) ?_; intro v' w4 hown4 hgrow4; obtain ⟨ag4, cg4, rfl⟩ := owns_slice hown4; refine Hid.out ?_))
                        have hb4 : Below wr.heap.size wr w4 := ⟨hgrow4.os, hgrow4.tape, hgrow4.output, hgrow4.size, fun q hq => hgrow4.block q hq (by simp)⟩
                        have hown4' : OwnH w4 base 27 3 (ag4, n + 64, cg4) (marksR mkXV k n ++ marksR mkXV (k + hs.length) 64) := owns_mono hown4 (Nat.le_trans HB.out HF.out.bel.size)
                        have HG4 := Lib.hid (HG.out.below hb4)
                        have HF4 : Hid (FK 27 base w w4) := HF.out.step hb4 HB.out
                        have HB4 : Hid (B4 ≤ w4.heap.size) := Nat.le_trans HBr.out hb4.size
                        have HPt := Lib.hid (HPut.out w4 (ag4, n + 64, cg4) HG4.out hown4' rfl (fun b hb => Or.inr (Nat.le_trans HBr.out (hown4.lt b hb).1)))
                        have hcg := HG4.out.cellG k hlt hkg
                        have hfg := HG4.out.freeG k
                        have HF6 : Hid (FK 27 base w (w4.setCell ⟨gb, k, none⟩ (.slice ag4 (n + 64) cg4))) := HF4.out.grown (Lib.grownBy_setCell w4 gb k _) HB.out (fun q hq => by
                          obtain rfl := Option.some.inj hq
                          exact ⟨HBb.out, Or.inr HGB.out⟩)
                        have HB6 : Hid (B4 ≤ (w4.setCell ⟨gb, k, none⟩ (.slice ag4 (n + 64) cg4)).heap.size) := Nat.le_trans HB4.out (Nat.le_of_eq (by simp [World.setCell]))
                        generalize hv gs[k] = oldg at hcg
                        clear hown4 hown4' hgrow4 hb4 HMC HM1 HML HNn HCe HLe hcl
                        refine Lib.hid ?_
                        go_wp2_with fail
                        clear hcg hfg
                        go_roundw
                        case rel => exact ⟨k + 1, _, by omega, by go_num, HPt, HF6, HB6⟩
                        case measure => simp [intOf]; omega
                · obtain rfl : k = hs.length := by omega
                  go_wp2_with fail
                  go_loopw [14] (fun ik wr => ∃ (k : Nat), k ≤ hs.length ∧ ik = .int .i64 k ∧ Hid (Grown wr base 27 3 34 gb B4 mkXV (fun j => marksR mkXV j (hs.getD j (none, 0, 0)).2.1 ++ marksR mkXV (j + hs.length) 64) hs gs hs.length) ∧ Hid (FK 27 base w wr)) (fun ik _ => hs.length - (intOf ik).toNat)
                  case atStart => exact ⟨0, by omega, rfl, HG, HF⟩
                  case round =>
                    as_aux_lemma =>
                    clear HG HF HBr
                    obtain ⟨k, hk, rfl, HG, HF⟩ := hrel
                    by_cases hlt : k < hs.length
                    · have HLk : Hid (∀ wa, FK 27 base w wa → ∃ lb lo, al = some ⟨lb, lo, none⟩ ∧ wa.cell? ⟨lb, lo + k, none⟩ = some (hv hs[k])) := fun wa hf => by
                        obtain ⟨lb, lo, e, hcl⟩ := (HL.out.fk hf hT).cell (by omega)
                        exact ⟨lb, lo, e, hcl k hlt⟩
                      have hkg : k < gs.length := by rw [HG.out.len]; exact hlt
                      have hgn := (HG.out.gown k hlt hlt hkg).2
                      obtain ⟨⟨a, n, c⟩, hh⟩ : ∃ h, hs[k] = h := ⟨_, rfl⟩
                      obtain ⟨⟨ag, m, cg⟩, hg⟩ : ∃ h, gs[k] = h := ⟨_, rfl⟩
                      have hnk := HN.out _ (List.getElem_mem hlt)
                      rw [hh] at hgn hnk
                      rw [hg] at hgn
                      simp only at hgn hnk
                      subst hgn
                      have HH := Lib.hid hh
                      have HGG := Lib.hid hg
                      have HCG : Hid (∀ wa, Grown wa base 27 3 34 gb B4 mkXV (fun j => marksR mkXV j (hs.getD j (none, 0, 0)).2.1 ++ marksR mkXV (j + hs.length) 64) hs gs hs.length → wa.cell? ⟨gb, k, none⟩ = some (.slice ag (n + 64) cg)) := fun wa h => by
                        have := h.cellG k hlt hkg
                        rw [HGG.out] at this
                        exact this
                      have HCH : Hid (∀ wa, FK 27 base w wa → ∃ lb lo, al = some ⟨lb, lo, none⟩ ∧ wa.cell? ⟨lb, lo + k, none⟩ = some (.slice a n c)) := fun wa hf => by
                        have := HLk.out wa hf
                        rw [HH.out] at this
                        exact this
                      have hkl : (k : Int) < (hs.length : Int) := by omega
                      clear hh hg HLk
                      go_wp2_with fail
                      go_loopw [15] (fun ii wr => ∃ (i : Nat), i ≤ n ∧ ii = .int .i64 i ∧ Hid (Grown wr base 27 3 34 gb B4 mkXV (fun j => marksR mkXV j (hs.getD j (none, 0, 0)).2.1 ++ marksR mkXV (j + hs.length) 64) hs gs hs.length) ∧ Hid (FK 27 base w wr)) (fun ii _ => n - (intOf ii).toNat)
                      case atStart => exact ⟨0, by omega, rfl, HG, HF⟩
                      case round =>
                        as_aux_lemma =>
                        clear HG HF
                        obtain ⟨i, hi2, rfl, HG, HF⟩ := hrel
                        obtain ⟨lb, lo, rfl, hcl⟩ := HCH.out _ HF.out
                        by_cases hin : i < n
                        · have hcg := HCG.out _ HG.out
                          have KM := Lib.hid (fun W => markValue_big (k : Int) (i : Int) (by omega) (by omega) (by omega) (by omega) W)
                          have hm0 : (mkXV k i)[0]? = some (.int .u8 0) := rfl
                          have hm1 : (mkXV k i)[1]? = some (.int .i64 (mkI (k : Int) (i : Int))) := rfl
                          have hm2 : (mkXV k i)[2]? = some (.string ⟨#[]⟩) := rfl
                          have hY : ∀ r u, r < 3 → (mkXV k i)[r]? = some u → (marksR mkXV k (hs.getD k (none, 0, 0)).2.1 ++ marksR mkXV (k + hs.length) 64)[i * 3 + r]? = some u := fun r u hr hu => by
                            have e1 := HH.out
                            simp only [List.getD, List.getElem?_eq_getElem hlt, Option.getD_some, e1]
                            rw [List.getElem?_append_left (by rw [marksR_length mkXV_length]; omega)]
                            exact (marksR_get mkXV_length k n i r hin hr).trans hu
                          obtain ⟨bg0, hag0, hg0⟩ := HG.out.atG k hlt hlt hkg HGG.out (by omega) (i * 3 + 0) (.int .u8 0) (hY 0 _ (by omega) hm0)
                          obtain ⟨bg1, hag1, hg1⟩ := HG.out.atG k hlt hlt hkg HGG.out (by omega) (i * 3 + 1) (.int .i64 (mkI (k : Int) (i : Int))) (hY 1 _ (by omega) hm1)
                          obtain ⟨bg2, hag2, hg2⟩ := HG.out.atG k hlt hlt hkg HGG.out (by omega) (i * 3 + 2) (.string ⟨#[]⟩) (hY 2 _ (by omega) hm2)
                          rw [hag0] at hag1
                          obtain rfl : bg0 = bg1 := by simpa using hag1
                          rw [hag0] at hag2
                          obtain rfl : bg0 = bg2 := by simpa using hag2
                          subst hag0
                          rw [Nat.add_zero] at hg0
                          have z1 := cellG (cell_lt hcg) hcg
                          have z4 := cellG (cell_lt hcl) hcl
                          have zg0 := cellG (cell_lt hg0) hg0
                          have zg1 := cellG (cell_lt hg1) hg1
                          have zg2 := cellG (cell_lt hg2) hg2
                          obtain ⟨ba0, haa0, ha0⟩ := HG.out.atH mkXV_length k hlt HH.out i 0 hin (by omega) _ hm0
                          obtain ⟨ba1, haa1, ha1⟩ := HG.out.atH mkXV_length k hlt HH.out i 1 hin (by omega) _ hm1
                          obtain ⟨ba2, haa2, ha2⟩ := HG.out.atH mkXV_length k hlt HH.out i 2 hin (by omega) _ hm2
                          rw [haa0] at haa1
                          obtain rfl : ba0 = ba1 := by simpa using haa1
                          rw [haa0] at haa2
                          obtain rfl : ba0 = ba2 := by simpa using haa2
                          subst haa0
                          rw [Nat.add_zero] at ha0
                          have za0 := cellG (cell_lt ha0) ha0
                          have za1 := cellG (cell_lt ha1) ha1
                          have za2 := cellG (cell_lt ha2) ha2
                          have hii : (i : Int) < (n : Int) := by omega
                          have hii2 : (i : Int) < (n : Int) + 64 := by omega
                          clear hm0 hm1 hm2 hY hag1 hag2 haa1 haa2
                          generalize mkI (k : Int) (i : Int) = mb at KM hg1 zg1 ha1 za1
                          have heq := fun W => eqV 0 mb 0 mb ⟨#[]⟩ ⟨#[]⟩ W
                          rw [(eqvB_iff (0, mb, ⟨#[]⟩) (0, mb, ⟨#[]⟩)).2 rfl] at heq
                          as_aux_lemma =>
                          go_wp2_with fail
                          as_aux_lemma =>
                          refine wp_region_quiet_grown (by assumption) (by kernel_rfl) ?_
                          repeat (go_big_quiet_step (first
                            | (go_at_call 25; go_must (exact Calls.grown_of ((KM.out _).mono fun _ _ h => ⟨h.1, h.2.out⟩)))))
                          refine wpQuiet_nil ?_
                          intro _ hw'
                          obtain ⟨⟨nq, osq⟩, hw''⟩ := hw'
                          subst hw''
                          as_aux_lemma =>
                          go_wp2
                          have hgb : Below wr.heap.size wr (Sort.grow (wr.drewN nq) osq) := Gr.below ⟨nq, osq, rfl⟩
                          have HG4 := Lib.hid (HG.out.below hgb)
                          have HF4 := Lib.hid (HF.out.step hgb HB.out)
                          clear KM heq hg0 zg0 hg1 zg1 hg2 zg2 ha0 za0 ha1 za1 ha2 za2 hcl hcg hii hii2 z1 z4 hgb
                          go_roundw
                          case rel => exact ⟨i + 1, by omega, by go_num, HG4, HF4⟩
                          case measure => simp [intOf]; omega
                        · obtain rfl : i = n := by omega
                          go_wp2_with fail
                          clear hcl
                          go_roundw
                          case rel => exact ⟨k + 1, by omega, by go_num, HG, HF⟩
                          case measure => simp [intOf]; omega
                    · obtain rfl : k = hs.length := by omega
                      go_wp2_with fail
                      go_ret
                      exact ⟨rfl, HF.out⟩
end Go.Proofs.YtnnhgbncghpecaaGreat
