/- awake is true. -/
import Derived.Test.YtnnhgbncghpecaaGreatAwakeB10
namespace Go.Proofs.YtnnhgbncghpecaaGreat
open Go.RowKit

theorem num_gr (x : Int) (w : World) : Calls Tryz.prog 21 #[.int .i64 x] w fun e w' => e = .returned (.agg #[.int .u8 1, .int .i64 x, .string ⟨#[]⟩]) ∧ Gr w w' := by
  go_enter Tryz.func21, Tryz.ntmps21
  go_wp2_with fail
  exact bodyPost_ret (v := .agg #[.int .u8 1, .int .i64 x, .string ⟨#[]⟩]) (by simp [results, Tryz.results21, go_sem]) rfl ⟨rfl, (Gr.refl w).alloc _⟩
theorem heap_drew10 (W : World) : W.drew.heap.size = W.heap.size := rfl
theorem heap_alloc10 (W : World) (o : Obj) : (W.alloc o).heap.size = W.heap.size + 1 := by simp
set_option maxRecDepth 100000 in
set_option maxHeartbeats 4000000 in
theorem awake_any (w : World) : Calls Tryz.prog 6 #[] w fun e w' => e = .returned (.bool true) ∧ Below w.heap.size w w' := by
  have mixed : Tryz.prog.follows .mixedOrders = true := by kernel_rfl
  go_enter Tryz.func6, Tryz.ntmps6
  go_upto_region 2 with (go_at_call 21; refine (num_any _ _).mono ?_; rintro e w1 ⟨rfl, hb⟩; have HB0 := Lib.hid hb; clear hb)
  obtain ⟨wb, hwb⟩ : ∃ wb, wb = (w1.alloc (.cells (cellsA egArgs).toArray 64)).alloc (.cells (cellsEg w1.heap.size) 33) := ⟨_, rfl⟩
  have hE : Eg egArgs w1.heap.size (w1.heap.size + 1) wb := by
    obtain ⟨q1, q2⟩ := heap_two (w := w1) (.cells (cellsA egArgs).toArray 64) (.cells (cellsEg w1.heap.size) 33)
    rw [hwb]
    exact ⟨q1, q2⟩
  have HE := Lib.hid hE
  have HBb : Hid (Below w.heap.size w wb) := by
    rw [hwb]
    exact below_new (below_new HB0.out _) _
  show Code.wp _ _ _ _ ((w1.alloc (.cells (cellsA egArgs).toArray 64)).alloc (.cells (cellsEg w1.heap.size) 33))
  have HAb : Hid (w.heap.size ≤ w1.heap.size) := HB0.out.size
  rw [← hwb]
  clear hwb hE HB0
  generalize w1.heap.size + 1 = cb at *
  generalize w1.heap.size = ab at *
  go_cut [2, 3] (fun s2 s3 wx => ∃ g, s2 = .pointer (some ⟨g, 0, none⟩) ∧ s3 = .bool true ∧ Hid (∃ h1 c1 h2 c2, wx.heap[g]? = some (.cells #[.slice h1 1 c1, .slice h2 1 c2] 44 (0, 0)) ∧ Own10 wb.heap.size wx ([true], [numT 2]) (.slice h1 1 c1) (.slice h2 1 c2)) ∧ Hid (Below wb.heap.size wb wx))
  case first =>
    have HBc := Lib.hid (below_drew (Below.refl wb.heap.size wb))
    go_region_held3 (fun W' => W'.cell? ⟨cb, 0, none⟩ = some (.int .u8 1) ∧ W'.cell? ⟨cb, 1, none⟩ = some (.int .i64 1) ∧ W'.cell? ⟨cb, 2, none⟩ = some (.slice (some ⟨ab, 0, none⟩) 4 4) ∧ W'.cell? ⟨cb, 3, none⟩ = some (.int .u8 0) ∧ W'.cell? ⟨cb, 4, none⟩ = some (.int .u8 0) ∧ W'.cell? ⟨cb, 5, none⟩ = some (.int .i64 0) ∧ W'.cell? ⟨cb, 6, none⟩ = some (.string ⟨#[]⟩) ∧ W'.cell? ⟨cb, 7, none⟩ = some (.int .i64 0) ∧ W'.cell? ⟨cb, 8, none⟩ = some (.int .u8 0) ∧ W'.cell? ⟨cb, 9, none⟩ = some (.slice none 0 0) ∧ Below wb.heap.size wb W')
      (first
      | (have hbx := hb; (try go_split_ands); exact keepS HE.out (Below.trans (by assumption) (Below.mono hbx (Below.size (by assumption)))))
      | exact keepS HE.out (below_drew (Below.refl _ _))
      | ((try go_split_ands); exact keepS HE.out (below_new (by assumption) _))
      | exact keepS HE.out (below_new HBc.out _)
      | exact keepS HE.out (Below.setCell (Below.setCell HBc.out (by first | exact HQG.out | exact Nat.le_succ_of_le HQG.out) _) (by first | exact HQG.out | exact Nat.le_succ_of_le HQG.out) _))
      ((first
        | (go_at_call 21; refine (num_any _ _).mono ?_; rintro e wv ⟨rfl, hb⟩; (first | (replace HQ := Lib.hid ((hb.block _ (lt_of_heap HQ.out)).trans HQ.out)) | (replace HQ := Lib.hid ((hb.block _ (lt_of_heap (alloc_keep HQ.out _))).trans (alloc_keep HQ.out _))) | (have HQ := Lib.hid ((hb.block _ (by simp)).trans (alloc_at rfl (.cells #[.slice none 0 0, .slice none 0 0] 44))); have HQG := Lib.hid HBc.out.size) | (have HQ := Lib.hid ((hb.block _ (by simp; omega)).trans (alloc_keep (alloc_at rfl (.cells #[.slice none 0 0, .slice none 0 0] 44)) _)); have HQG := Lib.hid HBc.out.size) | (have HQ := Lib.hid ((hb.block _ (by simp)).trans (alloc_at (by simp) (.cells #[.slice none 0 0, .slice none 0 0] 44))); have HQG := Lib.hid (Nat.le_succ_of_le HBc.out.size)) | skip); (try (simp only [heap_drew10] at HQ)); (try (simp only [heap_alloc10] at HQ)); (first | (replace HBc := Lib.hid (HBc.out.trans (hb.mono HBc.out.size))) | (replace HBc := Lib.hid ((below_new HBc.out _).trans (hb.mono (below_new HBc.out _).size))) | (replace HBc := Lib.hid ((below_new (below_new HBc.out _) _).trans (hb.mono (below_new (below_new HBc.out _) _).size)))))
        | (go_at_call 19; refine (new_any 1 (by decide) _).mono ?_; rintro e wn ⟨n1, d1, n2, d2, rfl, hO, hb⟩; (first | (replace HQ := Lib.hid ((hb.block _ (lt_of_heap HQ.out)).trans HQ.out)) | (replace HQ := Lib.hid ((hb.block _ (lt_of_heap (alloc_keep HQ.out _))).trans (alloc_keep HQ.out _))) | (have HQ := Lib.hid ((hb.block _ (by simp)).trans (alloc_at rfl (.cells #[.slice none 0 0, .slice none 0 0] 44))); have HQG := Lib.hid HBc.out.size) | (have HQ := Lib.hid ((hb.block _ (by simp; omega)).trans (alloc_keep (alloc_at rfl (.cells #[.slice none 0 0, .slice none 0 0] 44)) _)); have HQG := Lib.hid HBc.out.size) | (have HQ := Lib.hid ((hb.block _ (by simp)).trans (alloc_at (by simp) (.cells #[.slice none 0 0, .slice none 0 0] 44))); have HQG := Lib.hid (Nat.le_succ_of_le HBc.out.size)) | skip); (try (simp only [heap_drew10] at HQ)); (try (simp only [heap_alloc10] at HQ)); (first | (replace HS := Lib.hid ((hb.block _ (lt_of_heap HS.out)).trans HS.out)) | (replace HS := Lib.hid ((hb.block _ (lt_of_heap (alloc_keep HS.out _))).trans (alloc_keep HS.out _))) | (have HS := Lib.hid ((hb.block _ (by simp)).trans (alloc_at rfl (rowE 1 2 2 5)))) | (have HS := Lib.hid ((hb.block _ (by simp; omega)).trans (alloc_keep (alloc_at rfl (rowE 1 2 2 5)) _))) | (have HS := Lib.hid ((hb.block _ (by simp)).trans (alloc_at (by simp) (rowE 1 2 2 5)))) | skip); (try (simp only [heap_drew10] at HS)); (try (simp only [heap_alloc10] at HS)); (first | (replace HBc := Lib.hid (HBc.out.trans (hb.mono HBc.out.size))) | (replace HBc := Lib.hid ((below_new HBc.out _).trans (hb.mono (below_new HBc.out _).size))) | (replace HBc := Lib.hid ((below_new (below_new HBc.out _) _).trans (hb.mono (below_new (below_new HBc.out _) _).size)))); have HO := Lib.hid hO)
        | (go_at_call 10; (try go_split_ands); refine (eg_match_yes _ _ _ (HE.out.old (by assumption)) _ (by first | exact HS.out | exact alloc_at (by simp) _ | exact alloc_keep (alloc_at (by simp) _) _ | exact alloc_keep HS.out _) _ _ _ _ _ (by first | exact HO.out | exact HO.out.old (below_own _) | exact (HO.out.old (below_own _)).old (below_own _))).mono ?_; rintro e wm ⟨m1, k1, m2, k2, rfl, hOm, hb⟩; have HOm : Hid (Own10 wb.heap.size wm _ _ _) := ⟨owns_mono hOm.has (Below.size (by assumption)), owns_mono hOm.vals (Below.size (by assumption))⟩; (first | (replace HQ := Lib.hid ((hb.block _ (lt_of_heap HQ.out)).trans HQ.out)) | (replace HQ := Lib.hid ((hb.block _ (lt_of_heap (alloc_keep HQ.out _))).trans (alloc_keep HQ.out _))) | (have HQ := Lib.hid ((hb.block _ (by simp)).trans (alloc_at rfl (.cells #[.slice none 0 0, .slice none 0 0] 44))); have HQG := Lib.hid HBc.out.size) | (have HQ := Lib.hid ((hb.block _ (by simp; omega)).trans (alloc_keep (alloc_at rfl (.cells #[.slice none 0 0, .slice none 0 0] 44)) _)); have HQG := Lib.hid HBc.out.size) | (have HQ := Lib.hid ((hb.block _ (by simp)).trans (alloc_at (by simp) (.cells #[.slice none 0 0, .slice none 0 0] 44))); have HQG := Lib.hid (Nat.le_succ_of_le HBc.out.size)) | skip); (try (simp only [heap_drew10] at HQ)); (try (simp only [heap_alloc10] at HQ)); (first | (replace HBc := Lib.hid (HBc.out.trans (hb.mono HBc.out.size))) | (replace HBc := Lib.hid ((below_new HBc.out _).trans (hb.mono (below_new HBc.out _).size))) | (replace HBc := Lib.hid ((below_new (below_new HBc.out _) _).trans (hb.mono (below_new (below_new HBc.out _) _).size)))); (try (have q0 := Lib.cell_of_heap HQ.out 0; have q1 := Lib.cell_of_heap HQ.out 1; have qf := fun j => Lib.frozen_of_heap HQ.out j)))
        ))
    all_goals (go_wp2_with fail; go_meet)
    all_goals first
      | exact ⟨_, rfl, rfl, ⟨_, _, _, _, alloc_at rfl _, HOm.out.old (below_own _)⟩, below_new HBc.out _⟩
      | exact ⟨_, rfl, rfl, ⟨_, _, _, _, (two_set _ _ HQ.out rfl).1, HOm.out.far (two_set _ _ HQ.out rfl).2 HQ.out (by decide) (by decide)⟩, HBc.out.grown (two_set _ _ HQ.out rfl).2 HBc.out.size (fun k hk => by obtain rfl := Option.some.inj hk; first | exact HQG.out | exact Nat.le_succ_of_le HQG.out)⟩
  case rest =>
    obtain ⟨g, rfl, rfl, HR, HB⟩ := hcut
    have HEc := Lib.hid (HE.out.old HB.out)
    have HBt := Lib.hid (HBb.out.trans (HB.out.mono HBb.out.size))
    clear HE HB HBb
    have HE := HEc
    clear HEc
    generalize wc = w2 at *
    go_upto_region 3 with fail
    go_cut [5] (fun s5 wx => s5 = .bool false ∧ Hid (Below w2.heap.size w2 wx))
    case first =>
      have HBc := Lib.hid (below_drew (Below.refl w2.heap.size w2))
      go_region_held3 (fun W' => W'.cell? ⟨cb, 0, none⟩ = some (.int .u8 1) ∧ W'.cell? ⟨cb, 1, none⟩ = some (.int .i64 1) ∧ W'.cell? ⟨cb, 2, none⟩ = some (.slice (some ⟨ab, 0, none⟩) 4 4) ∧ W'.cell? ⟨cb, 3, none⟩ = some (.int .u8 0) ∧ W'.cell? ⟨cb, 4, none⟩ = some (.int .u8 0) ∧ W'.cell? ⟨cb, 5, none⟩ = some (.int .i64 0) ∧ W'.cell? ⟨cb, 6, none⟩ = some (.string ⟨#[]⟩) ∧ W'.cell? ⟨cb, 7, none⟩ = some (.int .i64 0) ∧ W'.cell? ⟨cb, 8, none⟩ = some (.int .u8 0) ∧ W'.cell? ⟨cb, 9, none⟩ = some (.slice none 0 0) ∧ Below w2.heap.size w2 W')
        (first
        | (have hbx := hb; (try go_split_ands); exact keepS HE.out (Below.trans (by assumption) (Below.mono hbx (Below.size (by assumption)))))
        | exact keepS HE.out (below_drew (Below.refl _ _))
        | ((try go_split_ands); exact keepS HE.out (below_new (by assumption) _))
        | exact keepS HE.out (below_new HBc.out _)
        | exact keepS HE.out (Below.setCell (Below.setCell HBc.out (by first | exact HQG.out | exact Nat.le_succ_of_le HQG.out) _) (by first | exact HQG.out | exact Nat.le_succ_of_le HQG.out) _))
        ((first
          | (go_at_call 21; refine (num_any _ _).mono ?_; rintro e wv ⟨rfl, hb⟩; (first | (replace HQ := Lib.hid ((hb.block _ (lt_of_heap HQ.out)).trans HQ.out)) | (replace HQ := Lib.hid ((hb.block _ (lt_of_heap (alloc_keep HQ.out _))).trans (alloc_keep HQ.out _))) | (have HQ := Lib.hid ((hb.block _ (by simp)).trans (alloc_at rfl (.cells #[.slice none 0 0, .slice none 0 0] 44))); have HQG := Lib.hid HBc.out.size) | (have HQ := Lib.hid ((hb.block _ (by simp; omega)).trans (alloc_keep (alloc_at rfl (.cells #[.slice none 0 0, .slice none 0 0] 44)) _)); have HQG := Lib.hid HBc.out.size) | (have HQ := Lib.hid ((hb.block _ (by simp)).trans (alloc_at (by simp) (.cells #[.slice none 0 0, .slice none 0 0] 44))); have HQG := Lib.hid (Nat.le_succ_of_le HBc.out.size)) | skip); (try (simp only [heap_drew10] at HQ)); (try (simp only [heap_alloc10] at HQ)); (first | (replace HBc := Lib.hid (HBc.out.trans (hb.mono HBc.out.size))) | (replace HBc := Lib.hid ((below_new HBc.out _).trans (hb.mono (below_new HBc.out _).size))) | (replace HBc := Lib.hid ((below_new (below_new HBc.out _) _).trans (hb.mono (below_new (below_new HBc.out _) _).size)))))
          | (go_at_call 19; refine (new_any 1 (by decide) _).mono ?_; rintro e wn ⟨n1, d1, n2, d2, rfl, hO, hb⟩; (first | (replace HQ := Lib.hid ((hb.block _ (lt_of_heap HQ.out)).trans HQ.out)) | (replace HQ := Lib.hid ((hb.block _ (lt_of_heap (alloc_keep HQ.out _))).trans (alloc_keep HQ.out _))) | (have HQ := Lib.hid ((hb.block _ (by simp)).trans (alloc_at rfl (.cells #[.slice none 0 0, .slice none 0 0] 44))); have HQG := Lib.hid HBc.out.size) | (have HQ := Lib.hid ((hb.block _ (by simp; omega)).trans (alloc_keep (alloc_at rfl (.cells #[.slice none 0 0, .slice none 0 0] 44)) _)); have HQG := Lib.hid HBc.out.size) | (have HQ := Lib.hid ((hb.block _ (by simp)).trans (alloc_at (by simp) (.cells #[.slice none 0 0, .slice none 0 0] 44))); have HQG := Lib.hid (Nat.le_succ_of_le HBc.out.size)) | skip); (try (simp only [heap_drew10] at HQ)); (try (simp only [heap_alloc10] at HQ)); (first | (replace HS := Lib.hid ((hb.block _ (lt_of_heap HS.out)).trans HS.out)) | (replace HS := Lib.hid ((hb.block _ (lt_of_heap (alloc_keep HS.out _))).trans (alloc_keep HS.out _))) | (have HS := Lib.hid ((hb.block _ (by simp)).trans (alloc_at rfl (rowE 1 2 3 5)))) | (have HS := Lib.hid ((hb.block _ (by simp; omega)).trans (alloc_keep (alloc_at rfl (rowE 1 2 3 5)) _))) | (have HS := Lib.hid ((hb.block _ (by simp)).trans (alloc_at (by simp) (rowE 1 2 3 5)))) | skip); (try (simp only [heap_drew10] at HS)); (try (simp only [heap_alloc10] at HS)); (first | (replace HBc := Lib.hid (HBc.out.trans (hb.mono HBc.out.size))) | (replace HBc := Lib.hid ((below_new HBc.out _).trans (hb.mono (below_new HBc.out _).size))) | (replace HBc := Lib.hid ((below_new (below_new HBc.out _) _).trans (hb.mono (below_new (below_new HBc.out _) _).size)))); have HO := Lib.hid hO)
          | (go_at_call 10; (try go_split_ands); refine (eg_match_no _ _ _ (HE.out.old (by assumption)) _ (by first | exact HS.out | exact alloc_at (by simp) _ | exact alloc_keep (alloc_at (by simp) _) _ | exact alloc_keep HS.out _) _ _ _ _ _ (by first | exact HO.out | exact HO.out.old (below_own _) | exact (HO.out.old (below_own _)).old (below_own _))).mono ?_; rintro e wm ⟨rfl, hb⟩; (first | (replace HQ := Lib.hid ((hb.block _ (lt_of_heap HQ.out)).trans HQ.out)) | (replace HQ := Lib.hid ((hb.block _ (lt_of_heap (alloc_keep HQ.out _))).trans (alloc_keep HQ.out _))) | (have HQ := Lib.hid ((hb.block _ (by simp)).trans (alloc_at rfl (.cells #[.slice none 0 0, .slice none 0 0] 44))); have HQG := Lib.hid HBc.out.size) | (have HQ := Lib.hid ((hb.block _ (by simp; omega)).trans (alloc_keep (alloc_at rfl (.cells #[.slice none 0 0, .slice none 0 0] 44)) _)); have HQG := Lib.hid HBc.out.size) | (have HQ := Lib.hid ((hb.block _ (by simp)).trans (alloc_at (by simp) (.cells #[.slice none 0 0, .slice none 0 0] 44))); have HQG := Lib.hid (Nat.le_succ_of_le HBc.out.size)) | skip); (try (simp only [heap_drew10] at HQ)); (try (simp only [heap_alloc10] at HQ)); (first | (replace HBc := Lib.hid (HBc.out.trans (hb.mono HBc.out.size))) | (replace HBc := Lib.hid ((below_new HBc.out _).trans (hb.mono (below_new HBc.out _).size))) | (replace HBc := Lib.hid ((below_new (below_new HBc.out _) _).trans (hb.mono (below_new (below_new HBc.out _) _).size)))); (try (have q0 := Lib.cell_of_heap HQ.out 0; have q1 := Lib.cell_of_heap HQ.out 1; have qf := fun j => Lib.frozen_of_heap HQ.out j)))
          ))
      all_goals (go_wp2_with fail; go_meet)
      all_goals first
        | exact ⟨rfl, below_new HBc.out _⟩
        | exact ⟨rfl, HBc.out.grown (two_set _ _ HQ.out rfl).2 HBc.out.size (fun k hk => by obtain rfl := Option.some.inj hk; first | exact HQG.out | exact Nat.le_succ_of_le HQG.out)⟩
    case rest =>
      obtain ⟨rfl, HB2⟩ := hcut
      generalize wc = w3 at *
      have hE2 := HE.out.old HB2.out
      have HBt2 := Lib.hid (HBt.out.trans (HB2.out.mono HBt.out.size))
      have HR2 : Hid (∃ h1 c1 h2 c2 base, w3.heap[g]? = some (.cells #[.slice h1 1 c1, .slice h2 1 c2] 44 (0, 0)) ∧ Own10 base w3 ([true], [numT 2]) (.slice h1 1 c1) (.slice h2 1 c2)) := by
        obtain ⟨h1, c1, h2, c2, q1, q2⟩ := HR.out
        exact ⟨h1, c1, h2, c2, _, (HB2.out.block g (lt_of_heap q1)).trans q1, q2.old HB2.out⟩
      have HE3 := Lib.hid hE2
      have HRr := Lib.hid HR2
      clear HE HB2 HBt HR HR2 hE2
      have x0 := Lib.cell_of_heap HE3.out.cond 2
      have ha := HE3.out.args
      have x1 : w3.cell? ⟨ab, 11, none⟩ = some (.int .i64 0) := Lib.cell_of_heap ha 11
      have z1 := fun j => Lib.frozen_of_heap ha j
      have nac : ab ≠ cb := ne_block ha HE3.out.cond (by decide)
      have HArg := Lib.hid ha
      clear ha
      go_upto_region 5 with fail
      have HE5 : Hid (Eg egArgs1 ab cb (w3.setCell ⟨ab, 11, none⟩ (.int .i64 1))) := ⟨heap_setCell_same w3 ab 11 _ _ _ HArg.out, (heap_setCell_other w3 ⟨ab, 11, none⟩ cb _ (by simpa using nac.symm)).trans HE3.out.cond⟩
      have HB5 : Hid (Below w.heap.size w (w3.setCell ⟨ab, 11, none⟩ (.int .i64 1))) := HBt2.out.setCell HAb.out _
      have HR5 : Hid (∃ h1 c1 h2 c2 base, (w3.setCell ⟨ab, 11, none⟩ (.int .i64 1)).heap[g]? = some (.cells #[.slice h1 1 c1, .slice h2 1 c2] 44 (0, 0)) ∧ Own10 base (w3.setCell ⟨ab, 11, none⟩ (.int .i64 1)) ([true], [numT 2]) (.slice h1 1 c1) (.slice h2 1 c2)) := by
        obtain ⟨h1, c1, h2, c2, base, q1, q2⟩ := HRr.out
        have hne : g ≠ ab := ne_block q1 HArg.out (by decide)
        exact ⟨h1, c1, h2, c2, base, (heap_setCell_other w3 ⟨ab, 11, none⟩ g _ (by simpa using hne)).trans q1, q2.far (Lib.grownBy_setCell w3 ab 11 _) HArg.out (by decide) (by decide)⟩
      clear HE3 HBt2 HRr x0 x1 z1 HArg
      generalize w3.setCell ⟨ab, 11, none⟩ (.int .i64 1) = w4 at *
      have HE := HE5
      clear HE5
      go_cut [7] (fun s7 wx => s7 = .bool false ∧ Hid (Below w4.heap.size w4 wx))
      case first =>
        have HBc := Lib.hid (below_drew (Below.refl w4.heap.size w4))
        go_region_held3 (fun W' => W'.cell? ⟨cb, 0, none⟩ = some (.int .u8 1) ∧ W'.cell? ⟨cb, 1, none⟩ = some (.int .i64 1) ∧ W'.cell? ⟨cb, 2, none⟩ = some (.slice (some ⟨ab, 0, none⟩) 4 4) ∧ W'.cell? ⟨cb, 3, none⟩ = some (.int .u8 0) ∧ W'.cell? ⟨cb, 4, none⟩ = some (.int .u8 0) ∧ W'.cell? ⟨cb, 5, none⟩ = some (.int .i64 0) ∧ W'.cell? ⟨cb, 6, none⟩ = some (.string ⟨#[]⟩) ∧ W'.cell? ⟨cb, 7, none⟩ = some (.int .i64 0) ∧ W'.cell? ⟨cb, 8, none⟩ = some (.int .u8 0) ∧ W'.cell? ⟨cb, 9, none⟩ = some (.slice none 0 0) ∧ Below w4.heap.size w4 W')
          (first
          | (have hbx := hb; (try go_split_ands); exact keepS HE.out (Below.trans (by assumption) (Below.mono hbx (Below.size (by assumption)))))
          | exact keepS HE.out (below_drew (Below.refl _ _))
          | ((try go_split_ands); exact keepS HE.out (below_new (by assumption) _))
          | exact keepS HE.out (below_new HBc.out _)
          | exact keepS HE.out (Below.setCell (Below.setCell HBc.out (by first | exact HQG.out | exact Nat.le_succ_of_le HQG.out) _) (by first | exact HQG.out | exact Nat.le_succ_of_le HQG.out) _))
          ((first
            | (go_at_call 21; refine (num_any _ _).mono ?_; rintro e wv ⟨rfl, hb⟩; (first | (replace HQ := Lib.hid ((hb.block _ (lt_of_heap HQ.out)).trans HQ.out)) | (replace HQ := Lib.hid ((hb.block _ (lt_of_heap (alloc_keep HQ.out _))).trans (alloc_keep HQ.out _))) | (have HQ := Lib.hid ((hb.block _ (by simp)).trans (alloc_at rfl (.cells #[.slice none 0 0, .slice none 0 0] 44))); have HQG := Lib.hid HBc.out.size) | (have HQ := Lib.hid ((hb.block _ (by simp; omega)).trans (alloc_keep (alloc_at rfl (.cells #[.slice none 0 0, .slice none 0 0] 44)) _)); have HQG := Lib.hid HBc.out.size) | (have HQ := Lib.hid ((hb.block _ (by simp)).trans (alloc_at (by simp) (.cells #[.slice none 0 0, .slice none 0 0] 44))); have HQG := Lib.hid (Nat.le_succ_of_le HBc.out.size)) | skip); (try (simp only [heap_drew10] at HQ)); (try (simp only [heap_alloc10] at HQ)); (first | (replace HBc := Lib.hid (HBc.out.trans (hb.mono HBc.out.size))) | (replace HBc := Lib.hid ((below_new HBc.out _).trans (hb.mono (below_new HBc.out _).size))) | (replace HBc := Lib.hid ((below_new (below_new HBc.out _) _).trans (hb.mono (below_new (below_new HBc.out _) _).size)))))
            | (go_at_call 19; refine (new_any 1 (by decide) _).mono ?_; rintro e wn ⟨n1, d1, n2, d2, rfl, hO, hb⟩; (first | (replace HQ := Lib.hid ((hb.block _ (lt_of_heap HQ.out)).trans HQ.out)) | (replace HQ := Lib.hid ((hb.block _ (lt_of_heap (alloc_keep HQ.out _))).trans (alloc_keep HQ.out _))) | (have HQ := Lib.hid ((hb.block _ (by simp)).trans (alloc_at rfl (.cells #[.slice none 0 0, .slice none 0 0] 44))); have HQG := Lib.hid HBc.out.size) | (have HQ := Lib.hid ((hb.block _ (by simp; omega)).trans (alloc_keep (alloc_at rfl (.cells #[.slice none 0 0, .slice none 0 0] 44)) _)); have HQG := Lib.hid HBc.out.size) | (have HQ := Lib.hid ((hb.block _ (by simp)).trans (alloc_at (by simp) (.cells #[.slice none 0 0, .slice none 0 0] 44))); have HQG := Lib.hid (Nat.le_succ_of_le HBc.out.size)) | skip); (try (simp only [heap_drew10] at HQ)); (try (simp only [heap_alloc10] at HQ)); (first | (replace HS := Lib.hid ((hb.block _ (lt_of_heap HS.out)).trans HS.out)) | (replace HS := Lib.hid ((hb.block _ (lt_of_heap (alloc_keep HS.out _))).trans (alloc_keep HS.out _))) | (have HS := Lib.hid ((hb.block _ (by simp)).trans (alloc_at rfl (rowE 1 2 2 5)))) | (have HS := Lib.hid ((hb.block _ (by simp; omega)).trans (alloc_keep (alloc_at rfl (rowE 1 2 2 5)) _))) | (have HS := Lib.hid ((hb.block _ (by simp)).trans (alloc_at (by simp) (rowE 1 2 2 5)))) | skip); (try (simp only [heap_drew10] at HS)); (try (simp only [heap_alloc10] at HS)); (first | (replace HBc := Lib.hid (HBc.out.trans (hb.mono HBc.out.size))) | (replace HBc := Lib.hid ((below_new HBc.out _).trans (hb.mono (below_new HBc.out _).size))) | (replace HBc := Lib.hid ((below_new (below_new HBc.out _) _).trans (hb.mono (below_new (below_new HBc.out _) _).size)))); have HO := Lib.hid hO)
            | (go_at_call 10; (try go_split_ands); refine (eg_match_nor _ _ _ (HE.out.old (by assumption)) _ (by first | exact HS.out | exact alloc_at (by simp) _ | exact alloc_keep (alloc_at (by simp) _) _ | exact alloc_keep HS.out _) _ _ _ _ _ (by first | exact HO.out | exact HO.out.old (below_own _) | exact (HO.out.old (below_own _)).old (below_own _))).mono ?_; rintro e wm ⟨rfl, hb⟩; (first | (replace HQ := Lib.hid ((hb.block _ (lt_of_heap HQ.out)).trans HQ.out)) | (replace HQ := Lib.hid ((hb.block _ (lt_of_heap (alloc_keep HQ.out _))).trans (alloc_keep HQ.out _))) | (have HQ := Lib.hid ((hb.block _ (by simp)).trans (alloc_at rfl (.cells #[.slice none 0 0, .slice none 0 0] 44))); have HQG := Lib.hid HBc.out.size) | (have HQ := Lib.hid ((hb.block _ (by simp; omega)).trans (alloc_keep (alloc_at rfl (.cells #[.slice none 0 0, .slice none 0 0] 44)) _)); have HQG := Lib.hid HBc.out.size) | (have HQ := Lib.hid ((hb.block _ (by simp)).trans (alloc_at (by simp) (.cells #[.slice none 0 0, .slice none 0 0] 44))); have HQG := Lib.hid (Nat.le_succ_of_le HBc.out.size)) | skip); (try (simp only [heap_drew10] at HQ)); (try (simp only [heap_alloc10] at HQ)); (first | (replace HBc := Lib.hid (HBc.out.trans (hb.mono HBc.out.size))) | (replace HBc := Lib.hid ((below_new HBc.out _).trans (hb.mono (below_new HBc.out _).size))) | (replace HBc := Lib.hid ((below_new (below_new HBc.out _) _).trans (hb.mono (below_new (below_new HBc.out _) _).size)))); (try (have q0 := Lib.cell_of_heap HQ.out 0; have q1 := Lib.cell_of_heap HQ.out 1; have qf := fun j => Lib.frozen_of_heap HQ.out j)))
            ))
        all_goals (go_wp2_with fail; go_meet)
        all_goals first
          | exact ⟨rfl, below_new HBc.out _⟩
          | exact ⟨rfl, HBc.out.grown (two_set _ _ HQ.out rfl).2 HBc.out.size (fun k hk => by obtain rfl := Option.some.inj hk; first | exact HQG.out | exact Nat.le_succ_of_le HQG.out)⟩
      case rest =>
        obtain ⟨rfl, HB6⟩ := hcut
        obtain ⟨h1, c1, h2, c2, base, q1, q2⟩ := HR5.out
        have q3 := (HB6.out.block g (lt_of_heap q1)).trans q1
        have q4 := q2.old HB6.out
        have HB7 := Lib.hid (HB5.out.trans (HB6.out.mono HB5.out.size))
        have hgl := lt_of_heap q3
        have y0 := Lib.cell_of_heap q3 0
        have y1 := Lib.cell_of_heap q3 1
        obtain ⟨g1, k1, cu1, e1, -, hg1, -, -, hc1⟩ := owns_at q4.has (by decide)
        obtain ⟨g2, k2, cu2, e2, -, hg2, -, -, hc2⟩ := owns_at q4.vals (by decide)
        simp only [Value.slice.injEq] at e1 e2
        obtain ⟨rfl, -, rfl⟩ := e1
        obtain ⟨rfl, -, rfl⟩ := e2
        have l1 := lt_of_heap hg1
        have l2 := lt_of_heap hg2
        have x0 : wc.cell? ⟨g1, 0, none⟩ = some (.bool true) := hc1 0 (by decide)
        have x1 : wc.cell? ⟨g2, 0, none⟩ = some (.int .u8 1) := hc2 0 (by decide)
        have x2 : wc.cell? ⟨g2, 1, none⟩ = some (.int .i64 2) := hc2 1 (by decide)
        have x3 : wc.cell? ⟨g2, 2, none⟩ = some (.string ⟨#[]⟩) := hc2 2 (by decide)
        have y0' := cellG hgl y0
        have y1' := cellG hgl y1
        have x0' := cellG l1 x0
        have x1' := cellG l2 x1
        have x2' := cellG l2 x2
        have x3' := cellG l2 x3
        have heq := fun W => eqV 1 2 1 2 ⟨#[]⟩ ⟨#[]⟩ W
        rw [(eqvB_iff (1, 2, ⟨#[]⟩) (1, 2, ⟨#[]⟩)).2 rfl] at heq
        have hg := eqGuardV
        clear HE HB5 HR5 HB6 q1 q2 q3 q4 hc1 hc2 hg1 hg2 y0 y1 x0 x1 x2 x3
        go_wp2_with fail
        refine wp_region_quiet_grown (by assumption) (by kernel_rfl) ?_
        repeat (go_big_quiet_step (first | (go_at_call 21; exact Calls.grown_of ((num_gr _ _).mono fun _ _ h => ⟨h.1, h.2.out⟩))))
        refine wpQuiet_nil ?_
        intro _ hw'
        obtain ⟨⟨nq, osq⟩, hw''⟩ := hw'
        subst hw''
        go_wp2
        go_ret
        exact ⟨rfl, HB7.out.trans ((Gr.below ⟨nq, osq, rfl⟩).mono HB7.out.size)⟩
end Go.Proofs.YtnnhgbncghpecaaGreat
