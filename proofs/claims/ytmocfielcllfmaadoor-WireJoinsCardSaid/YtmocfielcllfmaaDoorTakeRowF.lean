/- A row of facts that a reader tells. -/
import Derived.Test.YtmocfielcllfmaaDoorFact
namespace Go.Proofs.YtmocfielcllfmaaDoor
open Go.RowKit

theorem infoF : (Tryd.prog.info? 52).map (fun i => (i.zero, i.size, i.bytes)) = some (some (.agg #[.int .i64 0, .int .i64 0, .slice none 0 0]), 3, 40) := by kernel_rfl

set_option maxRecDepth 100000 in
set_option maxHeartbeats 2000000 in
theorem takeF_any (R pb B : Nat) (s : St) (w : World) (h : RdS w R pb B s) :
    Calls Tryd.prog 105 #[.pointer (some ⟨R, 0, none⟩), .func (.func 65) #[.pointer (some ⟨R, 0, none⟩)] #[]] w (Rowed RowF (manyS factS s) R pb B w) := by
  obtain ⟨i0, hi, hz0, hz1, hz2⟩ := info_parts infoF
  have HC := Lib.hid (count_any R pb B s w h)
  have hle := countS_le s
  have hne : pb < w.heap.size := Nat.lt_of_lt_of_le h.lp h.lb
  have hB := h.lb
  clear h
  unfold manyS
  generalize countS s = r at HC hle
  obtain ⟨n, s0⟩ := r
  simp only at HC hle ⊢
  have e0 : ∀ args w, (callFunc 65 args).run Tryd.prog w = .ok (.enter 65 args) w := enters_of Tryd.func65 (by kernel_rfl) rfl
  go_enter Tryd.func105, Tryd.ntmps105
  go_wp2_with (go_at_call 100; refine (HC.out).mono ?_; rintro e w0 ⟨rfl, hr, hf⟩; refine Hid.out ?_)
  have HR0 := Lib.hid hr
  have HF0 := Lib.hid hf
  clear hr hf HC
  refine Lib.hid ?_
  go_wp2_with fail
  go_loopw [5, 8] (fun v i wr => ∃ (vv : Value) (j : Nat) (acc : List F3) (sj : St), j ≤ n ∧ acc.length = j ∧ i = .int .i64 j ∧ vv = v ∧ rowS factS n [] s0 = rowS factS (n - j) acc sj ∧ RowF wr w.heap.size vv acc ∧ RdS wr R pb B sj ∧ Fr pb w wr) (fun _ i _ => n - (intOf i).toNat)
  case atStart => exact ⟨_, 0, [], s0, by omega, rfl, rfl, rfl, rfl, RowF.nil _ _, HR0.out, HF0.out⟩
  case round =>
    obtain ⟨vv, j, acc, sj, hj, hacc, rfl, rfl, heq, hrow, hrd, hfr⟩ := hrel
    have HRow := Lib.hid hrow
    have HRd := Lib.hid hrd
    have HFr := Lib.hid hfr
    have HAcc := Lib.hid hacc
    clear hrow hrd hfr hacc HR0 HF0
    by_cases hlt : j < n
    · have hstep : rowS factS (n - j) acc sj = if (factS sj).2.2 = true then ([], (factS sj).2) else rowS factS (n - (j + 1)) (acc ++ [(factS sj).1]) (factS sj).2 := by
        rw [show n - j = (n - (j + 1)) + 1 by omega]; rfl
      rw [hstep] at heq
      clear hstep
      have HV := Lib.hid (fact_any R pb B sj wr HRd.out)
      generalize factS sj = r at HV heq
      obtain ⟨x, s1⟩ := r
      simp only at HV heq
      have HEQ := Lib.hid heq
      clear heq
      go_wp2_with (go_at_call 65; refine (HV.out).mono ?_; rintro e w1 ⟨va, rfl, hva, hr, hf⟩; obtain ⟨aoa, ca, rfl⟩ := hva.slice; refine Hid.out ?_)
      have hva' := hva.mono HFr.out.size
      have HVA := Lib.hid hva'
      obtain ⟨ps, hps, hown, hall⟩ := HRow.out.fr hf hne
      have HPS := Lib.hid hps
      have HALL := Lib.hid hall
      clear hva hva' hps hall
      have HR1 := Lib.hid hr
      have HF1 := Lib.hid (HFr.out.trans hf)
      clear hr hf HV HFr
      have hs1 : w.heap.size ≤ w1.heap.size := HF1.out.size
      refine Lib.hid ?_
      unfold aggF
      go_wp2_with (at_builtin; refine wpList_append_own _ rfl _ _ 61 rfl w.heap.size 52 i0 (.agg #[.int .i64 0, .int .i64 0, .slice none 0 0]) 3 40 Tryd.underlying61 hi hz0 hz1 hz2 rfl (by decide) _ _ _ rfl (hown.alloc _) ⟨w1.heap.size, 0, none⟩ 1 1 (cellsF [(x, .slice aoa x.2.2.length ca)]) rfl rfl (fun t u hu => by rw [Addr.add_lit, Nat.zero_add]; exact cells_made _ _ _ t u (by simpa [cellsF] using hu)) (fun u hu => by simp [cellsF] at hu; rcases hu with rfl | rfl | rfl <;> rfl) (by have := HAcc.out; unfold maxLen; omega) (by have := HAcc.out; omega) (by simp; omega) ?_; intro v' w3 hown' hgrow' hnil'; refine Hid.out ?_)
      have HOwn := Lib.hid hown'
      have HG3 := Lib.hid hgrow'
      have HK3 := Lib.hid (owns_tag (hown.alloc (.cells #[.int .i64 x.1, .int .i64 x.2.1, .slice aoa x.2.2.length ca] 52)))
      have hgk : ∀ k, (vv.ownBlock = some k → w.heap.size ≤ k) := fun k hk => ((hown.lt) k hk).1
      have HF3 := Lib.hid ((HF1.out.alloc _).grown hgrow' hgk)
      have HR3 := Lib.hid ((HR1.out.alloc _).grown hgrow' (fun k hk => Nat.le_trans hB (hgk k hk)))
      have c1 := HR3.out.ptr
      have c2 := HR3.out.flag
      clear hown' hgrow' hnil' hown HF1 HR1 HRow HRd hgk
      refine Lib.hid ?_
      obtain ⟨l1, b1⟩ := s1
      cases b1 with
      | true =>
        go_wp2
        go_ret
        refine ⟨.slice none 0 0, rfl, ?_⟩
        rw [HEQ.out]
        exact ⟨RowF.nil _ _, HR3.out, HF3.out⟩
      | false =>
        go_wp2_with fail
        have R' : RowF w3 w.heap.size v' (acc ++ [x]) := by
          have h := HOwn.out
          rw [← cellsF_append] at h
          refine ⟨ps ++ [(x, .slice aoa x.2.2.length ca)], by rw [List.map_append, HPS.out]; rfl, ?_, ?_⟩
          · rw [List.length_append, HAcc.out]
            rw [HAcc.out] at h
            exact h
          · intro p hp
            rcases List.mem_append.1 hp with hp | hp
            · exact ((HALL.out p hp).below (below_own _)).far HG3.out HK3.out
            · obtain rfl := List.mem_singleton.1 hp
              exact (HVA.out.below (below_own _)).far HG3.out HK3.out
        go_roundw
        case rel => exact ⟨v', j + 1, acc ++ [x], (l1, false), by omega, by rw [List.length_append, HAcc.out]; rfl, by go_num, rfl, HEQ.out, R', HR3.out, HF3.out⟩
        case measure => simp [intOf]; omega
    · obtain rfl : j = n := by omega
      rw [Nat.sub_self] at heq
      have HEQ := Lib.hid heq
      clear heq
      go_wp2
      go_ret
      refine ⟨vv, rfl, ?_⟩
      rw [HEQ.out]
      exact ⟨HRow.out, HRd.out, HFr.out⟩
end Go.Proofs.YtmocfielcllfmaaDoor
