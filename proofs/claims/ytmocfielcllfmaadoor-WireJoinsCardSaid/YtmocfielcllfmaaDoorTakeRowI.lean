/- A row of numbers that a reader tells. -/
import Derived.Test.YtmocfielcllfmaaDoorMem
namespace Go.Proofs.YtmocfielcllfmaaDoor
open Go.RowKit

theorem infoI : (Tryd.prog.info? 3).map (fun i => (i.zero, i.size, i.bytes)) = some (some (.int .i64 0), 1, 8) := by kernel_rfl

set_option maxRecDepth 100000 in
set_option maxHeartbeats 2000000 in
theorem takeI_any (R pb B : Nat) (s : St) (w : World) (h : RdS w R pb B s) :
    Calls Tryd.prog 106 #[.pointer (some ⟨R, 0, none⟩), .func (.func 104) #[.pointer (some ⟨R, 0, none⟩)] #[]] w (Rowed RowI (manyS numS s) R pb B w) := by
  obtain ⟨i0, hi, hz0, hz1, hz2⟩ := info_parts infoI
  have HC := Lib.hid (count_any R pb B s w h)
  have hle := countS_le s
  have hne : pb < w.heap.size := Nat.lt_of_lt_of_le h.lp h.lb
  have hB := h.lb
  clear h
  unfold manyS
  generalize countS s = r at HC hle
  obtain ⟨n, s0⟩ := r
  simp only at HC hle ⊢
  have e0 : ∀ args w, (callFunc 104 args).run Tryd.prog w = .ok (.enter 104 args) w := enters_of Tryd.func104 (by kernel_rfl) rfl
  go_enter Tryd.func106, Tryd.ntmps106
  go_wp2_with (go_at_call 100; refine (HC.out).mono ?_; rintro e w0 ⟨rfl, hr, hf⟩; refine Hid.out ?_)
  have HR0 := Lib.hid hr
  have HF0 := Lib.hid hf
  clear hr hf HC
  refine Lib.hid ?_
  go_wp2_with fail
  go_loopw [5, 8] (fun v i wr => ∃ (vv : Value) (j : Nat) (acc : List Int) (sj : St), j ≤ n ∧ acc.length = j ∧ i = .int .i64 j ∧ vv = v ∧ rowS numS n [] s0 = rowS numS (n - j) acc sj ∧ RowI wr w.heap.size vv acc ∧ RdS wr R pb B sj ∧ Fr pb w wr) (fun _ i _ => n - (intOf i).toNat)
  case atStart => exact ⟨_, 0, [], s0, by omega, rfl, rfl, rfl, rfl, RowI.nil _ _, HR0.out, HF0.out⟩
  case round =>
    obtain ⟨vv, j, acc, sj, hj, hacc, rfl, rfl, heq, hrow, hrd, hfr⟩ := hrel
    have HRow := Lib.hid hrow
    have HRd := Lib.hid hrd
    have HFr := Lib.hid hfr
    have HAcc := Lib.hid hacc
    clear hrow hrd hfr hacc HR0 HF0
    by_cases hlt : j < n
    · have hstep : rowS numS (n - j) acc sj = if (numS sj).2.2 = true then ([], (numS sj).2) else rowS numS (n - (j + 1)) (acc ++ [(numS sj).1]) (numS sj).2 := by
        rw [show n - j = (n - (j + 1)) + 1 by omega]; rfl
      rw [hstep] at heq
      clear hstep
      have HV := Lib.hid (integer_any R pb B sj wr HRd.out)
      generalize numS sj = r at HV heq
      obtain ⟨x, s1⟩ := r
      simp only at HV heq
      have HEQ := Lib.hid heq
      clear heq
      go_wp2_with (go_at_call 104; refine (HV.out).mono ?_; rintro e w1 ⟨rfl, hr, hf⟩; refine Hid.out ?_)
      have hown : w1.ownsRow w.heap.size 3 1 _ _ _ := (HRow.out.fr hf hne)
      have HR1 := Lib.hid hr
      have HF1 := Lib.hid (HFr.out.trans hf)
      clear hr hf HV HFr
      have hs1 : w.heap.size ≤ w1.heap.size := HF1.out.size
      refine Lib.hid ?_
      go_wp2_with (at_builtin; refine wpList_append_own _ rfl _ _ 30 rfl w.heap.size 3 i0 (.int .i64 0) 1 8 Tryd.underlying30 hi hz0 hz1 hz2 rfl (by decide) _ _ _ rfl (hown.alloc _) ⟨w1.heap.size, 0, none⟩ 1 1 (cellsI [x]) rfl rfl (fun t u hu => by rw [Addr.add_lit, Nat.zero_add]; exact cells_made _ _ _ t u (by simpa [cellsI] using hu)) (cellsI_one _) (by have := HAcc.out; unfold maxLen; omega) (by have := HAcc.out; omega) (by simp; omega) ?_; intro v' w3 hown' hgrow' hnil'; refine Hid.out ?_)
      have HOwn := Lib.hid hown'
      have hgk : ∀ k, (vv.ownBlock = some k → w.heap.size ≤ k) := fun k hk => ((hown.lt) k hk).1
      have HF3 := Lib.hid ((HF1.out.alloc _).grown hgrow' hgk)
      have HR3 := Lib.hid ((HR1.out.alloc _).grown hgrow' (fun k hk => Nat.le_trans hB (hgk k hk)))
      have c1 := HR3.out.ptr
      have c2 := HR3.out.flag
      clear hown' hgrow' hnil' hown HF1 HR1 HRow HRd hgk
      refine Lib.hid ?_
      obtain ⟨l1, b1⟩ := s1
      cases b1 with
      | true =>
        go_wp2
        go_ret
        refine ⟨.slice none 0 0, rfl, ?_⟩
        rw [HEQ.out]
        exact ⟨RowI.nil _ _, HR3.out, HF3.out⟩
      | false =>
        go_wp2_with fail
        have R' : RowI w3 w.heap.size v' (acc ++ [x]) := by
          have h := HOwn.out
          rw [← cellsI_append] at h
          unfold RowI
          rw [List.length_append, HAcc.out]
          rw [HAcc.out] at h
          exact h
        go_roundw
        case rel => exact ⟨v', j + 1, acc ++ [x], (l1, false), by omega, by rw [List.length_append, HAcc.out]; rfl, by go_num, rfl, HEQ.out, R', HR3.out, HF3.out⟩
        case measure => simp [intOf]; omega
    · obtain rfl : j = n := by omega
      rw [Nat.sub_self] at heq
      have HEQ := Lib.hid heq
      clear heq
      go_wp2
      go_ret
      refine ⟨vv, rfl, ?_⟩
      rw [HEQ.out]
      exact ⟨HRow.out, HRd.out, HFr.out⟩
end Go.Proofs.YtmocfielcllfmaaDoor
