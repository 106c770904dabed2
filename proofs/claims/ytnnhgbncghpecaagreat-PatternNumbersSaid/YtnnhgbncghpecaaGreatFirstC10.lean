/- pattern.first, walked. -/
import Derived.Test.YtnnhgbncghpecaaGreatFirstB10
namespace Go.Proofs.YtnnhgbncghpecaaGreat
open Go.RowKit

set_option maxRecDepth 100000 in
set_option maxHeartbeats 4000000 in
theorem first_any (c : C10) (ao : Option Addr) (ac : Nat) (xo : Option Addr) (xc : Nat) (e : E10) (ho : Option Addr) (hc : Nat) (vo : Option Addr) (vc : Nat) (fl : List F10) (fo : Option Addr) (fc : Nat) (w : World)
    (ha : Sl10 w.heap.size w c.args.length ao ac (cellsA c.args)) (h : Env10 w.heap.size w e ho hc vo vc) (hf : Facts10 w.heap.size w fl fo fc) (hn : e.1.length ≤ 100000) :
    Calls Tryz.prog 26 #[aggC c ao ac xo xc, aggE e ho hc vo vc, .slice fo fl.length fc] w (FirstP (firstB c fl e) w) := by
  obtain ⟨w0, hw0⟩ : ∃ w0, w0 = ((w.alloc (.cells (cellsC c ao ac xo xc) 33)).alloc (.cells #[.slice ho e.1.length hc, .slice vo e.2.length vc] 44)).alloc (.cells #[.slice none 0 0, .slice none 0 0, .slice none 0 0, .slice none 0 0, .bool false] 70) := ⟨_, rfl⟩
  have hs0 : w0.heap.size = w.heap.size + 3 := by rw [hw0]; simp
  have hb0 : Below w.heap.size w w0 := by rw [hw0]; exact below_new (below_new (below_own _) _) _
  obtain ⟨h1, h2, h3⟩ : w0.heap[w.heap.size]? = some (.cells (cellsC c ao ac xo xc) 33 (0, 0)) ∧ w0.heap[w.heap.size + 1]? = some (.cells #[.slice ho e.1.length hc, .slice vo e.2.length vc] 44 (0, 0)) ∧ w0.heap[w.heap.size + 2]? = some (.cells #[.slice none 0 0, .slice none 0 0, .slice none 0 0, .slice none 0 0, .bool false] 70 (0, 0)) := by
    rw [hw0]
    exact heap_three _ _ _
  have HMade := Lib.hid (made_any e ho hc vo vc w0 (h.up hb0 hb0.size))
  unfold aggE at HMade
  have HB0 := Lib.hid hb0
  have H1 := Lib.hid h1
  have H2 := Lib.hid h2
  have H3 := Lib.hid h3
  have HC : Hid (madeP e = true → ∀ W, Below w.heap.size w W → ∀ nb n, n = e.1.length → w.heap.size ≤ nb → W.heap[nb]? = some (.cells #[.slice ho n hc, .slice vo n vc, .slice ho n hc, .slice vo n vc, .bool false] 70 (0, 0)) → W.heap[w.heap.size]? = some (.cells (cellsC c ao ac xo xc) 33 (0, 0)) →
      Calls Tryz.prog 43 #[.slice fo fl.length fc, .func (.func 44) #[] #[.pointer (some ⟨w.heap.size, 0, none⟩), .pointer (some ⟨nb, 0, none⟩)]] W (TestP w.heap.size nb n e ho hc vo vc (first10 c.type c.args e fl) W)) := fun hm W hW nb n hn' hnb hblk hcb => by
    subst hn'
    have hEv := made_even hm
    exact contains10_any ⟨hnb, hn, hEv, hEv, h.up hW (Nat.le_refl _), _, _, hblk, fun _ => ⟨rfl, rfl, rfl⟩, (fun e => by cases e)⟩ hW.size w.heap.size (by
      have := ne_block hcb hblk (by decide)
      exact this) c ao ac xo xc hcb (ha.up hW (Nat.le_refl _)) fl fo fc (hf.up hW (Nat.le_refl _))
  have y1 := fun j => Lib.cell_of_heap h1 j
  have y2 := fun j => Lib.cell_of_heap h2 j
  have y3 := fun j => Lib.cell_of_heap h3 j
  have z3 := fun j => Lib.frozen_of_heap h3 j
  have hle : e.1.length = e.2.length → Hid (e.2.length = e.1.length) := fun h => h.symm
  unfold FirstP
  by_cases hk : c.kind = 1 ∨ c.kind = 2
  · cases hmd : madeP e with
    | true =>
      have hx : firstB c fl e = first10 c.type c.args e fl := by
        unfold firstB
        rw [if_pos]
        simp only [Bool.and_eq_true, Bool.or_eq_true, decide_eq_true_eq]
        exact ⟨hk, hmd⟩
      rw [hx]
      have HEv : Hid (∀ e', first10 c.type c.args e fl = some e' → Even e.1.length e') := fun e' he => first10_even he (made_even hmd)
      have HC2 := Lib.hid (HC.out hmd)
      have hle2 : e.2.length = e.1.length := (made_even hmd).2
      unfold TestP at HC2
      rw [hmd] at HMade
      generalize first10 c.type c.args e fl = x at *
      unfold aggE
      rw [hle2] at HMade hw0 y2 H2 ⊢
      obtain ⟨ck, ct, cl, cx⟩ := c
      simp only at hk y1 HC2 H1 hw0
      obtain ⟨n, hn'⟩ : ∃ n, n = e.1.length := ⟨_, rfl⟩
      have HNN := Lib.hid hn'
      rw [← hn'] at HMade hw0 y2 H2 HEv ⊢
      clear hx hle HC hmd h1 h2 h3 h ha hf z3 y3 hle2 hn hn'
      rcases hk with rfl | rfl
      all_goals
        go_enter Tryz.func26, Tryz.ntmps26
        go_wp2_with (first
          | (go_at_call 42; go_must (rw [← hw0]; clear hw0; refine (HMade.out).mono ?_; rintro r w1 ⟨rfl, hb⟩; have HB1 := Lib.hid (HB0.out.trans (hb.mono HB0.out.size)); have hs1 := hb.size; have H11 := Lib.hid ((hb.block w.heap.size (by omega)).trans H1.out); have H21 := Lib.hid ((hb.block (w.heap.size + 1) (by omega)).trans H2.out); have H31 := Lib.hid ((hb.block (w.heap.size + 2) (by omega)).trans H3.out); have y4 := (fun j => Lib.cell_of_heap H21.out j); clear hb))
          | (go_at_call 43; go_must (refine (HC2.out _ (below_new HB1.out _) w1.heap.size n HNN.out (by omega) (alloc_at rfl _) (alloc_keep H11.out _)).mono ?_; rintro r w2 ⟨bd', rfl, hm, hf⟩; obtain ⟨a1, c1, a2, c2, q1, q2, q3⟩ := hm.env (by have := hf.bel.size; simp at this; omega); have H32 := Lib.hid (hf.keep (w.heap.size + 2) _ _ _ (alloc_keep H31.out _) (by omega) (by decide) (by decide)); have HE2 := Lib.hid q3; have HE3 := Lib.hid hm.even; have HB2 := Lib.hid ((below_new HB1.out _).trans hf.bel); have y5 := (fun j => Lib.cell_of_heap q1 j); have y6 := (fun j => Lib.cell_of_heap H32.out j); have z6 := (fun j => Lib.frozen_of_heap H32.out j); clear hm hf q1 q2 q3 y4)))
        exact match_end (g := w.heap.size + 2) rfl rfl rfl rfl H32.out rfl fun W3 g3 => ⟨_, _, _, _, _, _, _, _, _, _, _, _, _, rfl, (fun e' he => by
          subst he
          exact ⟨HE3.out.1.symm, HE3.out.2.symm, HE2.out W3 _ _ g3 (by omega) H32.out⟩), HB2.out.grown g3 HB2.out.size (fun k hk => by cases hk; omega)⟩
    | false =>
      have hx : firstB c fl e = none := by
        unfold firstB
        rw [if_neg]
        rw [hmd]
        simp
      rw [hx]
      rw [hmd] at HMade
      have k12 : (c.kind != 1 && c.kind != 2) = false := by
        rcases hk with h | h <;> simp [h]
      obtain ⟨ck, ct, cl, cx⟩ := c
      simp only at hk y1 
      clear hx hle HC hmd h1 h2 h3 h ha hf H1 H2 z3 y3
      rcases hk with rfl | rfl
      all_goals
        go_enter Tryz.func26, Tryz.ntmps26
        go_wp2_with (go_at_call 42; rw [← hw0]; clear hw0; refine (HMade.out).mono ?_; rintro r w1 ⟨rfl, hb⟩; have HB1 := Lib.hid (HB0.out.trans (hb.mono HB0.out.size)); have H31 := Lib.hid ((hb.block (w.heap.size + 2) (by omega)).trans H3.out); have y4 := (fun j => Lib.cell_of_heap H31.out j); have z4 := (fun j => Lib.frozen_of_heap H31.out j); clear hb)
        exact match_end (g := w.heap.size + 2) rfl rfl rfl rfl H31.out rfl fun W3 g3 => ⟨_, _, _, _, _, _, _, _, _, _, _, _, _, rfl, (fun e' h => by cases h), HB1.out.grown g3 HB1.out.size (fun k hk => by cases hk; omega)⟩
  · have hx : firstB c fl e = none := by
      unfold firstB
      rw [if_neg]
      simp only [Bool.and_eq_true, Bool.or_eq_true, decide_eq_true_eq]
      exact fun h => hk h.1
    rw [hx]
    have k1 : (c.kind != 1) = true := by simp; omega
    have k2 : (c.kind != 2) = true := by simp; omega
    obtain ⟨ck, ct, cl, cx⟩ := c
    simp only at k1 k2 y1
    clear hx hk h1 h2 h3 h ha hf hle HC HMade H1 H2
    go_enter Tryz.func26, Tryz.ntmps26
    go_wp2_with fail
    rw [← hw0]
    clear hw0
    have d0 := y3 0
    have d1 := y3 1
    have d2 := y3 2
    have d3 := y3 3
    have d4 := y3 4
    exact bodyPost_ret (v := .tuple #[.agg #[.slice none 0 0, .slice none 0 0, .slice none 0 0, .slice none 0 0, .bool false], .bool false]) (by simp [results, Tryz.results26, go_sem, d0, d1, d2, d3, d4]) rfl ⟨_, _, _, _, _, _, _, _, _, _, _, _, _, rfl, (fun e' h => by cases h), HB0.out⟩
end Go.Proofs.YtnnhgbncghpecaaGreat
