/- pattern.Match. -/
import Derived.Test.YtnnhgbncghpecaaGreatPat10
namespace Go.Proofs.YtnnhgbncghpecaaGreat
open Go.RowKit

set_option maxRecDepth 100000 in
set_option maxHeartbeats 4000000 in
theorem match_any (c : C10) (ao : Option Addr) (ac : Nat) (xo : Option Addr) (xc : Nat) (f : F10) (fo : Option Addr) (fc : Nat) (e : E10) (ho : Option Addr) (hc : Nat) (vo : Option Addr) (vc : Nat) (w : World)
    (ha : Sl10 w.heap.size w c.args.length ao ac (cellsA c.args)) (hf : Sl10 w.heap.size w f.args.length fo fc (cellsV f.args)) (h : Env10 w.heap.size w e ho hc vo vc) (hn : e.1.length ≤ 100000) (he : Short10 e.2) (hfs : Short10 f.args) :
    Calls Tryz.prog 10 #[aggC c ao ac xo xc, aggF f fo fc, aggE e ho hc vo vc] w (MatchP (firstB c [f] e) w) := by
  obtain ⟨w0, hw0⟩ : ∃ w0, w0 = (((w.alloc (.cells (cellsC c ao ac xo xc) 33)).alloc (.cells #[.int .i64 f.id, .int .i64 f.type, .slice fo f.args.length fc] 36)).alloc (.cells #[.slice ho e.1.length hc, .slice vo e.2.length vc] 44)).alloc (.cells #[.slice none 0 0, .slice none 0 0] 44) := ⟨_, rfl⟩
  have hs0 : w0.heap.size = w.heap.size + 4 := by rw [hw0]; simp
  have hb0 : Below w.heap.size w w0 := by rw [hw0]; exact below_new (below_new (below_new (below_own _) _) _) _
  obtain ⟨h1, h2, h3, h4⟩ : w0.heap[w.heap.size]? = some (.cells (cellsC c ao ac xo xc) 33 (0, 0)) ∧ w0.heap[w.heap.size + 1]? = some (.cells #[.int .i64 f.id, .int .i64 f.type, .slice fo f.args.length fc] 36 (0, 0)) ∧ w0.heap[w.heap.size + 2]? = some (.cells #[.slice ho e.1.length hc, .slice vo e.2.length vc] 44 (0, 0)) ∧ w0.heap[w.heap.size + 3]? = some (.cells #[.slice none 0 0, .slice none 0 0] 44 (0, 0)) := by
    rw [hw0]
    exact heap_four _ _ _ _
  have HF : Hid (∀ W, Below w.heap.size w W → ∀ g, g < W.heap.size → W.heap[g]? = some (.cells #[.int .i64 f.id, .int .i64 f.type, .slice fo f.args.length fc] 36 (0, 0)) → Calls Tryz.prog 26 #[aggC c ao ac xo xc, aggE e ho hc vo vc, .slice (some ⟨g, 0, none⟩) 1 1] W (FirstP (firstB c [f] e) W)) := fun W hW g hg hgb =>
    first_any c ao ac xo xc e ho hc vo vc [f] (some ⟨g, 0, none⟩) 1 W (ha.up hW hW.size) (h.up hW hW.size) (facts_one (hf.up hW hW.size) hgb hg) hn
  have HO : Hid (∀ e', firstB c [f] e = some e' → ∀ W ho hc vo vc, Env10 W.heap.size W e' ho hc vo vc → Calls Tryz.prog 27 #[aggE e' ho hc vo vc] W (RowsP e' W)) := fun e' hx W ho hc vo vc hE => by
    obtain ⟨hm, hh⟩ := firstB_one hx
    exact own_any e' e.1.length (hit10_even hh (made_even hm)) ho hc vo vc W hE hn (hit10_short hh he hfs)
  have HB0 := Lib.hid hb0
  have H4 := Lib.hid h4
  have y1 := fun j => Lib.cell_of_heap h1 j
  have y2 := fun j => Lib.cell_of_heap h2 j
  have y3 := fun j => Lib.cell_of_heap h3 j
  unfold FirstP aggE at HF
  unfold MatchP
  generalize firstB c [f] e = x at *
  obtain ⟨ck, ct, cl, cx⟩ := c
  obtain ⟨fi, ft, fa⟩ := f
  simp only at HF y1 y2 hw0
  clear ha hf h hn he hfs hb0 h1 h2 h3 h4
  cases x with
  | none =>
    go_enter Tryz.func10, Tryz.ntmps10
    go_wp2_with (go_at_call 26; go_must (rw [← hw0]; clear hw0; refine (HF.out _ (below_new HB0.out _) (w.heap.size + 1 + 1 + 1 + 1) (by simp; omega) (alloc_at (by omega) _)).mono ?_; rintro r w1 ⟨a1, n1, c1, a2, n2, c2, a3, n3, c3, a4, n4, c4, bd, rfl, -, hb1⟩; have HB1 := Lib.hid ((below_new HB0.out _).trans (hb1.mono (below_new HB0.out _).size)); have H41 := Lib.hid ((hb1.block (w.heap.size + 3) (by simp; omega)).trans (alloc_keep H4.out _)); have y4 := (fun j => Lib.cell_of_heap H41.out j); have z4 := (fun j => Lib.frozen_of_heap H41.out j); have l4 := lt_of_heap H41.out; clear hb1))
    obtain ⟨s1, g3⟩ := two_set (.slice none 0 0) (.slice none 0 0) H41.out rfl
    have hb3 : Below w.heap.size w ((w1.setCell ⟨w.heap.size + 3, 0, none⟩ (.slice none 0 0)).setCell ⟨w.heap.size + 3, 1, none⟩ (.slice none 0 0)) := HB1.out.grown g3 HB1.out.size (fun k hk => by cases hk; omega)
    generalize (w1.setCell ⟨w.heap.size + 3, 0, none⟩ (.slice none 0 0)).setCell ⟨w.heap.size + 3, 1, none⟩ (.slice none 0 0) = W3 at s1 hb3 ⊢
    have s2 := alloc_keep s1 (.cells #[.slice a1 n1 c1, .slice a2 n2 c2, .slice a3 n3 c3, .slice a4 n4 c4, .bool bd] 70)
    have d0 := Lib.cell_of_heap s2 0
    have d1 := Lib.cell_of_heap s2 1
    exact bodyPost_ret (v := .tuple #[.agg #[.slice none 0 0, .slice none 0 0], .bool false]) (by simp [results, Tryz.results10, go_sem, d0, d1]) rfl ⟨below_new hb3 _, Or.inl ⟨trivial, rfl⟩⟩
  | some e' =>
    have HO2 := Lib.hid (fun W ho hc vo vc hE => HO.out e' rfl W ho hc vo vc hE)
    unfold RowsP aggE at HO2
    clear HO
    go_enter Tryz.func10, Tryz.ntmps10
    go_wp2_with (first
      | (go_at_call 26; go_must (rw [← hw0]; clear hw0; refine (HF.out _ (below_new HB0.out _) (w.heap.size + 1 + 1 + 1 + 1) (by simp; omega) (alloc_at (by omega) _)).mono ?_; rintro r w1 ⟨a1, n1, c1, a2, n2, c2, a3, n3, c3, a4, n4, c4, bd, rfl, hEE, hb1⟩; obtain ⟨rfl, rfl, hE⟩ := hEE e' rfl; have HB1 := Lib.hid ((below_new HB0.out _).trans (hb1.mono (below_new HB0.out _).size)); have H41 := Lib.hid ((hb1.block (w.heap.size + 3) (by simp; omega)).trans (alloc_keep H4.out _)); have l4 := lt_of_heap H41.out; have HE := Lib.hid hE; clear hb1 hE hEE))
      | (go_at_call 27; go_must (refine (HO2.out _ _ _ _ _ (HE.out.up (below_own _) (below_own _).size)).mono ?_; rintro r w2 ⟨h1, d1, h2, d2, rfl, hO, hb2⟩; have HB2 := Lib.hid ((below_new HB1.out _).trans (hb2.mono (below_new HB1.out _).size)); have H42 := Lib.hid ((hb2.block (w.heap.size + 3) (by simp; omega)).trans (alloc_keep H41.out _)); have HOw := Lib.hid hO; have y4 := (fun j => Lib.cell_of_heap H42.out j); have z4 := (fun j => Lib.frozen_of_heap H42.out j); clear hO hb2)))
    have hs1 := HB1.out.size
    exact env_end2 (g := w.heap.size + 3) rfl rfl rfl rfl H42.out rfl fun W3 g3 => ⟨HB2.out.trans ⟨g3.os, g3.tape, g3.output, g3.size, fun k hk => g3.block k (by have := HB2.out.size; omega) (fun e => by have := Option.some.inj e; omega)⟩, Or.inr ⟨e', _, _, _, _, rfl, rfl, (show Own10 w.heap.size w2 e' _ _ from ⟨owns_mono HOw.out.has (by simp; omega), owns_mono HOw.out.vals (by simp; omega)⟩).far g3 H42.out (by decide) (by decide)⟩⟩
end Go.Proofs.YtnnhgbncghpecaaGreat
