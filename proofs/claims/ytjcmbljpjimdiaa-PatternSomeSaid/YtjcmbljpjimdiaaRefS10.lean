/- The document's Some. -/
import Derived.Test.YtjcmbljpjimdiaaRefC10
namespace Go.Proofs.Ytjcmbljpjimdiaa
open Go.RowKit

section
variable {c : C10} {e : E10}
theorem first10_one (f : F10) : first10 c.type c.args e [f] = hit10 c.type c.args e f := by
  rw [first10]
  cases hit10 c.type c.args e f with
  | none => rfl
  | some e' => rfl
theorem firstB_cons (f : F10) (l : List F10) : (firstB c (f :: l) e).isSome = ((firstB c [f] e).isSome || (firstB c l e).isSome) := by
  unfold firstB
  split
  · rw [first10_one, first10]
    cases hit10 c.type c.args e f with
    | none => simp
    | some e' => simp
  · rfl
theorem firstB_any (l : List F10) : (firstB c l e).isSome = l.any fun f => (firstB c [f] e).isSome := by
  induction l with
  | nil =>
    unfold firstB
    split
    · rfl
    · rfl
  | cons f l ih => rw [firstB_cons, ih, List.any_cons]
end
section
variable {w : World} {c : C10} {ao : Option Addr} {ac : Nat} {xo : Option Addr} {xc : Nat} {e : E10} {ho : Option Addr} {hc : Nat} {vo : Option Addr} {vc : Nat}
theorem refMatch_any (f : F10) (fo : Option Addr) (fc : Nat) (hA : Sl10 w.heap.size w c.args.length ao ac (cellsA c.args)) (hF : Sl10 w.heap.size w f.args.length fo fc (cellsV f.args)) (hE : Env10 w.heap.size w e ho hc vo vc) (hn : e.1.length ≤ 100000) :
    Calls Try.prog 18 #[aggC c ao ac xo xc, aggF f fo fc, aggE e ho hc vo vc] w (RefP (firstB c [f] e) w) := by
  cases hh : headB c f e with
  | false => exact ref_refuses hA hF hE hh
  | true => exact ref_goes hA hF hE hn hh
set_option maxRecDepth 100000 in
set_option maxHeartbeats 4000000 in
theorem refSome_any (fl : List F10) (fo : Option Addr) (fc : Nat) (hA : Sl10 w.heap.size w c.args.length ao ac (cellsA c.args)) (hE : Env10 w.heap.size w e ho hc vo vc) (hF : Facts10 w.heap.size w fl fo fc) (hn : e.1.length ≤ 100000) :
    Calls Try.prog 8 #[aggC c ao ac xo xc, aggE e ho hc vo vc, .slice fo fl.length fc] w fun r w' => r = .returned (.bool (firstB c fl e).isSome) ∧ Below w.heap.size w w' := by
  rw [firstB_any]
  have HA := Lib.hid hA
  have HE := Lib.hid hE
  have HF := Lib.hid hF
  have hm : fl.length ≤ 9223372036854775807 := by have := hF.cap; have := hF.top; unfold maxLen at this; omega
  obtain ⟨w0, hw0⟩ : ∃ w0, w0 = (w.alloc (.cells (cellsC c ao ac xo xc) 33)).alloc (.cells #[.slice ho e.1.length hc, .slice vo e.2.length vc] 45) := ⟨_, rfl⟩
  have hb0 : Below w.heap.size w w0 := by rw [hw0]; exact below_new (below_own _) _
  have hs0 : w0.heap.size = w.heap.size + 2 := by rw [hw0]; simp
  obtain ⟨q1, q2⟩ : w0.heap[w.heap.size]? = some (.cells (cellsC c ao ac xo xc) 33 (0, 0)) ∧ w0.heap[w.heap.size + 1]? = some (.cells #[.slice ho e.1.length hc, .slice vo e.2.length vc] 45 (0, 0)) := by
    rw [hw0]
    exact heap_two _ _
  have HB0 := Lib.hid hb0
  have HQ1 := Lib.hid q1
  have HQ2 := Lib.hid q2
  have HM := Lib.hid (fun W (hW : Below w.heap.size w W) (f : F10) o k (hf : Sl10 W.heap.size W f.args.length o k (cellsV f.args)) => refMatch_any (xo := xo) (xc := xc) f o k (hA.up hW hW.size) hf (hE.up hW hW.size) hn)
  unfold aggE at HM ⊢
  have mixed : Try.prog.follows .mixedOrders = true := by kernel_rfl
  clear hA hE hF q1 q2 hb0
  obtain ⟨ck, ct, cl, cx⟩ := c
  simp only at HQ1 hw0 HA
  generalize e.1.length = n1 at *
  generalize e.2.length = n2 at *
  go_enter Try.func8, Try.ntmps8
  go_upto_region 1 with fail
  rw [← hw0]
  clear hw0
  go_wp2_with fail
  go_loopw [7] (fun i wr => ∃ j : Nat, j ≤ fl.length ∧ i = .int .i64 j ∧ Hid (∀ k, k < j → (h : k < fl.length) → (firstB ⟨ck, ct, cl, cx⟩ [fl[k]] e).isSome = false) ∧ Hid (Below w0.heap.size w0 wr)) (fun i _ => fl.length - (intOf i).toNat)
  case atStart => exact ⟨0, by omega, rfl, (fun k hk => absurd hk (Nat.not_lt_zero _)), Below.refl _ _⟩
  case round =>
    obtain ⟨j, hj, rfl, HNo, HB⟩ := hrel
    by_cases hlt : j < fl.length
    · have HBw := Lib.hid (HB0.out.trans (HB.out.mono HB0.out.size))
      obtain ⟨g, o, a1, k1, rfl, hgB, x0, x1, x2, hs⟩ := (HF.out.up HBw.out (Nat.le_refl _)).at hlt
      have h1 := (HB.out.block w.heap.size (by omega)).trans HQ1.out
      have h2 := (HB.out.block (w.heap.size + 1) (by omega)).trans HQ2.out
      have hMj := fun W (hW : Below wr.heap.size wr W) => HM.out W (HBw.out.trans (hW.mono HBw.out.size)) fl[j] a1 k1 (hs.up (hW.mono HBw.out.size) (HBw.out.trans (hW.mono HBw.out.size)).size)
      have HNj : Hid ((firstB ⟨ck, ct, cl, cx⟩ [fl[j]] e).isSome = false → ∀ k, k < j + 1 → (h : k < fl.length) → (firstB ⟨ck, ct, cl, cx⟩ [fl[k]] e).isSome = false) := fun h0 k hk hk2 => by
        rcases Nat.lt_or_ge k j with h | h
        · exact HNo.out k h hk2
        · obtain rfl : k = j := by omega
          exact h0
      have HYj : Hid ((firstB ⟨ck, ct, cl, cx⟩ [fl[j]] e).isSome = true → (fl.any fun f => (firstB ⟨ck, ct, cl, cx⟩ [f] e).isSome) = true) := fun h0 => List.any_eq_true.2 ⟨fl[j], List.getElem_mem hlt, h0⟩
      unfold RefP at hMj
      generalize (firstB ⟨ck, ct, cl, cx⟩ [fl[j]] e).isSome = yb at *
      clear hs HNo HA HE HM
      generalize fl[j] = f at *
      obtain ⟨f1, f2, f3⟩ := f
      simp only at x0 x1 x2 hMj
      unfold aggF at hMj
      simp only at hMj
      have HMj := Lib.hid hMj
      clear hMj
      generalize f3.length = m3 at *
      have hjn : (j : Int) < (fl.length : Int) := by omega
      have hgl : g < wr.heap.size := by have := HBw.out.size; omega
      have hK : ∀ W, Below wr.heap.size wr W → W.cell? ⟨w.heap.size, 0, none⟩ = some (.int .u8 ck) ∧ W.cell? ⟨w.heap.size, 1, none⟩ = some (.int .i64 ct) ∧ W.cell? ⟨w.heap.size, 2, none⟩ = some (.slice ao cl.length ac) ∧ W.cell? ⟨w.heap.size, 3, none⟩ = some (.int .u8 cx.kind) ∧ W.cell? ⟨w.heap.size, 4, none⟩ = some (.int .u8 cx.vk) ∧ W.cell? ⟨w.heap.size, 5, none⟩ = some (.int .i64 cx.vn) ∧ W.cell? ⟨w.heap.size, 6, none⟩ = some (.string cx.vs) ∧ W.cell? ⟨w.heap.size, 7, none⟩ = some (.int .i64 cx.var) ∧ W.cell? ⟨w.heap.size, 8, none⟩ = some (.int .u8 cx.op) ∧ W.cell? ⟨w.heap.size, 9, none⟩ = some (.slice xo cx.kids.length xc) ∧ W.cell? ⟨w.heap.size + 1, 0, none⟩ = some (.slice ho n1 hc) ∧ W.cell? ⟨w.heap.size + 1, 1, none⟩ = some (.slice vo n2 vc) ∧ W.cell? ⟨g, o + j * 3, none⟩ = some (.int .i64 f1) ∧ W.cell? ⟨g, o + j * 3 + 1, none⟩ = some (.int .i64 f2) ∧ W.cell? ⟨g, o + j * 3 + 2, none⟩ = some (.slice a1 m3 k1) ∧ Below wr.heap.size wr W := fun W hW => by
        have c1 := (hW.block _ (lt_of_heap h1)).trans h1
        have c2 := (hW.block _ (lt_of_heap h2)).trans h2
        exact ⟨Lib.cell_of_heap c1 0, Lib.cell_of_heap c1 1, Lib.cell_of_heap c1 2, Lib.cell_of_heap c1 3, Lib.cell_of_heap c1 4, Lib.cell_of_heap c1 5, Lib.cell_of_heap c1 6, Lib.cell_of_heap c1 7, Lib.cell_of_heap c1 8, Lib.cell_of_heap c1 9, Lib.cell_of_heap c2 0, Lib.cell_of_heap c2 1, (hW.cell (p := ⟨g, o + j * 3, none⟩) hgl).trans x0, (hW.cell (p := ⟨g, o + j * 3 + 1, none⟩) hgl).trans x1, (hW.cell (p := ⟨g, o + j * 3 + 2, none⟩) hgl).trans x2, hW⟩
      have HK := Lib.hid hK
      clear hK h1 h2 x0 x1 x2
      go_upto_region 4 with fail
      go_cut [9] from 10 to 26 (fun s9 wx => s9 = .bool yb ∧ Hid (Below wr.heap.size wr wx))
      case first =>
        have HBc := Lib.hid (below_drew (Below.refl wr.heap.size wr))
        go_region_held3 (fun W' => W'.cell? ⟨w.heap.size, 0, none⟩ = some (.int .u8 ck) ∧ W'.cell? ⟨w.heap.size, 1, none⟩ = some (.int .i64 ct) ∧ W'.cell? ⟨w.heap.size, 2, none⟩ = some (.slice ao cl.length ac) ∧ W'.cell? ⟨w.heap.size, 3, none⟩ = some (.int .u8 cx.kind) ∧ W'.cell? ⟨w.heap.size, 4, none⟩ = some (.int .u8 cx.vk) ∧ W'.cell? ⟨w.heap.size, 5, none⟩ = some (.int .i64 cx.vn) ∧ W'.cell? ⟨w.heap.size, 6, none⟩ = some (.string cx.vs) ∧ W'.cell? ⟨w.heap.size, 7, none⟩ = some (.int .i64 cx.var) ∧ W'.cell? ⟨w.heap.size, 8, none⟩ = some (.int .u8 cx.op) ∧ W'.cell? ⟨w.heap.size, 9, none⟩ = some (.slice xo cx.kids.length xc) ∧ W'.cell? ⟨w.heap.size + 1, 0, none⟩ = some (.slice ho n1 hc) ∧ W'.cell? ⟨w.heap.size + 1, 1, none⟩ = some (.slice vo n2 vc) ∧ W'.cell? ⟨g, o + j * 3, none⟩ = some (.int .i64 f1) ∧ W'.cell? ⟨g, o + j * 3 + 1, none⟩ = some (.int .i64 f2) ∧ W'.cell? ⟨g, o + j * 3 + 2, none⟩ = some (.slice a1 m3 k1) ∧ Below wr.heap.size wr W')
          (first
            | (have hbx := hb; (try go_split_ands); exact HK.out _ (Below.trans (by assumption) (Below.mono hbx (Below.size (by assumption)))))
            | exact HK.out _ (below_drew (Below.refl _ _))
            | ((try go_split_ands); exact HK.out _ (below_new (by assumption) _))
            | exact HK.out _ (below_new HBc.out _)
            | exact HK.out _ (Below.setCell (Below.setCell HBc.out (by first | exact HQG.out | exact Nat.le_succ_of_le HQG.out) _) (by first | exact HQG.out | exact Nat.le_succ_of_le HQG.out) _))
          ((first
            | (go_at_call 18; (try go_split_ands); refine (HMj.out _ (by assumption)).mono ?_; rintro r wm ⟨p1, m1, c1, p2, m2, c2, rfl, hb⟩; (first | (replace HQ := Lib.hid ((hb.block _ (lt_of_heap HQ.out)).trans HQ.out)) | (replace HQ := Lib.hid ((hb.block _ (lt_of_heap (alloc_keep HQ.out _))).trans (alloc_keep HQ.out _))) | (have HQ := Lib.hid ((hb.block _ (by simp)).trans (alloc_at rfl (.cells #[.slice none 0 0, .slice none 0 0] 45))); have HQG := Lib.hid HBc.out.size) | (have HQ := Lib.hid ((hb.block _ (by simp; omega)).trans (alloc_keep (alloc_at rfl (.cells #[.slice none 0 0, .slice none 0 0] 45)) _)); have HQG := Lib.hid HBc.out.size) | (have HQ := Lib.hid ((hb.block _ (by simp)).trans (alloc_at (by simp) (.cells #[.slice none 0 0, .slice none 0 0] 45))); have HQG := Lib.hid (Nat.le_succ_of_le HBc.out.size)) | skip); (try (simp only [heap_drew10] at HQ)); (try (simp only [heap_alloc10] at HQ)); (first | (replace HBc := Lib.hid (HBc.out.trans (hb.mono HBc.out.size))) | (replace HBc := Lib.hid ((below_new HBc.out _).trans (hb.mono (below_new HBc.out _).size))) | (replace HBc := Lib.hid ((below_new (below_new HBc.out _) _).trans (hb.mono (below_new (below_new HBc.out _) _).size)))); (try (have q0 := Lib.cell_of_heap HQ.out 0; have q1 := Lib.cell_of_heap HQ.out 1; have qf := fun j => Lib.frozen_of_heap HQ.out j)))))
        all_goals (go_wp2_with fail; go_meet)
        all_goals first
          | exact ⟨rfl, below_new HBc.out _⟩
          | exact ⟨rfl, HBc.out.grown (two_set _ _ HQ.out rfl).2 HBc.out.size (fun k hk => by obtain rfl := Option.some.inj hk; first | exact HQG.out | exact Nat.le_succ_of_le HQG.out)⟩
      case rest =>
        obtain ⟨rfl, HBx⟩ := hcut
        clear HK HMj
        generalize wc = wx at *
        cases yb with
        | false =>
          have HNj2 := Lib.hid (HNj.out rfl)
          have HB2 := Lib.hid (HB.out.trans (HBx.out.mono HB.out.size))
          clear HNj HYj
          go_wp2_with fail
          go_roundw
          case rel => exact ⟨j + 1, by omega, by go_num, HNj2, HB2⟩
          case measure => simp [intOf]; omega
        | true =>
          have HY := Lib.hid (HYj.out rfl)
          have HB2 := Lib.hid (HB0.out.trans ((HB.out.trans (HBx.out.mono HB.out.size)).mono HB0.out.size))
          clear HNj HYj
          go_wp2_with fail
          go_ret
          exact ⟨by rw [HY.out]; rfl, HB2.out⟩
    · have HY : Hid ((fl.any fun f => (firstB ⟨ck, ct, cl, cx⟩ [f] e).isSome) = false) := by
        refine List.any_eq_false.2 fun f hf => ?_
        obtain ⟨k, hk, rfl⟩ := List.getElem_of_mem hf
        rw [HNo.out k (by omega) hk]
        decide
      obtain rfl : j = fl.length := by omega
      clear HNo
      go_wp2_with fail
      go_ret
      exact ⟨by rw [HY.out]; rfl, HB0.out.trans (HB.out.mono HB0.out.size)⟩
end
end Go.Proofs.Ytjcmbljpjimdiaa
