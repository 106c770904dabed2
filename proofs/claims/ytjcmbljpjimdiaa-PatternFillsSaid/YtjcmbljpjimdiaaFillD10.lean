/- PatternFills: where the fact matches. -/
import Derived.Test.YtjcmbljpjimdiaaWide10
namespace Go.Proofs.Ytjcmbljpjimdiaa
open Go.RowKit

/-- What stands while the loops run. -/
structure Fill10 (w W : World) (c : C10) (ao : Option Addr) (ac : Nat) (xo : Option Addr) (xc : Nat) (fi ft : Int) (fo : Option Addr) (fc : Nat) (v : V3) (n : Nat) (en : E10) (eb : Nat) (a1 : Option Addr) (d1 : Nat) (a2 : Option Addr) (d2 : Nat) : Prop where
  bel : Below w.heap.size w W
  cb : W.heap[w.heap.size]? = some (.cells (cellsC c ao ac xo xc) 33 (0, 0))
  fb : W.heap[w.heap.size + 1]? = some (.cells #[.int .i64 fi, .int .i64 ft, .slice fo c.args.length fc] 39 (0, 0))
  vb : W.heap[w.heap.size + 2]? = some (.cells #[.int .u8 v.1, .int .i64 v.2.1, .string v.2.2] 27 (0, 0))
  eb : W.heap[eb]? = some (.cells #[.slice a1 n d1, .slice a2 n d2] 42 (0, 0))
  own : Own10 w.heap.size W en (.slice a1 n d1) (.slice a2 n d2)
  even : Even n en
  le : w.heap.size ≤ W.heap.size
section
variable {w W W' : World} {c : C10} {ao : Option Addr} {ac : Nat} {xo : Option Addr} {xc : Nat} {fi ft : Int} {fo : Option Addr} {fc : Nat} {v : V3} {n : Nat} {en : E10} {eb : Nat} {a1 : Option Addr} {d1 : Nat} {a2 : Option Addr} {d2 : Nat}
theorem Fill10.old (h : Fill10 w W c ao ac xo xc fi ft fo fc v n en eb a1 d1 a2 d2) (b : Below W.heap.size W W') : Fill10 w W' c ao ac xo xc fi ft fo fc v n en eb a1 d1 a2 d2 :=
  ⟨h.bel.trans (b.mono h.le), (b.block _ (lt_of_heap h.cb)).trans h.cb, (b.block _ (lt_of_heap h.fb)).trans h.fb, (b.block _ (lt_of_heap h.vb)).trans h.vb, (b.block _ (lt_of_heap h.eb)).trans h.eb, h.own.old b, h.even, Nat.le_trans h.le b.size⟩
theorem cells_not_map {k g : Nat} {cs : Array Value} {t : TypeId} {fz : Nat × Nat} {q : Int → Option Value} (h : W.heap[k]? = some (.cells cs t fz)) (hq : IMap W g q) : k ≠ g := by
  rintro rfl
  obtain ⟨l, es, cl, h1, -⟩ := hq
  rw [h] at h1
  cases h1
theorem Fill10.map (h : Fill10 w W c ao ac xo xc fi ft fo fc v n en eb a1 d1 a2 d2) {g : Nat} {q : Int → Option Value} (hq : IMap W g q) (hg : W.grownBy W' (some g)) (hB : w.heap.size ≤ g) : Fill10 w W' c ao ac xo xc fi ft fo fc v n en eb a1 d1 a2 d2 := by
  have far : ∀ (k : Nat) (cs : Array Value) (t : TypeId) (fz : Nat × Nat), W.heap[k]? = some (.cells cs t fz) → W'.heap[k]? = some (.cells cs t fz) := fun k cs t fz hk => (hg.block k (lt_of_heap hk) (fun e => cells_not_map hk hq (Option.some.inj e))).trans hk
  have own : ∀ (e size m : Nat) (u : Value) (xs : List Value), W.ownsRow w.heap.size e size u m xs → W'.ownsRow w.heap.size e size u m xs := fun e size m u xs ho => by
    refine ho.kept hg ?_
    rcases ho.2 with ⟨rfl, -⟩ | ⟨k, cap, cur, rfl, -, hk, -⟩
    · exact Or.inl rfl
    · exact Or.inr fun e => cells_not_map hk hq (Option.some.inj e)
  exact ⟨h.bel.grown hg h.le (fun k hk => by cases hk; exact hB), far _ _ _ _ h.cb, far _ _ _ _ h.fb, far _ _ _ _ h.vb, far _ _ _ _ h.eb, ⟨own _ _ _ _ _ h.own.has, own _ _ _ _ _ h.own.vals⟩, h.even, Nat.le_trans h.le hg.size⟩
theorem Fill10.drewN (h : Fill10 w W c ao ac xo xc fi ft fo fc v n en eb a1 d1 a2 d2) (k : Nat) : Fill10 w (W.drewN k) c ao ac xo xc fi ft fo fc v n en eb a1 d1 a2 d2 := h.old (below_drewN (Below.refl _ _) k)
end
section
variable {w : World} {c : C10} {ao : Option Addr} {ac : Nat} {xo : Option Addr} {xc : Nat} {f : F10} {fo : Option Addr} {fc : Nat} {e0 : E10} {ho : Option Addr} {hc : Nat} {vo : Option Addr} {vc : Nat} {v : V3}
set_option maxRecDepth 100000 in
set_option maxHeartbeats 4000000 in
theorem fills_some (h : Came10 w c ao ac f fo fc e0 ho hc vo vc v) (h1 : c.args.length ≤ 2000) (h2 : f.args.length ≤ 2000) (h3 : e0.1.length ≤ 2000) (h4 : e0.2.length ≤ 2000) (en : E10) (hx : firstB c [f] e0 = some en) :
    Calls Try.prog 4 #[aggC c ao ac xo xc, aggF f fo fc, .slice ho e0.1.length hc, .slice vo e0.2.length vc, aggV v] w (FillsP w) := by
  obtain ⟨i0, hi, hz0, hz1, hz2⟩ := info_parts infoB
  have HAw := Lib.hid (fun W => awake_any W)
  obtain ⟨w0, hw0⟩ : ∃ w0, w0 = ((w.alloc (.cells (cellsC c ao ac xo xc) 33)).alloc (.cells #[.int .i64 f.id, .int .i64 f.type, .slice fo f.args.length fc] 39)).alloc (.cells #[.int .u8 v.1, .int .i64 v.2.1, .string v.2.2] 27) := ⟨_, rfl⟩
  have hb0 : Below w.heap.size w w0 := by rw [hw0]; exact below_new (below_new (below_own _) _) _
  have hs0 : w0.heap.size = w.heap.size + 3 := by rw [hw0]; simp
  obtain ⟨q1, q2, q3⟩ : w0.heap[w.heap.size]? = some (.cells (cellsC c ao ac xo xc) 33 (0, 0)) ∧ w0.heap[w.heap.size + 1]? = some (.cells #[.int .i64 f.id, .int .i64 f.type, .slice fo f.args.length fc] 39 (0, 0)) ∧ w0.heap[w.heap.size + 2]? = some (.cells #[.int .u8 v.1, .int .i64 v.2.1, .string v.2.2] 27 (0, 0)) := by
    rw [hw0]
    exact heap_three _ _ _
  have HB0 := Lib.hid hb0
  have HQ1 := Lib.hid q1
  have HQ2 := Lib.hid q2
  have HQ3 := Lib.hid q3
  have HCame := Lib.hid h
  have HC := Lib.hid (fun W (hW : Below w.heap.size w W) => (h.env.has.up hW hW.size).cells)
  have HN := Lib.hid h.env.has.nil
  have HV := Lib.hid (fun W (hW : Below w.heap.size w W) => copyV_any e0.2 vo vc W (h.env.vals.up hW hW.size) (by omega))
  obtain ⟨hmd, -, hft, hfl, hfit⟩ := firstB_known hx
  have hmn : e0.2.length = e0.1.length := (made_even hmd).2
  have hEn : Even e0.1.length en := fitsP_even hfit (made_even hmd)
  have HM : Hid (∀ W, Below w.heap.size w W → ∀ a1 d1 a2 d2, Own10 w.heap.size W e0 (.slice a1 e0.1.length d1) (.slice a2 e0.1.length d2) → Calls Try.prog 11 #[aggC c ao ac xo xc, aggF f fo fc, .agg #[.slice a1 e0.1.length d1, .slice a2 e0.1.length d2]] W fun r w' => ∃ b1 k1 b2 k2, r = .returned (.tuple #[.agg #[.slice b1 e0.1.length k1, .slice b2 e0.1.length k2], .bool true]) ∧ Own10 W.heap.size w' en (.slice b1 e0.1.length k1) (.slice b2 e0.1.length k2) ∧ Below W.heap.size W w') := fun W hW a1 d1 a2 d2 hO => by
    have hO2 := hO.vals
    rw [← hmn] at hO2
    have := (h.tells xo xc W hW e0 a1 d1 a2 d2 ⟨owns_sl hO.has, owns_sl hO2⟩ (by omega) h.short2)
    unfold aggE at this
    rw [hmn] at this
    refine this.mono fun r w' hr => ?_
    obtain ⟨hb, hr⟩ := hr
    rw [hx] at hr
    rcases hr with ⟨hr, -⟩ | ⟨e', b1, k1, b2, k2, he, hr, hO'⟩
    · cases hr
    · obtain rfl := Option.some.inj he
      unfold aggE at hr
      rw [hEn.1, hEn.2] at hr hO'
      exact ⟨b1, k1, b2, k2, hr, hO', hb⟩
  have HV2 : Hid (∀ W, Below w.heap.size w W → Calls Try.prog 10 #[.slice vo e0.1.length vc] W fun e w' => ∃ v, e = .returned v ∧ w'.ownsRow W.heap.size 27 3 v e0.1.length (cellsV e0.2) ∧ Below W.heap.size W w') := fun W hW => by
    have := HV.out W hW
    rw [hmn] at this
    exact this
  have t1 : ¬ (2000 : Int) < (c.args.length : Int) := by omega
  have t2 : ¬ (2000 : Int) < (f.args.length : Int) := by omega
  have t3 : ¬ (2000 : Int) < (e0.1.length : Int) := by omega
  have t4 : ¬ (2000 : Int) < (e0.2.length : Int) := by omega
  have hlB : (cellsB e0.1).length = e0.1.length * 1 := by rw [cellsB_length]; omega
  obtain ⟨ck, ct, cl, cx⟩ := c
  obtain ⟨fi, ft, fl⟩ := f
  obtain ⟨v1, v2, v3⟩ := v
  simp only at h1 h2 t1 t2 hw0 HQ1 HQ2 HQ3 HM hft hfl hfit HCame
  subst hft
  have HHx := Lib.hid hx
  have HFit := Lib.hid hfit
  have HEn := Lib.hid hEn
  have hmm := @run_makeMap Try.prog
  have HFl := Lib.hid hfl
  rw [hfl] at t2 hw0 HQ2 h2
  clear h q1 q2 q3 hb0 hx hmd hfit hEn hfl
  unfold FillsP
  unfold aggF at HM ⊢
  simp only at HM ⊢
  rw [HFl.out] at HM ⊢
  obtain ⟨n, hn⟩ : ∃ n, n = e0.1.length := ⟨_, rfl⟩
  have hN1 := Lib.hid hn
  have hN2 : Hid (n = e0.2.length) := hn.trans hmn.symm
  rw [hmn, ← hn]
  rw [← hn] at h3 t3 hlB HN HM HV2 HEn
  clear hn hmn HV t4 h4
  go_enter Try.func4, Try.ntmps4
  go_upto_region 14 with (first
    | (go_at_call 5; go_must (rw [← hw0]; clear hw0; refine (HAw.out _).mono ?_; rintro r w1 ⟨rfl, hb⟩; have HB1 := Lib.hid (HB0.out.trans (hb.mono HB0.out.size)); have HP1 := Lib.hid ((hb.block w.heap.size (by omega)).trans HQ1.out); have HP2 := Lib.hid ((hb.block (w.heap.size + 1) (by omega)).trans HQ2.out); have hp1 := lt_of_heap HP1.out; have hp2 := lt_of_heap HP2.out; have HP3 := Lib.hid ((hb.block (w.heap.size + 2) (by omega)).trans HQ3.out); have hp3 := lt_of_heap HP3.out; have y1 := (fun j => Lib.cell_of_heap HP1.out j); have y2 := (fun j => Lib.cell_of_heap HP2.out j); clear hb))
    | (at_builtin; go_must (refine wpList_append_apart _ rfl (.tmp 51) (.tmp 52) 34 rfl w.heap.size 4 i0 (.bool false) 1 1 Try.underlying34 hi hz0 hz1 hz2 rfl (by decide) _ 0 [] rfl (World.ownsRow_made w1 #[] 0 HB1.out.size (Nat.zero_le _) rfl) ho n hc (cellsB e0.1) rfl hlB HN.out (HC.out _ (below_new HB1.out _) _ (Below.refl _ _)) (cellsB_one _) (by unfold maxLen; omega) (by omega) (by have := HB1.out.size; simp; omega) ?_; intro v' w3 hown' hgrow' hor; simp only [Nat.zero_add, List.nil_append] at hown'; obtain ⟨a1, d1, rfl⟩ := owns_slice hown'; have HO1 := Lib.hid hown'; have HB3 := Lib.hid ((below_new HB1.out (.cells #[] 4)).grown hgrow' (below_new HB1.out (.cells #[] 4)).size (fun k hk => by cases hk; exact HB1.out.size)); have HP31 := Lib.hid ((grown_other hgrow' (k := w.heap.size) (by simp; omega) (by omega)).trans (alloc_keep HP1.out _)); have HP32 := Lib.hid ((grown_other hgrow' (k := w.heap.size + 1) (by simp; omega) (by omega)).trans (alloc_keep HP2.out _)); have HP33 := Lib.hid ((grown_other hgrow' (k := w.heap.size + 2) (by simp; omega) (by omega)).trans (alloc_keep HP3.out _)); clear hown' hgrow' hor y1 y2))
    | (go_at_call 10; go_must (refine (HV2.out _ HB3.out).mono ?_; rintro r w4 ⟨u, rfl, hU, hb⟩; obtain ⟨a2, d2, rfl⟩ := owns_slice hU; have HB4 := Lib.hid (HB3.out.trans (hb.mono HB3.out.size)); have HO4 := Lib.hid (show Own10 w.heap.size w4 e0 _ _ from own_mk hN1.out hN2.out (owns_below HO1.out hb) (owns_mono hU HB3.out.size)); have HP41 := Lib.hid ((hb.block w.heap.size (lt_of_heap HP31.out)).trans HP31.out); have HP42 := Lib.hid ((hb.block (w.heap.size + 1) (lt_of_heap HP32.out)).trans HP32.out); have HP43 := Lib.hid ((hb.block (w.heap.size + 2) (lt_of_heap HP33.out)).trans HP33.out); have hp41 := lt_of_heap HP41.out; have hp43 := lt_of_heap HP43.out; have hp42 := lt_of_heap HP42.out; have y3 := (fun j => Lib.cell_of_heap HP41.out j); have y4 := (fun j => Lib.cell_of_heap HP42.out j); clear hU hb))
    | (go_at_call 11; go_must (refine (HM.out _ (below_new HB4.out _) _ _ _ _ (HO4.out.old (below_own _))).mono ?_; rintro r w5 ⟨b1, k1, b2, k2, rfl, hO, hb⟩; have HB5 := Lib.hid ((below_new HB4.out _).trans (hb.mono (below_new HB4.out _).size)); have HO5 := Lib.hid (show Own10 w.heap.size w5 en _ _ from ⟨owns_mono hO.has (below_new HB4.out _).size, owns_mono hO.vals (below_new HB4.out _).size⟩); have HP51 := Lib.hid ((hb.block w.heap.size (by simp; omega)).trans (alloc_keep HP41.out _)); have HP52 := Lib.hid ((hb.block (w.heap.size + 1) (by simp; omega)).trans (alloc_keep HP42.out _)); have HP53 := Lib.hid ((hb.block (w.heap.size + 2) (by simp; omega)).trans (alloc_keep HP43.out _)); have hp51 := lt_of_heap HP51.out; have hp52 := lt_of_heap HP52.out; have hp53 := lt_of_heap HP53.out; have y5 := (fun j => Lib.cell_of_heap HP51.out j); have y6 := (fun j => Lib.cell_of_heap HP52.out j); clear hO hb y3 y4)))
  obtain ⟨W0, hW0⟩ : ∃ W0, W0 = ((w5.alloc (.cells #[.slice b1 n k1, .slice b2 n k2] 42)).alloc (.map #[] 0)).alloc (.map #[] 0) := ⟨_, rfl⟩
  rw [← hW0]
  have HF0 : Hid (Fill10 w W0 ⟨ck, ft, cl, cx⟩ ao ac xo xc fi ft fo fc (v1, v2, v3) n en w5.heap.size b1 k1 b2 k2) := by
    have hb : Below w5.heap.size w5 W0 := by rw [hW0]; exact below_new (below_new (below_own _) _) _
    have h3 : W0.heap[w5.heap.size]? = some (.cells #[.slice b1 n k1, .slice b2 n k2] 42 (0, 0)) := by rw [hW0]; exact (heap_three _ _ _).1
    exact ⟨HB5.out.trans (hb.mono HB5.out.size), (hb.block _ hp51).trans HP51.out, (hb.block _ hp52).trans HP52.out, (hb.block _ hp53).trans HP53.out, h3, HO5.out.old hb, HEn.out, Nat.le_trans HB5.out.size hb.size⟩
  have HI10 : Hid (IMap W0 (w5.heap.size + 1) (lastF ((cl.zip fl).take 0))) := by
    have h3 : W0.heap[w5.heap.size + 1]? = some (.map #[] 0) := by rw [hW0]; exact (heap_three _ _ _).2.1
    exact (IMap.empty h3).same rfl
  have HI20 : Hid (IMap W0 (w5.heap.size + 1 + 1) (askedF (cl.take 0))) := by
    have h3 : W0.heap[w5.heap.size + 2]? = some (.map #[] 0) := by rw [hW0]; exact (heap_three _ _ _).2.2
    exact (IMap.empty h3).same rfl
  have hL1 : w.heap.size ≤ w5.heap.size + 1 := by have := HB5.out.size; omega
  have hL2 : w.heap.size ≤ w5.heap.size + 1 + 1 := by omega
  have hm12 : w5.heap.size + 1 ≠ w5.heap.size + 1 + 1 := by omega
  clear hW0 y5 y6 HB5 HO5 HP51 HP52 HP53 hp51 hp52 hp53
  generalize w5.heap.size + 1 + 1 = m2 at *
  generalize w5.heap.size + 1 = m1 at *
  generalize w5.heap.size = eb at *
  go_wp2_with fail
  go_loopw [15, 17] (fun l i wr => ∃ j : Nat, j ≤ cl.length ∧ l = .bool (late10 (cl.take j)) ∧ i = .int .i64 j ∧ Hid (Fill10 w wr ⟨ck, ft, cl, cx⟩ ao ac xo xc fi ft fo fc (v1, v2, v3) n en eb b1 k1 b2 k2) ∧ Hid (IMap wr m1 (lastF ((cl.zip fl).take j))) ∧ Hid (IMap wr m2 (askedF (cl.take j)))) (fun _ i _ => cl.length - (intOf i).toNat)
  case atStart => exact ⟨0, by omega, rfl, rfl, HF0, HI10, HI20⟩
  case round =>
    obtain ⟨j, hj, rfl, rfl, HF, HI1, HI2⟩ := hrel
    have y1 : ∀ k, wr.cell? ⟨w.heap.size, k, none⟩ = (cellsC ⟨ck, ft, cl, cx⟩ ao ac xo xc)[k]? := fun k => Lib.cell_of_heap HF.out.cb k
    have y2 : ∀ k, wr.cell? ⟨w.heap.size + 1, k, none⟩ = (#[Value.int .i64 fi, .int .i64 ft, .slice fo cl.length fc])[k]? := fun k => Lib.cell_of_heap HF.out.fb k
    have q1 := lt_of_heap HF.out.cb
    have q2 := lt_of_heap HF.out.fb
    by_cases hlt : j < cl.length
    · obtain ⟨g, o, rfl, hgB, a0, a1, a2, a3, a4⟩ := (HCame.out.args.up HF.out.bel (Nat.le_refl _)).arg hlt
      obtain ⟨g2, o2, rfl, hgB2, c0, c1, c2⟩ := ((show Sl10 w.heap.size w fl.length fo fc (cellsV fl) from HCame.out.fact).up HF.out.bel (Nat.le_refl _)).vget (j := j) (by rw [HFl.out]; exact hlt)
      have hgl : g < wr.heap.size := by omega
      have hgl2 : g2 < wr.heap.size := by omega
      have HR := round10 (n := n) ⟨hN1.out.symm, hN2.out.symm⟩ HFl.out HFit.out hlt
      have HX : Hid (In64 cl[j].var) := HCame.out.vars _ (List.getElem_mem hlt)
      have HT0 := Lib.hid (late_take hlt)
      have HT1 := Lib.hid (lastF_take HFl.out hlt)
      have HT2 := Lib.hid (askedF_take hlt)
      have HCV := Lib.hid (fun (i : Nat) (hi : i < cl.length) => ((show Sl10 w.heap.size w fl.length (some ⟨g2, o2, none⟩) fc (cellsV fl) from HCame.out.fact).up HF.out.bel (Nat.le_refl _)).vget (j := i) (by rw [HFl.out]; exact hi))
      simp only at a0 a1 a2 a3 a4
      generalize cl[j] = a at *
      obtain ⟨ak, ai, av1, av2, av3⟩ := a
      simp only at a0 a1 a2 a3 a4 HX HR HT0 HT1 HT2
      have hjn : (j : Int) < (cl.length : Int) := by omega
      rcases HR with h | h | ⟨h, kk, hv, hkn, hcase⟩ | ⟨h, hval⟩
      · as_aux_lemma =>
        subst h
        have HL0 := Lib.hid (show late10 (cl.take (j + 1)) = late10 (cl.take j) by rw [HT0.out]; simp)
        have HE1 : Hid (lastF ((cl.zip fl).take (j + 1)) = lastF ((cl.zip fl).take j)) := by rw [HT1.out]; funext x; simp
        have HE2 : Hid (askedF (cl.take (j + 1)) = askedF (cl.take j)) := by rw [HT2.out]; funext x; simp
        have hlk : ∀ a, (Instr.lookup 51 (.map (some m1)) (.int .i64 ai) true).run Try.prog ((wr.alloc (.cells #[.int .u8 1, .int .i64 ai, .int .u8 av1, .int .i64 av2, .string av3] 55)).drewN a) = .ok (.tuple #[(lastF ((cl.zip fl).take j) ai).getD (.int .i64 0), .bool (lastF ((cl.zip fl).take j) ai).isSome]) ((wr.alloc (.cells #[.int .u8 1, .int .i64 ai, .int .u8 av1, .int .i64 av2, .string av3] 55)).drewN a) := fun a => look51 (HI1.out.keep (by exact (below_own _).block _ HI1.out.lt)) HX.out
        clear HT0 HT1 HT2
        generalize lastF ((cl.zip fl).take j) ai = lk at *
        go_wp2_with fail
        go_quiet (fail)
        go_wp2_with fail
        go_quiet (fail)
        go_wp2
        go_roundw
        case rel => exact ⟨j + 1, by omega, by rw [HL0.out], by go_num, (HF.out.old (below_own _)).drewN _, (HI1.out.keep (by exact (below_own _).block _ HI1.out.lt)).same HE1.out.symm, (HI2.out.keep (by exact (below_own _).block _ HI2.out.lt)).same HE2.out.symm⟩
        case measure => simp [intOf]; omega
      · as_aux_lemma =>
        subst h
        have HE2 : Hid (askedF (cl.take (j + 1)) = askedF (cl.take j)) := by rw [HT2.out]; funext x; simp
        have HE1 : Hid (lastF ((cl.zip fl).take (j + 1)) = (fun y => if y = ai then some (.int .i64 (j : Nat)) else lastF ((cl.zip fl).take j) y)) := by
          rw [HT1.out]
          funext x
          by_cases hx : ai = x
          · subst hx
            simp
          · rw [if_neg (fun h => hx h.2), if_neg (fun e => hx e.symm)]
        obtain ⟨w2, hput, hgr, hsz2, him⟩ := put51 (x := ai) (HI1.out.keep (w' := wr.alloc (.cells #[.int .u8 2, .int .i64 ai, .int .u8 av1, .int .i64 av2, .string av3] 55)) (by exact (below_own _).block _ HI1.out.lt)) HX.out (.int .i64 (j : Nat))
        have HF2 := Lib.hid ((HF.out.old (below_own _)).map (HI1.out.keep (w' := wr.alloc (.cells #[.int .u8 2, .int .i64 ai, .int .u8 av1, .int .i64 av2, .string av3] 55)) (by exact (below_own _).block _ HI1.out.lt)) hgr hL1)
        have hbox : w2.heap[wr.heap.size]? = some (.cells #[.int .u8 2, .int .i64 ai, .int .u8 av1, .int .i64 av2, .string av3] 55 (0, 0)) := (hgr.block _ (by simp) (fun e => by have := HI1.out.lt; have := Option.some.inj e; omega)).trans (heap_alloc_new wr _)
        have y3 : ∀ i, w2.cell? ⟨wr.heap.size, i, none⟩ = (#[Value.int .u8 2, .int .i64 ai, .int .u8 av1, .int .i64 av2, .string av3])[i]? := fun i => Lib.cell_of_heap hbox i
        have y4 : ∀ i, w2.cell? ⟨w.heap.size, i, none⟩ = (cellsC ⟨ck, ft, cl, cx⟩ (some ⟨g, o, none⟩) ac xo xc)[i]? := fun i => Lib.cell_of_heap HF2.out.cb i
        have y5 : ∀ i, w2.cell? ⟨w.heap.size + 1, i, none⟩ = (#[Value.int .i64 fi, .int .i64 ft, .slice (some ⟨g2, o2, none⟩) cl.length fc])[i]? := fun i => Lib.cell_of_heap HF2.out.fb i
        have HJ : Hid (IMap w2 m1 (fun y => if y = ai then some (.int .i64 (j : Nat)) else lastF ((cl.zip fl).take j) y)) := him
        have HK : Hid (IMap w2 m2 (askedF (cl.take j))) := HI2.out.keep ((hgr.block _ (by simp; have := HI2.out.lt; omega) (fun e => hm12.symm (Option.some.inj e))).trans ((below_own _).block _ HI2.out.lt))
        have hlk : ∀ a, (Instr.lookup 51 (.map (some m1)) (.int .i64 ai) true).run Try.prog (w2.drewN a) = .ok (.tuple #[.int .i64 (j : Nat), .bool true]) (w2.drewN a) := fun a => by
          have := look51 (HJ.out.keep (w' := w2.drewN a) rfl) HX.out
          rw [this]
          simp
        have hlk2 := look52 HK.out HX.out
        have HL0 := Lib.hid (show late10 (cl.take (j + 1)) = (late10 (cl.take j) || asked10 (cl.take j) ai) by rw [HT0.out]; simp)
        have HLt := Lib.hid hgr.size
        clear HT0 HT1 HT2 him hgr hbox
        generalize asked10 (cl.take j) ai = as0 at *
        generalize late10 (cl.take j) = l0 at *
        cases l0 <;> (
          go_wp2_with fail
          go_quiet (fail)
          go_wp2_with fail
          go_quiet (fail)
          go_wp2
          go_roundw
          case rel => exact ⟨j + 1, by omega, by rw [HL0.out]; rfl, by go_num, HF2.out.drewN _, (HJ.out.keep rfl).same HE1.out.symm, (HK.out.keep rfl).same HE2.out.symm⟩
          case measure => simp [intOf]; omega)
      · as_aux_lemma =>
        subst h
        subst hv
        have HL0 := Lib.hid (show late10 (cl.take (j + 1)) = late10 (cl.take j) by rw [HT0.out]; simp)
        have HE1 : Hid (lastF ((cl.zip fl).take (j + 1)) = lastF ((cl.zip fl).take j)) := by rw [HT1.out]; funext x; simp
        have HE2 : Hid (askedF (cl.take (j + 1)) = (fun y => if y = (kk : Int) then some (.bool true) else askedF (cl.take j) y)) := by
          rw [HT2.out]
          funext x
          by_cases hx : (kk : Int) = x
          · subst hx
            simp
          · rw [if_neg (fun h => hx h.2), if_neg (fun e => hx e.symm)]
        obtain ⟨w2, hput, hgr, hsz2, him⟩ := put52 (x := (kk : Int)) (HI2.out.keep (w' := wr.alloc (.cells #[.int .u8 3, .int .i64 (kk : Int), .int .u8 av1, .int .i64 av2, .string av3] 55)) (by exact (below_own _).block _ HI2.out.lt)) HX.out (.bool true)
        have HF2 := Lib.hid ((HF.out.old (below_own _)).map (HI2.out.keep (w' := wr.alloc (.cells #[.int .u8 3, .int .i64 (kk : Int), .int .u8 av1, .int .i64 av2, .string av3] 55)) (by exact (below_own _).block _ HI2.out.lt)) hgr hL2)
        have hbox : w2.heap[wr.heap.size]? = some (.cells #[.int .u8 3, .int .i64 (kk : Int), .int .u8 av1, .int .i64 av2, .string av3] 55 (0, 0)) := (hgr.block _ (by simp) (fun e => by have := HI2.out.lt; have := Option.some.inj e; omega)).trans (heap_alloc_new wr _)
        have y3 : ∀ i, w2.cell? ⟨wr.heap.size, i, none⟩ = (#[Value.int .u8 3, .int .i64 (kk : Int), .int .u8 av1, .int .i64 av2, .string av3])[i]? := fun i => Lib.cell_of_heap hbox i
        have y4 : ∀ i, w2.cell? ⟨w.heap.size, i, none⟩ = (cellsC ⟨ck, ft, cl, cx⟩ (some ⟨g, o, none⟩) ac xo xc)[i]? := fun i => Lib.cell_of_heap HF2.out.cb i
        have y5 : ∀ i, w2.cell? ⟨w.heap.size + 1, i, none⟩ = (#[Value.int .i64 fi, .int .i64 ft, .slice (some ⟨g2, o2, none⟩) cl.length fc])[i]? := fun i => Lib.cell_of_heap HF2.out.fb i
        have HJ : Hid (IMap w2 m2 (fun y => if y = (kk : Int) then some (.bool true) else askedF (cl.take j) y)) := him
        have HK : Hid (IMap w2 m1 (lastF ((cl.zip fl).take j))) := HI1.out.keep ((hgr.block _ (by simp; have := HI1.out.lt; omega) (fun e => hm12 (Option.some.inj e))).trans ((below_own _).block _ HI1.out.lt))
        have hkn1 : (kk : Int) < (n : Int) := by omega
        have hkn2 : ¬ ((kk : Int) < 0) := by omega
        have hkn3 : ¬ ((n : Int) ≤ (kk : Int)) := by omega
        have HB2 := Lib.hid HF2.out.bel
        obtain ⟨g3, o3, e3, -, d0, d1, d2⟩ := ((show Sl10 w.heap.size w fl.length (some ⟨g2, o2, none⟩) fc (cellsV fl) from HCame.out.fact).up HB2.out (Nat.le_refl _)).vget (j := j) (by rw [HFl.out]; exact hlt)
        cases e3
        have HLt := Lib.hid hgr.size
        have hlk0 := fun a => look51 (HK.out.keep (w' := w2.drewN a) rfl) HX.out
        rcases hcase with ⟨i, hi1, hi2, hi3⟩ | ⟨hi1, hi2, hi3⟩
        · as_aux_lemma =>
          have hlk : ∀ a, (Instr.lookup 51 (.map (some m1)) (.int .i64 (kk : Int)) true).run Try.prog (w2.drewN a) = .ok (.tuple #[.int .i64 (i : Nat), .bool true]) (w2.drewN a) := fun a => by
            rw [hlk0 a]
            unfold lastF
            rw [hi1]
            rfl
          obtain ⟨g4, o4, e4, -, x0, x1, x2⟩ := ((show Sl10 w.heap.size w fl.length (some ⟨g2, o2, none⟩) fc (cellsV fl) from HCame.out.fact).up HB2.out (Nat.le_refl _)).vget (j := i) (by rw [HFl.out]; exact hi2)
          cases e4
          rw [hi3] at x0 x1 x2
          generalize fl.getD j zeroT = u at *
          obtain ⟨u1, u2, u3⟩ := u
          simp only at d0 d1 d2 x0 x1 x2
          have hne := fun W => neV u1 u2 u1 u2 u3 u3 W
          rw [(eqvB_iff (u1, u2, u3) (u1, u2, u3)).2 rfl] at hne
          have hg := eqGuardV
          have hin : (i : Int) < (cl.length : Int) := by omega
          clear HT0 HT1 HT2 him hgr hbox hlk0 hi1 hi3 c0 c1 c2
          go_wp2_with fail
          go_quiet (fail)
          go_wp2_with fail
          go_quiet (fail)
          go_wp2
          go_roundw
          case rel => exact ⟨j + 1, by omega, by rw [HL0.out], by go_num, HF2.out.drewN _, (HK.out.keep rfl).same HE1.out.symm, (HJ.out.keep rfl).same HE2.out.symm⟩
          case measure => simp [intOf]; omega
        · as_aux_lemma =>
          have hlk : ∀ a, (Instr.lookup 51 (.map (some m1)) (.int .i64 (kk : Int)) true).run Try.prog (w2.drewN a) = .ok (.tuple #[.int .i64 0, .bool false]) (w2.drewN a) := fun a => by
            rw [hlk0 a]
            unfold lastF
            rw [hi1]
            rfl
          obtain ⟨g4, o4, e4, hg4, x0, x1, x2⟩ := (HCame.out.env.vals.up HB2.out (Nat.le_refl _)).vget (j := kk) (by rw [← hN2.out]; exact hkn)
          subst e4
          have z0 := cellsB_get e0.1 kk (by rw [← hN1.out]; exact hkn)
          obtain ⟨g5, o5, e5, hg5, r5⟩ := (HCame.out.env.has.up HB2.out (Nat.le_refl _)).row (fun hn => by rw [hn] at z0; cases z0)
          subst e5
          have z1 := r5 _ _ z0
          rw [hi2] at z1
          rw [hi3] at x0 x1 x2
          generalize fl.getD j zeroT = u at *
          obtain ⟨u1, u2, u3⟩ := u
          simp only at d0 d1 d2 x0 x1 x2
          have hne := fun W => neV u1 u2 u1 u2 u3 u3 W
          rw [(eqvB_iff (u1, u2, u3) (u1, u2, u3)).2 rfl] at hne
          have hg := eqGuardV
          clear HT0 HT1 HT2 him hgr hbox hlk0 hi1 hi3 c0 c1 c2 z0 r5 hi2
          go_wp2_with fail
          go_quiet (fail)
          go_wp2_with fail
          go_quiet (fail)
          go_wp2
          go_roundw
          case rel => exact ⟨j + 1, by omega, by rw [HL0.out], by go_num, HF2.out.drewN _, (HK.out.keep rfl).same HE1.out.symm, (HJ.out.keep rfl).same HE2.out.symm⟩
          case measure => simp [intOf]; omega
      · as_aux_lemma =>
        subst h
        rw [← hval] at c0 c1 c2
        simp only at c0 c1 c2
        have hne := fun W => neV av1 av2 av1 av2 av3 av3 W
        rw [(eqvB_iff (av1, av2, av3) (av1, av2, av3)).2 rfl] at hne
        have hg := eqGuardV
        have HL0 := Lib.hid (show late10 (cl.take (j + 1)) = late10 (cl.take j) by rw [HT0.out]; simp)
        have HE1 : Hid (lastF ((cl.zip fl).take (j + 1)) = lastF ((cl.zip fl).take j)) := by rw [HT1.out]; funext x; simp
        have HE2 : Hid (askedF (cl.take (j + 1)) = askedF (cl.take j)) := by rw [HT2.out]; funext x; simp
        have hlk : ∀ a, (Instr.lookup 51 (.map (some m1)) (.int .i64 ai) true).run Try.prog ((wr.alloc (.cells #[.int .u8 4, .int .i64 ai, .int .u8 av1, .int .i64 av2, .string av3] 55)).drewN a) = .ok (.tuple #[(lastF ((cl.zip fl).take j) ai).getD (.int .i64 0), .bool (lastF ((cl.zip fl).take j) ai).isSome]) ((wr.alloc (.cells #[.int .u8 4, .int .i64 ai, .int .u8 av1, .int .i64 av2, .string av3] 55)).drewN a) := fun a => look51 (HI1.out.keep (by exact (below_own _).block _ HI1.out.lt)) HX.out
        clear HT0 HT1 HT2
        generalize lastF ((cl.zip fl).take j) ai = lk at *
        go_wp2_with fail
        go_quiet (fail)
        go_wp2_with fail
        go_quiet (fail)
        go_wp2
        go_roundw
        case rel => exact ⟨j + 1, by omega, by rw [HL0.out], by go_num, (HF.out.old (below_own _)).drewN _, (HI1.out.keep (by exact (below_own _).block _ HI1.out.lt)).same HE1.out.symm, (HI2.out.keep (by exact (below_own _).block _ HI2.out.lt)).same HE2.out.symm⟩
        case measure => simp [intOf]; omega
    · obtain rfl : j = cl.length := by omega
      have hz : (cl.zip fl).take cl.length = cl.zip fl := List.take_of_length_le (by rw [List.length_zip, HFl.out, Nat.min_self]; exact Nat.le_refl _)
      rw [hz] at HI1
      rw [List.take_length]
      have HAgain : Hid (late10 cl = false → firstB ⟨ck, ft, cl, cx⟩ [⟨fi, ft, fl⟩] en = some en) := fun h => firstB_again HHx.out h
      have HI3 := HI1
      clear HI1 HI2 hz
      generalize late10 cl = lt at *
      go_wp2_with fail
      clear y1 y2 q1 q2
      go_loopw [21] (fun i wr => ∃ k : Nat, k ≤ n ∧ i = .int .i64 k ∧ Hid (Fill10 w wr ⟨ck, ft, cl, cx⟩ ao ac xo xc fi ft fo fc (v1, v2, v3) n en eb b1 k1 b2 k2) ∧ Hid (IMap wr m1 (lastF (cl.zip fl)))) (fun i _ => n - (intOf i).toNat)
      case atStart => exact ⟨0, by omega, rfl, HF, HI3⟩
      case round =>
        obtain ⟨k, hk, rfl, HG, HI⟩ := hrel
        have y1 : ∀ k, wr.cell? ⟨w.heap.size, k, none⟩ = (cellsC ⟨ck, ft, cl, cx⟩ ao ac xo xc)[k]? := fun k => Lib.cell_of_heap HG.out.cb k
        have y2 : ∀ k, wr.cell? ⟨w.heap.size + 1, k, none⟩ = (#[Value.int .i64 fi, .int .i64 ft, .slice fo cl.length fc])[k]? := fun k => Lib.cell_of_heap HG.out.fb k
        have y3 : ∀ k, wr.cell? ⟨eb, k, none⟩ = (#[Value.slice b1 n k1, .slice b2 n k2])[k]? := fun k => Lib.cell_of_heap HG.out.eb k
        have q1 := lt_of_heap HG.out.cb
        have q2 := lt_of_heap HG.out.fb
        have q3 := lt_of_heap HG.out.eb
        by_cases hlt : k < n
        · obtain ⟨p1, s1, cur1, e1, -, hp1, -, -, hc1⟩ := owns_at HG.out.own.has (by rw [HEn.out.1]; omega)
          obtain ⟨p2, s2, cur2, e2, -, hp2, -, -, hc2⟩ := owns_at HG.out.own.vals (by rw [HEn.out.2]; omega)
          rw [HEn.out.1] at e1 hc1
          rw [HEn.out.2] at e2 hc2
          simp only [Value.slice.injEq, true_and] at e1 e2
          obtain ⟨rfl, rfl⟩ := e1
          obtain ⟨rfl, rfl⟩ := e2
          have x0 := (hc1 k (by omega)).trans (cellsB_get en.1 k (by rw [HEn.out.1]; exact hlt))
          obtain ⟨t1, t2, t3⟩ := cellsV_get en.2 k (by rw [HEn.out.2]; exact hlt)
          have x1 := (hc2 (k * 3) (by omega)).trans t1
          have x2 := (hc2 (k * 3 + 1) (by omega)).trans t2
          have x3 := (hc2 (k * 3 + 2) (by omega)).trans t3
          have l1 := lt_of_heap hp1
          have l2 := lt_of_heap hp2
          clear hc1 hc2 hp1 hp2 t1 t2 t3
          have hkn1 : (k : Int) < (n : Int) := by omega
          have hX : In64 (k : Int) := ⟨by omega, by omega⟩
          have hlk0 := look51 HI.out hX
          rcases round10b (n := n) ⟨hN1.out.symm, hN2.out.symm⟩ HFl.out HFit.out k with ⟨i, hi1, hi2, hi3, hi4⟩ | ⟨hi1, hi3, hi4⟩
          · as_aux_lemma =>
            have hlk : (Instr.lookup 51 (.map (some m1)) (.int .i64 (k : Int)) true).run Try.prog wr = .ok (.tuple #[.int .i64 (i : Nat), .bool true]) wr := by
              rw [hlk0]
              unfold lastF
              rw [hi1]
              rfl
            obtain ⟨g4, o4, rfl, l4, d0, d1, d2⟩ := ((show Sl10 w.heap.size w fl.length fo fc (cellsV fl) from HCame.out.fact).up HG.out.bel (Nat.le_refl _)).vget (j := i) (by rw [HFl.out]; exact hi2)
            rw [hi3] at x0
            rw [hi4] at x1 x2 x3
            generalize fl.getD i zeroT = u at *
            obtain ⟨u1, u2, u3⟩ := u
            simp only at d0 d1 d2 x1 x2 x3
            have hne := fun W => neV u1 u2 u1 u2 u3 u3 W
            rw [(eqvB_iff (u1, u2, u3) (u1, u2, u3)).2 rfl] at hne
            have hg := eqGuardV
            have hin : (i : Int) < (cl.length : Int) := by omega
            have hgl4 : g4 < wr.heap.size := by omega
            clear hlk0 hi1 hi3 hi4 HI3
            go_wp2_with fail
            go_quiet (fail)
            go_wp2
            go_roundw
            case rel => exact ⟨k + 1, by omega, by go_num, HG.out.drewN _, HI.out.keep rfl⟩
            case measure => simp [intOf]; omega
          · as_aux_lemma =>
            have hlk : (Instr.lookup 51 (.map (some m1)) (.int .i64 (k : Int)) true).run Try.prog wr = .ok (.tuple #[.int .i64 0, .bool false]) wr := by
              rw [hlk0]
              unfold lastF
              rw [hi1]
              rfl
            obtain ⟨g4, o4, e4, hg4, d0, d1, d2⟩ := (HCame.out.env.vals.up HG.out.bel (Nat.le_refl _)).vget (j := k) (by rw [← hN2.out]; exact hlt)
            subst e4
            have z0 := cellsB_get e0.1 k (by rw [← hN1.out]; exact hlt)
            obtain ⟨g5, o5, e5, hg5, r5⟩ := (HCame.out.env.has.up HG.out.bel (Nat.le_refl _)).row (fun hn => by rw [hn] at z0; cases z0)
            subst e5
            have z1 := r5 _ _ z0
            rw [hi3] at x0
            rw [hi4] at x1 x2 x3
            generalize e0.1.getD k false = hb0 at *
            generalize e0.2.getD k zeroT = u at *
            obtain ⟨u1, u2, u3⟩ := u
            simp only at d0 d1 d2 x1 x2 x3
            have hne := fun W => neV u1 u2 u1 u2 u3 u3 W
            rw [(eqvB_iff (u1, u2, u3) (u1, u2, u3)).2 rfl] at hne
            have hg := eqGuardV
            have hgl4 : g4 < wr.heap.size := by omega
            have hgl5 : g5 < wr.heap.size := by omega
            clear hlk0 hi1 hi3 hi4 HI3 z0 r5
            go_wp2_with fail
            go_quiet (fail)
            go_wp2
            go_roundw
            case rel => exact ⟨k + 1, by omega, by go_num, HG.out.drewN _, HI.out.keep rfl⟩
            case measure => simp [intOf]; omega
        · obtain rfl : k = n := by omega
          have hSh : Short10 en.2 := fitsP_short HFit.out HCame.out.short2 (fun p hp => HCame.out.short1 _ (List.of_mem_zip hp).2)
          have HM6 : Hid (∀ W, Below w.heap.size w W → Own10 w.heap.size W en (.slice b1 k k1) (.slice b2 k k2) → Calls Try.prog 11 #[aggC ⟨ck, ft, cl, cx⟩ ao ac xo xc, .agg #[.int .i64 fi, .int .i64 ft, .slice fo cl.length fc], .agg #[.slice b1 k k1, .slice b2 k k2]] W fun r w' => ∃ p1 x1 z1 p2 x2 z2 bb, r = .returned (.tuple #[.agg #[.slice p1 x1 z1, .slice p2 x2 z2], .bool bb]) ∧ Below W.heap.size W w' ∧ (lt = false → bb = true ∧ x2 = k ∧ w'.ownsRow W.heap.size 27 3 (.slice p2 k z2) k (cellsV en.2))) := fun W hW hO => by
            have h1 := HEn.out.1
            have h2 := HEn.out.2
            have hO1 := hO.has
            have hO2 := hO.vals
            rw [← h1] at hO1
            rw [← h2] at hO2
            have := HCame.out.tells xo xc W hW en b1 k1 b2 k2 ⟨owns_sl hO1, owns_sl hO2⟩ (by omega) hSh
            unfold aggE aggF at this
            rw [h1, h2] at this
            simp only [HFl.out] at this
            refine this.mono fun r w' hr => ?_
            obtain ⟨hb, hr⟩ := hr
            rcases hr with ⟨h0, hr⟩ | ⟨e', p1, z1, p2, z2, he, hr, hO'⟩
            · refine ⟨none, 0, 0, none, 0, 0, false, hr, hb, fun hl => ?_⟩
              rw [HAgain.out hl] at h0
              cases h0
            · refine ⟨p1, _, z1, p2, _, z2, true, hr, hb, fun hl => ?_⟩
              rw [HAgain.out hl] at he
              obtain rfl := Option.some.inj he
              have hv := hO'.vals
              rw [h2] at hv
              exact ⟨rfl, h2, hv⟩
          have y1 : ∀ k, wr.cell? ⟨w.heap.size, k, none⟩ = (cellsC ⟨ck, ft, cl, cx⟩ ao ac xo xc)[k]? := fun k => Lib.cell_of_heap HG.out.cb k
          have y2 : ∀ k, wr.cell? ⟨w.heap.size + 1, k, none⟩ = (#[Value.int .i64 fi, .int .i64 ft, .slice fo cl.length fc])[k]? := fun k => Lib.cell_of_heap HG.out.fb k
          clear HI HI3 HAgain hSh
          go_upto_region 37 with (go_at_call 11; go_must (refine (HM6.out _ HG.out.bel HG.out.own).mono ?_; rintro r w7 ⟨p1, x1, z1, p2, x2, z2, bb, rfl, hb, hlt7⟩; have HL7 := Lib.hid hlt7; have HG7 := Lib.hid (HG.out.old hb); have HS7 := Lib.hid hb.size; clear hb hlt7 y1 y2 y3))
          obtain ⟨w8, hw8⟩ : ∃ w8, w8 = w7.alloc (.cells #[.slice p1 x1 z1, .slice p2 x2 z2] 42) := ⟨_, rfl⟩
          rw [← hw8]
          have HX8 : Hid (w8.heap[w7.heap.size]? = some (.cells #[.slice p1 x1 z1, .slice p2 x2 z2] 42 (0, 0))) := by rw [hw8]; exact heap_alloc_new w7 _
          have HG8 := Lib.hid (show Fill10 w w8 ⟨ck, ft, cl, cx⟩ ao ac xo xc fi ft fo fc (v1, v2, v3) k en eb b1 k1 b2 k2 by rw [hw8]; exact HG7.out.old (below_own _))
          have HL8 : Hid (lt = false → bb = true ∧ x2 = k ∧ w8.ownsRow w.heap.size 27 3 (.slice p2 k z2) k (cellsV en.2)) := fun hl => by
            obtain ⟨q1, q2, q3⟩ := HL7.out hl
            refine ⟨q1, q2, ?_⟩
            rw [hw8]
            exact owns_below (owns_mono q3 HG.out.le) (below_own _)
          clear hw8 HL7 HG7
          generalize ha0 : ({ tmps := _, defers := _ } : Act) = a0
          have o : Wo a0 w8 e0 k ho hc vo vc (v1, v2, v3) (w.heap.size + 2) := by
            rw [← ha0]
            exact ⟨rfl, rfl, rfl, rfl, HCame.out.env.up HG8.out.bel HG8.out.le, ⟨hN1.out.symm, hN2.out.symm⟩, by omega, HG8.out.vb⟩
          refine wp_region_inv (fun listed a W => Wf a0 w8 e0 k ho hc vo vc (v1, v2, v3) (fun j => listed.getD j false) a W) (by kernel_rfl) (by kernel_rfl) ⟨_, (fillF_self a0 slots37 (fun d hd => by rw [o.size]; exact (by decide : ∀ d ∈ slots37, d < 346) d hd)).symm, Wd.start _ _ _ _ _ _ _ _ _ (fun j => replicate_getD _ j)⟩ (fun listed a W i hs h hi => ?_) (fun listed a W h hall => ?_)
          · obtain ⟨x, rfl, hW⟩ := h
            have hs13 : listed.size = 13 := hs
            have hi13 : i < 13 := ready_lt hi
            have neg : listed.getD i false = false := ready_not hs hi
            have el : (fun j => (listed.setIfInBounds i true).getD j false) = setL (fun j => listed.getD j false) i := funext fun j => getD_listed (by omega) j
            refine wpOp_mono (K := Wf a0 w8 e0 k ho hc vo vc (v1, v2, v3) (setL (fun j => listed.getD j false) i)) (fun a' w' h' => by show Wf _ _ _ _ _ _ _ _ _ (fun j => (listed.setIfInBounds i true).getD j false) _ _; rw [el]; exact h') ?_
            clear el ha0
            obtain rfl | rfl | rfl | rfl | rfl | rfl | rfl | rfl | rfl | rfl | rfl | rfl | rfl : i = 0 ∨ i = 1 ∨ i = 2 ∨ i = 3 ∨ i = 4 ∨ i = 5 ∨ i = 6 ∨ i = 7 ∨ i = 8 ∨ i = 9 ∨ i = 10 ∨ i = 11 ∨ i = 12 := by omega
            · exact Wd.op0 o hW rfl neg
            · exact Wd.op1 o hW rfl neg
            · exact Wd.op2 o hW rfl neg (waits_done hi (by kernel_rfl)) (waits_done hi (by kernel_rfl))
            · exact Wd.op3 o hW rfl neg
            · exact Wd.op4 o hW rfl neg (waits_done hi (by kernel_rfl)) (waits_done hi (by kernel_rfl))
            · exact Wd.op5 o hW rfl neg
            · exact Wd.op6 o hW rfl neg (waits_done hi (by kernel_rfl))
            · exact Wd.op7 o hW rfl neg
            · exact Wd.op8 o hW rfl neg (waits_done hi (by kernel_rfl))
            · exact Wd.op9 o hW rfl neg (waits_done hi (by kernel_rfl)) (waits_done hi (by kernel_rfl))
            · exact Wd.op10 o hW rfl neg (waits_done hi (by kernel_rfl)) (waits_done hi (by kernel_rfl))
            · exact Wd.op11 o hW rfl neg
            · exact Wd.op12 o hW rfl neg (waits_done hi (by kernel_rfl)) (waits_done hi (by kernel_rfl))
          · obtain ⟨x, rfl, hW⟩ := h
            obtain ⟨⟨g9, eg9, hB9, hg9⟩, -⟩ := hW.f12 (hall 12 (by decide))
            obtain ⟨⟨q1, r1, e299, ho1⟩, -⟩ := hW.f4 (hall 4 (by decide))
            obtain ⟨q2, r2, e304, ho2⟩ := hW.f9 (hall 9 (by decide))
            rw [e299, e304] at hg9
            rw [e299] at ho1
            rw [e304] at ho2
            have HB9 := Lib.hid hW.bel
            refine (by assumption : ∀ (a : Act) (w : World), Code.wp _ _ _ a w → _) _ W ?_
            clear hW hall o
            simp only [fillF, slots37, eg9]
            clear e299 e304
            rw [← ha0]
            clear ha0
            go_simp
            have hBW : Below w.heap.size w W := HG8.out.bel.trans (HB9.out.mono HG8.out.le)
            have HC8 : Hid (Calls Try.prog 11 #[aggC ⟨ck, ft, cl, cx⟩ ao ac xo xc, .agg #[.int .i64 fi, .int .i64 ft, .slice fo cl.length fc], .agg #[.slice q1 (k + 1) r1, .slice q2 (k + 1) r2]] W fun r w' => ∃ p3 z3 p4 z4, r = .returned (.tuple #[.agg #[.slice p3 (k + 1) z3, .slice p4 (k + 1) z4], .bool true]) ∧ Below W.heap.size W w' ∧ w'.ownsRow W.heap.size 27 3 (.slice p4 (k + 1) z4) (k + 1) (cellsV (en.2 ++ [(v1, v2, v3)]))) := by
              have e1 : (e0.1 ++ [true]).length = k + 1 := by rw [List.length_append, ← hN1.out]; rfl
              have e2 : (e0.2 ++ [(v1, v2, v3)]).length = k + 1 := by rw [List.length_append, ← hN2.out]; rfl
              have e3 : (en.1 ++ [true]).length = k + 1 := by rw [List.length_append, HEn.out.1]; rfl
              have e4 : (en.2 ++ [(v1, v2, v3)]).length = k + 1 := by rw [List.length_append, HEn.out.2]; rfl
              have ho1' := ho1
              have ho2' := ho2
              rw [← e1] at ho1'
              rw [← e2] at ho2'
              have hsh : Short10 (e0.2 ++ [(v1, v2, v3)]) := fun u hu => by
                rcases List.mem_append.1 hu with hu | hu
                · exact HCame.out.short2 u hu
                · rw [List.mem_singleton.1 hu]; exact HCame.out.short3
              have this : Calls Try.prog 11 #[aggC ⟨ck, ft, cl, cx⟩ ao ac xo xc, .agg #[.int .i64 fi, .int .i64 ft, .slice fo fl.length fc], .agg #[.slice q1 (e0.1 ++ [true]).length r1, .slice q2 (e0.2 ++ [(v1, v2, v3)]).length r2]] W (MatchP (firstB ⟨ck, ft, cl, cx⟩ [⟨fi, ft, fl⟩] (e0.1 ++ [true], e0.2 ++ [(v1, v2, v3)])) W) := HCame.out.tells xo xc W hBW (e0.1 ++ [true], e0.2 ++ [(v1, v2, v3)]) q1 r1 q2 r2 ⟨owns_sl ho1', owns_sl ho2'⟩ (by show (e0.1 ++ [true]).length ≤ _; omega) hsh
              rw [e1, e2, HFl.out, firstB_wide HHx.out (v1, v2, v3)] at this
              refine this.mono fun r w' hr => ?_
              obtain ⟨hb, hr⟩ := hr
              rcases hr with ⟨h0, -⟩ | ⟨e', p3, z3, p4, z4, he, hr, hO'⟩
              · cases h0
              · obtain rfl := Option.some.inj he
                have hv : w'.ownsRow W.heap.size 27 3 (.slice p4 (en.2 ++ [(v1, v2, v3)]).length z4) (en.2 ++ [(v1, v2, v3)]).length (cellsV (en.2 ++ [(v1, v2, v3)])) := hO'.vals
                have hr' : r = .returned (.tuple #[.agg #[.slice p3 (en.1 ++ [true]).length z3, .slice p4 (en.2 ++ [(v1, v2, v3)]).length z4], .bool true]) := hr
                rw [e4] at hv
                rw [e3, e4] at hr'
                exact ⟨p3, z3, p4, z4, hr', hb, hv⟩
            have HGW := Lib.hid (HG8.out.old HB9.out)
            have HXW := Lib.hid ((HB9.out.block _ (lt_of_heap HX8.out)).trans HX8.out)
            have HLW : Hid (lt = false → bb = true ∧ x2 = k ∧ W.ownsRow w.heap.size 27 3 (.slice p2 k z2) k (cellsV en.2)) := fun hl => by
              obtain ⟨m1, m2, m3⟩ := HL8.out hl
              exact ⟨m1, m2, owns_below m3 HB9.out⟩
            have y1 : ∀ k, W.cell? ⟨w.heap.size, k, none⟩ = (cellsC ⟨ck, ft, cl, cx⟩ ao ac xo xc)[k]? := fun k => Lib.cell_of_heap HGW.out.cb k
            have y2 : ∀ k, W.cell? ⟨w.heap.size + 1, k, none⟩ = (#[Value.int .i64 fi, .int .i64 ft, .slice fo cl.length fc])[k]? := fun k => Lib.cell_of_heap HGW.out.fb k
            have y9 : ∀ j, W.cell? ⟨g9, j, none⟩ = (#[Value.slice q1 (k + 1) r1, .slice q2 (k + 1) r2])[j]? := fun j => Lib.cell_of_heap hg9 j
            clear HM6 HL8 HG8 HX8 HB9 ho1 ho2 hg9 hBW
            go_wp2_with (go_at_call 11; go_must (refine HC8.out.mono ?_; rintro r w9 ⟨p3, z3, p4, z4, rfl, hb, hv⟩; have HB10 := Lib.hid hb; have HV10 := Lib.hid hv; clear hb hv y1 y2 y9))
            obtain ⟨w10, hw10⟩ : ∃ w10, w10 = w9.alloc (.cells #[.slice p3 (k + 1) z3, .slice p4 (k + 1) z4] 42) := ⟨_, rfl⟩
            rw [← hw10]
            have hb10 : Below W.heap.size W w10 := by rw [hw10]; exact below_new HB10.out _
            have hG := HGW.out.old hb10
            have hX27 : w10.heap[w9.heap.size]? = some (.cells #[.slice p3 (k + 1) z3, .slice p4 (k + 1) z4] 42 (0, 0)) := by rw [hw10]; exact heap_alloc_new w9 _
            have hX24 := (hb10.block _ (lt_of_heap HXW.out)).trans HXW.out
            have hv10 : w10.ownsRow W.heap.size 27 3 (.slice p4 (k + 1) z4) (k + 1) (cellsV (en.2 ++ [(v1, v2, v3)])) := by rw [hw10]; exact owns_below HV10.out (below_own _)
            have z12 : ∀ q os, (Sort.grow (w10.drewN q) os).cell? ⟨eb, 1, none⟩ = some (.slice b2 k k2) := cellG (lt_of_heap hG.eb) (Lib.cell_of_heap hG.eb 1)
            have z24 : ∀ q os, (Sort.grow (w10.drewN q) os).cell? ⟨w7.heap.size, 1, none⟩ = some (.slice p2 x2 z2) := cellG (lt_of_heap hX24) (Lib.cell_of_heap hX24 1)
            have z27 : ∀ q os, (Sort.grow (w10.drewN q) os).cell? ⟨w9.heap.size, 1, none⟩ = some (.slice p4 (k + 1) z4) := cellG (lt_of_heap hX27) (Lib.cell_of_heap hX27 1)
            have hkl : en.2.length = k := HEn.out.2
            have hE2 : Sl10 w10.heap.size w10 k b2 k2 (cellsV en.2) := by
              have := hG.own.vals
              rw [hkl] at this
              exact owns_sl this
            have hE4 : Sl10 w10.heap.size w10 k p4 z4 (cellsV en.2) := by
              have := owns_sl hv10
              rw [cellsV_append] at this
              exact this.pre
            have HS2 := Lib.hid (fun q os => same10 hkl hE4 hE2 q os)
            have HS1 : Hid (lt = false → bb = true ∧ x2 = k ∧ ∀ q os, Calls Try.prog 12 #[.slice p2 k z2, .slice b2 k k2] (Sort.grow (w10.drewN q) os) fun e w' => e = .returned (.bool true) ∧ ∃ q' os', w' = Sort.grow ((Sort.grow (w10.drewN q) os).drewN q') os') := fun hl => by
              obtain ⟨m1, m2, m3⟩ := HLW.out hl
              exact ⟨m1, m2, fun q os => same10 hkl (owns_sl (owns_below m3 hb10)) hE2 q os⟩
            have HBf := Lib.hid (HGW.out.bel.trans (hb10.mono HGW.out.le))
            have hcapz := hE4.cap
            have hcapm : z4 ≤ 9223372036854775807 := by have := hE4.top; unfold maxLen at this; omega
            clear hw10 hb10 hG hX27 hX24 hv10 hE2 hE4 HLW HXW HGW HB10 HV10 HC8
            have mixed : Try.prog.follows .mixedOrders = true := by kernel_rfl
            cases lt with
            | true =>
              as_aux_lemma =>
              clear HS1
              refine wp_region_quiet_grown (by assumption) (by kernel_rfl) ?_
              repeat (go_big_quiet_step (first | (go_at_call 12; exact Calls.grown_of (HS2.out _ _))))
              refine wpQuiet_nil ?_
              intro _ hw'
              obtain ⟨⟨nq, osq⟩, hw''⟩ := hw'
              subst hw''
              go_wp2
              go_ret
              exact ⟨rfl, HBf.out.trans ((Gr.below ⟨nq, osq, rfl⟩).mono HBf.out.size)⟩
            | false =>
              as_aux_lemma =>
              obtain ⟨rfl, hx2, hs1⟩ := HS1.out rfl
              have hx3 := hx2.symm
              clear hx2
              subst hx3
              have HS3 : Hid (∀ (x y : Value) (q : Nat) (os : Array Obj), (x = .slice p4 k z4 ∧ y = .slice b2 k k2) ∨ (x = .slice p2 k z2 ∧ y = .slice b2 k k2) → Calls Try.prog 12 #[x, y] (Sort.grow (w10.drewN q) os) fun e w' => e = .returned (.bool true) ∧ ∃ q' os', w' = Sort.grow ((Sort.grow (w10.drewN q) os).drewN q') os') := fun x y q os h => by
                rcases h with ⟨rfl, rfl⟩ | ⟨rfl, rfl⟩
                · exact HS2.out q os
                · exact hs1 q os
              clear HS1 hs1 HS2
              refine wp_region_quiet_grown (by assumption) (by kernel_rfl) ?_
              repeat (go_big_quiet_step (first | (go_at_call 12; first | exact Calls.grown_of (HS3.out _ _ _ _ (Or.inl ⟨rfl, rfl⟩)) | exact Calls.grown_of (HS3.out _ _ _ _ (Or.inr ⟨rfl, rfl⟩)))))
              refine wpQuiet_nil ?_
              intro _ hw'
              obtain ⟨⟨nq, osq⟩, hw''⟩ := hw'
              subst hw''
              go_wp2
              go_ret
              exact ⟨rfl, HBf.out.trans ((Gr.below ⟨nq, osq, rfl⟩).mono HBf.out.size)⟩
end
end Go.Proofs.Ytjcmbljpjimdiaa
