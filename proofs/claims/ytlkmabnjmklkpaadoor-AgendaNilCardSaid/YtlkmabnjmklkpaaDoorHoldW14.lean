/- The program's hold: just these matches hold; of those that were fired it keeps what holds still. -/
import Derived.Test.YtlkmabnjmklkpaaDoorNext14
namespace Go.Proofs.YtlkmabnjmklkpaaDoor
open Go.RowKit

/-- A store into the map of what was fired, at the operation. -/
theorem wpList_put14 (w : World) {ops : Array Oper} {rest : List Oper} {o : Oper} {a : Act} {Q : Exit → Act → World → Prop}
    (hg : o.guard = none) (m x v : Operand) (hop : o.op = Op.mapUpdate 55 m x v) (b : Nat) (F : List MV) (p : MV)
    (hm : a.eval m = .map (some b)) (hP : PMap w b F) (hx : a.eval x = kv14 p.1) (hv : a.eval v = mval p) (hk : (keyT p.1).length ≤ maxLen) (hn : p.1 ∉ F.map Prod.fst) (hl : F.length ≤ 1000000)
    (hK : ∀ w', PMap w' b (F ++ [p]) → w.grownBy w' (some b) → wpList Tryd.prog ops Q rest (a.put o.dst undef) w') : wpList Tryd.prog ops Q (o :: rest) a w := by
  refine wpList_plain hg fun K' hK' => ?_
  obtain ⟨w', hrun, r1, r2⟩ := hP.put hk hn hl
  unfold Oper.wp
  simp [execOp, hop, hm, hx, hv, hrun, Result.andThen]
  exact hK' _ _ (hK w' r1 r2)

def wasF (F : List MV) (q : MV) : Bool := decide (q.1 ∈ F.map Prod.fst)
/-- What hold leaves: the list at lb, the row of those that wait, the map of those that were fired. -/
def HoldP (lb : Nat) (so : Option Addr) (n sc : Nat) (qs F : List MV) (w : World) (e : Ending) (w' : World) : Prop := e = .returned (.tuple #[]) ∧ Touch (fun b => b = lb) w w' ∧ ∃ (wo : Option Addr) (wc mb2 : Nat), w'.heap[lb]? = some (.cells #[.slice so n sc, .slice wo (qs.filter (fun q => !wasF F q)).length wc, .map (some mb2)] 57 (0, 0)) ∧ w'.ownsRow w.heap.size 59 3 (.slice wo (qs.filter (fun q => !wasF F q)).length wc) (qs.filter (fun q => !wasF F q)).length (mcells (qs.filter (fun q => !wasF F q))) ∧ PMap w' mb2 (qs.filter (wasF F)) ∧ w.heap.size ≤ mb2

set_option maxRecDepth 100000 in
set_option maxHeartbeats 4000000 in
theorem hold_any (lb mb : Nat) (so wo ro : Option Addr) (n sc wn wc rc : Nat) (qs F : List MV) (w : World) (hlb : w.heap[lb]? = some (.cells #[.slice so n sc, .slice wo wn wc, .map (some mb)] 57 (0, 0))) (hmb : PMap w mb F)
    (hrow : SlG w.heap.size w ro (mcells qs)) (hok : ∀ q, q ∈ qs → SlG w.heap.size w q.2.1.1 (icells q.1.2) ∧ Fit14 q.1) (hnd : (qs.map Prod.fst).Nodup) (hql : qs.length ≤ 1000000) (ht : Tab14 w) :
    Calls Tryd.prog 21 #[.pointer (some ⟨lb, 0, none⟩), .slice ro qs.length rc] w (HoldP lb so n sc qs F w) := by
  obtain ⟨i0, hi0, hz0, hz1, hz2⟩ := info_parts infoM14
  have HLB := Lib.hid hlb
  have HMB := Lib.hid hmb
  have HR := Lib.hid hrow
  have HOK := Lib.hid hok
  have HND := Lib.hid hnd
  have HT := Lib.hid ht
  have hmm := @run_makeMap Tryd.prog
  have HB0 := Lib.hid (below_own (w := w) (.map #[] 0))
  have HM0 := Lib.hid (PMap.made w)
  clear hlb hmb hrow hok hnd ht
  go_enter Tryd.func21, Tryd.ntmps21
  go_wp2_with fail
  go_loopw [4, 14] (fun v i wr => ∃ j : Nat, j ≤ qs.length ∧ i = .int .i64 j ∧ Hid (wr.ownsRow w.heap.size 59 3 v ((qs.take j).filter (fun q => !wasF F q)).length (mcells ((qs.take j).filter (fun q => !wasF F q)))) ∧ Hid (PMap wr w.heap.size ((qs.take j).filter (wasF F))) ∧ Hid (Below w.heap.size w wr)) (fun _ i _ => qs.length - (intOf i).toNat)
  case atStart => exact ⟨0, by omega, rfl, World.ownsRow_nil _ _ _ _, HM0, HB0⟩
  case round =>
    obtain ⟨j, hj, rfl, HO, HM, HB⟩ := hrel
    clear HM0 HB0
    by_cases hlt : j < qs.length
    · obtain ⟨sb, off, rfl, hsb, hc⟩ := (HR.out.below HB.out) (by intro e; have := congrArg List.length e; rw [mcells_length] at this; simp at this; omega)
      obtain ⟨x0, x1, x2⟩ := mcells_at qs j hlt
      have d0 := hc _ _ x0
      have d1 := hc _ _ x1
      have d2 := hc _ _ x2
      rw [← Nat.add_assoc] at d1 d2
      have hji : (j : Int) < (qs.length : Int) := by omega
      have HTk : Hid (qs.take (j + 1) = qs.take j ++ [qs[j]]) := by rw [Hid, List.take_add_one, List.getElem?_eq_getElem hlt]; rfl
      have HMem : Hid (qs[j] ∈ qs) := List.getElem_mem hlt
      have HNew : Hid ((qs[j]).1 ∉ ((qs.take j).filter (wasF F)).map Prod.fst) := fun hm => by
        obtain ⟨q, hq, e⟩ := List.mem_map.1 hm
        obtain ⟨k, hk, e2⟩ := List.getElem_of_mem (List.mem_filter.1 hq).1
        rw [List.length_take] at hk
        rw [List.getElem_take] at e2
        have h1 : (qs.map Prod.fst)[k]'(by simp; omega) = (qs.map Prod.fst)[j]'(by simpa using hlt) := by
          simp only [List.getElem_map]
          rw [e2, e]
        have := (List.getElem_inj HND.out).1 h1
        omega
      clear hc x0 x1 x2
      generalize qs[j] = q at d0 d1 d2 HTk HMem HNew
      obtain ⟨⟨k, ids⟩, ⟨a1, c1⟩, ⟨a2, c2⟩⟩ := q
      simp only at d0 d1 d2
      have hqk := HOK.out _ HMem.out
      have HF := Lib.hid hqk.2
      have HBq : Hid (Below wr.heap.size wr (wr.alloc (.cells #[.int .i64 k, .slice a1 ids.length c1, .slice a2 ids.length c2] 59))) := below_own _
      have HQ1 : Hid ((wr.alloc (.cells #[.int .i64 k, .slice a1 ids.length c1, .slice a2 ids.length c2] 59)).heap[wr.heap.size]? = some (.cells #[.int .i64 k, .slice a1 ids.length c1, .slice a2 ids.length c2] 59 (0, 0))) := heap_alloc_new wr _
      have hbz := HB.out.size
      have HBw : Hid (Below w.heap.size w (wr.alloc (.cells #[.int .i64 k, .slice a1 ids.length c1, .slice a2 ids.length c2] 59))) := HB.out.trans (HBq.out.mono hbz)
      have KK := Lib.hid (key_any (k, ids) a1 a2 c1 c2 _ (hqk.1.up HBw.out HBw.out.size) hqk.2.len hqk.2.rule hqk.2.ids (HT.out.on HBw.out))
      clear hqk
      go_wp2_with (go_at_call 33; refine KK.out.mono ?_; rintro e w1 ⟨rfl, hb⟩; have HB1 := Lib.hid hb; clear hb; refine Hid.out ?_)
      refine Lib.hid ?_
      have HW1 : Hid (Below wr.heap.size wr w1) := HBq.out.trans (HB1.out.mono (by simp))
      have hq1 := (HB1.out.block _ (lt_of_heap HQ1.out)).trans HQ1.out
      have e0 : ∀ o, (w1.alloc o).cell? ⟨wr.heap.size, 0, none⟩ = some (.int .i64 k) := fun o => ((below_own o).cell (p := ⟨wr.heap.size, 0, none⟩) (lt_of_heap hq1)).trans (Lib.cell_of_heap hq1 0)
      have e1 : ∀ o, (w1.alloc o).cell? ⟨wr.heap.size, 1, none⟩ = some (.slice a1 ids.length c1) := fun o => ((below_own o).cell (p := ⟨wr.heap.size, 1, none⟩) (lt_of_heap hq1)).trans (Lib.cell_of_heap hq1 1)
      have e2 : ∀ o, (w1.alloc o).cell? ⟨wr.heap.size, 2, none⟩ = some (.slice a2 ids.length c2) := fun o => ((below_own o).cell (p := ⟨wr.heap.size, 2, none⟩) (lt_of_heap hq1)).trans (Lib.cell_of_heap hq1 2)
      have HBw1 : Hid (Below w.heap.size w w1) := HB.out.trans (HW1.out.mono hbz)
      have g0 : w1.cell? ⟨lb, 2, none⟩ = some (.map (some mb)) := (HBw1.out.cell (p := ⟨lb, 2, none⟩) (lt_of_heap HLB.out)).trans (Lib.cell_of_heap HLB.out 2)
      obtain ⟨p', hlook⟩ := (HMB.out.keep (HBw1.out.block _ HMB.out.lt)).look HF.out.key
      obtain ⟨⟨k', ids'⟩, ⟨a1', c1'⟩, ⟨a2', c2'⟩⟩ := p'
      dsimp only [mval] at hlook
      have HO1 := Lib.hid (owns_below HO.out HW1.out)
      have HM1 := Lib.hid (HM.out.keep (HW1.out.block _ HM.out.lt))
      by_cases hin : (k, ids) ∈ F.map Prod.fst
      · have hwas : wasF F ((k, ids), (a1, c1), (a2, c2)) = true := decide_eq_true hin
        have R1 : Hid ((qs.take (j + 1)).filter (fun q => !wasF F q) = (qs.take j).filter (fun q => !wasF F q)) := by
          rw [Hid, HTk.out, List.filter_append]
          simp [hwas]
        have R2 : Hid ((qs.take (j + 1)).filter (wasF F) = (qs.take j).filter (wasF F) ++ [((k, ids), (a1, c1), (a2, c2))]) := by
          rw [Hid, HTk.out, List.filter_append]
          simp [hwas]
        rw [decide_eq_true hin] at hlook
        have hfl : ((qs.take j).filter (wasF F)).length ≤ 1000000 := Nat.le_trans (List.length_filter_le _ _) (by rw [List.length_take]; omega)
        have HM3 : Hid (PMap (w1.alloc (.cells #[.int .i64 k', .slice a1' ids'.length c1', .slice a2' ids'.length c2'] 59)) w.heap.size ((qs.take j).filter (wasF F))) := HM1.out.keep ((below_own _).block _ HM1.out.lt)
        have HNx : Hid (∀ W9, (w1.alloc (.cells #[.int .i64 k', .slice a1' ids'.length c1', .slice a2' ids'.length c2'] 59)).grownBy W9 (some w.heap.size) → Below w.heap.size w W9) := fun W9 hg => by
          have h1 : Below w.heap.size w (w1.alloc (.cells #[.int .i64 k', .slice a1' ids'.length c1', .slice a2' ids'.length c2'] 59)) := below_new HBw1.out _
          exact h1.grown hg h1.size (fun q hq => by obtain rfl := Option.some.inj hq; exact Nat.le_refl _)
        have HNo : Hid (∀ W9 v xs nn, w1.ownsRow w.heap.size 59 3 v nn xs → (w1.alloc (.cells #[.int .i64 k', .slice a1' ids'.length c1', .slice a2' ids'.length c2'] 59)).grownBy W9 (some w.heap.size) → W9.ownsRow w.heap.size 59 3 v nn xs) := fun W9 v xs nn ho hg => by
          refine (World.ownsRow.alloc ho _).kept hg (Or.inr fun e => ?_)
          obtain ⟨cs, fz, h4⟩ := owns_tag ho _ e
          obtain ⟨n1, D, ⟨es, clock, h5, _⟩, _⟩ := HM1.out
          rw [h4] at h5
          cases h5
        obtain ⟨ov, oc, rfl⟩ := owns_slice HO.out
        clear KK HQ1 HB1 HMem hq1 d0 d1 d2 HO HM HBq
        go_wp2_with (at_mapUpdate; refine wpList_put14 _ rfl _ _ _ rfl w.heap.size ((qs.take j).filter (wasF F)) ((k, ids), (a1, c1), (a2, c2)) rfl HM3.out rfl rfl HF.out.key HNew.out hfl ?_; intro w4 hP4 hg4; have HP4 := Lib.hid hP4; have HB4 := Lib.hid (HNx.out w4 hg4); have HO4 := Lib.hid (HNo.out w4 _ _ _ HO1.out hg4); clear hP4 hg4; refine Hid.out ?_)
        refine Lib.hid ?_
        have S1 : Hid (PMap w4 w.heap.size ((qs.take (j + 1)).filter (wasF F))) := by rw [R2.out]; exact HP4.out
        have S2 := HO4.out
        rw [← R1.out] at S2
        have S2' := Lib.hid S2
        rw [R1.out] at S2'
        clear HM3 HNx HNo hlook g0 e0 e1 e2 HW1 HBw1 HO1 HM1 HBw HB HP4 S2
        go_wp2_with fail
        go_roundw
        case rel => exact ⟨j + 1, by omega, by go_num, (by rw [R1.out]; exact S2'.out), S1, HB4⟩
        case measure => simp [intOf]; omega
      · have hwas : wasF F ((k, ids), (a1, c1), (a2, c2)) = false := decide_eq_false hin
        have R1 : Hid ((qs.take (j + 1)).filter (fun q => !wasF F q) = (qs.take j).filter (fun q => !wasF F q) ++ [((k, ids), (a1, c1), (a2, c2))]) := by
          rw [Hid, HTk.out, List.filter_append]
          simp [hwas]
        have R2 : Hid ((qs.take (j + 1)).filter (wasF F) = (qs.take j).filter (wasF F)) := by
          rw [Hid, HTk.out, List.filter_append]
          simp [hwas]
        rw [decide_eq_false hin] at hlook
        have hfl : ((qs.take j).filter (fun q => !wasF F q)).length ≤ 1000000 := Nat.le_trans (List.length_filter_le _ _) (by rw [List.length_take]; omega)
        generalize hnn : ((qs.take j).filter (fun q => !wasF F q)).length = nn at hfl HO HO1
        obtain ⟨ov, oc, rfl⟩ := owns_slice HO1.out
        have hszz : w.heap.size ≤ w1.heap.size := HBw1.out.size
        have HNx : Hid (∀ W9, ((w1.alloc (.cells #[.int .i64 k', .slice a1' ids'.length c1', .slice a2' ids'.length c2'] 59)).alloc (.cells #[.int .i64 k, .slice a1 ids.length c1, .slice a2 ids.length c2] 59)).grownBy W9 (Value.slice ov nn oc).ownBlock → Below w.heap.size w W9 ∧ PMap W9 w.heap.size ((qs.take j).filter (wasF F))) := fun W9 hg => by
          have h0 : Below w1.heap.size w1 ((w1.alloc (.cells #[.int .i64 k', .slice a1' ids'.length c1', .slice a2' ids'.length c2'] 59)).alloc (.cells #[.int .i64 k, .slice a1 ids.length c1, .slice a2 ids.length c2] 59)) := below_new (below_own _) _
          have h1 := HBw1.out.trans (h0.mono hszz)
          have ho := owns_below HO1.out h0
          have hm := HM1.out.keep (h0.block _ HM1.out.lt)
          refine ⟨h1.grown hg h1.size (fun q hq => (HO1.out.lt q hq).1), hm.keep (hg.block _ hm.lt (fun e => ?_))⟩
          obtain ⟨cs, fz, h4⟩ := owns_tag ho _ e.symm
          obtain ⟨n1, D, ⟨es, clock, h5, _⟩, _⟩ := hm
          rw [h4] at h5
          cases h5
        clear KK HQ1 HB1 HMem hq1 d0 d1 d2 HO HM HBq
        go_wp2_with (at_builtin; refine wpList_append_own _ rfl _ _ 54 rfl w.heap.size 59 i0 (.agg #[.int .i64 0, .slice none 0 0, .slice none 0 0]) 3 56 Tryd.underlying54 hi0 hz0 hz1 hz2 rfl (by decide) _ nn _ rfl (World.ownsRow.alloc (World.ownsRow.alloc HO1.out _) _) ⟨w1.heap.size + 1, 0, none⟩ 1 1 [.int .i64 k, .slice a1 ids.length c1, .slice a2 ids.length c2] rfl rfl (fun q u hu => by rw [Addr.add_lit, Nat.zero_add]; exact cells_at2 _ _ _ _ _ q u rfl (by simpa using hu)) (fun u hu => by simp at hu; rcases hu with rfl | rfl | rfl <;> rfl) (by unfold maxLen; omega) (by omega) (by simp; omega) ?_; intro v9 w9 hown9 hgrow9 hnil9; have HO9 := Lib.hid hown9; have HK9 := Lib.hid (HNx.out w9 hgrow9); clear hgrow9 hown9 hnil9; refine Hid.out ?_)
        refine Lib.hid ?_
        have S1 : Hid (PMap w9 w.heap.size ((qs.take (j + 1)).filter (wasF F))) := by rw [R2.out]; exact HK9.out.2
        have S2 : Hid (w9.ownsRow w.heap.size 59 3 v9 ((qs.take (j + 1)).filter (fun q => !wasF F q)).length (mcells ((qs.take (j + 1)).filter (fun q => !wasF F q)))) := by
          have := HO9.out
          rw [Hid, R1.out, List.length_append, mcells_append, hnn]
          exact this
        have S3 := Lib.hid HK9.out.1
        clear HNx hlook g0 e0 e1 e2 HW1 HBw1 HO1 HM1 HBw HB HO9 HK9
        go_wp2_with fail
        go_roundw
        case rel => exact ⟨j + 1, by omega, by go_num, S2, S1, S3⟩
        case measure => simp [intOf]; omega
    · obtain rfl : j = qs.length := by omega
      have ho := HO.out
      have hm := HM.out
      rw [List.take_length] at ho hm
      obtain ⟨ov, oc, rfl⟩ := owns_slice ho
      have hq := (HB.out.block _ (lt_of_heap HLB.out)).trans HLB.out
      have c1 : wr.cell? ⟨lb, 1, none⟩ = some (.slice wo wn wc) := Lib.cell_of_heap hq 1
      have c2 : wr.cell? ⟨lb, 2, none⟩ = some (.map (some mb)) := Lib.cell_of_heap hq 2
      have f1 : wr.frozen? ⟨lb, 1, none⟩ = false := Lib.frozen_of_heap hq 1
      have f2 : wr.frozen? ⟨lb, 2, none⟩ = false := Lib.frozen_of_heap hq 2
      have HE : Hid (HoldP lb so n sc qs F w (.returned (.tuple #[])) ((wr.setCell ⟨lb, 1, none⟩ (.slice ov (qs.filter (fun q => !wasF F q)).length oc)).setCell ⟨lb, 2, none⟩ (.map (some w.heap.size)))) := by
        have hlt := lt_of_heap HLB.out
        have hg := Lib.grownBy_trans (Lib.grownBy_setCell wr lb 1 (.slice ov (qs.filter (fun q => !wasF F q)).length oc)) (Lib.grownBy_setCell _ lb 2 (.map (some w.heap.size)))
        have h1 := Lib.heap_setCell_same (i := 2) (Lib.heap_setCell_same (i := 1) hq (.slice ov (qs.filter (fun q => !wasF F q)).length oc)) (.map (some w.heap.size))
        refine ⟨rfl, (Touch.of_below HB.out _).grown hg (fun q e => Or.inl (Option.some.inj e).symm), ov, oc, w.heap.size, h1, ho.kept hg (Or.inr (fun e => ?_)), hm.keep (hg.block _ hm.lt (fun e => ?_)), Nat.le_refl _⟩
        · have := (ho.lt _ e).1
          omega
        · have := Option.some.inj e
          omega
      clear HO HM HB ho hm hq
      go_wp2
      go_end0
      exact HE.out
end Go.Proofs.YtlkmabnjmklkpaaDoor
