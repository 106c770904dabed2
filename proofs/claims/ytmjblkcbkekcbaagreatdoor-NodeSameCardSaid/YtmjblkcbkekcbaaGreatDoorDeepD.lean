/- A step of the program's descent: to the next kid, or down. -/
import Derived.Test.YtmjblkcbkekcbaaGreatDoorDeepC
namespace Go.Proofs.YtmjblkcbkekcbaaGreatDoor
open Go.RowKit

set_option maxRecDepth 100000 in
set_option maxHeartbeats 4000000 in
theorem dstep_go (base db mb : Nat) (rk : Key) (f : Bool) (t : T) (v : Value) (nx dp : Nat) (lv : Value) (L : List LevV) (l : List (Key × Value)) (w : World) (hC : DpAt base db mb w lv (L ++ [((t, v), (nx, dp))]) l) (hI : DInv base db mb w rk f (L ++ [((t, v), (nx, dp))]) l) (hL : L.length + 1 ≤ 1000000) (hlt : nx < t.kids.length) :
    Calls Tryz.prog 31 #[.pointer (some ⟨db, 0, none⟩)] w (DStep base db mb rk f lv (L ++ [((t, v), (nx, dp))]) w) := by
  have htop : ((t, v), (nx, dp)) ∈ L ++ [((t, v), (nx, dp))] := List.mem_append_right _ (List.mem_singleton.2 rfl)
  have hst : Stood True (Old db mb base) w t v := hC.left ((t, v), (nx, dp)) htop
  obtain ⟨a1, c1, ps1, rfl, h1⟩ := hst.out
  have hown := hC.own
  rw [List.length_append, List.length_singleton] at hown
  obtain ⟨ao, cap, rfl⟩ := owns_slice hown
  obtain ⟨g, rfl⟩ : ∃ g, ao = some ⟨g, 0, none⟩ := by
    rcases hown.2 with ⟨h, _⟩ | ⟨g, cap', cur, h, _⟩
    · simp at h
    · simp only [Value.slice.injEq] at h
      exact ⟨g, h.1⟩
  have hcs := hown.cells (g := g) rfl
  have hbl := hC.bl
  have x0 := hC.b0
  have x1 := hC.b1
  have xf := hC.fz
  have hg0 : g < w.heap.size := (hown.lt g rfl).2
  have hgb : base ≤ g := (hown.lt g rfl).1
  have p0 : w.cell? ⟨g, L.length * 3, none⟩ = some (.slice a1 t.kids.length c1) := by
    have := hcs (L.length * 3) (.slice a1 t.kids.length c1) (by rw [cellsV_append, List.getElem?_append_right (by rw [cellsV_length]; omega), cellsV_length, Nat.sub_self]; rfl)
    rwa [Addr.add_lit, Nat.zero_add] at this
  have p1 : w.cell? ⟨g, L.length * 3 + 1, none⟩ = some (.int .i64 nx) := by
    have := hcs (L.length * 3 + 1) (.int .i64 nx) (by rw [cellsV_append, List.getElem?_append_right (by rw [cellsV_length]; omega), cellsV_length, show L.length * 3 + 1 - L.length * 3 = 1 by omega]; rfl)
    rwa [Addr.add_lit, Nat.zero_add] at this
  have p2 : w.cell? ⟨g, L.length * 3 + 2, none⟩ = some (.int .i64 dp) := by
    have := hcs (L.length * 3 + 2) (.int .i64 dp) (by rw [cellsV_append, List.getElem?_append_right (by rw [cellsV_length]; omega), cellsV_length, show L.length * 3 + 2 - L.length * 3 = 2 by omega]; rfl)
    rwa [Addr.add_lit, Nat.zero_add] at this
  have hcap : L.length + 1 ≤ cap ∧ cap ≤ maxLen := by
    rcases hown.2 with ⟨h, _⟩ | ⟨g', cap', cur, h, _, _, h3, h4, _⟩
    · simp at h
    · simp only [Value.slice.injEq] at h
      obtain ⟨_, _, rfl⟩ := h
      exact ⟨h3, h4⟩
  have hcb : db < w.heap.size := by have := hC.cbl; omega
  have hcl1 : (L.length : Int) ≤ cap := by have := hcap.1; omega
  have hcl2 : (cap : Int) ≤ 9223372036854775807 := by have := hcap.2; unfold maxLen at this; omega
  have hea := hI.each _ htop
  have hnx : nx ≤ t.kids.length := hea.1
  have hdp : dp ≤ 1000000 := by
    have h2 : dp = deepL (t.kids.take nx) := hea.2.1
    have h3 : manyL t.kids ≤ 1000000 := hea.2.2
    have h4 := deepL_le (t.kids.take nx)
    have h5 : manyL (t.kids.take nx) ≤ manyL t.kids := by
      have e : ∀ (l : List T) (n : Nat), manyL (l.take n) ≤ manyL l := by
        intro l
        induction l with
        | nil => intro n; simp [manyL]
        | cons k l ih =>
          intro n
          cases n with
          | zero => rw [List.take_zero, manyL]; omega
          | succ n => rw [List.take_succ_cons, manyL, manyL]; have := ih n; omega
      exact e _ _
    omega
  have hlm := h1.len64
  have HC := Lib.hid hC
  have HI := Lib.hid hI
  have HR := Lib.hid h1
  have HO := Lib.hid hown
  have ha1 : 0 < t.kids.length → ∃ sb off, a1 = some ⟨sb, off, none⟩ := fun h => by obtain ⟨sb, off, e, -⟩ := h1.ad h; exact ⟨sb, off, e⟩
  have HDB := Lib.hid (And.intro hC.cbl (And.intro hC.mbl hC.ne))
  clear hst hcap hcs hC hI hown h1 hea htop
  obtain ⟨sb, off, rfl, hsb, hc⟩ := HR.out.at (by omega)
  obtain ⟨e1, d1, qs1, y0, y1, y2, y3, y4, q1⟩ := hc nx hlt
  have hsl : sb < w.heap.size := by have := hsb.1; omega
  have hnl : (nx : Int) < (t.kids.length : Int) := by omega
  have hnlb : ((nx : Int) == (t.kids.length : Int)) = false := beq_eq_false_iff_ne.2 (by omega)
  obtain ⟨k, hke⟩ : ∃ k, k = t.kids[nx] := ⟨_, rfl⟩
  rw [← hke] at y0 y1 y2 y3 y4 q1
  have hbk : 0 < k.kids.length → ∃ sb off, e1 = some ⟨sb, off, none⟩ := fun h => by obtain ⟨sb, off, e, -⟩ := q1.ad h; exact ⟨sb, off, e⟩
  have hbig : deepL k.kids ≤ 1000000 := by
    have h3 : manyL t.kids ≤ 1000000 := (HI.out.each ((t, .slice (some ⟨sb, off, none⟩) t.kids.length c1), (nx, dp)) (List.mem_append_right _ (List.mem_singleton.2 rfl))).2.2
    have h4 := deepL_le k.kids
    have h5 := manyL_at (l := t.kids) (i := nx) (a := k) (by rw [hke]; exact List.getElem?_eq_getElem hlt)
    omega
  have HQ := Lib.hid q1
  have HCell : Hid (CellIs base db mb w ((t, .slice (some ⟨sb, off, none⟩) t.kids.length c1), (nx, dp)) (.slice e1 k.kids.length d1)) := ⟨sb, off, _, _, rfl, hsb, y4⟩
  have HKe := Lib.hid hke
  have hask : ∃ (met : Bool) (dv : Nat), dv ≤ 1000000 ∧ (met = true → dv = deepL k.kids) ∧ (met = false → ∀ p, p ∈ l → p.1 ≠ keyA e1 k.kids.length) ∧ ∀ W, Gr w W → ∃ j, (Instr.lookup 53 (.map (some mb)) (.agg #[.pointer (keyA e1 k.kids.length).1, .int .i64 (keyA e1 k.kids.length).2]) true).run Tryz.prog W = .ok (.tuple #[.int .i64 dv, .bool met]) (W.drewN j) := by
    have look : ∀ W, Gr w W → ∃ ok v j, (Instr.lookup 53 (.map (some mb)) (.agg #[.pointer (keyA e1 k.kids.length).1, .int .i64 (keyA e1 k.kids.length).2]) true).run Tryz.prog W = .ok (.tuple #[v, .bool ok]) (W.drewN j) ∧ (ok = false → v = .int .i64 0 ∧ ∀ p, p ∈ l → p.1 ≠ keyA e1 k.kids.length) ∧ (ok = true → (keyA e1 k.kids.length, v) ∈ l) := by
      intro W hW
      have hC' := HC.out.later hW.below
      have r1 := HQ.out.keep (fun k hk => hW.below.block k (by have := hk.1; omega)) fun _ h => h
      obtain ⟨ok, v, j, hrun, hno, hyes⟩ := lookup_any (kRow True) (keyA e1 k.kids.length) 53 3 (.int .i64 0) Tryz.underlying53 zeroI W mb l hC'.map r1.goodKey hC'.good
      refine ⟨ok, v, j, hrun, hno, fun ho => ?_⟩
      obtain ⟨y, hy, hys⟩ := hyes ho
      rw [← hys trivial]
      exact hy
    by_cases hkey : ∀ p, p ∈ l → p.1 ≠ keyA e1 k.kids.length
    · refine ⟨false, 0, by omega, (fun h => by cases h), fun _ => hkey, fun W hW => ?_⟩
      obtain ⟨ok, v, j, hrun, hno, hyes⟩ := look W hW
      cases ok with
      | true => exact absurd rfl (hkey _ (hyes rfl))
      | false =>
        rw [(hno rfl).1] at hrun
        exact ⟨j, hrun⟩
    · refine ⟨true, deepL k.kids, hbig, fun _ => rfl, (fun h => by cases h), fun W hW => ?_⟩
      obtain ⟨ok, v, j, hrun, hno, hyes⟩ := look W hW
      cases ok with
      | false => exact absurd (hno rfl).2 hkey
      | true =>
        have hv : v = .int .i64 (deepL k.kids : Nat) := by
          rcases HC.out.mean _ (hyes rfl) with ⟨h1, h2⟩ | ⟨q, hq, ao, n, c, h0, h1, h2⟩ | ⟨q, ao, c, ps, r, h1, h2⟩
          · by_cases hz : k.kids.length = 0
            · rw [List.eq_nil_of_length_eq_zero hz, deepL]
              exact h2
            · exfalso
              rw [show (keyA e1 k.kids.length, v).1 = keyA e1 k.kids.length from rfl, keyA_pos e1 (by omega)] at h1
              have := congrArg Prod.snd h1
              simp only at this
              omega
          · exfalso
            have hst := HC.out.left q hq
            rw [h0] at hst
            obtain ⟨ao', c', ps', hv', r'⟩ := hst.out
            simp only [Value.slice.injEq] at hv'
            obtain ⟨rfl, rfl, rfl⟩ := hv'
            have hsame := key_same _ _ _ _ _ _ _ _ HQ.out r' h1
            have h5 := manyL_at (l := t.kids) (i := nx) (a := k) (by rw [HKe.out]; exact List.getElem?_eq_getElem hlt)
            rw [hsame] at h5
            rcases List.mem_append.1 hq with hq | hq
            · have := (List.pairwise_append.1 HI.out.desc).2.2 q hq _ (List.mem_singleton.2 rfl)
              simp only at this
              omega
            · obtain rfl := List.mem_singleton.1 hq
              simp only at h5
              omega
          · have hsame := key_same _ _ _ _ _ _ _ _ HQ.out r h1
            rw [hsame]
            exact h2
        rw [hv] at hrun
        exact ⟨j, hrun⟩
  obtain ⟨met, dv, hdv, hyes, hno, ask0⟩ := hask
  have ask := Lib.hid ask0
  have HY := Lib.hid hyes
  have HNo := Lib.hid hno
  clear hc q1 hyes hno ask0 hbig hke
  go_enter Tryz.func31, Tryz.ntmps31
  go_wp2_with fail
  go_quiet (fail)
  go_wp2_with fail
  go_quiet (fail)
  go_wp2_with fail
  go_quiet (fail)
  go_upto_region 7 with fail
  go_cut [5, 6] (fun s5 s6 wx => s5 = .int .i64 dv ∧ s6 = .bool met ∧ Hid (Gr w wx))
  case first =>
    go_region_with (go_at_call 32; refine (rowOf_any _ _ _ _ (by assumption)).mono ?_; rintro e w1 ⟨rfl, hg1⟩; obtain ⟨j1, hrun⟩ := ask.out w1 (((Gr.refl w).drewN _).trans hg1); have z1 : w1.cell? ⟨db, 1, none⟩ = some (.map (some mb)) := ((bone hg1.below hcb).1 1).trans x1; have HG := Lib.hid (((Gr.refl w).drewN _).trans hg1); clear hg1)
    all_goals (go_wp2_with fail; go_meet)
    all_goals exact ⟨rfl, rfl, HG.out.drewN _⟩
  case rest =>
    obtain ⟨rfl, rfl, HG⟩ := hcut
    clear ask
    have w0 : wc.cell? ⟨db, 0, none⟩ = some (.slice (some ⟨g, 0, none⟩) (L.length + 1) cap) := ((bone HG.out.below hcb).1 0).trans x0
    have wq1 : wc.cell? ⟨g, L.length * 3 + 1, none⟩ = some (.int .i64 nx) := ((bone HG.out.below hg0).1 _).trans p1
    have wq2 : wc.cell? ⟨g, L.length * 3 + 2, none⟩ = some (.int .i64 dp) := ((bone HG.out.below hg0).1 _).trans p2
    have HCc := Lib.hid (HC.out.later HG.out.below)
    have hkk : Hid (∀ k, Old db mb base k → wc.heap[k]? = w.heap[k]?) := fun k hk => HG.out.below.block k (by have := hk.1; omega)
    have HIc := Lib.hid (HI.out.keep hkk.out)
    cases met with
    | false =>
      have HNo1 := Lib.hid (HNo.out rfl)
      have HEn := Lib.hid (enter_any base db mb k e1 d1 qs1 _ _ l wc HCc.out (by rw [List.length_append, List.length_singleton]; omega) (HQ.out.keep hkk.out fun _ h => h) (HNo.out rfl))
      go_wp2_with (go_at_call 30; go_must (refine (HEn.out).mono ?_; rintro e w7 ⟨rfl, lv7, hm7, hc7⟩; have HM7 := Lib.hid hm7; have HC7 := Lib.hid hc7; clear hm7 hc7))
      go_ret
      obtain ⟨h1, h2⟩ := HIc.out.enter (p := ((t, .slice (some ⟨sb, off, none⟩) t.kids.length c1), (nx, dp))) k e1 d1 hlt HKe.out (HCell.out.keep hkk.out) HNo1.out (.int .i64 (-1))
      have hch : Ch db mb base wc w7 := HM7.out.ch (by have := HG.out.below.size; omega) (fun k e => by have := Option.some.inj e; simp at this; omega)
      exact ⟨rfl, lv7, _, _, true, (Mv.of_below _ HG.out.below).trans HM7.out, HC7.out, h1.keep hch.block, h2⟩
    | true =>
      have hdve : dv = deepL k.kids := HY.out rfl
      have HDv := Lib.hid hdve
      clear hdve HY HNo
      have wfg : ∀ j, wc.frozen? ⟨g, j, none⟩ = false := by
        intro j
        have ho := owns_below HO.out HG.out.below
        rcases ho.2 with ⟨h, _⟩ | ⟨g', cap', cur, h, _, hg, _⟩
        · simp at h
        · simp only [Value.slice.injEq, Option.some.injEq, Addr.mk.injEq, and_true, true_and] at h
          obtain ⟨rfl, rfl⟩ := h
          exact Lib.frozen_of_heap hg j
      obtain ⟨mx, hmx⟩ : ∃ mx : Nat, mx = max dp (dv + 1) := ⟨_, rfl⟩
      have hmxe : (if (dv : Int) + 1 > (dp : Int) then (dv : Int) + 1 else (dp : Int)) = (mx : Int) := by
        rw [hmx]
        split <;> omega
      have HMx := Lib.hid hmx
      clear hmx
      go_wp2_with fail
      go_ret
      have hne1 : ((dv : Int) != -1) = true := bne_iff_ne.2 (by omega)
      have hdb := HDB.out
      have ho0 := owns_below HO.out HG.out.below
      obtain ⟨ho1, hg1⟩ := ho0.stored (L.length * 3 + 2) (.int .i64 mx)
      obtain ⟨ho2, hg2⟩ := ho1.stored (L.length * 3 + 1) (.int .i64 ((nx : Int) + 1))
      have hxs : ((cellsV (L ++ [((t, Value.slice (some ⟨sb, off, none⟩) t.kids.length c1), (nx, dp))])).set (L.length * 3 + 2) (.int .i64 mx)).set (L.length * 3 + 1) (.int .i64 ((nx : Int) + 1)) = cellsV (L ++ [((t, Value.slice (some ⟨sb, off, none⟩) t.kids.length c1), (nx + 1, mx))]) := by
        rw [cellsV_append, cellsV_append, List.set_append_right _ _ (by rw [cellsV_length]; omega), List.set_append_right _ _ (by rw [cellsV_length]; omega), cellsV_length, show L.length * 3 + 2 - L.length * 3 = 2 by omega, show L.length * 3 + 1 - L.length * 3 = 1 by omega]
        simp [cellsV]
      rw [hxs] at ho2
      have hgg : wc.grownBy ((wc.setCell ⟨g, L.length * 3 + 2, none⟩ (.int .i64 mx)).setCell ⟨g, L.length * 3 + 1, none⟩ (.int .i64 ((nx : Int) + 1))) (some g) := Lib.grownBy_trans hg1 hg2
      have hws := HG.out.below.size
      have kc : ∀ k, k < wc.heap.size → k ≠ g → ((wc.setCell ⟨g, L.length * 3 + 2, none⟩ (.int .i64 mx)).setCell ⟨g, L.length * 3 + 1, none⟩ (.int .i64 ((nx : Int) + 1))).heap[k]? = wc.heap[k]? := fun k h1 h2 => hgg.block k h1 (fun e => h2 (Option.some.inj e))
      have kk : ∀ k, Old db mb base k → ((wc.setCell ⟨g, L.length * 3 + 2, none⟩ (.int .i64 mx)).setCell ⟨g, L.length * 3 + 1, none⟩ (.int .i64 ((nx : Int) + 1))).heap[k]? = wc.heap[k]? := fun k hk => kc k (by have := hk.1; omega) (by have := hk.1; omega)
      have hCc := HCc.out
      have hmp := hCc.map
      obtain ⟨h1, h2⟩ := HIc.out.next (p := ((t, .slice (some ⟨sb, off, none⟩) t.kids.length c1), (nx, dp))) hlt mx (by rw [HMx.out, HDv.out, HKe.out])
      refine ⟨by rw [← hne1]; rfl, .slice (some ⟨g, 0, none⟩) (L.length + 1) cap, _, l, true, ⟨hgg.os.trans HG.out.below.os, hgg.tape.trans HG.out.below.tape, hgg.output.trans HG.out.below.output, Nat.le_trans hws hgg.size, fun k hk _ _ h3 => (kc k (by omega) (fun e => h3 (by rw [e]; rfl))).trans (HG.out.below.block k hk), Or.inl rfl⟩, ?_, h1.keep kk, h2⟩
      refine hCc.turn kk ((cell_block (kc db (by omega) (by omega))).trans hCc.b0) ((cell_block (kc db (by omega) (by omega))).trans hCc.b1) (fun j => (frozen_block (kc db (by omega) (by omega))).trans (hCc.fz j)) (by rw [List.length_append, List.length_singleton]; exact ho2) ?_ (hmp.keep (kc mb hmp.lt (by omega))) hCc.nodup (fun p hp => Or.inl ⟨p, hp, rfl⟩) (fun p hp => mean_keep kk (fun q hq => ?_) (hCc.mean p hp)) (by have := hgg.size; omega)
      · intro p hp
        rcases List.mem_append.1 hp with hp | hp
        · exact (hCc.left p (List.mem_append_left _ hp)).keep kk fun _ h => h
        · obtain rfl := List.mem_singleton.1 hp
          have hst : Stood True (Old db mb base) wc t (.slice (some ⟨sb, off, none⟩) t.kids.length c1) := hCc.left ((t, Value.slice (some ⟨sb, off, none⟩) t.kids.length c1), (nx, dp)) (List.mem_append_right _ (List.mem_singleton.2 rfl))
          exact hst.keep kk fun _ h => h
      · rcases List.mem_append.1 hq with hq | hq
        · exact ⟨q, List.mem_append_left _ hq, rfl⟩
        · obtain rfl := List.mem_singleton.1 hq
          exact ⟨_, List.mem_append_right _ (List.mem_singleton.2 rfl), rfl⟩
end Go.Proofs.YtmjblkcbkekcbaaGreatDoor
