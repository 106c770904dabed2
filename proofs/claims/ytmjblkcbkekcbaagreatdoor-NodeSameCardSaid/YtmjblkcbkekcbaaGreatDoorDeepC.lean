/- A step of the program's descent. -/
import Derived.Test.YtmjblkcbkekcbaaGreatDoorDeepB
namespace Go.Proofs.YtmjblkcbkekcbaaGreatDoor
open Go.RowKit

/-- What a step leaves. -/
def DStep (base db mb : Nat) (rk : Key) (f : Bool) (lv : Value) (L : List LevV) (w : World) (e : Ending) (w' : World) : Prop :=
  e = .returned (.bool true) ∧ ∃ lv' L' l' f', Mv db mb w lv w' lv' ∧ DpAt base db mb w' lv' L' l' ∧ DInv base db mb w' rk f' L' l' ∧ phi f' L' < phi f L

set_option maxRecDepth 100000 in
set_option maxHeartbeats 4000000 in
theorem dstep_pop (base db mb : Nat) (rk : Key) (f : Bool) (t : T) (v : Value) (nx dp : Nat) (lv : Value) (L : List LevV) (l : List (Key × Value)) (w : World) (hC : DpAt base db mb w lv (L ++ [((t, v), (nx, dp))]) l) (hI : DInv base db mb w rk f (L ++ [((t, v), (nx, dp))]) l) (hL : L.length + 1 ≤ 1000000) (hnl : nx = t.kids.length) :
    Calls Tryz.prog 31 #[.pointer (some ⟨db, 0, none⟩)] w (DStep base db mb rk f lv (L ++ [((t, v), (nx, dp))]) w) := by
  have htop : ((t, v), (nx, dp)) ∈ L ++ [((t, v), (nx, dp))] := List.mem_append_right _ (List.mem_singleton.2 rfl)
  have hst : Stood True (Old db mb base) w t v := hC.left ((t, v), (nx, dp)) htop
  obtain ⟨a1, c1, ps1, rfl, h1⟩ := hst.out
  have hown := hC.own
  rw [List.length_append, List.length_singleton] at hown
  obtain ⟨ao, cap, rfl⟩ := owns_slice hown
  obtain ⟨g, rfl⟩ : ∃ g, ao = some ⟨g, 0, none⟩ := by
    rcases hown.2 with ⟨h, _⟩ | ⟨g, cap', cur, h, _⟩
    · simp at h
    · simp only [Value.slice.injEq] at h
      exact ⟨g, h.1⟩
  have hcs := hown.cells (g := g) rfl
  have hbl := hC.bl
  have x0 := hC.b0
  have x1 := hC.b1
  have xf := hC.fz
  have hg0 : g < w.heap.size := (hown.lt g rfl).2
  have hgb : base ≤ g := (hown.lt g rfl).1
  have p0 : w.cell? ⟨g, L.length * 3, none⟩ = some (.slice a1 t.kids.length c1) := by
    have := hcs (L.length * 3) (.slice a1 t.kids.length c1) (by rw [cellsV_append, List.getElem?_append_right (by rw [cellsV_length]; omega), cellsV_length, Nat.sub_self]; rfl)
    rwa [Addr.add_lit, Nat.zero_add] at this
  have p1 : w.cell? ⟨g, L.length * 3 + 1, none⟩ = some (.int .i64 nx) := by
    have := hcs (L.length * 3 + 1) (.int .i64 nx) (by rw [cellsV_append, List.getElem?_append_right (by rw [cellsV_length]; omega), cellsV_length, show L.length * 3 + 1 - L.length * 3 = 1 by omega]; rfl)
    rwa [Addr.add_lit, Nat.zero_add] at this
  have p2 : w.cell? ⟨g, L.length * 3 + 2, none⟩ = some (.int .i64 dp) := by
    have := hcs (L.length * 3 + 2) (.int .i64 dp) (by rw [cellsV_append, List.getElem?_append_right (by rw [cellsV_length]; omega), cellsV_length, show L.length * 3 + 2 - L.length * 3 = 2 by omega]; rfl)
    rwa [Addr.add_lit, Nat.zero_add] at this
  have hcap : L.length + 1 ≤ cap ∧ cap ≤ maxLen := by
    rcases hown.2 with ⟨h, _⟩ | ⟨g', cap', cur, h, _, _, h3, h4, _⟩
    · simp at h
    · simp only [Value.slice.injEq] at h
      obtain ⟨_, _, rfl⟩ := h
      exact ⟨h3, h4⟩
  have hcb : db < w.heap.size := by have := hC.cbl; omega
  have hcl1 : (L.length : Int) ≤ cap := by have := hcap.1; omega
  have hcl2 : (cap : Int) ≤ 9223372036854775807 := by have := hcap.2; unfold maxLen at this; omega
  have hea := hI.each _ htop
  have hnx : nx ≤ t.kids.length := hea.1
  have hdp : dp ≤ 1000000 := by
    have h2 : dp = deepL (t.kids.take nx) := hea.2.1
    have h3 : manyL t.kids ≤ 1000000 := hea.2.2
    have h4 := deepL_le (t.kids.take nx)
    have h5 : manyL (t.kids.take nx) ≤ manyL t.kids := by
      have e : ∀ (l : List T) (n : Nat), manyL (l.take n) ≤ manyL l := by
        intro l
        induction l with
        | nil => intro n; simp [manyL]
        | cons k l ih =>
          intro n
          cases n with
          | zero => rw [List.take_zero, manyL]; omega
          | succ n => rw [List.take_succ_cons, manyL, manyL]; have := ih n; omega
      exact e _ _
    omega
  have hlm := h1.len64
  have HC := Lib.hid hC
  have HI := Lib.hid hI
  have HR := Lib.hid h1
  have HO := Lib.hid hown
  have ha1 : 0 < t.kids.length → ∃ sb off, a1 = some ⟨sb, off, none⟩ := fun h => by obtain ⟨sb, off, e, -⟩ := h1.ad h; exact ⟨sb, off, e⟩
  have HDB := Lib.hid (And.intro hC.cbl (And.intro hC.mbl hC.ne))
  clear hst hcap hcs hC hI hown h1 hea htop
  obtain rfl : nx = t.kids.length := hnl
  have ask : Hid (∀ W, Gr w W → ∃ w6 l', (Instr.mapUpdate 53 (.map (some mb)) (.agg #[.pointer (keyA a1 t.kids.length).1, .int .i64 (keyA a1 t.kids.length).2]) (.int .i64 dp)).run Tryz.prog W = .ok () w6 ∧ w6.heap.size = W.heap.size ∧ W.grownBy w6 (some mb) ∧ MapIs rowV w6 mb l' ∧ (((∀ p, p ∈ l → p.1 ≠ keyA a1 t.kids.length) ∧ l' = l ++ [(keyA a1 t.kids.length, .int .i64 dp)]) ∨ ∃ i : Nat, (l[i]?).map Prod.fst = some (keyA a1 t.kids.length) ∧ l' = l.set i (keyA a1 t.kids.length, .int .i64 dp))) := by
    intro W hW
    have hC' := HC.out.later hW.below
    have r1 := HR.out.keep (fun k hk => hW.below.block k (by have := hk.1; omega)) fun _ h => h
    obtain ⟨w6, l', hrun, hsz, hgr, hm', -, hadd, hset⟩ := update_any (kRow True) (keyA a1 t.kids.length) (.int .i64 dp) 53 3 Tryz.underlying53 W mb l hC'.map r1.goodKey hC'.good
    refine ⟨w6, l', hrun, hsz, hgr, hm', ?_⟩
    by_cases h : ∀ p, p ∈ l → p.1 ≠ keyA a1 t.kids.length
    · exact Or.inl ⟨h, hadd trivial h⟩
    · obtain ⟨p, hp⟩ := Classical.not_forall.1 h
      obtain ⟨hp, he⟩ := Classical.not_imp.1 hp
      exact Or.inr (hset trivial p hp (Classical.not_not.1 he))
  go_enter Tryz.func31, Tryz.ntmps31
  go_wp2_with fail
  go_quiet (fail)
  go_wp2_with fail
  go_quiet (fail)
  go_upto_region 3 with fail
  go_cut [] (fun wx => Hid (∃ W l', Gr w W ∧ wx.heap.size = W.heap.size ∧ W.grownBy wx (some mb) ∧ MapIs rowV wx mb l' ∧ (((∀ p, p ∈ l → p.1 ≠ keyA a1 t.kids.length) ∧ l' = l ++ [(keyA a1 t.kids.length, .int .i64 dp)]) ∨ ∃ i : Nat, (l[i]?).map Prod.fst = some (keyA a1 t.kids.length) ∧ l' = l.set i (keyA a1 t.kids.length, .int .i64 dp))))
  case first =>
    go_region_with (go_at_call 32; refine (rowOf_any _ _ _ _ (by assumption)).mono ?_; rintro e w1 ⟨rfl, hg1⟩; obtain ⟨w6, l', hrun, hrest⟩ := ask.out w1 (((Gr.refl w).drewN _).trans hg1); have z1 : w1.cell? ⟨db, 1, none⟩ = some (.map (some mb)) := ((bone hg1.below hcb).1 1).trans x1; have z2 : w1.cell? ⟨g, L.length * 3 + 2, none⟩ = some (.int .i64 dp) := ((bone hg1.below hg0).1 _).trans p2; have HG := Lib.hid (And.intro (((Gr.refl w).drewN _).trans hg1) hrest); clear hrest hg1)
    all_goals (go_wp2_with fail; go_meet)
    all_goals exact ⟨_, _, HG.out⟩
  case rest =>
    obtain ⟨W, l', hW, hsz, hgr, hm', hput⟩ := hcut.out
    clear hcut ask
    have hcb3 : db < W.heap.size := by have := hW.below.size; omega
    have hne : (db : Nat) ≠ mb := HDB.out.2.2
    have hblk : wc.heap[db]? = W.heap[db]? := hgr.block db hcb3 (fun e => hne (Option.some.inj e))
    have z0 : wc.cell? ⟨db, 0, none⟩ = some (.slice (some ⟨g, 0, none⟩) (L.length + 1) cap) := (cell_block hblk).trans (((bone hW.below hcb).1 0).trans x0)
    have z1 : wc.cell? ⟨db, 1, none⟩ = some (.map (some mb)) := (cell_block hblk).trans (((bone hW.below hcb).1 1).trans x1)
    have zf : ∀ j, wc.frozen? ⟨db, j, none⟩ = false := fun j => (frozen_block hblk).trans (((bone hW.below hcb).2 j).trans (xf j))
    have HU := Lib.hid (And.intro hW (And.intro hsz (And.intro hgr (And.intro hm' hput))))
    clear hW hsz hgr hm' hput hblk hcb3
    go_wp2_with fail
    go_region
    go_wp2_with fail
    go_ret
    obtain ⟨hW, hsz, hgr, hm', hput⟩ := HU.out
    have hC0 := HC.out
    have hk9 : ∀ k, k ≠ db → ((wc.setCell ⟨db, 0, none⟩ (.slice (some ⟨g, 0, none⟩) L.length cap)).drew).heap[k]? = wc.heap[k]? := fun k hk => heap_setCell_other wc ⟨db, 0, none⟩ k _ (fun e => hk e)
    have hkm : ∀ k, k < W.heap.size → k ≠ mb → wc.heap[k]? = W.heap[k]? := fun k h1 h2 => hgr.block k h1 (fun e => h2 (Option.some.inj e))
    have hws := hW.below.size
    have kk : ∀ k, Old db mb base k → ((wc.setCell ⟨db, 0, none⟩ (.slice (some ⟨g, 0, none⟩) L.length cap)).drew).heap[k]? = w.heap[k]? := fun k hk => ((hk9 k hk.2.1).trans (hkm k (by have := hk.1; omega) hk.2.2)).trans (hW.below.block k (by have := hk.1; omega))
    obtain ⟨hn', hmem, hin, hold⟩ := known_put hC0.nodup hput
    have hdb := HDB.out
    have hown1 : w.ownsRow base 81 3 (.slice (some ⟨g, 0, none⟩) L.length cap) L.length (cellsV L) := by
      have := HO.out
      rw [cellsV_append] at this
      exact owns_shrink this (cellsV_length L)
    have hown2 : ((wc.setCell ⟨db, 0, none⟩ (.slice (some ⟨g, 0, none⟩) L.length cap)).drew).ownsRow base 81 3 (.slice (some ⟨g, 0, none⟩) L.length cap) L.length (cellsV L) :=
      have hgs := Lib.grownBy_setCell wc db 0 (.slice (some ⟨g, 0, none⟩) L.length cap)
      owns_apart (w' := (wc.setCell ⟨db, 0, none⟩ (.slice (some ⟨g, 0, none⟩) L.length cap)).drew) (b := db) (owns_apart (owns_below hown1 hW.below) hgr (fun e => by have := Option.some.inj e; simp at this; omega)) ⟨hgs.os, hgs.tape, hgs.output, hgs.size, hgs.block⟩ (fun e => by have := Option.some.inj e; simp at this; omega)
    have hI1 := HI.out.keep kk
    obtain ⟨f', hI2, hphi⟩ := hI1.pop (p := ((t, .slice a1 t.kids.length c1), (t.kids.length, dp))) a1 c1 rfl rfl ⟨_, hin, rfl⟩ hold
    have hdpe : dp = deepL t.kids := by
      have := (hI1.each ((t, .slice a1 t.kids.length c1), (t.kids.length, dp)) (List.mem_append_right _ (List.mem_singleton.2 rfl))).2.1
      rw [List.take_length] at this
      exact this
    have r1 := HR.out.keep kk fun _ h => h
    refine ⟨rfl, .slice (some ⟨g, 0, none⟩) L.length cap, L, l', f', ⟨?_, ?_, ?_, ?_, ?_, Or.inl rfl⟩, ?_, hI2, hphi⟩
    · exact (Lib.grownBy_setCell wc db 0 (.slice (some ⟨g, 0, none⟩) L.length cap)).os.trans (hgr.os.trans hW.below.os)
    · exact (Lib.grownBy_setCell wc db 0 (.slice (some ⟨g, 0, none⟩) L.length cap)).tape.trans (hgr.tape.trans hW.below.tape)
    · exact (Lib.grownBy_setCell wc db 0 (.slice (some ⟨g, 0, none⟩) L.length cap)).output.trans (hgr.output.trans hW.below.output)
    · show w.heap.size ≤ (wc.setCell ⟨db, 0, none⟩ (.slice (some ⟨g, 0, none⟩) L.length cap)).heap.size
      rw [World.size_setCell]
      omega
    · intro k hk h1 h2 h3
      exact ((hk9 k h1).trans (hkm k (by omega) h2)).trans (hW.below.block k hk)
    · refine hC0.turn kk ?_ ?_ (fun j => ?_) hown2 (fun p hp => (hC0.left p (List.mem_append_left _ hp)).keep kk fun _ h => h) (hm'.keep (hk9 mb hdb.2.2.symm)) hn' ?_ ?_ ?_
      · show (wc.setCell ⟨db, 0, none⟩ (.slice (some ⟨g, 0, none⟩) L.length cap)).cell? ⟨db, 0, none⟩ = _
        exact World.cell?_setCell_same _ _ _ z0
      · show (wc.setCell ⟨db, 0, none⟩ (.slice (some ⟨g, 0, none⟩) L.length cap)).cell? ⟨db, 1, none⟩ = _
        rw [World.cell?_setCell_other _ _ _ _ (by simp)]
        exact z1
      · show (wc.setCell ⟨db, 0, none⟩ (.slice (some ⟨g, 0, none⟩) L.length cap)).frozen? ⟨db, j, none⟩ = _
        rw [World.frozen?_setCell]
        exact zf j
      · intro p hp
        rcases hmem p hp with ⟨h, _⟩ | rfl
        · exact Or.inl ⟨p, h, rfl⟩
        · exact Or.inr ⟨r1.goodKey, r1.inKey⟩
      · intro p hp
        rcases hmem p hp with ⟨h, hne⟩ | rfl
        · rcases hC0.mean p h with h | ⟨q, hq, ao, n, c, e0, e1, e2⟩ | ⟨q, ao, c, ps, r, e1, e2⟩
          · exact Or.inl h
          · rcases List.mem_append.1 hq with hq | hq
            · exact Or.inr (Or.inl ⟨q, hq, ao, n, c, e0, e1, e2⟩)
            · obtain rfl := List.mem_singleton.1 hq
              simp only [Value.slice.injEq] at e0
              obtain ⟨rfl, rfl, -⟩ := e0
              exact absurd e1 hne
          · exact Or.inr (Or.inr ⟨q, ao, c, ps, r.keep kk fun _ h => h, e1, e2⟩)
        · exact Or.inr (Or.inr ⟨t, a1, c1, ps1, r1, rfl, by rw [hdpe]⟩)
      · show base ≤ (wc.setCell ⟨db, 0, none⟩ (.slice (some ⟨g, 0, none⟩) L.length cap)).heap.size
        rw [World.size_setCell]
        omega
end Go.Proofs.YtmjblkcbkekcbaaGreatDoor
