/- What a bag is given: frames. -/
import Derived.Test.YtagjipkoheimjaaGreatDoorBag
import Derived.Test.YtagjipkoheimjaaGreatDoorFlatF
namespace Go.Proofs.YtagjipkoheimjaaGreatDoor
open Go.RowKit

/-- What a bag is given: nothing but the bag and its row of rows of bytes is touched. -/
def GaveFP (pb B : Nat) (n : Nat) (vF : Value) (vs : List Hd) (w : World) (e : Ending) (w' : World) : Prop :=
  e = .returned (.tuple #[]) ∧ (∀ k cs t fz, w.heap[k]? = some (.cells cs t fz) → t ≠ 26 → k ≠ pb → w'.heap[k]? = some (.cells cs t fz)) ∧ ∃ bo c, w'.heap[pb]? = some (.cells (bagC (.slice bo n c) vF) 90 (0, 0)) ∧ OwnH w' B 26 1 (bo, n, c) (vs.map hv) ∧ Below B w w'

set_option maxRecDepth 100000 in
theorem putBytesF_any (pb B n : Nat) (vF : Value) (vs : List Hd) (bo : Option Addr) (c : Nat) (l : Hd) (w : World) (hB : B ≤ w.heap.size) (hp : B ≤ pb) (h : w.heap[pb]? = some (.cells (bagC (.slice bo n c) vF) 90 (0, 0)))
    (ho : OwnH w B 26 1 (bo, n, c) (vs.map hv)) (hm : n ≤ 100000000) :
    Calls Tryz.prog 34 #[.pointer (some ⟨pb, 0, none⟩), hv l] w (GaveFP pb B (n + 1) vF (vs ++ [l]) w) := by
  have hT : (26 : Nat) ≠ 90 := by decide
  obtain ⟨i1, hj1, hy0, hy1, hy2⟩ := info_parts infoS
  have hc : w.cell? ⟨pb, 5, none⟩ = some (.slice bo n c) := Lib.cell_of_heap h 5
  have hlt := lt_of_heap h
  have hneq : pb ≠ w.heap.size := by omega
  have hown : (w.alloc (.cells #[hv l] 26)).ownsRow B 26 1 (.slice bo n c) n (vs.map hv) := World.ownsRow.alloc ho _
  have hbz : B ≤ (w.alloc (.cells #[hv l] 26)).heap.size := Nat.le_trans hB (below_own _).size
  have hpb := bag_keep h (below_own (.cells #[hv l] 26))
  have hne : (Value.slice bo n c).ownBlock ≠ some pb := fun e => by
    obtain ⟨cs, fz, h5⟩ := owns_tag ho pb e
    rw [h] at h5
    injection h5 with h5
    injection h5 with _ h6 _
    exact hT h6.symm
  have HK := Lib.hid (And.intro hB (And.intro hp (And.intro hpb (And.intro hne (below_own (w := w) (.cells #[hv l] 26))))))
  have HBz := Lib.hid hbz
  have HM := Lib.hid hm
  clear ho h hB hp hpb hne hbz hm
  go_enter Tryz.func34, Tryz.ntmps34
  go_wp2_with (at_builtin; go_must (refine wpList_append_own _ rfl (.tmp 8) (.tmp 10) 35 rfl B 26 i1 (.slice none 0 0) 1 24 Tryz.underlying35 hj1 hy0 hy1 hy2 rfl (by decide) _ _ _ rfl hown ⟨w.heap.size, 0, none⟩ 1 1 [hv l] rfl rfl (fun j u hu => by rw [Addr.add_lit, Nat.zero_add]; exact cells_made w _ _ j u (by simpa using hu)) (fun u hu => by simp at hu; subst hu; rfl) (by have := HM.out; unfold maxLen; omega) (by have := HM.out; omega) HBz.out ?_; intro v' w4 hown4 hgrow4 _; obtain ⟨bo4, c4, rfl⟩ := owns_slice hown4; refine Hid.out ?_))
  obtain ⟨hB, hp, hpb, hne, hbn⟩ := HK.out
  have hpb4 : w4.heap[pb]? = some (.cells (bagC (.slice bo n c) vF) 90 (0, 0)) := (hgrow4.block pb (lt_of_heap hpb) (fun e => hne e.symm)).trans hpb
  have hc4 : w4.cell? ⟨pb, 5, none⟩ = some (.slice bo n c) := Lib.cell_of_heap hpb4 5
  have hf4 : w4.frozen? ⟨pb, 5, none⟩ = false := Lib.frozen_of_heap hpb4 5
  have hb4 : Below B w w4 := (hbn.mono hB).grown hgrow4 HBz.out (fun b hb => (hown.lt b hb).1)
  have hoth : ∀ k cs t fz, w.heap[k]? = some (.cells cs t fz) → t ≠ 26 → k ≠ pb → (w4.setCell ⟨pb, 5, none⟩ (.slice bo4 (n + 1) c4)).heap[k]? = some (.cells cs t fz) := fun k cs t fz hk ht hkp => by
    have q1 := bag_keep hk (below_own (.cells #[hv l] 26))
    have q2 : w4.heap[k]? = some (.cells cs t fz) := (hgrow4.block k (lt_of_heap q1) (fun e => by
      obtain ⟨cs', fz', h5⟩ := owns_tag hown k e.symm
      rw [q1] at h5
      injection h5 with h5
      injection h5 with _ h6 _
      exact ht h6)).trans q1
    exact ((Lib.grownBy_setCell w4 pb 5 _).block k (lt_of_heap q2) (fun e => hkp (Option.some.inj e))).trans q2
  have HE : Hid (GaveFP pb B (n + 1) vF (vs ++ [l]) w (.returned (.tuple #[])) (w4.setCell ⟨pb, 5, none⟩ (.slice bo4 (n + 1) c4))) := by
    refine ⟨rfl, hoth, bo4, c4, Lib.heap_setCell_same (i := 5) hpb4 _, ?_, hb4.setCell (p := ⟨pb, 5, none⟩) hp _⟩
    rw [List.map_append]
    exact owns_far hown4 hT (Lib.grownBy_setCell w4 pb 5 _) (fun q hq => by
      obtain rfl := Option.some.inj hq
      exact ⟨_, _, hpb4⟩)
  clear hoth hpb hpb4 hne hbn hB hp hown hown4 hgrow4 hb4 hc hlt hneq HK HBz HM
  refine Lib.hid ?_
  go_wp2_with fail
  first | go_end0 | go_ret
  exact HE.out

set_option maxRecDepth 100000 in
theorem oneFrame_any (pb B n : Nat) (vF : Value) (vs : List Hd) (bo : Option Addr) (c : Nat) (k : Int) (l : Hd) (w : World) (hB : B ≤ w.heap.size) (hp : B ≤ pb) (h : w.heap[pb]? = some (.cells (bagC (.slice bo n c) vF) 90 (0, 0)))
    (ho : OwnH w B 26 1 (bo, n, c) (vs.map hv)) (hm : n ≤ 100000000) :
    Calls Tryz.prog 76 #[.pointer (some ⟨pb, 0, none⟩), .agg #[.int .i64 k, hv l]] w (GaveFP pb B (n + 1) vF (vs ++ [l]) w) := by
  have hbx := below_own (w := w) (.cells #[.int .i64 k, hv l] 44)
  have KP := Lib.hid (putBytesF_any pb B n vF vs bo c l (w.alloc (.cells #[.int .i64 k, hv l] 44)) (Nat.le_trans hB hbx.size) hp (bag_keep h hbx) (World.ownsRow.alloc ho _) hm)
  have HB := Lib.hid (And.intro hB hbx)
  clear h ho hB hp hm hbx
  obtain ⟨a, q, r⟩ := l
  simp only [hv] at KP HB ⊢
  go_enter Tryz.func76, Tryz.ntmps76
  go_wp2_with (go_at_call 34; go_must (refine (KP.out).mono ?_; rintro e w1 ⟨rfl, h1, bo1, c1, h2, h3, h4⟩; have HE := Lib.hid (show GaveFP pb B (n + 1) vF (vs ++ [(a, q, r)]) w (.returned (.tuple #[])) w1 from ⟨rfl, fun k cs t fz hk ht hkp => h1 k cs t fz (bag_keep hk HB.out.2) ht hkp, bo1, c1, h2, h3, (HB.out.2.mono HB.out.1).trans h4⟩); clear h1 h2 h3 h4))
  first | go_end0 | go_ret
  exact HE.out

theorem owns_oth {w w' : World} {pb base e size n T : Nat} {v : Value} {xs : List Value} {C : Array Value} (o : w.ownsRow base e size v n xs) (hp : w.heap[pb]? = some (.cells C T (0, 0))) (hT : e ≠ T) (he : e ≠ 26)
    (h : ∀ k cs t fz, w.heap[k]? = some (.cells cs t fz) → t ≠ 26 → k ≠ pb → w'.heap[k]? = some (.cells cs t fz)) : w'.ownsRow base e size v n xs := by
  refine ⟨o.1, ?_⟩
  rcases o.2 with h1 | ⟨g, cap, cur, h1, hb, hg, r⟩
  · exact Or.inl h1
  · refine Or.inr ⟨g, cap, cur, h1, hb, h g _ _ _ hg he (fun e' => ?_), r⟩
    subst e'
    rw [hp] at hg
    injection hg with hg
    injection hg with _ h2 _
    exact hT h2.symm
/-- A frame's cells: its kind and its data's head. -/
def fv (p : Int × Hd) : FR × Value := ((p.1, []), hv p.2)
def GaveRP (pb B n m : Nat) (vs ws : List Hd) (w : World) (e : Ending) (w' : World) : Prop :=
  e = .returned (.tuple #[]) ∧ ∃ bo c fo cf, w'.heap[pb]? = some (.cells (bagC (.slice bo n c) (.slice fo m cf)) 90 (0, 0)) ∧ OwnH w' B 26 1 (bo, n, c) (vs.map hv) ∧ OwnH w' B 22 1 (fo, m, cf) (ws.map hv) ∧ Below B w w'

set_option maxRecDepth 100000 in
set_option maxHeartbeats 2000000 in
theorem putFrames_any (pb B n m : Nat) (vs ws : List Hd) (bo fo : Option Addr) (c cf : Nat) (la : Option Addr) (q lc : Nat) (ps : List (Int × Hd)) (w : World) (hq : ps.length = q) (hB : B ≤ w.heap.size) (hp : B ≤ pb)
    (h : w.heap[pb]? = some (.cells (bagC (.slice bo n c) (.slice fo m cf)) 90 (0, 0))) (ho : OwnH w B 26 1 (bo, n, c) (vs.map hv)) (hf : OwnH w B 22 1 (fo, m, cf) (ws.map hv)) (hl : SlG B w la (cellsFr (ps.map fv))) (hm : n + q ≤ 100000000) (hm2 : m ≤ 100000000) :
    Calls Tryz.prog 39 #[.pointer (some ⟨pb, 0, none⟩), .slice la q lc] w (GaveRP pb B (n + q) (m + 1) (vs ++ ps.map Prod.snd) (ws ++ [(la, q, lc)]) w) := by
  have hT : (22 : Nat) ≠ 90 := by decide
  obtain ⟨i1, hj1, hy0, hy1, hy2⟩ := info_parts infoSF
  have hc : w.cell? ⟨pb, 28, none⟩ = some (.slice fo m cf) := Lib.cell_of_heap h 28
  have hlt := lt_of_heap h
  have hneq : pb ≠ w.heap.size := by omega
  have hbx := below_own (w := w) (.cells #[.slice la q lc] 22)
  have hown : (w.alloc (.cells #[.slice la q lc] 22)).ownsRow B 22 1 (.slice fo m cf) m (ws.map hv) := World.ownsRow.alloc hf _
  have hpb := bag_keep h hbx
  have hne : (Value.slice fo m cf).ownBlock ≠ some pb := fun e => by
    obtain ⟨cs, fz, h5⟩ := owns_tag hf pb e
    rw [h] at h5
    injection h5 with h5
    injection h5 with _ h6 _
    exact hT h6.symm
  have HK := Lib.hid (And.intro hB (And.intro hp (And.intro hpb (And.intro hne hbx))))
  have HBz := Lib.hid (Nat.le_trans hB hbx.size)
  have HM2 := Lib.hid hm2
  have HOb := Lib.hid ho
  have HL := Lib.hid hl
  have HQ := Lib.hid hq
  have HMq := Lib.hid hm
  clear ho h hB hp hpb hne hm hm2 hl hf hq hbx
  go_enter Tryz.func39, Tryz.ntmps39
  go_wp2_with (at_builtin; go_must (refine wpList_append_own _ rfl (.tmp 9) (.tmp 11) 41 rfl B 22 i1 (.slice none 0 0) 1 24 Tryz.underlying41 hj1 hy0 hy1 hy2 rfl (by decide) _ _ _ rfl hown ⟨w.heap.size, 0, none⟩ 1 1 [.slice la q lc] rfl rfl (fun j u hu => by rw [Addr.add_lit, Nat.zero_add]; exact cells_made w _ _ j u (by simpa using hu)) (fun u hu => by simp at hu; subst hu; rfl) (by have := HM2.out; unfold maxLen; omega) (by have := HM2.out; omega) HBz.out ?_; intro v' w4 hown4 hgrow4 _; obtain ⟨fo4, cf4, rfl⟩ := owns_slice hown4; refine Hid.out ?_))
  obtain ⟨hB, hp, hpb, hne, hbn⟩ := HK.out
  have hpb4 : w4.heap[pb]? = some (.cells (bagC (.slice bo n c) (.slice fo m cf)) 90 (0, 0)) := (hgrow4.block pb (lt_of_heap hpb) (fun e => hne e.symm)).trans hpb
  have hc4 : w4.cell? ⟨pb, 28, none⟩ = some (.slice fo m cf) := Lib.cell_of_heap hpb4 28
  have hf4 : w4.frozen? ⟨pb, 28, none⟩ = false := Lib.frozen_of_heap hpb4 28
  have hb4 : Below B w w4 := (hbn.mono hB).grown hgrow4 HBz.out (fun b hb => (hown.lt b hb).1)
  have hob4 : w4.ownsRow B 26 1 (.slice bo n c) n (vs.map hv) := owns_far (World.ownsRow.alloc HOb.out _) (by decide : (26 : Nat) ≠ 22) hgrow4 (fun q hq => owns_tag hown q hq)
  have HP0 : Hid ((w4.setCell ⟨pb, 28, none⟩ (.slice fo4 (m + 1) cf4)).heap[pb]? = some (.cells (bagC (.slice bo (n + 0) c) (.slice fo4 (m + 1) cf4)) 90 (0, 0))) := Lib.heap_setCell_same (i := 28) hpb4 _
  have HO0 : Hid (OwnH (w4.setCell ⟨pb, 28, none⟩ (.slice fo4 (m + 1) cf4)) B 26 1 (bo, n + 0, c) ((vs ++ (ps.take 0).map Prod.snd).map hv)) := by
    rw [List.take_zero, List.map_nil, List.append_nil]
    exact owns_far hob4 (by decide : (26 : Nat) ≠ 90) (Lib.grownBy_setCell w4 pb 28 _) (fun q hq => by
      obtain rfl := Option.some.inj hq
      exact ⟨_, _, hpb4⟩)
  have HF0 : Hid (OwnH (w4.setCell ⟨pb, 28, none⟩ (.slice fo4 (m + 1) cf4)) B 22 1 (fo4, m + 1, cf4) ((ws ++ [(la, q, lc)]).map hv)) := by
    rw [List.map_append]
    exact owns_far hown4 hT (Lib.grownBy_setCell w4 pb 28 _) (fun q hq => by
      obtain rfl := Option.some.inj hq
      exact ⟨_, _, hpb4⟩)
  have HB0 : Hid (Below B w (w4.setCell ⟨pb, 28, none⟩ (.slice fo4 (m + 1) cf4))) := hb4.setCell (p := ⟨pb, 28, none⟩) hp _
  have HBp := Lib.hid (And.intro hB hp)
  have hq8 : q ≤ 100000000 := by have := HMq.out; omega
  clear hpb hpb4 hne hbn hB hp hown hown4 hgrow4 hb4 hob4 hc hlt hneq HK HBz HM2 HOb
  refine Lib.hid ?_
  go_wp2_with fail
  clear hc4 hf4
  go_loopw [4] (fun ik wr => ∃ (j : Nat) (bo : Option Addr) (c : Nat), j ≤ q ∧ ik = .int .i64 j ∧ Hid (wr.heap[pb]? = some (.cells (bagC (.slice bo (n + j) c) (.slice fo4 (m + 1) cf4)) 90 (0, 0))) ∧ Hid (OwnH wr B 26 1 (bo, n + j, c) ((vs ++ (ps.take j).map Prod.snd).map hv)) ∧ Hid (OwnH wr B 22 1 (fo4, m + 1, cf4) ((ws ++ [(la, q, lc)]).map hv)) ∧ Hid (Below B w wr)) (fun ik _ => q - (intOf ik).toNat)
  case atStart => exact ⟨0, bo, c, by omega, rfl, HP0, HO0, HF0, HB0⟩
  case round =>
    clear HP0 HO0 HF0 HB0
    obtain ⟨j, bo, c, hj, rfl, HP, HO, HF, HB⟩ := hrel
    by_cases hlt : j < q
    · have hjp : j < ps.length := by rw [HQ.out]; exact hlt
      obtain ⟨sb, off, rfl, hsb, hcl⟩ := HL.out (by
        intro e
        have h1 := congrArg List.length e
        rw [cellsFr_length, List.length_map] at h1
        simp only [List.length_nil] at h1
        omega)
      obtain ⟨q1, q2⟩ := cellsFr_at (ps.map fv) j (by rw [List.length_map]; exact hjp)
      rw [List.getElem_map] at q1 q2
      have k1 := (HB.out.cell (p := ⟨sb, off + j * 2, none⟩) hsb).trans (hcl _ _ q1)
      have k2 := (HB.out.cell (p := ⟨sb, off + (j * 2 + 1), none⟩) hsb).trans (hcl _ _ q2)
      have hT1 : (vs ++ (ps.take j).map Prod.snd) ++ [(ps[j]).2] = vs ++ (ps.take (j + 1)).map Prod.snd := by
        rw [List.take_add_one, List.getElem?_eq_getElem hjp, List.map_append, List.append_assoc]
        rfl
      have hbs := HB.out.size
      have KO := Lib.hid (oneFrame_any pb B (n + j) (.slice fo4 (m + 1) cf4) (vs ++ (ps.take j).map Prod.snd) bo c (ps[j]).1 (ps[j]).2 wr (Nat.le_trans HBp.out.1 hbs) HBp.out.2 HP.out HO.out (by have := HMq.out; omega))
      rw [hT1] at KO
      simp only [fv] at k1 k2
      rw [← Nat.add_assoc] at k2
      generalize (ps[j]).1 = x at k1 KO
      generalize (ps[j]).2 = d at k2 KO
      obtain ⟨da, dn, dc⟩ := d
      simp only [hv] at k2 KO
      have hjq : (j : Int) < (q : Int) := by omega
      have HNx : Hid (∀ wb, (∀ k cs t fz, wr.heap[k]? = some (.cells cs t fz) → t ≠ 26 → k ≠ pb → wb.heap[k]? = some (.cells cs t fz)) → OwnH wb B 22 1 (fo4, m + 1, cf4) ((ws ++ [((some (⟨sb, off, none⟩ : Addr), q, lc) : Hd)]).map hv)) := fun wb h => owns_oth HF.out HP.out hT (by decide) h
      clear hcl q1 q2 hT1 hbs
      go_wp2_with (go_at_call 76; go_must (refine (KO.out).mono ?_; rintro e w1 ⟨rfl, h1, bo1, c1, h2, h3, h4⟩; have HF1 := Lib.hid (HNx.out w1 h1); have HP1 : Hid (w1.heap[pb]? = some (.cells (bagC (.slice bo1 (n + (j + 1)) c1) (.slice fo4 (m + 1) cf4)) 90 (0, 0))) := h2; have HO1 : Hid (OwnH w1 B 26 1 (bo1, n + (j + 1), c1) ((vs ++ (ps.take (j + 1)).map Prod.snd).map hv)) := h3; have HB1 := Lib.hid (HB.out.trans h4); clear h1 h2 h3 h4))
      clear k1 k2 KO HNx hjq
      go_roundw
      case rel => exact ⟨j + 1, bo1, c1, by omega, by go_num, HP1, HO1, HF1, HB1⟩
      case measure => simp [intOf]; omega
    · obtain rfl : j = q := by omega
      have hO := HO.out
      rw [show ps.take j = ps by rw [← HQ.out, List.take_length]] at hO
      have HO1 := Lib.hid hO
      clear hO HO
      go_wp2_with fail
      first | go_end0 | go_ret
      exact ⟨rfl, bo, c, fo4, cf4, HP.out, HO1.out, HF.out, HB.out⟩
end Go.Proofs.YtagjipkoheimjaaGreatDoor
