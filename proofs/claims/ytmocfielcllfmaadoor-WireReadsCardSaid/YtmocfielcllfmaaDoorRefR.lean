/- The document's reader: replies. -/
import Derived.Test.YtmocfielcllfmaaDoorRefF
namespace Go.Proofs.YtmocfielcllfmaaDoor
open Go.RowKit

theorem Mid.keep {w0 w w' : World} {t : TypeId} {Z cs : Array Value} {D B : Nat} {ao : Option Addr} {l0 : List UInt8} {c : Nat} {s : St} {row : Option Nat} (h : Mid w0 w t Z cs D B ao l0 c s) (g : w.grownBy w' row) (hr : ∀ k, row = some k → w0.heap.size + 2 ≤ k) : Mid w0 w' t Z cs D B ao l0 c s :=
  ⟨h.rf.grown g (fun k hk => by have := hr k hk; have := h.lt; omega), h.fr.grown g (fun k hk => by have := hr k hk; omega),
    (g.block _ (by have := h.sz; omega) (fun e => by have := hr _ e.symm; omega)).trans h.h3, (g.block _ (by have := h.sz; omega) (fun e => by have := hr _ e.symm; omega)).trans h.h2, Nat.le_trans h.sz g.size, h.lt⟩
theorem Mid.alloc {w0 w : World} {t : TypeId} {Z cs : Array Value} {D B : Nat} {ao : Option Addr} {l0 : List UInt8} {c : Nat} {s : St} (h : Mid w0 w t Z cs D B ao l0 c s) (o : Obj) : Mid w0 (w.alloc o) t Z cs D B ao l0 c s :=
  h.keep (World.grownBy_alloc w o none) (fun k hk => by cases hk)

def replyR0 (s : St) : R4 × St :=
  let e := numS s
  let n := numS e.2
  let f := manyS factR n.2
  let a := valuesR f.2
  ((e.1, n.1, f.1, a.1), a.2)
def replyR (s : St) : R4 × St := wholeS replyR0 (0, 0, [], []) s
def RreplyP (r : R4 × St) (D B : Nat) (ao : Option Addr) (l0 : List UInt8) (c : Nat) (w : World) (e : Ending) (w' : World) : Prop :=
  ∃ vf va, e = .returned (aggR r.1 vf va) ∧ RowF w' w.heap.size vf r.1.2.2.1 ∧ RowV w' w.heap.size va r.1.2.2.2 ∧ RfS w' D B ao l0 c r.2 ∧ Fr D w w'

theorem valueR_agree : Agree valueR valueP where
  ok := fun {l x r} h => by
    unfold valueR wholeS
    rw [value_agree.ok h, if_neg (by simp)]
  no := fun {l} h => by
    unfold valueR wholeS
    have := value_agree.no h
    split
    · exact this
    · exact this
  bad := by
    unfold valueR wholeS
    have := value_agree.bad
    split
    · exact this
    · exact this
theorem valuesR_agree : Agree valuesR valuesP := many_agree valueR_agree
theorem valuesR_bad {s : St} (h : s.2 = true) (ok : OkS s) : (valuesR s).2.2 = true := by
  rw [ok h, valuesR_agree.bad]
  rfl

set_option maxRecDepth 100000 in
set_option maxHeartbeats 4000000 in
theorem rreply_any (D B : Nat) (ao : Option Addr) (l0 : List UInt8) (c : Nat) (s : St) (w : World) (h : RfS w D B ao l0 c s) :
    Calls Tryd.prog 54 #[.pointer (some ⟨D, 0, none⟩)] w (RreplyP (replyR s) D B ao l0 c w) := by
  obtain ⟨i0, hi, hz0, hz1, hz2'⟩ := info_parts infoF
  have HM := Lib.hid (Mid.start h 63 #[.int .i64 0, .int .i64 0, .slice none 0 0, .slice none 0 0])
  have hlt : D < w.heap.size := h.lt
  have q1 : w.heap.size ≠ D := by omega
  have q2 : w.heap.size + 1 ≠ D := by omega
  have q3 : D ≠ w.heap.size := by omega
  have q4 : D ≠ w.heap.size + 1 := by omega
  have HOK := Lib.hid h.ok
  clear h
  unfold replyR wholeS replyR0
  have HC1 := Lib.hid (fun W h => rnumber_any D B ao l0 c s W h)
  generalize numS s = r1 at HC1 ⊢
  obtain ⟨x0, s1⟩ := r1
  simp only at HC1 ⊢
  have HC2 := Lib.hid (fun W h => rnumber_any D B ao l0 c s1 W h)
  generalize numS s1 = r2 at HC2 ⊢
  obtain ⟨n0, s2⟩ := r2
  simp only at HC2 ⊢
  have HC3 := Lib.hid (fun W h => rcount_any D B ao l0 c s2 W h)
  have HU := Lib.hid (fun (h : OkS s2) => under_start (f := factR) h)
  have hle := countS_le s2
  unfold manyS
  generalize countS s2 = r3 at HC3 HU hle ⊢
  obtain ⟨n9, s9⟩ := r3
  simp only at HC3 HU hle ⊢
  generalize hro : rowS factR n9 [] s9 = ro
  obtain ⟨fo, so⟩ := ro
  have HRO := Lib.hid hro
  clear hro
  simp only
  have HC4 := Lib.hid (fun W h => rvalues_any D B ao l0 c so W h)
  have HBv := Lib.hid (fun (h : so.2 = true) (ok : OkS so) => valuesR_bad h ok)
  generalize valuesR so = r5 at HC4 HBv ⊢
  obtain ⟨a, l9, b9⟩ := r5
  simp only at HC4 HBv ⊢
  generalize hO : (if b9 = true then (((0, 0, [], []), (l9, b9)) : R4 × St) else ((x0, n0, fo, a), (l9, b9))) = out
  have HO := Lib.hid hO
  clear hO
  go_enter Tryd.func54, Tryd.ntmps54
  go_wp2_with (go_at_call 48; refine (HC1.out _ HM.out.rf).mono ?_; rintro e w1 ⟨rfl, hr, hf⟩; refine Hid.out ?_)
  have HMc := Lib.hid (HM.out.call hr hf)
  obtain ⟨hc3, hz3, hc2, hz2, cq⟩ := HMc.out.cells
  have HMs := Lib.hid (HMc.out.set 0 (.int .i64 x0) #[.int .i64 x0, .int .i64 0, .slice none 0 0, .slice none 0 0] rfl)
  clear hr hf HM HMc HC1
  have HM := Lib.hid HMs.out
  clear HMs
  refine Lib.hid ?_
  go_wp2_with (go_at_call 48; refine (HC2.out _ HM.out.rf).mono ?_; rintro e w2 ⟨rfl, hr, hf⟩; refine Hid.out ?_)
  clear hc3 hz3 hc2 hz2 cq
  have HMc := Lib.hid (HM.out.call hr hf)
  obtain ⟨hc3, hz3, hc2, hz2, cq⟩ := HMc.out.cells
  have HMs := Lib.hid (HMc.out.set 1 (.int .i64 n0) #[.int .i64 x0, .int .i64 n0, .slice none 0 0, .slice none 0 0] rfl)
  clear hr hf HM HMc HC2
  have HM := Lib.hid HMs.out
  clear HMs
  refine Lib.hid ?_
  have HOKc := Lib.hid HM.out.rf.ok
  go_wp2_with (go_at_call 96; refine (HC3.out _ HM.out.rf).mono ?_; rintro e w3 ⟨rfl, hr, hf⟩; refine Hid.out ?_)
  clear hc3 hz3 hc2 hz2 cq
  have HMc := Lib.hid (HM.out.call hr hf)
  obtain ⟨hc3, hz3, hc2, hz2, cq⟩ := HMc.out.cells
  have HMs := Lib.hid HMc.out
  clear hr hf HM HMc HC3
  have HM := Lib.hid HMs.out
  clear HMs
  refine Lib.hid ?_
  go_wp2_with fail
  have HU1 := Lib.hid (HU.out HOKc.out)
  clear HU HOKc hc3 hz3 hc2 hz2 cq
  go_loopw [4, 5] (fun i x wr => ∃ (vv : Value) (m : Nat) (acc : List F3) (sj : St), acc.length + m ≤ n9 ∧ i = .int .i64 m ∧ Under factR n9 s9 m acc sj ∧ RowF wr (w.heap.size + 2) vv acc ∧ Mid w wr 63 #[.int .i64 0, .int .i64 0, .slice none 0 0, .slice none 0 0] #[.int .i64 x0, .int .i64 n0, vv, .slice none 0 0] D B ao l0 c sj) (fun i _ _ => (intOf i).toNat)
  case atStart => exact ⟨_, n9, [], s9, by simp, rfl, HU1.out, RowF.nil _ _, HM.out⟩
  case round =>
    obtain ⟨vv, m, acc, sj, hm, rfl, hun, hrow, hmid⟩ := hrel
    have HRow := Lib.hid hrow
    have HMr := Lib.hid hmid
    have HUn := Lib.hid hun
    have HMm := Lib.hid hm
    obtain ⟨hc3, hz3, hc2, hz2, cq⟩ := hmid.cells
    clear hrow hmid hun HM HU1 hm 
    obtain ⟨lj, bj⟩ := sj
    cases bj with
    | true =>
      obtain ⟨rfl, rfl⟩ := Prod.mk.inj (HRO.out.symm.trans (under_bad HUn.out rfl))
      cases m with
      | zero =>
        have HM := Lib.hid HMr.out
        have hb9 := HBv.out rfl HMr.out.rf.ok
        subst hb9
        clear HMr HRow HUn
        go_wp2_with (go_at_call 51; refine (HC4.out _ HM.out.rf).mono ?_; rintro e w8 ⟨v8, rfl, hrow, hr, hf⟩; obtain ⟨ao8, c8, rfl⟩ := hrow.slice; refine Hid.out ?_)
        clear hc3 hz3 hc2 hz2 cq
        have HMc := Lib.hid (HM.out.call hr hf)
        obtain ⟨hc3, hz3, hc2, hz2, cq⟩ := HMc.out.cells
        have HW8 := Lib.hid ((hrow.mono HM.out.sz).set (by omega : w.heap.size + 1 < w.heap.size + 2) 3 (.slice ao8 a.length c8))
        have HMs := Lib.hid (HMc.out.set 3 (.slice ao8 a.length c8) #[.int .i64 x0, .int .i64 n0, vv, .slice ao8 a.length c8] rfl)
        clear hr hf HM HMc HC4 hrow
        have HM := Lib.hid HMs.out
        clear HMs
        refine Lib.hid ?_
        go_wp2_with fail
        refine bodyPost_ret (R := RreplyP _ D B ao l0 c w) (v := .agg #[.int .i64 0, .int .i64 0, .slice none 0 0, .slice none 0 0]) (by simp [results, Tryd.results54, go_sem, hc2]) rfl ?_
        rw [← HO.out]
        exact ⟨_, _, rfl, RowF.nil _ _, RowV.nil _ _, ((((HM.out.rf.setNew hlt 0 _).setNew hlt 1 _).setNew hlt 2 _).setNew hlt 3 _), ((((HM.out.fr.setNew (Nat.le_refl _) 0 _).setNew (Nat.le_refl _) 1 _).setNew (Nat.le_refl _) 2 _).setNew (Nat.le_refl _) 3 _)⟩
      | succ m =>
        have hpos : (0 : Int) < ((m + 1 : Nat) : Int) := by omega
        have hposd : decide ((0 : Int) < ((m + 1 : Nat) : Int)) = true := by simp
        have HM := Lib.hid HMr.out
        have hb9 := HBv.out rfl HMr.out.rf.ok
        subst hb9
        clear HMr HRow HUn
        go_wp2_with (go_at_call 51; refine (HC4.out _ HM.out.rf).mono ?_; rintro e w8 ⟨v8, rfl, hrow, hr, hf⟩; obtain ⟨ao8, c8, rfl⟩ := hrow.slice; refine Hid.out ?_)
        clear hc3 hz3 hc2 hz2 cq
        have HMc := Lib.hid (HM.out.call hr hf)
        obtain ⟨hc3, hz3, hc2, hz2, cq⟩ := HMc.out.cells
        have HW8 := Lib.hid ((hrow.mono HM.out.sz).set (by omega : w.heap.size + 1 < w.heap.size + 2) 3 (.slice ao8 a.length c8))
        have HMs := Lib.hid (HMc.out.set 3 (.slice ao8 a.length c8) #[.int .i64 x0, .int .i64 n0, vv, .slice ao8 a.length c8] rfl)
        clear hr hf HM HMc HC4 hrow
        have HM := Lib.hid HMs.out
        clear HMs
        refine Lib.hid ?_
        go_wp2_with fail
        refine bodyPost_ret (R := RreplyP _ D B ao l0 c w) (v := .agg #[.int .i64 0, .int .i64 0, .slice none 0 0, .slice none 0 0]) (by simp [results, Tryd.results54, go_sem, hc2]) rfl ?_
        rw [← HO.out]
        exact ⟨_, _, rfl, RowF.nil _ _, RowV.nil _ _, ((((HM.out.rf.setNew hlt 0 _).setNew hlt 1 _).setNew hlt 2 _).setNew hlt 3 _), ((((HM.out.fr.setNew (Nat.le_refl _) 0 _).setNew (Nat.le_refl _) 1 _).setNew (Nat.le_refl _) 2 _).setNew (Nat.le_refl _) 3 _)⟩
    | false =>
      cases m with
      | zero =>
        obtain ⟨rfl, rfl⟩ := Prod.mk.inj (HRO.out.symm.trans (under_end HUn.out rfl))
        have HM := Lib.hid HMr.out
        obtain ⟨aof, cf, rfl⟩ := HRow.out.slice
        have HW7 := Lib.hid HRow.out
        clear HMr HRow HUn
        go_wp2_with (go_at_call 51; refine (HC4.out _ HM.out.rf).mono ?_; rintro e w8 ⟨v8, rfl, hrow, hr, hf⟩; obtain ⟨ao8, c8, rfl⟩ := hrow.slice; refine Hid.out ?_)
        clear hc3 hz3 hc2 hz2 cq
        have HMc := Lib.hid (HM.out.call hr hf)
        obtain ⟨hc3, hz3, hc2, hz2, cq⟩ := HMc.out.cells
        have HWn := Lib.hid ((HW7.out.fr hf (by omega)).set (by omega : w.heap.size + 1 < w.heap.size + 2) 3 (.slice ao8 a.length c8))
        clear HW7
        have HW7 := Lib.hid HWn.out
        clear HWn
        have HW8 := Lib.hid ((hrow.mono HM.out.sz).set (by omega : w.heap.size + 1 < w.heap.size + 2) 3 (.slice ao8 a.length c8))
        have HMs := Lib.hid (HMc.out.set 3 (.slice ao8 a.length c8) #[.int .i64 x0, .int .i64 n0, .slice aof fo.length cf, .slice ao8 a.length c8] rfl)
        clear hr hf HM HMc HC4 hrow
        have HM := Lib.hid HMs.out
        clear HMs
        refine Lib.hid ?_
        cases b9 with
        | true =>
          go_wp2_with fail
          refine bodyPost_ret (R := RreplyP _ D B ao l0 c w) (v := .agg #[.int .i64 0, .int .i64 0, .slice none 0 0, .slice none 0 0]) (by simp [results, Tryd.results54, go_sem, hc2]) rfl ?_
          rw [← HO.out]
          exact ⟨_, _, rfl, RowF.nil _ _, RowV.nil _ _, ((((HM.out.rf.setNew hlt 0 _).setNew hlt 1 _).setNew hlt 2 _).setNew hlt 3 _), ((((HM.out.fr.setNew (Nat.le_refl _) 0 _).setNew (Nat.le_refl _) 1 _).setNew (Nat.le_refl _) 2 _).setNew (Nat.le_refl _) 3 _)⟩
        | false =>
          go_wp2_with fail
          refine bodyPost_ret (R := RreplyP _ D B ao l0 c w) (v := .agg #[.int .i64 x0, .int .i64 n0, .slice aof fo.length cf, .slice ao8 a.length c8]) (by simp [results, Tryd.results54, go_sem, hc2]) rfl ?_
          rw [← HO.out]
          exact ⟨_, _, rfl, (((((HW7.out.set (by omega : w.heap.size < w.heap.size + 2) 0 _).set (by omega : w.heap.size < w.heap.size + 2) 1 _).set (by omega : w.heap.size < w.heap.size + 2) 2 _).set (by omega : w.heap.size < w.heap.size + 2) 3 _).mono (by omega)), (((((HW8.out.set (by omega : w.heap.size < w.heap.size + 2) 0 _).set (by omega : w.heap.size < w.heap.size + 2) 1 _).set (by omega : w.heap.size < w.heap.size + 2) 2 _).set (by omega : w.heap.size < w.heap.size + 2) 3 _).mono (by omega)), ((((HM.out.rf.setNew hlt 0 _).setNew hlt 1 _).setNew hlt 2 _).setNew hlt 3 _), ((((HM.out.fr.setNew (Nat.le_refl _) 0 _).setNew (Nat.le_refl _) 1 _).setNew (Nat.le_refl _) 2 _).setNew (Nat.le_refl _) 3 _)⟩
      | succ m =>
        have HUs := Lib.hid (under_step HUn.out rfl)
        have hmb : (m : Int) ≤ 65536 := by have := HMm.out; omega
        have HV := Lib.hid (rfact_any D B ao l0 c (lj, false) wr HMr.out.rf)
        generalize factR (lj, false) = r at HV HUs
        obtain ⟨x, s1'⟩ := r
        simp only at HV HUs
        have hpos : (0 : Int) < ((m + 1 : Nat) : Int) := by omega
        have hposd : decide ((0 : Int) < ((m + 1 : Nat) : Int)) = true := by simp
        go_wp2_with (go_at_call 52; refine (HV.out).mono ?_; rintro e w1 ⟨va, rfl, hva, hr, hf⟩; obtain ⟨aoa, ca, rfl⟩ := hva.slice; refine Hid.out ?_)
        have HVA := Lib.hid (hva.mono HMr.out.sz)
        obtain ⟨ps, hps, hown, hall⟩ := HRow.out.fr hf (by omega)
        have HPS := Lib.hid hps
        have HALL := Lib.hid hall
        clear hva hps hall
        have HM1 := Lib.hid (HMr.out.call hr hf)
        clear hc3 hz3 hc2 hz2 cq hr hf HV hpos hposd
        obtain ⟨hc3, hz3, hc2, hz2, cq⟩ := HM1.out.cells
        have hs1 : w.heap.size + 2 ≤ w1.heap.size := HM1.out.sz
        have hs2 : w.heap.size + 1 < w1.heap.size := by omega
        refine Lib.hid ?_
        unfold aggF
        go_wp2_with (at_builtin; refine wpList_append_own _ rfl _ _ 61 rfl (w.heap.size + 2) 52 i0 (.agg #[.int .i64 0, .int .i64 0, .slice none 0 0]) 3 40 Tryd.underlying61 hi hz0 hz1 hz2' rfl (by decide) _ _ _ rfl ((hown.alloc _).alloc _) ⟨w1.heap.size + 1, 0, none⟩ 1 1 (cellsF [(x, .slice aoa x.2.2.length ca)]) rfl rfl (fun t u hu => by rw [Addr.add_lit, Nat.zero_add]; exact cells_made' _ _ _ _ _ rfl t u (by simpa [cellsF] using hu)) (fun u hu => by simp [cellsF] at hu; rcases hu with rfl | rfl | rfl <;> rfl) (by have := HMm.out; unfold maxLen; omega) (by have := HMm.out; omega) (by simp; omega) ?_; intro v' w3 hown' hgrow' hnil'; obtain ⟨aon, cn, rfl⟩ := owns_slice hown'; refine Hid.out ?_)
        have HOwn := Lib.hid hown'
        have HG := Lib.hid hgrow'
        have hgk : ∀ k, (vv.ownBlock = some k → w.heap.size + 2 ≤ k) := fun k hk => ((hown.lt) k hk).1
        have HM3 := Lib.hid ((HM1.out.alloc _).alloc _ |>.keep hgrow' hgk)
        have HK3 := Lib.hid (owns_tag ((hown.alloc (.cells #[.int .i64 x.1, .int .i64 x.2.1, .slice aoa x.2.2.length ca] 52)).alloc (.cells #[.int .i64 x.1, .int .i64 x.2.1, .slice aoa x.2.2.length ca] 52)))
        clear hown' hgrow' hnil' hown hc3 hz3 hc2 hz2 cq HM1
        obtain ⟨hc3, hz3, hc2, hz2, cq⟩ := HM3.out.cells
        refine Lib.hid ?_
        go_wp2_with fail
        have HM4 := Lib.hid (HM3.out.set 2 (.slice aon (acc.length + 1) cn) #[.int .i64 x0, .int .i64 n0, .slice aon (acc.length + 1) cn, .slice none 0 0] rfl)
        have R' : RowF w3 (w.heap.size + 2) (.slice aon (acc.length + 1) cn) (acc ++ [x]) := by
          have h := HOwn.out
          rw [← cellsF_append] at h
          refine ⟨ps ++ [(x, .slice aoa x.2.2.length ca)], by rw [List.map_append, HPS.out]; rfl, ?_, ?_⟩
          · rw [List.length_append]
            exact h
          · intro p hp
            rcases List.mem_append.1 hp with hp | hp
            · exact (((HALL.out p hp).below (below_own _)).below (below_own _)).far HG.out HK3.out
            · obtain rfl := List.mem_singleton.1 hp
              exact ((HVA.out.below (below_own _)).below (below_own _)).far HG.out HK3.out
        have R2 := R'.set (by omega : w.heap.size + 1 < w.heap.size + 2) 2 (.slice aon (acc.length + 1) cn)
        clear hc3 hz3 hc2 hz2 cq HMr HRow
        go_roundw
        case rel => exact ⟨_, m, acc ++ [x], s1', by have := HMm.out; rw [List.length_append]; simp only [List.length_cons, List.length_nil]; omega, by go_num, HUs.out, R2, HM4.out⟩
        case measure => simp [intOf]
end Go.Proofs.YtmocfielcllfmaaDoor
