/- The document's reader: entries. -/
import Derived.Test.YtmocfielcllfmaaDoorRefR
namespace Go.Proofs.YtmocfielcllfmaaDoor
open Go.RowKit

def entryR0 (s : St) : E6 × St :=
  let t := numS s
  let k := wordS 1 t.2
  let n := numS k.2
  let q := numS n.2
  let c := commandR q.2
  let v := manyS numS c.2
  ((t.1, (k.1 : Int), n.1, q.1, c.1, v.1), v.2)
def entryR (s : St) : E6 × St := wholeS entryR0 (0, 0, 0, 0, (0, ⟨#[]⟩, [], 0), []) s
def RentryP (r : E6 × St) (D B : Nat) (ao : Option Addr) (l0 : List UInt8) (c : Nat) (w : World) (e : Ending) (w' : World) : Prop :=
  ∃ va vi, e = .returned (aggE r.1 va vi) ∧ RowV w' w.heap.size va r.1.2.2.2.2.1.2.2.1 ∧ RowI w' w.heap.size vi r.1.2.2.2.2.2 ∧ RfS w' D B ao l0 c r.2 ∧ Fr D w w'

set_option maxRecDepth 100000 in
set_option maxHeartbeats 4000000 in
theorem rentry_any (D B : Nat) (ao : Option Addr) (l0 : List UInt8) (c : Nat) (s : St) (w : World) (h : RfS w D B ao l0 c s) :
    Calls Tryd.prog 55 #[.pointer (some ⟨D, 0, none⟩)] w (RentryP (entryR s) D B ao l0 c w) := by
  obtain ⟨i0, hi, hz0, hz1, hz2'⟩ := info_parts infoI
  have HM := Lib.hid (Mid.start h 68 #[.int .i64 0, .int .u8 0, .int .i64 0, .int .i64 0, .int .u8 0, .string ⟨#[]⟩, .slice none 0 0, .int .i64 0, .slice none 0 0])
  have hlt : D < w.heap.size := h.lt
  have q1 : w.heap.size ≠ D := by omega
  have q2 : w.heap.size + 1 ≠ D := by omega
  have q3 : D ≠ w.heap.size := by omega
  have q4 : D ≠ w.heap.size + 1 := by omega
  have HOK := Lib.hid h.ok
  clear h
  unfold entryR wholeS entryR0
  have HC1 := Lib.hid (fun W h => rnumber_any D B ao l0 c s W h)
  generalize numS s = r1 at HC1 ⊢
  obtain ⟨x0, s1⟩ := r1
  simp only at HC1 ⊢
  have HC2 := Lib.hid (fun W h => rsaid1 D B ao l0 c s1 W h)
  have hk2 := wordS_lt 1 s1
  generalize wordS 1 s1 = r2 at HC2 hk2 ⊢
  obtain ⟨k0, s2⟩ := r2
  simp only at HC2 hk2 ⊢
  have hv2 : IntKind.u8.wrap (k0 : Int) = (k0 : Int) := wrap_u8 k0 hk2
  have hm2 : (k0 : Int) % 256 = (k0 : Int) := by omega
  clear hk2
  have HC3 := Lib.hid (fun W h => rnumber_any D B ao l0 c s2 W h)
  generalize numS s2 = r3 at HC3 ⊢
  obtain ⟨n0, s3⟩ := r3
  simp only at HC3 ⊢
  have HC4 := Lib.hid (fun W h => rnumber_any D B ao l0 c s3 W h)
  generalize numS s3 = r4 at HC4 ⊢
  obtain ⟨q0, s4⟩ := r4
  simp only at HC4 ⊢
  have HC5 := Lib.hid (fun W h => rcommand_any D B ao l0 c s4 W h)
  generalize commandR s4 = r5 at HC5 ⊢
  obtain ⟨m0, s5⟩ := r5
  simp only at HC5 ⊢
  have HC6 := Lib.hid (fun W h => rcount_any D B ao l0 c s5 W h)
  have HU := Lib.hid (fun (h : OkS s5) => under_start (f := numS) h)
  have hle := countS_le s5
  unfold manyS
  generalize countS s5 = r6 at HC6 HU hle ⊢
  obtain ⟨n9, s9⟩ := r6
  simp only at HC6 HU hle ⊢
  generalize hro : rowS numS n9 [] s9 = ro
  obtain ⟨fo, so⟩ := ro
  have HRO := Lib.hid hro
  clear hro
  simp only
  generalize hO : (if so.2 = true then (((0, 0, 0, 0, (0, ⟨#[]⟩, [], 0), []), so) : E6 × St) else ((x0, (k0 : Int), n0, q0, m0, fo), so)) = out
  have HO := Lib.hid hO
  clear hO
  go_enter Tryd.func55, Tryd.ntmps55
  go_wp2_with (go_at_call 48; refine (HC1.out _ HM.out.rf).mono ?_; rintro e w1 ⟨rfl, hr, hf⟩; refine Hid.out ?_)
  have HMc := Lib.hid (HM.out.call hr hf)
  obtain ⟨hc3, hz3, hc2, hz2, cq⟩ := HMc.out.cells
  have HMs := Lib.hid (HMc.out.set 0 (.int .i64 x0) #[.int .i64 x0, .int .u8 0, .int .i64 0, .int .i64 0, .int .u8 0, .string ⟨#[]⟩, .slice none 0 0, .int .i64 0, .slice none 0 0] rfl)
  clear hr hf HM HMc HC1
  have HM := Lib.hid HMs.out
  clear HMs
  refine Lib.hid ?_
  go_wp2_with (go_at_call 95; refine (HC2.out _ HM.out.rf).mono ?_; rintro e w2 ⟨rfl, hr, hf⟩; refine Hid.out ?_)
  clear hc3 hz3 hc2 hz2 cq
  have HMc := Lib.hid (HM.out.call hr hf)
  obtain ⟨hc3, hz3, hc2, hz2, cq⟩ := HMc.out.cells
  have HMs := Lib.hid (HMc.out.set 1 (.int .u8 (k0 : Int)) #[.int .i64 x0, .int .u8 (k0 : Int), .int .i64 0, .int .i64 0, .int .u8 0, .string ⟨#[]⟩, .slice none 0 0, .int .i64 0, .slice none 0 0] rfl)
  clear hr hf HM HMc HC2
  have HM := Lib.hid HMs.out
  clear HMs
  refine Lib.hid ?_
  go_wp2_with (go_at_call 48; refine (HC3.out _ HM.out.rf).mono ?_; rintro e w3 ⟨rfl, hr, hf⟩; refine Hid.out ?_)
  clear hc3 hz3 hc2 hz2 cq
  have HMc := Lib.hid (HM.out.call hr hf)
  obtain ⟨hc3, hz3, hc2, hz2, cq⟩ := HMc.out.cells
  have HMs := Lib.hid (HMc.out.set 2 (.int .i64 n0) #[.int .i64 x0, .int .u8 (k0 : Int), .int .i64 n0, .int .i64 0, .int .u8 0, .string ⟨#[]⟩, .slice none 0 0, .int .i64 0, .slice none 0 0] rfl)
  clear hr hf HM HMc HC3
  have HM := Lib.hid HMs.out
  clear HMs
  refine Lib.hid ?_
  go_wp2_with (go_at_call 48; refine (HC4.out _ HM.out.rf).mono ?_; rintro e w4 ⟨rfl, hr, hf⟩; refine Hid.out ?_)
  clear hc3 hz3 hc2 hz2 cq
  have HMc := Lib.hid (HM.out.call hr hf)
  obtain ⟨hc3, hz3, hc2, hz2, cq⟩ := HMc.out.cells
  have HMs := Lib.hid (HMc.out.set 3 (.int .i64 q0) #[.int .i64 x0, .int .u8 (k0 : Int), .int .i64 n0, .int .i64 q0, .int .u8 0, .string ⟨#[]⟩, .slice none 0 0, .int .i64 0, .slice none 0 0] rfl)
  clear hr hf HM HMc HC4
  have HM := Lib.hid HMs.out
  clear HMs
  refine Lib.hid ?_
  go_wp2_with (go_at_call 53; refine (HC5.out _ HM.out.rf).mono ?_; rintro e w5 ⟨v5, rfl, hrow, hr, hf⟩; obtain ⟨ao5, c5, rfl⟩ := hrow.slice; unfold aggC; refine Hid.out ?_)
  clear hc3 hz3 hc2 hz2 cq
  have HMc := Lib.hid (HM.out.call hr hf)
  obtain ⟨hc3, hz3, hc2, hz2, cq⟩ := HMc.out.cells
  have HW5 := Lib.hid (((((hrow.mono HM.out.sz).set (by omega : w.heap.size + 1 < w.heap.size + 2) 4 (.int .u8 m0.1)).set (by omega : w.heap.size + 1 < w.heap.size + 2) 5 (.string m0.2.1)).set (by omega : w.heap.size + 1 < w.heap.size + 2) 6 (.slice ao5 m0.2.2.1.length c5)).set (by omega : w.heap.size + 1 < w.heap.size + 2) 7 (.int .i64 m0.2.2.2))
  have HMs := Lib.hid ((((HMc.out.set 4 (.int .u8 m0.1) #[.int .i64 x0, .int .u8 (k0 : Int), .int .i64 n0, .int .i64 q0, .int .u8 m0.1, .string ⟨#[]⟩, .slice none 0 0, .int .i64 0, .slice none 0 0] rfl).set 5 (.string m0.2.1) #[.int .i64 x0, .int .u8 (k0 : Int), .int .i64 n0, .int .i64 q0, .int .u8 m0.1, .string m0.2.1, .slice none 0 0, .int .i64 0, .slice none 0 0] rfl).set 6 (.slice ao5 m0.2.2.1.length c5) #[.int .i64 x0, .int .u8 (k0 : Int), .int .i64 n0, .int .i64 q0, .int .u8 m0.1, .string m0.2.1, .slice ao5 m0.2.2.1.length c5, .int .i64 0, .slice none 0 0] rfl).set 7 (.int .i64 m0.2.2.2) #[.int .i64 x0, .int .u8 (k0 : Int), .int .i64 n0, .int .i64 q0, .int .u8 m0.1, .string m0.2.1, .slice ao5 m0.2.2.1.length c5, .int .i64 m0.2.2.2, .slice none 0 0] rfl)
  clear hr hf HM HMc HC5 hrow
  have HM := Lib.hid HMs.out
  clear HMs
  refine Lib.hid ?_
  have HOKc := Lib.hid HM.out.rf.ok
  go_wp2_with (go_at_call 96; refine (HC6.out _ HM.out.rf).mono ?_; rintro e w6 ⟨rfl, hr, hf⟩; refine Hid.out ?_)
  clear hc3 hz3 hc2 hz2 cq
  have HMc := Lib.hid (HM.out.call hr hf)
  obtain ⟨hc3, hz3, hc2, hz2, cq⟩ := HMc.out.cells
  have HWn := Lib.hid (HW5.out.fr hf (by omega))
  clear HW5
  have HW5 := Lib.hid HWn.out
  clear HWn
  have HMs := Lib.hid HMc.out
  clear hr hf HM HMc HC6
  have HM := Lib.hid HMs.out
  clear HMs
  refine Lib.hid ?_
  go_wp2_with fail
  have HU1 := Lib.hid (HU.out HOKc.out)
  clear HU HOKc hc3 hz3 hc2 hz2 cq
  go_loopw [4, 5] (fun i x wr => ∃ (vv : Value) (m : Nat) (acc : List Int) (sj : St), acc.length + m ≤ n9 ∧ i = .int .i64 m ∧ Under numS n9 s9 m acc sj ∧ RowI wr (w.heap.size + 2) vv acc ∧ Mid w wr 68 #[.int .i64 0, .int .u8 0, .int .i64 0, .int .i64 0, .int .u8 0, .string ⟨#[]⟩, .slice none 0 0, .int .i64 0, .slice none 0 0] #[.int .i64 x0, .int .u8 (k0 : Int), .int .i64 n0, .int .i64 q0, .int .u8 m0.1, .string m0.2.1, .slice ao5 m0.2.2.1.length c5, .int .i64 m0.2.2.2, vv] D B ao l0 c sj ∧ RowV wr (w.heap.size + 2) (.slice ao5 m0.2.2.1.length c5) m0.2.2.1) (fun i _ _ => (intOf i).toNat)
  case atStart => exact ⟨_, n9, [], s9, by simp, rfl, HU1.out, RowI.nil _ _, HM.out, HW5.out⟩
  case round =>
    obtain ⟨vv, m, acc, sj, hm, rfl, hun, hrow, hmid, hw5⟩ := hrel
    have HRow := Lib.hid hrow
    have HMr := Lib.hid hmid
    have HUn := Lib.hid hun
    have HMm := Lib.hid hm
    have HP5 := Lib.hid hw5
    obtain ⟨hc3, hz3, hc2, hz2, cq⟩ := hmid.cells
    clear hrow hmid hun HM HU1 hm hw5 HW5
    obtain ⟨lj, bj⟩ := sj
    cases bj with
    | true =>
      obtain ⟨rfl, rfl⟩ := Prod.mk.inj (HRO.out.symm.trans (under_bad HUn.out rfl))
      cases m with
      | zero =>
        have HM := Lib.hid HMr.out
        clear HMr HRow HUn
        go_wp2_with fail
        refine bodyPost_ret (R := RentryP _ D B ao l0 c w) (v := .agg #[.int .i64 0, .int .u8 0, .int .i64 0, .int .i64 0, .int .u8 0, .string ⟨#[]⟩, .slice none 0 0, .int .i64 0, .slice none 0 0]) (by simp [results, Tryd.results55, go_sem, hc2]) rfl ?_
        rw [← HO.out]
        exact ⟨_, _, rfl, RowV.nil _ _, RowI.nil _ _, (((((((((HM.out.rf.setNew hlt 0 _).setNew hlt 1 _).setNew hlt 2 _).setNew hlt 3 _).setNew hlt 4 _).setNew hlt 5 _).setNew hlt 6 _).setNew hlt 7 _).setNew hlt 8 _), (((((((((HM.out.fr.setNew (Nat.le_refl _) 0 _).setNew (Nat.le_refl _) 1 _).setNew (Nat.le_refl _) 2 _).setNew (Nat.le_refl _) 3 _).setNew (Nat.le_refl _) 4 _).setNew (Nat.le_refl _) 5 _).setNew (Nat.le_refl _) 6 _).setNew (Nat.le_refl _) 7 _).setNew (Nat.le_refl _) 8 _)⟩
      | succ m =>
        have hpos : (0 : Int) < ((m + 1 : Nat) : Int) := by omega
        have hposd : decide ((0 : Int) < ((m + 1 : Nat) : Int)) = true := by simp
        have HM := Lib.hid HMr.out
        clear HMr HRow HUn
        go_wp2_with fail
        refine bodyPost_ret (R := RentryP _ D B ao l0 c w) (v := .agg #[.int .i64 0, .int .u8 0, .int .i64 0, .int .i64 0, .int .u8 0, .string ⟨#[]⟩, .slice none 0 0, .int .i64 0, .slice none 0 0]) (by simp [results, Tryd.results55, go_sem, hc2]) rfl ?_
        rw [← HO.out]
        exact ⟨_, _, rfl, RowV.nil _ _, RowI.nil _ _, (((((((((HM.out.rf.setNew hlt 0 _).setNew hlt 1 _).setNew hlt 2 _).setNew hlt 3 _).setNew hlt 4 _).setNew hlt 5 _).setNew hlt 6 _).setNew hlt 7 _).setNew hlt 8 _), (((((((((HM.out.fr.setNew (Nat.le_refl _) 0 _).setNew (Nat.le_refl _) 1 _).setNew (Nat.le_refl _) 2 _).setNew (Nat.le_refl _) 3 _).setNew (Nat.le_refl _) 4 _).setNew (Nat.le_refl _) 5 _).setNew (Nat.le_refl _) 6 _).setNew (Nat.le_refl _) 7 _).setNew (Nat.le_refl _) 8 _)⟩
    | false =>
      cases m with
      | zero =>
        obtain ⟨rfl, rfl⟩ := Prod.mk.inj (HRO.out.symm.trans (under_end HUn.out rfl))
        have HM := Lib.hid HMr.out
        obtain ⟨aof, cf, rfl⟩ := HRow.out.slice
        have HW7 := Lib.hid HRow.out
        clear HMr HRow HUn
        go_wp2_with fail
        refine bodyPost_ret (R := RentryP _ D B ao l0 c w) (v := .agg #[.int .i64 x0, .int .u8 (k0 : Int), .int .i64 n0, .int .i64 q0, .int .u8 m0.1, .string m0.2.1, .slice ao5 m0.2.2.1.length c5, .int .i64 m0.2.2.2, .slice aof fo.length cf]) (by simp [results, Tryd.results55, go_sem, hc2]) rfl ?_
        rw [← HO.out]
        exact ⟨_, _, rfl, ((((((((((HP5.out.set (by omega : w.heap.size < w.heap.size + 2) 0 _).set (by omega : w.heap.size < w.heap.size + 2) 1 _).set (by omega : w.heap.size < w.heap.size + 2) 2 _).set (by omega : w.heap.size < w.heap.size + 2) 3 _).set (by omega : w.heap.size < w.heap.size + 2) 4 _).set (by omega : w.heap.size < w.heap.size + 2) 5 _).set (by omega : w.heap.size < w.heap.size + 2) 6 _).set (by omega : w.heap.size < w.heap.size + 2) 7 _).set (by omega : w.heap.size < w.heap.size + 2) 8 _).mono (by omega)), ((((((((((HW7.out.set (by omega : w.heap.size < w.heap.size + 2) 0 _).set (by omega : w.heap.size < w.heap.size + 2) 1 _).set (by omega : w.heap.size < w.heap.size + 2) 2 _).set (by omega : w.heap.size < w.heap.size + 2) 3 _).set (by omega : w.heap.size < w.heap.size + 2) 4 _).set (by omega : w.heap.size < w.heap.size + 2) 5 _).set (by omega : w.heap.size < w.heap.size + 2) 6 _).set (by omega : w.heap.size < w.heap.size + 2) 7 _).set (by omega : w.heap.size < w.heap.size + 2) 8 _).mono (by omega)), (((((((((HM.out.rf.setNew hlt 0 _).setNew hlt 1 _).setNew hlt 2 _).setNew hlt 3 _).setNew hlt 4 _).setNew hlt 5 _).setNew hlt 6 _).setNew hlt 7 _).setNew hlt 8 _), (((((((((HM.out.fr.setNew (Nat.le_refl _) 0 _).setNew (Nat.le_refl _) 1 _).setNew (Nat.le_refl _) 2 _).setNew (Nat.le_refl _) 3 _).setNew (Nat.le_refl _) 4 _).setNew (Nat.le_refl _) 5 _).setNew (Nat.le_refl _) 6 _).setNew (Nat.le_refl _) 7 _).setNew (Nat.le_refl _) 8 _)⟩
      | succ m =>
        have HUs := Lib.hid (under_step HUn.out rfl)
        have hmb : (m : Int) ≤ 65536 := by have := HMm.out; omega
        have HV := Lib.hid (rnumber_any D B ao l0 c (lj, false) wr HMr.out.rf)
        generalize numS (lj, false) = r at HV HUs
        obtain ⟨x, s1'⟩ := r
        simp only at HV HUs
        have hpos : (0 : Int) < ((m + 1 : Nat) : Int) := by omega
        have hposd : decide ((0 : Int) < ((m + 1 : Nat) : Int)) = true := by simp
        go_wp2_with (go_at_call 48; refine (HV.out).mono ?_; rintro e w1 ⟨rfl, hr, hf⟩; refine Hid.out ?_)
        have hown : w1.ownsRow (w.heap.size + 2) 3 1 _ _ _ := (HRow.out.fr hf (by omega))
        have HQ5 := Lib.hid (HP5.out.fr hf (by omega))
        have HM1 := Lib.hid (HMr.out.call hr hf)
        clear hc3 hz3 hc2 hz2 cq hr hf HV hpos hposd
        obtain ⟨hc3, hz3, hc2, hz2, cq⟩ := HM1.out.cells
        have hs1 : w.heap.size + 2 ≤ w1.heap.size := HM1.out.sz
        have hs2 : w.heap.size + 1 < w1.heap.size := by omega
        refine Lib.hid ?_
        go_wp2_with (at_builtin; refine wpList_append_own _ rfl _ _ 30 rfl (w.heap.size + 2) 3 i0 (.int .i64 0) 1 8 Tryd.underlying30 hi hz0 hz1 hz2' rfl (by decide) _ _ _ rfl (hown.alloc _) ⟨w1.heap.size, 0, none⟩ 1 1 [.int .i64 x] rfl rfl (fun t u hu => by rw [Addr.add_lit, Nat.zero_add]; exact cells_made _ _ _ t u (by simpa using hu)) (fun u hu => by simp at hu; subst hu; rfl) (by have := HMm.out; unfold maxLen; omega) (by have := HMm.out; omega) (by simp; omega) ?_; intro v' w3 hown' hgrow' hnil'; obtain ⟨aon, cn, rfl⟩ := owns_slice hown'; refine Hid.out ?_)
        have HOwn := Lib.hid hown'
        have HG := Lib.hid hgrow'
        have hgk : ∀ k, (vv.ownBlock = some k → w.heap.size + 2 ≤ k) := fun k hk => ((hown.lt) k hk).1
        have HM3 := Lib.hid ((HM1.out.alloc _) |>.keep hgrow' hgk)
        have HK3 := Lib.hid (owns_tag (hown.alloc (.cells #[.int .i64 x] 3)))
        have HT5 := Lib.hid (owns_far (HQ5.out.below (below_own (.cells #[.int .i64 x] 3))) (by decide) hgrow' HK3.out)
        clear hown' hgrow' hnil' hown hc3 hz3 hc2 hz2 cq HM1
        obtain ⟨hc3, hz3, hc2, hz2, cq⟩ := HM3.out.cells
        refine Lib.hid ?_
        go_wp2_with fail
        have HM4 := Lib.hid (HM3.out.set 8 (.slice aon (acc.length + 1) cn) #[.int .i64 x0, .int .u8 (k0 : Int), .int .i64 n0, .int .i64 q0, .int .u8 m0.1, .string m0.2.1, .slice ao5 m0.2.2.1.length c5, .int .i64 m0.2.2.2, .slice aon (acc.length + 1) cn] rfl)
        have R' : RowI w3 (w.heap.size + 2) (.slice aon (acc.length + 1) cn) (acc ++ [x]) := by
          have h := HOwn.out
          unfold RowI
          rw [cellsI_append, List.length_append]
          exact h
        have R2 := R'.set (by omega : w.heap.size + 1 < w.heap.size + 2) 8 (.slice aon (acc.length + 1) cn)
        clear hc3 hz3 hc2 hz2 cq HMr HRow
        go_roundw
        case rel => exact ⟨_, m, acc ++ [x], s1', by have := HMm.out; rw [List.length_append]; simp only [List.length_cons, List.length_nil]; omega, by go_num, HUs.out, R2, HM4.out, (show RowV w3 (w.heap.size + 2) (.slice ao5 m0.2.2.1.length c5) m0.2.2.1 from HT5.out).set (by omega) 8 _⟩
        case measure => simp [intOf]
end Go.Proofs.YtmocfielcllfmaaDoor
