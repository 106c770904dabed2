/- Drop, Get. -/
import Derived.Test.YtajhngkdnkbfcaaFind11
namespace Go.Proofs.Ytajhngkdnkbfcaa
open Go.RowKit

theorem Mm.pfar {w W : World} {mb rb : Nat} {ao : Option Addr} {c : Nat} {l : List F11} {nx : Int} (h : Mm w mb rb ao c l nx) (W0 : World) (b : Below w.heap.size w W0) (t : Touch (RowS rb ao) W0 W) : Mp W mb rb := Mp.far (h.old b) t
set_option maxRecDepth 100000 in
set_option maxHeartbeats 2000000 in
theorem drop_any (t : Int) (mb rb : Nat) (ao : Option Addr) (c : Nat) (l : List F11) (nx : Int) (w : World) (hM : Mm w mb rb ao c l nx) :
    Calls Try.prog 11 #[.pointer (some ⟨mb, 0, none⟩), .int .i64 t] w (BecomesP mb rb ao (dropM l nx t) w) := by
  have HMade := Lib.hid (made_any mb rb w hM.ptr)
  have HPl := Lib.hid (place_any t rb ao c l nx w hM.row hM.rise)
  unfold PlaceP at HPl
  have x := Mp.get hM.ptr
  have HPtr := Lib.hid (fun W (b : Below w.heap.size w W) => Mp.get (hM.ptr.old b))
  have HTk := Lib.hid (fun W (b : Below w.heap.size w W) k (hk : k < l.length) => take_any k rb ao c l nx W (hM.row.old b) hk)
  have HM := Lib.hid hM
  have hmany : Hid (l.length ≤ 256) := hM.row.many
  clear hM
  unfold BecomesP
  go_enter Try.func11, Try.ntmps11
  go_upto_region 4 with (first
    | (go_at_call 24; refine (HMade.out).mono ?_; rintro e w2 ⟨rfl, rfl⟩)
    | (go_at_call 29; refine (HPl.out).mono ?_; rintro e w3 ⟨k, hst, rfl, hb⟩; have HSt := Lib.hid hst; have HB := Lib.hid hb; clear hb hst))
  have hx3 := HPtr.out w3 HB.out
  have hhas := has_of HM.out.rise HSt.out
  clear HPl HMade x
  cases hq : hasB l t k with
  | false =>
    have HD : Hid (dropM l nx t = ⟨.int .i64 6, l, nx⟩) := by
      show _ = _
      unfold dropM
      rw [if_neg (by rw [hhas, hq]; decide)]
    clear hhas hq
    go_wp2_with fail
    go_ret
    rw [HD.out]
    exact ⟨rfl, ao, c, HM.out.old HB.out, (Touch.refl _ w).step HB.out, NewB.refl _ _⟩
  | true =>
    have HD : Hid (dropM l nx t = ⟨.int .i64 0, l.take k ++ l.drop (k + 1), nx⟩) := by
      show _ = _
      unfold dropM
      rw [if_pos (by rw [hhas, hq]), less_of HM.out.rise HSt.out hq]
    have HLe : Hid (l.take k ++ l.drop (k + 1) = lessId l t) := less_of HM.out.rise HSt.out hq
    have hkl : k < l.length := by
      unfold hasB at hq
      exact (of_decide_eq_true hq).1
    have HT := Lib.hid (HTk.out w3 HB.out k hkl)
    unfold TakeP at HT
    clear hhas hq HTk hkl
    go_wp2_with (go_at_call 31; refine (HT.out).mono ?_; rintro e w4 ⟨rfl, c', hr, ht⟩; have HR := Lib.hid hr; have HTo := Lib.hid ht; clear hr ht)
    go_ret
    rw [HD.out]
    refine ⟨rfl, ao, c', ?_, ((Touch.refl _ w).step HB.out).trans HTo.out, NewB.refl _ _⟩
    have hr := HR.out
    show Mm _ _ _ _ _ (l.take k ++ l.drop (k + 1)) nx
    rw [HLe.out] at hr ⊢
    exact HM.out.less t (HM.out.pfar w3 HB.out HTo.out) hr
def getF (l : List F11) (t : Int) : Option F11 := l.find? fun f => decide (f.id = t)
theorem get_yes {l : List F11} {t : Int} {k : Nat} (hs : Stands l t k) (h : hasB l t k = true) : getF l t = some (l.getD k default) ∧ k < l.length := by
  unfold hasB at h
  obtain ⟨h1, h2⟩ := of_decide_eq_true h
  exact ⟨find_first h1 (fun j hj => decide_eq_false (by have := hs.lo j hj; omega)) (decide_eq_true h2), h1⟩
theorem get_no {l : List F11} {t : Int} {k : Nat} (hr : Rise l) (hs : Stands l t k) (h : hasB l t k = false) : getF l t = none := by
  refine find_none fun j hj => decide_eq_false fun e => ?_
  have h1 := has_of hr hs
  rw [h] at h1
  unfold hasId at h1
  rw [List.any_eq_false] at h1
  exact h1 _ (getD_mem11 hj) (decide_eq_true e)
/-- A fact, as it is told. -/
def FactP (base : Nat) (f : F11) (v : Value) (w : World) : Prop := ∃ ao c, v = .agg #[.int .i64 f.id, .int .i64 f.kind, .slice ao f.args.length c] ∧ w.ownsRow base 33 3 (.slice ao f.args.length c) f.args.length (cellsV f.args)
def GetP (l : List F11) (t : Int) (w : World) (e : Ending) (w' : World) : Prop := Below w.heap.size w w' ∧ ((getF l t = none ∧ e = .returned (.tuple #[.agg #[.int .i64 0, .int .i64 0, .slice none 0 0], .bool false])) ∨ ∃ f v, getF l t = some f ∧ e = .returned (.tuple #[v, .bool true]) ∧ FactP w.heap.size f v w')
theorem get_bad (p : Option Addr) (t : Int) (w : World) (HMade : Calls Try.prog 24 #[.pointer p] (w.alloc (.cells #[.int .i64 0, .int .i64 0, .slice none 0 0] 37)) fun e w' => e = .returned (.bool false) ∧ w.alloc (.cells #[.int .i64 0, .int .i64 0, .slice none 0 0] 37) = w') :
    Calls Try.prog 9 #[.pointer p, .int .i64 t] w (SaysP11 (.tuple #[.agg #[.int .i64 0, .int .i64 0, .slice none 0 0], .bool false]) w) := by
  have HM := Lib.hid HMade
  clear HMade
  unfold SaysP11
  go_enter Try.func9, Try.ntmps9
  go_wp2_with (go_at_call 24; refine (HM.out).mono ?_; rintro e w2 ⟨rfl, rfl⟩)
  exact bodyPost_ret (v := .tuple #[.agg #[.int .i64 0, .int .i64 0, .slice none 0 0], .bool false]) (by simp [results, Try.results9, go_sem]) rfl ⟨rfl, below_own _⟩
set_option maxRecDepth 100000 in
set_option maxHeartbeats 2000000 in
theorem get_any (t : Int) (mb rb : Nat) (ao : Option Addr) (c : Nat) (l : List F11) (nx : Int) (w : World) (hM : Mm w mb rb ao c l nx) :
    Calls Try.prog 9 #[.pointer (some ⟨mb, 0, none⟩), .int .i64 t] w (GetP l t w) := by
  obtain ⟨w1, hw1⟩ : ∃ w1, w1 = w.alloc (.cells ([.int .i64 0, .int .i64 0, .slice none 0 0] : List Value).toArray 37) := ⟨_, rfl⟩
  have hb1 : Below w.heap.size w w1 := by rw [hw1]; exact below_own _
  have hM1 := hM.old hb1
  have HMade := Lib.hid (made_any mb rb w1 hM1.ptr)
  have HPl := Lib.hid (place_any t rb ao c l nx w1 hM1.row hM1.rise)
  unfold PlaceP at HPl
  have x := Mp.get hM1.ptr
  have HM := Lib.hid hM1
  have HBx : Hid (Box w1 w.heap.size 37 [.int .i64 0, .int .i64 0, .slice none 0 0]) := by rw [hw1]; exact Box.new _ _ _
  have HB1 := Lib.hid hb1
  clear hM hM1 hb1
  unfold GetP
  go_enter Try.func9, Try.ntmps9
  go_upto_region 1 with fail
  have hw2 : w.alloc (.cells #[.int .i64 0, .int .i64 0, .slice none 0 0] 37) = w1 := hw1.symm
  rw [hw2]
  clear hw1 hw2
  go_upto_region 4 with (first
    | (go_at_call 24; refine (HMade.out).mono ?_; rintro e w2 ⟨rfl, rfl⟩)
    | (go_at_call 29; refine (HPl.out).mono ?_; rintro e w3 ⟨k, hst, rfl, hb⟩; have HSt := Lib.hid hst; have HB := Lib.hid hb; clear hb hst))
  have HB3 := Lib.hid (HBx.out.old HB.out)
  have hbl3 := HB1.out.trans (HB.out.mono HB1.out.size)
  have HBl3 := Lib.hid hbl3
  clear HPl HMade x hbl3
  cases hq : hasB l t k with
  | false =>
    have HG := Lib.hid (get_no HM.out.rise HSt.out hq)
    have e0 := HB3.out.cell 0
    have e1 := HB3.out.cell 1
    have e2 := HB3.out.cell 2
    have hfz := fun j => HB3.out.frozen j
    simp only [List.getElem?_cons_zero, List.getElem?_cons_succ] at e0 e1 e2
    have hb4 := ((HB3.out.set 0 (.int .i64 0)).set 1 (.int .i64 0)).set 2 (.slice none 0 0)
    have hbl4 := ((HBl3.out.setCell (p := ⟨w.heap.size, 0, none⟩) (Nat.le_refl _) (.int .i64 0)).setCell (p := ⟨w.heap.size, 1, none⟩) (Nat.le_refl _) (.int .i64 0)).setCell (p := ⟨w.heap.size, 2, none⟩) (Nat.le_refl _) (.slice none 0 0)
    have HB4 := Lib.hid hb4
    have HBl4 := Lib.hid hbl4
    clear hb4 hbl4 hq
    go_wp2_with fail
    exact box_end2 (g := w.heap.size) (L := [.int .i64 0, .int .i64 0, .slice none 0 0]) rfl rfl rfl rfl HB4.out Try.underlying37 rfl infoFact3 ⟨HBl4.out, Or.inl ⟨HG.out, rfl⟩⟩
  | true =>
    obtain ⟨hg, hkl⟩ := get_yes HSt.out hq
    have HG := Lib.hid hg
    have hM3 := HM.out.old HB.out
    obtain ⟨fb, rfl, lfb, hrng⟩ := hM3.row.at hkl
    have hxp := Mp.get hM3.ptr
    obtain ⟨x0, -⟩ := hM3.row.next
    have HRg := Lib.hid hrng
    have HLen := Lib.hid (factL_length _ (getD_few hM3.row.few hkl))
    have HTell := Lib.hid (tell_any (l.getD k default) (getD_few hM3.row.few hkl) (fun v hv => Nat.le_trans (hM3.txt _ (getD_mem11 hkl) v hv) (by decide)) w3)
    unfold TellP at HTell
    have hkn : (k : Int) < (l.length : Int) := by omega
    have hm9 : l.length ≤ 9223372036854775807 := by have := hM3.row.many; omega
    clear hM3 hrng hg hq
    obtain ⟨f, hf⟩ : ∃ f, f = l.getD k default := ⟨_, rfl⟩
    rw [← hf] at HTell HLen HRg HG
    clear hf
    obtain ⟨FL, hFL⟩ : ∃ FL, FL = factL f := ⟨_, rfl⟩
    rw [← hFL] at HTell HLen HRg
    clear hFL
    obtain ⟨ln, hln⟩ : ∃ ln, ln = l.length := ⟨_, rfl⟩
    rw [← hln] at x0 hkn hm9 hkl
    clear hln
    go_wp2_with (first
      | (refine wpList_load_mid rfl 71 (.tmp 32) rfl fb (k * 21) rfl FL _ HRg.out Try.underlying71 rfl (fact_infoL HLen.out) ?_)
      | (go_at_call 30; refine (HTell.out).mono ?_; rintro e w4 ⟨ao', c', rfl, ho, hb⟩; have HO := Lib.hid ho; have HB5 := Lib.hid hb; have hbx := HB3.out.old hb; have HB4 := Lib.hid hbx; have e0 := hbx.cell 0; have e1 := hbx.cell 1; have e2 := hbx.cell 2; (simp only [List.getElem?_cons_zero, List.getElem?_cons_succ] at e0 e1 e2); have hfz := (fun j => HB4.out.frozen j); clear ho hb hbx))
    have hg1 := Lib.grownBy_setCell w4 w.heap.size 0 (.int .i64 f.id)
    have hg2 := grown_set2 (i := 1) (v := .int .i64 f.kind) hg1
    have hg3 := grown_set2 (i := 2) (v := .slice ao' f.args.length c') hg2
    have hbl5 := HBl3.out.trans (HB5.out.mono HBl3.out.size)
    refine box_end2 (g := w.heap.size) (L := [.int .i64 f.id, .int .i64 f.kind, .slice ao' f.args.length c']) rfl rfl rfl rfl (((HB4.out.set 0 _).set 1 _).set 2 _) Try.underlying37 rfl infoFact3 ⟨hbl5.grown hg3 hbl5.size (fun j hj => by cases hj; exact Nat.le_refl _), Or.inr ⟨f, _, HG.out, rfl, ao', c', rfl, ?_⟩⟩
    exact owns_far (e' := 37) (owns_mono HO.out HBl3.out.size) (by decide) hg3 (fun j hj => by obtain rfl := Option.some.inj hj; exact ⟨_, _, HB4.out⟩)
end Go.Proofs.Ytajhngkdnkbfcaa
