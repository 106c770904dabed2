/- The outer calls of a reader: numbers, texts, values. -/
import Derived.Test.YtmocfielcllfmaaDoorAgree
namespace Go.Proofs.YtmocfielcllfmaaDoor
open Go.RowKit

theorem fret2 {pb : Nat} {w w1 : World} {cs : Array Value} {t : TypeId} (f : Fr pb (w.alloc (.cells cs t)) w1) (ne : w.heap.size ≠ pb) : (∀ j, w1.cell? ⟨w.heap.size, j, none⟩ = cs[j]?) ∧ (∀ j, w1.frozen? ⟨w.heap.size, j, none⟩ = false) := by
  have hb := (f.block w.heap.size (by simp) (fun e => ne (Option.some.inj e))).trans (heap_alloc_new w _)
  exact ⟨fun j => Lib.cell_of_heap hb j, fun j => Lib.frozen_of_heap hb j⟩

theorem made_yes (R pb B : Nat) (s : St) (w : World) (h : RdS w R pb B s) :
    Calls Tryd.prog 46 #[.pointer (some ⟨R, 0, none⟩)] w fun e w' => e = .returned (.bool true) ∧ w = w' := by
  have c0 := h.ptr
  clear h
  go_enter Tryd.func46, Tryd.ntmps46
  go_wp2
  go_ret
  exact ⟨rfl, rfl⟩

set_option maxRecDepth 100000 in
theorem wholeAtN (R pb B : Nat) (s : St) (w : World) (h : RdS w R pb B s) :
    Calls Tryd.prog 56 #[.pointer (some ⟨R, 0, none⟩), .func (.func 57) #[] #[]] w fun e w' => e = .returned (.int .i64 (wholeS numS 0 s).1) ∧ RdS w' R pb B (wholeS numS 0 s).2 ∧ Fr pb w w' := by
  have HM := Lib.hid (made_yes R pb B s w h)
  have HC := Lib.hid (number_any R pb B s w h)
  clear h
  unfold wholeS
  generalize numS s = r at HC
  obtain ⟨x, l1, b1⟩ := r
  simp only at HC ⊢
  have e0 : ∀ args w, (callFunc 57 args).run Tryd.prog w = .ok (.enter 57 args) w := enters_of Tryd.func57 (by kernel_rfl) rfl
  go_enter Tryd.func56, Tryd.ntmps56
  go_wp2_with (go_at_call 46; refine (HM.out).mono ?_; rintro e w0 ⟨rfl, rfl⟩; refine Hid.out ?_)
  clear HM
  refine Lib.hid ?_
  go_wp2_with (go_at_call 57; refine (HC.out).mono ?_; rintro e w1 ⟨rfl, hr, hf⟩; refine Hid.out ?_)
  have c1 := hr.ptr
  have c2 := hr.flag
  have HR := Lib.hid hr
  have HF := Lib.hid hf
  clear hr hf HC
  refine Lib.hid ?_
  cases b1 with
  | true =>
    go_wp2
    go_ret
    exact ⟨rfl, HR.out, HF.out⟩
  | false =>
    go_wp2
    go_ret
    exact ⟨rfl, HR.out, HF.out⟩

theorem pubAtN (R pb B : Nat) (s : St) (w : World) (h : RdS w R pb B s) (ok : OkS s) :
    Calls Tryd.prog 18 #[.pointer (some ⟨R, 0, none⟩)] w fun e w' => e = .returned (.int .i64 (pubS numP 0 s).1) ∧ RdS w' R pb B (pubS numP 0 s).2 ∧ Fr pb w w' := by
  have HC := Lib.hid (wholeAtN R pb B s w h)
  rw [whole_pub num_agree _ ok] at HC
  clear h ok
  go_enter Tryd.func18, Tryd.ntmps18
  go_wp2_with (go_at_call 56; refine (HC.out).mono ?_; rintro e w1 ⟨rfl, hr, hf⟩)
  go_ret
  exact ⟨rfl, hr, hf⟩

set_option maxRecDepth 100000 in
theorem wholeAtS (R pb B : Nat) (s : St) (w : World) (h : RdS w R pb B s) :
    Calls Tryd.prog 58 #[.pointer (some ⟨R, 0, none⟩), .func (.func 59) #[] #[]] w fun e w' => e = .returned (.string (wholeS textS ⟨#[]⟩ s).1) ∧ RdS w' R pb B (wholeS textS ⟨#[]⟩ s).2 ∧ Fr pb w w' := by
  have HM := Lib.hid (made_yes R pb B s w h)
  have HC := Lib.hid (text_any R pb B s w h)
  clear h
  unfold wholeS
  generalize textS s = r at HC
  obtain ⟨x, l1, b1⟩ := r
  simp only at HC ⊢
  have e0 : ∀ args w, (callFunc 59 args).run Tryd.prog w = .ok (.enter 59 args) w := enters_of Tryd.func59 (by kernel_rfl) rfl
  go_enter Tryd.func58, Tryd.ntmps58
  go_wp2_with (go_at_call 46; refine (HM.out).mono ?_; rintro e w0 ⟨rfl, rfl⟩; refine Hid.out ?_)
  clear HM
  refine Lib.hid ?_
  go_wp2_with (go_at_call 59; refine (HC.out).mono ?_; rintro e w1 ⟨rfl, hr, hf⟩; refine Hid.out ?_)
  have c1 := hr.ptr
  have c2 := hr.flag
  have HR := Lib.hid hr
  have HF := Lib.hid hf
  clear hr hf HC
  refine Lib.hid ?_
  cases b1 with
  | true =>
    go_wp2
    go_ret
    exact ⟨rfl, HR.out, HF.out⟩
  | false =>
    go_wp2
    go_ret
    exact ⟨rfl, HR.out, HF.out⟩

theorem pubAtS (R pb B : Nat) (s : St) (w : World) (h : RdS w R pb B s) (ok : OkS s) :
    Calls Tryd.prog 19 #[.pointer (some ⟨R, 0, none⟩)] w fun e w' => e = .returned (.string (pubS textP ⟨#[]⟩ s).1) ∧ RdS w' R pb B (pubS textP ⟨#[]⟩ s).2 ∧ Fr pb w w' := by
  have HC := Lib.hid (wholeAtS R pb B s w h)
  rw [whole_pub text_agree _ ok] at HC
  clear h ok
  go_enter Tryd.func19, Tryd.ntmps19
  go_wp2_with (go_at_call 58; refine (HC.out).mono ?_; rintro e w1 ⟨rfl, hr, hf⟩)
  go_ret
  exact ⟨rfl, hr, hf⟩

set_option maxRecDepth 100000 in
theorem wholeAtL (R pb B : Nat) (s : St) (w : World) (h : RdS w R pb B s) :
    Calls Tryd.prog 62 #[.pointer (some ⟨R, 0, none⟩), .func (.func 63) #[] #[]] w (Rowed RowV (wholeS valuesS [] s) R pb B w) := by
  have HM := Lib.hid (made_yes R pb B s w h)
  have HC := Lib.hid (values_any R pb B s w h)
  clear h
  unfold wholeS
  generalize valuesS s = r at HC
  obtain ⟨x, l1, b1⟩ := r
  simp only at HC ⊢
  have e0 : ∀ args w, (callFunc 63 args).run Tryd.prog w = .ok (.enter 63 args) w := enters_of Tryd.func63 (by kernel_rfl) rfl
  go_enter Tryd.func62, Tryd.ntmps62
  go_wp2_with (go_at_call 46; refine (HM.out).mono ?_; rintro e w0 ⟨rfl, rfl⟩; refine Hid.out ?_)
  clear HM
  refine Lib.hid ?_
  go_wp2_with (go_at_call 63; refine (HC.out).mono ?_; rintro e w1 ⟨v, rfl, hrow, hr, hf⟩; refine Hid.out ?_)
  have c1 := hr.ptr
  have c2 := hr.flag
  have HR := Lib.hid hr
  have HF := Lib.hid hf
  have HW := Lib.hid hrow
  clear hr hf HC hrow
  refine Lib.hid ?_
  cases b1 with
  | true =>
    go_wp2
    go_ret
    exact ⟨_, rfl, RowV.nil _ _, HR.out, HF.out⟩
  | false =>
    go_wp2
    go_ret
    exact ⟨_, rfl, HW.out, HR.out, HF.out⟩

theorem pubAtL (R pb B : Nat) (s : St) (w : World) (h : RdS w R pb B s) (ok : OkS s) :
    Calls Tryd.prog 21 #[.pointer (some ⟨R, 0, none⟩)] w (Rowed RowV (pubS valuesP [] s) R pb B w) := by
  have HC := Lib.hid (wholeAtL R pb B s w h)
  rw [whole_pub values_agree _ ok] at HC
  clear h ok
  go_enter Tryd.func21, Tryd.ntmps21
  go_wp2_with (go_at_call 62; refine (HC.out).mono ?_; rintro e w1 ⟨v, rfl, hrow, hr, hf⟩)
  go_ret
  exact ⟨v, rfl, hrow, hr, hf⟩
end Go.Proofs.YtmocfielcllfmaaDoor
