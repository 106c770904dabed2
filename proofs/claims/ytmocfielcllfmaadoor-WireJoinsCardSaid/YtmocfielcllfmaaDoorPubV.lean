/- The outer calls of a reader: values. -/
import Derived.Test.YtmocfielcllfmaaDoorPub
namespace Go.Proofs.YtmocfielcllfmaaDoor
open Go.RowKit

def ValueP (r : V3 × St) (R pb B : Nat) (w : World) (e : Ending) (w' : World) : Prop := e = .returned (aggV r.1) ∧ RdS w' R pb B r.2 ∧ Fr pb w w'

set_option maxRecDepth 100000 in
set_option maxHeartbeats 2000000 in
theorem wholeAtV (R pb B : Nat) (s : St) (w : World) (h : RdS w R pb B s) :
    Calls Tryd.prog 60 #[.pointer (some ⟨R, 0, none⟩), .func (.func 61) #[] #[]] w (ValueP (wholeS valueS (0, 0, ⟨#[]⟩) s) R pb B w) := by
  have HM := Lib.hid (fun W s h => made_yes R pb B s W h)
  have HR0 := Lib.hid ((h.alloc (.cells #[.int .u8 0, .int .i64 0, .string ⟨#[]⟩] 46)).alloc (.cells #[.int .u8 0, .int .i64 0, .string ⟨#[]⟩] 46))
  have HC := Lib.hid (value_any R pb B s _ HR0.out)
  have hne : w.heap.size ≠ pb := by have := h.lp; have := h.lb; omega
  have hne' : (w.alloc (.cells #[.int .u8 0, .int .i64 0, .string ⟨#[]⟩] 46)).heap.size ≠ pb := by have := h.lp; have := h.lb; simp; omega
  have hB := h.lb
  clear h
  unfold wholeS
  generalize valueS s = r at HC
  obtain ⟨x, l1, b1⟩ := r
  simp only at HC ⊢
  have e0 : ∀ args w, (callFunc 61 args).run Tryd.prog w = .ok (.enter 61 args) w := enters_of Tryd.func61 (by kernel_rfl) rfl
  go_enter Tryd.func60, Tryd.ntmps60
  go_wp2_with (go_at_call 46; refine (HM.out _ s HR0.out).mono ?_; rintro e w0 ⟨rfl, rfl⟩; refine Hid.out ?_)
  clear HM
  refine Lib.hid ?_
  go_wp2_with (go_at_call 61; refine (HC.out).mono ?_; rintro e w1 ⟨rfl, hr, hf⟩; refine Hid.out ?_)
  have cp := hr.ptr
  have cf := hr.flag
  obtain ⟨hc4, hz4⟩ := fret2 (((Fr.refl pb (w.alloc (.cells #[.int .u8 0, .int .i64 0, .string ⟨#[]⟩] 46))).alloc (.cells #[.int .u8 0, .int .i64 0, .string ⟨#[]⟩] 46)).trans hf) hne
  obtain ⟨hc5, hz5⟩ := fret2 hf hne'
  rw [show (w.alloc (.cells #[.int .u8 0, .int .i64 0, .string ⟨#[]⟩] 46)).heap.size = w.heap.size + 1 by simp] at hc5 hz5
  have hs1 : w.heap.size + 2 ≤ w1.heap.size := by have := hf.size; simpa using this
  have hlp := hr.lp
  have hlr := hr.lr
  have hlb := hr.lb
  have q1 : w.heap.size < w1.heap.size := by omega
  have q2 : w.heap.size + 1 < w1.heap.size := by omega
  have q3 : R < w1.heap.size := by omega
  have q4 : pb < w1.heap.size := by omega
  have q5 : w.heap.size ≠ w1.heap.size := by omega
  have q6 : w.heap.size + 1 ≠ w1.heap.size := by omega
  have q7 : R ≠ w1.heap.size := by omega
  have q8 : pb ≠ w1.heap.size := by omega
  have HR := Lib.hid hr
  have HF := Lib.hid hf
  clear hr hf HC hlp hlr hlb HR0 hne hne' 
  refine Lib.hid ?_
  unfold aggV
  cases b1 with
  | true =>
    go_wp2_with fail
    refine bodyPost_ret (R := ValueP _ R pb B w) (v := .agg #[.int .u8 0, .int .i64 0, .string ⟨#[]⟩]) (by simp [results, Tryd.results60, go_sem, hc4, q1]) rfl ?_
    exact ⟨rfl, ((((HR.out).set hB 0 _).set hB 1 _).set hB 2 _).alloc _, (((((((Fr.refl pb w).alloc _).alloc _).trans HF.out).setNew (Nat.le_refl _) 0 _).setNew (Nat.le_refl _) 1 _).setNew (Nat.le_refl _) 2 _).alloc _⟩
  | false =>
    go_wp2_with fail
    refine bodyPost_ret (R := ValueP _ R pb B w) (v := .agg #[.int .u8 x.1, .int .i64 x.2.1, .string x.2.2]) (by simp [results, Tryd.results60, go_sem, hc4, q1]) rfl ?_
    exact ⟨rfl, ((((HR.out).set hB 0 _).set hB 1 _).set hB 2 _).alloc _, (((((((Fr.refl pb w).alloc _).alloc _).trans HF.out).setNew (Nat.le_refl _) 0 _).setNew (Nat.le_refl _) 1 _).setNew (Nat.le_refl _) 2 _).alloc _⟩

set_option maxRecDepth 100000 in
theorem pubAtV (R pb B : Nat) (s : St) (w : World) (h : RdS w R pb B s) (ok : OkS s) :
    Calls Tryd.prog 20 #[.pointer (some ⟨R, 0, none⟩)] w (ValueP (pubS valueP (0, 0, ⟨#[]⟩) s) R pb B w) := by
  have HC := Lib.hid (wholeAtV R pb B s _ (h.alloc (.cells #[.int .u8 0, .int .i64 0, .string ⟨#[]⟩] 46)))
  rw [whole_pub value_agree _ ok] at HC
  have hne : w.heap.size ≠ pb := by have := h.lp; have := h.lb; omega
  have hB := h.lb
  clear h ok
  generalize pubS valueP (0, 0, ⟨#[]⟩) s = r at HC
  obtain ⟨x, s1⟩ := r
  go_enter Tryd.func20, Tryd.ntmps20
  go_wp2_with (go_at_call 60; refine (HC.out).mono ?_; rintro e w1 ⟨rfl, hr, hf⟩; refine Hid.out ?_)
  obtain ⟨hc4, hz4⟩ := fret2 hf hne
  have HR := Lib.hid hr
  have HF := Lib.hid hf
  clear hr hf HC hne 
  refine Lib.hid ?_
  unfold aggV
  go_wp2_with fail
  refine bodyPost_ret (R := ValueP _ R pb B w) (v := .agg #[.int .u8 x.1, .int .i64 x.2.1, .string x.2.2]) (by simp [results, Tryd.results20, go_sem, hc4]) rfl ?_
  exact ⟨rfl, (((HR.out).set hB 0 _).set hB 1 _).set hB 2 _, (((((Fr.refl pb w).alloc _).trans HF.out).setNew (Nat.le_refl _) 0 _).setNew (Nat.le_refl _) 1 _).setNew (Nat.le_refl _) 2 _⟩
end Go.Proofs.YtmocfielcllfmaaDoor
