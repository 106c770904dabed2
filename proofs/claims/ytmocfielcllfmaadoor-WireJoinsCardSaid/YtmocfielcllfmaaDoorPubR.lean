/- The outer calls of a reader: replies. -/
import Derived.Test.YtmocfielcllfmaaDoorPubV
namespace Go.Proofs.YtmocfielcllfmaaDoor
open Go.RowKit

set_option maxRecDepth 100000 in
set_option maxHeartbeats 2000000 in
theorem wholeAtR (R pb B : Nat) (s : St) (w : World) (h : RdS w R pb B s) :
    Calls Tryd.prog 69 #[.pointer (some ⟨R, 0, none⟩), .func (.func 70) #[] #[]] w (ReplyP (wholeS replyS (0, 0, [], []) s) R pb B w) := by
  have HM := Lib.hid (fun W s h => made_yes R pb B s W h)
  have HR0 := Lib.hid ((h.alloc (.cells #[.int .i64 0, .int .i64 0, .slice none 0 0, .slice none 0 0] 63)).alloc (.cells #[.int .i64 0, .int .i64 0, .slice none 0 0, .slice none 0 0] 63))
  have HC := Lib.hid (reply_any R pb B s _ HR0.out)
  have hne : w.heap.size ≠ pb := by have := h.lp; have := h.lb; omega
  have hne' : (w.alloc (.cells #[.int .i64 0, .int .i64 0, .slice none 0 0, .slice none 0 0] 63)).heap.size ≠ pb := by have := h.lp; have := h.lb; simp; omega
  have hB := h.lb
  clear h
  unfold wholeS
  generalize replyS s = r at HC
  obtain ⟨x, l1, b1⟩ := r
  simp only at HC ⊢
  have e0 : ∀ args w, (callFunc 70 args).run Tryd.prog w = .ok (.enter 70 args) w := enters_of Tryd.func70 (by kernel_rfl) rfl
  go_enter Tryd.func69, Tryd.ntmps69
  go_wp2_with (go_at_call 46; refine (HM.out _ s HR0.out).mono ?_; rintro e w0 ⟨rfl, rfl⟩; refine Hid.out ?_)
  clear HM
  refine Lib.hid ?_
  go_wp2_with (go_at_call 70; refine (HC.out).mono ?_; rintro e w1 ⟨v0, v1, rfl, hrow0, hrow1, hr, hf⟩; obtain ⟨ao0, c0, rfl⟩ := hrow0.slice; obtain ⟨ao1, c1, rfl⟩ := hrow1.slice; refine Hid.out ?_)
  have cp := hr.ptr
  have cf := hr.flag
  obtain ⟨hc4, hz4⟩ := fret2 (((Fr.refl pb (w.alloc (.cells #[.int .i64 0, .int .i64 0, .slice none 0 0, .slice none 0 0] 63))).alloc (.cells #[.int .i64 0, .int .i64 0, .slice none 0 0, .slice none 0 0] 63)).trans hf) hne
  obtain ⟨hc5, hz5⟩ := fret2 hf hne'
  rw [show (w.alloc (.cells #[.int .i64 0, .int .i64 0, .slice none 0 0, .slice none 0 0] 63)).heap.size = w.heap.size + 1 by simp] at hc5 hz5
  have hs1 : w.heap.size + 2 ≤ w1.heap.size := by have := hf.size; simpa using this
  have hlp := hr.lp
  have hlr := hr.lr
  have hlb := hr.lb
  have q1 : w.heap.size < w1.heap.size := by omega
  have q2 : w.heap.size + 1 < w1.heap.size := by omega
  have q3 : R < w1.heap.size := by omega
  have q4 : pb < w1.heap.size := by omega
  have q5 : w.heap.size ≠ w1.heap.size := by omega
  have q6 : w.heap.size + 1 ≠ w1.heap.size := by omega
  have q7 : R ≠ w1.heap.size := by omega
  have q8 : pb ≠ w1.heap.size := by omega
  have HR := Lib.hid hr
  have HF := Lib.hid hf
  have HW0 := Lib.hid hrow0
  have HW1 := Lib.hid hrow1
  clear hr hf HC hlp hlr hlb HR0 hne hne' hrow0 hrow1
  refine Lib.hid ?_
  unfold aggR
  cases b1 with
  | true =>
    go_wp2_with fail
    refine bodyPost_ret (R := ReplyP _ R pb B w) (v := .agg #[.int .i64 0, .int .i64 0, .slice none 0 0, .slice none 0 0]) (by simp [results, Tryd.results69, go_sem, hc4, q1]) rfl ?_
    exact ⟨_, _, rfl, RowF.nil _ _, RowV.nil _ _, (((((HR.out).set hB 0 _).set hB 1 _).set hB 2 _).set hB 3 _).alloc _, ((((((((Fr.refl pb w).alloc _).alloc _).trans HF.out).setNew (Nat.le_refl _) 0 _).setNew (Nat.le_refl _) 1 _).setNew (Nat.le_refl _) 2 _).setNew (Nat.le_refl _) 3 _).alloc _⟩
  | false =>
    go_wp2_with fail
    refine bodyPost_ret (R := ReplyP _ R pb B w) (v := .agg #[.int .i64 x.1, .int .i64 x.2.1, .slice ao0 x.2.2.1.length c0, .slice ao1 x.2.2.2.length c1]) (by simp [results, Tryd.results69, go_sem, hc4, q1]) rfl ?_
    exact ⟨_, _, rfl, ((((((HW0.out).set (by simp; omega) 0 _).set (by simp; omega) 1 _).set (by simp; omega) 2 _).set (by simp; omega) 3 _).mono (by simp; omega)).below (below_own _), ((((((HW1.out).set (by simp; omega) 0 _).set (by simp; omega) 1 _).set (by simp; omega) 2 _).set (by simp; omega) 3 _).mono (by simp; omega)).below (below_own _), (((((HR.out).set hB 0 _).set hB 1 _).set hB 2 _).set hB 3 _).alloc _, ((((((((Fr.refl pb w).alloc _).alloc _).trans HF.out).setNew (Nat.le_refl _) 0 _).setNew (Nat.le_refl _) 1 _).setNew (Nat.le_refl _) 2 _).setNew (Nat.le_refl _) 3 _).alloc _⟩

set_option maxRecDepth 100000 in
theorem pubAtR (R pb B : Nat) (s : St) (w : World) (h : RdS w R pb B s) (ok : OkS s) :
    Calls Tryd.prog 27 #[.pointer (some ⟨R, 0, none⟩)] w (ReplyP (pubS replyP (0, 0, [], []) s) R pb B w) := by
  have HC := Lib.hid (wholeAtR R pb B s _ (h.alloc (.cells #[.int .i64 0, .int .i64 0, .slice none 0 0, .slice none 0 0] 63)))
  rw [whole_pub reply_agree _ ok] at HC
  have hne : w.heap.size ≠ pb := by have := h.lp; have := h.lb; omega
  have hB := h.lb
  clear h ok
  generalize pubS replyP (0, 0, [], []) s = r at HC
  obtain ⟨x, s1⟩ := r
  go_enter Tryd.func27, Tryd.ntmps27
  go_wp2_with (go_at_call 69; refine (HC.out).mono ?_; rintro e w1 ⟨v0, v1, rfl, hrow0, hrow1, hr, hf⟩; obtain ⟨ao0, c0, rfl⟩ := hrow0.slice; obtain ⟨ao1, c1, rfl⟩ := hrow1.slice; refine Hid.out ?_)
  obtain ⟨hc4, hz4⟩ := fret2 hf hne
  have HR := Lib.hid hr
  have HF := Lib.hid hf
  have HW0 := Lib.hid hrow0
  have HW1 := Lib.hid hrow1
  clear hr hf HC hne hrow0 hrow1
  refine Lib.hid ?_
  unfold aggR
  go_wp2_with fail
  refine bodyPost_ret (R := ReplyP _ R pb B w) (v := .agg #[.int .i64 x.1, .int .i64 x.2.1, .slice ao0 x.2.2.1.length c0, .slice ao1 x.2.2.2.length c1]) (by simp [results, Tryd.results27, go_sem, hc4]) rfl ?_
  exact ⟨_, _, rfl, ((((((HW0.out).set (by simp) 0 _).set (by simp) 1 _).set (by simp) 2 _).set (by simp) 3 _).mono (by simp)), ((((((HW1.out).set (by simp) 0 _).set (by simp) 1 _).set (by simp) 2 _).set (by simp) 3 _).mono (by simp)), ((((HR.out).set hB 0 _).set hB 1 _).set hB 2 _).set hB 3 _, ((((((Fr.refl pb w).alloc _).trans HF.out).setNew (Nat.le_refl _) 0 _).setNew (Nat.le_refl _) 1 _).setNew (Nat.le_refl _) 2 _).setNew (Nat.le_refl _) 3 _⟩
end Go.Proofs.YtmocfielcllfmaaDoor
