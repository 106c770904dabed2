/- The outer calls of a reader: entries. -/
import Derived.Test.YtmocfielcllfmaaDoorPubV
namespace Go.Proofs.YtmocfielcllfmaaDoor
open Go.RowKit

set_option maxRecDepth 100000 in
set_option maxHeartbeats 2000000 in
theorem wholeAtE (R pb B : Nat) (s : St) (w : World) (h : RdS w R pb B s) :
    Calls Tryd.prog 72 #[.pointer (some ⟨R, 0, none⟩), .func (.func 73) #[] #[]] w (EntryP (wholeS entryS (0, 0, 0, 0, (0, ⟨#[]⟩, [], 0), []) s) R pb B w) := by
  have HM := Lib.hid (fun W s h => made_yes R pb B s W h)
  have HR0 := Lib.hid ((h.alloc (.cells #[.int .i64 0, .int .u8 0, .int .i64 0, .int .i64 0, .int .u8 0, .string ⟨#[]⟩, .slice none 0 0, .int .i64 0, .slice none 0 0] 68)).alloc (.cells #[.int .i64 0, .int .u8 0, .int .i64 0, .int .i64 0, .int .u8 0, .string ⟨#[]⟩, .slice none 0 0, .int .i64 0, .slice none 0 0] 68))
  have HC := Lib.hid (entry_any R pb B s _ HR0.out)
  have hne : w.heap.size ≠ pb := by have := h.lp; have := h.lb; omega
  have hne' : (w.alloc (.cells #[.int .i64 0, .int .u8 0, .int .i64 0, .int .i64 0, .int .u8 0, .string ⟨#[]⟩, .slice none 0 0, .int .i64 0, .slice none 0 0] 68)).heap.size ≠ pb := by have := h.lp; have := h.lb; simp; omega
  have hB := h.lb
  clear h
  unfold wholeS
  generalize entryS s = r at HC
  obtain ⟨x, l1, b1⟩ := r
  simp only at HC ⊢
  have e0 : ∀ args w, (callFunc 73 args).run Tryd.prog w = .ok (.enter 73 args) w := enters_of Tryd.func73 (by kernel_rfl) rfl
  go_enter Tryd.func72, Tryd.ntmps72
  go_wp2_with (go_at_call 46; refine (HM.out _ s HR0.out).mono ?_; rintro e w0 ⟨rfl, rfl⟩; refine Hid.out ?_)
  clear HM
  refine Lib.hid ?_
  go_wp2_with (go_at_call 73; refine (HC.out).mono ?_; rintro e w1 ⟨v0, v1, rfl, hrow0, hrow1, hr, hf⟩; obtain ⟨ao0, c0, rfl⟩ := hrow0.slice; obtain ⟨ao1, c1, rfl⟩ := hrow1.slice; refine Hid.out ?_)
  have cp := hr.ptr
  have cf := hr.flag
  obtain ⟨hc4, hz4⟩ := fret2 (((Fr.refl pb (w.alloc (.cells #[.int .i64 0, .int .u8 0, .int .i64 0, .int .i64 0, .int .u8 0, .string ⟨#[]⟩, .slice none 0 0, .int .i64 0, .slice none 0 0] 68))).alloc (.cells #[.int .i64 0, .int .u8 0, .int .i64 0, .int .i64 0, .int .u8 0, .string ⟨#[]⟩, .slice none 0 0, .int .i64 0, .slice none 0 0] 68)).trans hf) hne
  obtain ⟨hc5, hz5⟩ := fret2 hf hne'
  rw [show (w.alloc (.cells #[.int .i64 0, .int .u8 0, .int .i64 0, .int .i64 0, .int .u8 0, .string ⟨#[]⟩, .slice none 0 0, .int .i64 0, .slice none 0 0] 68)).heap.size = w.heap.size + 1 by simp] at hc5 hz5
  have hs1 : w.heap.size + 2 ≤ w1.heap.size := by have := hf.size; simpa using this
  have hlp := hr.lp
  have hlr := hr.lr
  have hlb := hr.lb
  have q1 : w.heap.size < w1.heap.size := by omega
  have q2 : w.heap.size + 1 < w1.heap.size := by omega
  have q3 : R < w1.heap.size := by omega
  have q4 : pb < w1.heap.size := by omega
  have q5 : w.heap.size ≠ w1.heap.size := by omega
  have q6 : w.heap.size + 1 ≠ w1.heap.size := by omega
  have q7 : R ≠ w1.heap.size := by omega
  have q8 : pb ≠ w1.heap.size := by omega
  have HR := Lib.hid hr
  have HF := Lib.hid hf
  have HW0 := Lib.hid hrow0
  have HW1 := Lib.hid hrow1
  clear hr hf HC hlp hlr hlb HR0 hne hne' hrow0 hrow1
  refine Lib.hid ?_
  unfold aggE
  cases b1 with
  | true =>
    go_wp2_with fail
    refine bodyPost_ret (R := EntryP _ R pb B w) (v := .agg #[.int .i64 0, .int .u8 0, .int .i64 0, .int .i64 0, .int .u8 0, .string ⟨#[]⟩, .slice none 0 0, .int .i64 0, .slice none 0 0]) (by simp [results, Tryd.results72, go_sem, hc4, q1]) rfl ?_
    exact ⟨_, _, rfl, RowV.nil _ _, RowI.nil _ _, ((((((((((HR.out).set hB 0 _).set hB 1 _).set hB 2 _).set hB 3 _).set hB 4 _).set hB 5 _).set hB 6 _).set hB 7 _).set hB 8 _).alloc _, (((((((((((((Fr.refl pb w).alloc _).alloc _).trans HF.out).setNew (Nat.le_refl _) 0 _).setNew (Nat.le_refl _) 1 _).setNew (Nat.le_refl _) 2 _).setNew (Nat.le_refl _) 3 _).setNew (Nat.le_refl _) 4 _).setNew (Nat.le_refl _) 5 _).setNew (Nat.le_refl _) 6 _).setNew (Nat.le_refl _) 7 _).setNew (Nat.le_refl _) 8 _).alloc _⟩
  | false =>
    go_wp2_with fail
    refine bodyPost_ret (R := EntryP _ R pb B w) (v := .agg #[.int .i64 x.1, .int .u8 x.2.1, .int .i64 x.2.2.1, .int .i64 x.2.2.2.1, .int .u8 x.2.2.2.2.1.1, .string x.2.2.2.2.1.2.1, .slice ao0 x.2.2.2.2.1.2.2.1.length c0, .int .i64 x.2.2.2.2.1.2.2.2, .slice ao1 x.2.2.2.2.2.length c1]) (by simp [results, Tryd.results72, go_sem, hc4, q1]) rfl ?_
    exact ⟨_, _, rfl, (((((((((((HW0.out).set (by simp; omega) 0 _).set (by simp; omega) 1 _).set (by simp; omega) 2 _).set (by simp; omega) 3 _).set (by simp; omega) 4 _).set (by simp; omega) 5 _).set (by simp; omega) 6 _).set (by simp; omega) 7 _).set (by simp; omega) 8 _).mono (by simp; omega)).below (below_own _), (((((((((((HW1.out).set (by simp; omega) 0 _).set (by simp; omega) 1 _).set (by simp; omega) 2 _).set (by simp; omega) 3 _).set (by simp; omega) 4 _).set (by simp; omega) 5 _).set (by simp; omega) 6 _).set (by simp; omega) 7 _).set (by simp; omega) 8 _).mono (by simp; omega)).below (below_own _), ((((((((((HR.out).set hB 0 _).set hB 1 _).set hB 2 _).set hB 3 _).set hB 4 _).set hB 5 _).set hB 6 _).set hB 7 _).set hB 8 _).alloc _, (((((((((((((Fr.refl pb w).alloc _).alloc _).trans HF.out).setNew (Nat.le_refl _) 0 _).setNew (Nat.le_refl _) 1 _).setNew (Nat.le_refl _) 2 _).setNew (Nat.le_refl _) 3 _).setNew (Nat.le_refl _) 4 _).setNew (Nat.le_refl _) 5 _).setNew (Nat.le_refl _) 6 _).setNew (Nat.le_refl _) 7 _).setNew (Nat.le_refl _) 8 _).alloc _⟩

set_option maxRecDepth 100000 in
theorem pubAtE (R pb B : Nat) (s : St) (w : World) (h : RdS w R pb B s) (ok : OkS s) :
    Calls Tryd.prog 29 #[.pointer (some ⟨R, 0, none⟩)] w (EntryP (pubS entryP (0, 0, 0, 0, (0, ⟨#[]⟩, [], 0), []) s) R pb B w) := by
  have HC := Lib.hid (wholeAtE R pb B s _ (h.alloc (.cells #[.int .i64 0, .int .u8 0, .int .i64 0, .int .i64 0, .int .u8 0, .string ⟨#[]⟩, .slice none 0 0, .int .i64 0, .slice none 0 0] 68)))
  rw [whole_pub entry_agree _ ok] at HC
  have hne : w.heap.size ≠ pb := by have := h.lp; have := h.lb; omega
  have hB := h.lb
  clear h ok
  generalize pubS entryP (0, 0, 0, 0, (0, ⟨#[]⟩, [], 0), []) s = r at HC
  obtain ⟨x, s1⟩ := r
  go_enter Tryd.func29, Tryd.ntmps29
  go_wp2_with (go_at_call 72; refine (HC.out).mono ?_; rintro e w1 ⟨v0, v1, rfl, hrow0, hrow1, hr, hf⟩; obtain ⟨ao0, c0, rfl⟩ := hrow0.slice; obtain ⟨ao1, c1, rfl⟩ := hrow1.slice; refine Hid.out ?_)
  obtain ⟨hc4, hz4⟩ := fret2 hf hne
  have HR := Lib.hid hr
  have HF := Lib.hid hf
  have HW0 := Lib.hid hrow0
  have HW1 := Lib.hid hrow1
  clear hr hf HC hne hrow0 hrow1
  refine Lib.hid ?_
  unfold aggE
  go_wp2_with fail
  refine bodyPost_ret (R := EntryP _ R pb B w) (v := .agg #[.int .i64 x.1, .int .u8 x.2.1, .int .i64 x.2.2.1, .int .i64 x.2.2.2.1, .int .u8 x.2.2.2.2.1.1, .string x.2.2.2.2.1.2.1, .slice ao0 x.2.2.2.2.1.2.2.1.length c0, .int .i64 x.2.2.2.2.1.2.2.2, .slice ao1 x.2.2.2.2.2.length c1]) (by simp [results, Tryd.results29, go_sem, hc4]) rfl ?_
  exact ⟨_, _, rfl, (((((((((((HW0.out).set (by simp) 0 _).set (by simp) 1 _).set (by simp) 2 _).set (by simp) 3 _).set (by simp) 4 _).set (by simp) 5 _).set (by simp) 6 _).set (by simp) 7 _).set (by simp) 8 _).mono (by simp)), (((((((((((HW1.out).set (by simp) 0 _).set (by simp) 1 _).set (by simp) 2 _).set (by simp) 3 _).set (by simp) 4 _).set (by simp) 5 _).set (by simp) 6 _).set (by simp) 7 _).set (by simp) 8 _).mono (by simp)), (((((((((HR.out).set hB 0 _).set hB 1 _).set hB 2 _).set hB 3 _).set hB 4 _).set hB 5 _).set hB 6 _).set hB 7 _).set hB 8 _, (((((((((((Fr.refl pb w).alloc _).trans HF.out).setNew (Nat.le_refl _) 0 _).setNew (Nat.le_refl _) 1 _).setNew (Nat.le_refl _) 2 _).setNew (Nat.le_refl _) 3 _).setNew (Nat.le_refl _) 4 _).setNew (Nat.le_refl _) 5 _).setNew (Nat.le_refl _) 6 _).setNew (Nat.le_refl _) 7 _).setNew (Nat.le_refl _) 8 _⟩
end Go.Proofs.YtmocfielcllfmaaDoor
