/- The outer calls of a reader: facts, commands. -/
import Derived.Test.YtmocfielcllfmaaDoorPubV
namespace Go.Proofs.YtmocfielcllfmaaDoor
open Go.RowKit

set_option maxRecDepth 100000 in
set_option maxHeartbeats 2000000 in
theorem wholeAtF (R pb B : Nat) (s : St) (w : World) (h : RdS w R pb B s) :
    Calls Tryd.prog 64 #[.pointer (some ⟨R, 0, none⟩), .func (.func 65) #[] #[]] w (FactP (wholeS factS (0, 0, []) s) R pb B w) := by
  have HM := Lib.hid (fun W s h => made_yes R pb B s W h)
  have HR0 := Lib.hid ((h.alloc (.cells #[.int .i64 0, .int .i64 0, .slice none 0 0] 52)).alloc (.cells #[.int .i64 0, .int .i64 0, .slice none 0 0] 52))
  have HC := Lib.hid (fact_any R pb B s _ HR0.out)
  have hne : w.heap.size ≠ pb := by have := h.lp; have := h.lb; omega
  have hne' : (w.alloc (.cells #[.int .i64 0, .int .i64 0, .slice none 0 0] 52)).heap.size ≠ pb := by have := h.lp; have := h.lb; simp; omega
  have hB := h.lb
  clear h
  unfold wholeS
  generalize factS s = r at HC
  obtain ⟨x, l1, b1⟩ := r
  simp only at HC ⊢
  have e0 : ∀ args w, (callFunc 65 args).run Tryd.prog w = .ok (.enter 65 args) w := enters_of Tryd.func65 (by kernel_rfl) rfl
  go_enter Tryd.func64, Tryd.ntmps64
  go_wp2_with (go_at_call 46; refine (HM.out _ s HR0.out).mono ?_; rintro e w0 ⟨rfl, rfl⟩; refine Hid.out ?_)
  clear HM
  refine Lib.hid ?_
  go_wp2_with (go_at_call 65; refine (HC.out).mono ?_; rintro e w1 ⟨v0, rfl, hrow0, hr, hf⟩; obtain ⟨ao0, c0, rfl⟩ := hrow0.slice; refine Hid.out ?_)
  have cp := hr.ptr
  have cf := hr.flag
  obtain ⟨hc4, hz4⟩ := fret2 (((Fr.refl pb (w.alloc (.cells #[.int .i64 0, .int .i64 0, .slice none 0 0] 52))).alloc (.cells #[.int .i64 0, .int .i64 0, .slice none 0 0] 52)).trans hf) hne
  obtain ⟨hc5, hz5⟩ := fret2 hf hne'
  rw [show (w.alloc (.cells #[.int .i64 0, .int .i64 0, .slice none 0 0] 52)).heap.size = w.heap.size + 1 by simp] at hc5 hz5
  have hs1 : w.heap.size + 2 ≤ w1.heap.size := by have := hf.size; simpa using this
  have hlp := hr.lp
  have hlr := hr.lr
  have hlb := hr.lb
  have q1 : w.heap.size < w1.heap.size := by omega
  have q2 : w.heap.size + 1 < w1.heap.size := by omega
  have q3 : R < w1.heap.size := by omega
  have q4 : pb < w1.heap.size := by omega
  have q5 : w.heap.size ≠ w1.heap.size := by omega
  have q6 : w.heap.size + 1 ≠ w1.heap.size := by omega
  have q7 : R ≠ w1.heap.size := by omega
  have q8 : pb ≠ w1.heap.size := by omega
  have HR := Lib.hid hr
  have HF := Lib.hid hf
  have HW0 := Lib.hid hrow0
  clear hr hf HC hlp hlr hlb HR0 hne hne' hrow0
  refine Lib.hid ?_
  unfold aggF
  cases b1 with
  | true =>
    go_wp2_with fail
    refine bodyPost_ret (R := FactP _ R pb B w) (v := .agg #[.int .i64 0, .int .i64 0, .slice none 0 0]) (by simp [results, Tryd.results64, go_sem, hc4, q1]) rfl ?_
    exact ⟨_, rfl, RowV.nil _ _, ((((HR.out).set hB 0 _).set hB 1 _).set hB 2 _).alloc _, (((((((Fr.refl pb w).alloc _).alloc _).trans HF.out).setNew (Nat.le_refl _) 0 _).setNew (Nat.le_refl _) 1 _).setNew (Nat.le_refl _) 2 _).alloc _⟩
  | false =>
    go_wp2_with fail
    refine bodyPost_ret (R := FactP _ R pb B w) (v := .agg #[.int .i64 x.1, .int .i64 x.2.1, .slice ao0 x.2.2.length c0]) (by simp [results, Tryd.results64, go_sem, hc4, q1]) rfl ?_
    exact ⟨_, rfl, (((((HW0.out).set (by simp; omega) 0 _).set (by simp; omega) 1 _).set (by simp; omega) 2 _).mono (by simp; omega)).below (below_own _), ((((HR.out).set hB 0 _).set hB 1 _).set hB 2 _).alloc _, (((((((Fr.refl pb w).alloc _).alloc _).trans HF.out).setNew (Nat.le_refl _) 0 _).setNew (Nat.le_refl _) 1 _).setNew (Nat.le_refl _) 2 _).alloc _⟩

set_option maxRecDepth 100000 in
set_option maxHeartbeats 2000000 in
theorem wholeAtC (R pb B : Nat) (s : St) (w : World) (h : RdS w R pb B s) :
    Calls Tryd.prog 66 #[.pointer (some ⟨R, 0, none⟩), .func (.func 67) #[] #[]] w (CommandP (wholeS commandS (0, ⟨#[]⟩, [], 0) s) R pb B w) := by
  have HM := Lib.hid (fun W s h => made_yes R pb B s W h)
  have HR0 := Lib.hid ((h.alloc (.cells #[.int .u8 0, .string ⟨#[]⟩, .slice none 0 0, .int .i64 0] 57)).alloc (.cells #[.int .u8 0, .string ⟨#[]⟩, .slice none 0 0, .int .i64 0] 57))
  have HC := Lib.hid (command_any R pb B s _ HR0.out)
  have hne : w.heap.size ≠ pb := by have := h.lp; have := h.lb; omega
  have hne' : (w.alloc (.cells #[.int .u8 0, .string ⟨#[]⟩, .slice none 0 0, .int .i64 0] 57)).heap.size ≠ pb := by have := h.lp; have := h.lb; simp; omega
  have hB := h.lb
  clear h
  unfold wholeS
  generalize commandS s = r at HC
  obtain ⟨x, l1, b1⟩ := r
  simp only at HC ⊢
  have e0 : ∀ args w, (callFunc 67 args).run Tryd.prog w = .ok (.enter 67 args) w := enters_of Tryd.func67 (by kernel_rfl) rfl
  go_enter Tryd.func66, Tryd.ntmps66
  go_wp2_with (go_at_call 46; refine (HM.out _ s HR0.out).mono ?_; rintro e w0 ⟨rfl, rfl⟩; refine Hid.out ?_)
  clear HM
  refine Lib.hid ?_
  go_wp2_with (go_at_call 67; refine (HC.out).mono ?_; rintro e w1 ⟨v0, rfl, hrow0, hr, hf⟩; obtain ⟨ao0, c0, rfl⟩ := hrow0.slice; refine Hid.out ?_)
  have cp := hr.ptr
  have cf := hr.flag
  obtain ⟨hc4, hz4⟩ := fret2 (((Fr.refl pb (w.alloc (.cells #[.int .u8 0, .string ⟨#[]⟩, .slice none 0 0, .int .i64 0] 57))).alloc (.cells #[.int .u8 0, .string ⟨#[]⟩, .slice none 0 0, .int .i64 0] 57)).trans hf) hne
  obtain ⟨hc5, hz5⟩ := fret2 hf hne'
  rw [show (w.alloc (.cells #[.int .u8 0, .string ⟨#[]⟩, .slice none 0 0, .int .i64 0] 57)).heap.size = w.heap.size + 1 by simp] at hc5 hz5
  have hs1 : w.heap.size + 2 ≤ w1.heap.size := by have := hf.size; simpa using this
  have hlp := hr.lp
  have hlr := hr.lr
  have hlb := hr.lb
  have q1 : w.heap.size < w1.heap.size := by omega
  have q2 : w.heap.size + 1 < w1.heap.size := by omega
  have q3 : R < w1.heap.size := by omega
  have q4 : pb < w1.heap.size := by omega
  have q5 : w.heap.size ≠ w1.heap.size := by omega
  have q6 : w.heap.size + 1 ≠ w1.heap.size := by omega
  have q7 : R ≠ w1.heap.size := by omega
  have q8 : pb ≠ w1.heap.size := by omega
  have HR := Lib.hid hr
  have HF := Lib.hid hf
  have HW0 := Lib.hid hrow0
  clear hr hf HC hlp hlr hlb HR0 hne hne' hrow0
  refine Lib.hid ?_
  unfold aggC
  cases b1 with
  | true =>
    go_wp2_with fail
    refine bodyPost_ret (R := CommandP _ R pb B w) (v := .agg #[.int .u8 0, .string ⟨#[]⟩, .slice none 0 0, .int .i64 0]) (by simp [results, Tryd.results66, go_sem, hc4, q1]) rfl ?_
    exact ⟨_, rfl, RowV.nil _ _, (((((HR.out).set hB 0 _).set hB 1 _).set hB 2 _).set hB 3 _).alloc _, ((((((((Fr.refl pb w).alloc _).alloc _).trans HF.out).setNew (Nat.le_refl _) 0 _).setNew (Nat.le_refl _) 1 _).setNew (Nat.le_refl _) 2 _).setNew (Nat.le_refl _) 3 _).alloc _⟩
  | false =>
    go_wp2_with fail
    refine bodyPost_ret (R := CommandP _ R pb B w) (v := .agg #[.int .u8 x.1, .string x.2.1, .slice ao0 x.2.2.1.length c0, .int .i64 x.2.2.2]) (by simp [results, Tryd.results66, go_sem, hc4, q1]) rfl ?_
    exact ⟨_, rfl, ((((((HW0.out).set (by simp; omega) 0 _).set (by simp; omega) 1 _).set (by simp; omega) 2 _).set (by simp; omega) 3 _).mono (by simp; omega)).below (below_own _), (((((HR.out).set hB 0 _).set hB 1 _).set hB 2 _).set hB 3 _).alloc _, ((((((((Fr.refl pb w).alloc _).alloc _).trans HF.out).setNew (Nat.le_refl _) 0 _).setNew (Nat.le_refl _) 1 _).setNew (Nat.le_refl _) 2 _).setNew (Nat.le_refl _) 3 _).alloc _⟩

set_option maxRecDepth 100000 in
theorem pubAtF (R pb B : Nat) (s : St) (w : World) (h : RdS w R pb B s) (ok : OkS s) :
    Calls Tryd.prog 23 #[.pointer (some ⟨R, 0, none⟩)] w (FactP (pubS factP (0, 0, []) s) R pb B w) := by
  have HC := Lib.hid (wholeAtF R pb B s _ (h.alloc (.cells #[.int .i64 0, .int .i64 0, .slice none 0 0] 52)))
  rw [whole_pub fact_agree _ ok] at HC
  have hne : w.heap.size ≠ pb := by have := h.lp; have := h.lb; omega
  have hB := h.lb
  clear h ok
  generalize pubS factP (0, 0, []) s = r at HC
  obtain ⟨x, s1⟩ := r
  go_enter Tryd.func23, Tryd.ntmps23
  go_wp2_with (go_at_call 64; refine (HC.out).mono ?_; rintro e w1 ⟨v0, rfl, hrow0, hr, hf⟩; obtain ⟨ao0, c0, rfl⟩ := hrow0.slice; refine Hid.out ?_)
  obtain ⟨hc4, hz4⟩ := fret2 hf hne
  have HR := Lib.hid hr
  have HF := Lib.hid hf
  have HW0 := Lib.hid hrow0
  clear hr hf HC hne hrow0
  refine Lib.hid ?_
  unfold aggF
  go_wp2_with fail
  refine bodyPost_ret (R := FactP _ R pb B w) (v := .agg #[.int .i64 x.1, .int .i64 x.2.1, .slice ao0 x.2.2.length c0]) (by simp [results, Tryd.results23, go_sem, hc4]) rfl ?_
  exact ⟨_, rfl, (((((HW0.out).set (by simp) 0 _).set (by simp) 1 _).set (by simp) 2 _).mono (by simp)), (((HR.out).set hB 0 _).set hB 1 _).set hB 2 _, (((((Fr.refl pb w).alloc _).trans HF.out).setNew (Nat.le_refl _) 0 _).setNew (Nat.le_refl _) 1 _).setNew (Nat.le_refl _) 2 _⟩

set_option maxRecDepth 100000 in
theorem pubAtC (R pb B : Nat) (s : St) (w : World) (h : RdS w R pb B s) (ok : OkS s) :
    Calls Tryd.prog 25 #[.pointer (some ⟨R, 0, none⟩)] w (CommandP (pubS commandP (0, ⟨#[]⟩, [], 0) s) R pb B w) := by
  have HC := Lib.hid (wholeAtC R pb B s _ (h.alloc (.cells #[.int .u8 0, .string ⟨#[]⟩, .slice none 0 0, .int .i64 0] 57)))
  rw [whole_pub command_agree _ ok] at HC
  have hne : w.heap.size ≠ pb := by have := h.lp; have := h.lb; omega
  have hB := h.lb
  clear h ok
  generalize pubS commandP (0, ⟨#[]⟩, [], 0) s = r at HC
  obtain ⟨x, s1⟩ := r
  go_enter Tryd.func25, Tryd.ntmps25
  go_wp2_with (go_at_call 66; refine (HC.out).mono ?_; rintro e w1 ⟨v0, rfl, hrow0, hr, hf⟩; obtain ⟨ao0, c0, rfl⟩ := hrow0.slice; refine Hid.out ?_)
  obtain ⟨hc4, hz4⟩ := fret2 hf hne
  have HR := Lib.hid hr
  have HF := Lib.hid hf
  have HW0 := Lib.hid hrow0
  clear hr hf HC hne hrow0
  refine Lib.hid ?_
  unfold aggC
  go_wp2_with fail
  refine bodyPost_ret (R := CommandP _ R pb B w) (v := .agg #[.int .u8 x.1, .string x.2.1, .slice ao0 x.2.2.1.length c0, .int .i64 x.2.2.2]) (by simp [results, Tryd.results25, go_sem, hc4]) rfl ?_
  exact ⟨_, rfl, ((((((HW0.out).set (by simp) 0 _).set (by simp) 1 _).set (by simp) 2 _).set (by simp) 3 _).mono (by simp)), ((((HR.out).set hB 0 _).set hB 1 _).set hB 2 _).set hB 3 _, ((((((Fr.refl pb w).alloc _).trans HF.out).setNew (Nat.le_refl _) 0 _).setNew (Nat.le_refl _) 1 _).setNew (Nat.le_refl _) 2 _).setNew (Nat.le_refl _) 3 _⟩
end Go.Proofs.YtmocfielcllfmaaDoor
