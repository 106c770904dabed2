/- A value's text, on both sides. -/
import Derived.Test.YtcmbedopmkodmaaDoorRight
import Derived.Test.YtcmbedopmkodmaaDoorInts
import Derived.Test.YtcmbedopmkodmaaDoorShelf
import Derived.Lib.AppendIntMem
namespace Go.Proofs.YtcmbedopmkodmaaDoor
open Go.RowKit

theorem isName_exact (k n : Int) (s : ByteArray) (w : World) :
    Calls Tryd.prog 29 #[.agg #[.int .u8 k, .int .i64 n, .string s]] w fun e w' => e = .returned (.bool (k == 2)) ∧ w.alloc (.cells #[.int .u8 k, .int .i64 n, .string s] 29) = w' := by
  go_enter Tryd.func29, Tryd.ntmps29
  go_wp2
  go_ret
  exact ⟨rfl, rfl⟩

theorem below3 (w : World) (a b c : Obj) : Below w.heap.size w (((w.alloc a).alloc b).alloc c) :=
  (((Below.refl _ _).alloc (Nat.le_refl _) _).alloc (by simp) _).alloc (by simp; omega) _

theorem text_wrong (k n : Int) (s : ByteArray) (w : World) (hs : s.size ≤ maxLen) (hr : rightB k n s = false) :
    Calls Tryd.prog 18 #[.agg #[.int .u8 k, .int .i64 n, .string s]] w fun e w' => e = .returned (.string ⟨#[]⟩) ∧ Below w.heap.size w w' := by
  go_enter Tryd.func18, Tryd.ntmps18
  go_wp2_with (go_at_call 14; refine (right_any _ _ _ _ hs).mono ?_; rintro e w' ⟨rfl, rfl⟩)
  go_ret
  exact ⟨rfl, ((Below.refl _ _).alloc (Nat.le_refl _) _).alloc (by simp) _⟩

theorem text_name (n : Int) (s : ByteArray) (w : World) (hs : s.size ≤ 24) (hr : rightB 2 n s = true) :
    Calls Tryd.prog 18 #[.agg #[.int .u8 2, .int .i64 n, .string s]] w fun e w' => e = .returned (.string (⟨#[39]⟩ ++ s)) ∧ Below w.heap.size w w' := by
  have hs' : s.size ≤ maxLen := by unfold maxLen; omega
  go_enter Tryd.func18, Tryd.ntmps18
  have h22 : ((2 : Int) == 2) = true := rfl
  go_wp2_with (first | (go_at_call 14; refine (right_any _ _ _ _ hs').mono ?_; rintro e w' ⟨rfl, rfl⟩) | (go_at_call 29; refine (isName_exact _ _ _ _).mono ?_; rintro e w' ⟨rfl, rfl⟩))
  go_ret
  exact ⟨rfl, below3 _ _ _ _⟩

theorem text_small (n : Nat) (w : World) (h : n < 100) :
    Calls Tryd.prog 18 #[.agg #[.int .u8 1, .int .i64 n, .string ⟨#[]⟩]] w fun e w' => e = .returned (.string ⟨(Lib.decDigits n).toArray⟩) ∧ Below w.heap.size w w' := by
  have hr : rightB 1 n ⟨#[]⟩ = true := by simp [rightB, ByteArray.toList_eq]
  have hs : (⟨#[]⟩ : ByteArray).size ≤ maxLen := Nat.zero_le _
  have hc := fun w' => Tryd.strconv_FormatInt_10_small n h w'
  have HC := Lib.hid hc
  clear hc
  go_enter Tryd.func18, Tryd.ntmps18
  go_wp2_with (first | (go_at_call 14; refine (right_any _ _ _ _ hs).mono ?_; rintro e w' ⟨rfl, rfl⟩) | (go_at_call 29; refine (isName_exact _ _ _ _).mono ?_; rintro e w' ⟨rfl, rfl⟩) | (go_at_call 40; refine (HC.out _).mono ?_; rintro e w' ⟨rfl, rfl⟩))
  go_ret
  exact ⟨rfl, below3 _ _ _ _⟩

theorem text_num (n : Int) (s : ByteArray) (w : World) (hs : s.size ≤ maxLen) (hr : rightB 1 n s = true) (hn : In64 n) (ht : Lib.TabBelow Tryd.prog w.heap.size w "internal/strconv.uint64pow10" .u64 Lib.pow10Tab) :
    Calls Tryd.prog 18 #[.agg #[.int .u8 1, .int .i64 n, .string s]] w fun e w' => e = .returned (.string ⟨(Lib.itoa n).toArray⟩) ∧ Below w.heap.size w w' := by
  obtain ⟨h0, h1⟩ := hn
  have hc := fun w' (hb : Below w.heap.size w w') => Tryd.strconv_FormatInt_10 n h0 h1 w' (ht w' hb)
  have HC := Lib.hid hc
  clear hc ht
  go_enter Tryd.func18, Tryd.ntmps18
  go_wp2_with (first | (go_at_call 14; refine (right_any _ _ _ _ hs).mono ?_; rintro e w' ⟨rfl, rfl⟩) | (go_at_call 29; refine (isName_exact _ _ _ _).mono ?_; rintro e w' ⟨rfl, rfl⟩) | (go_at_call 40; refine (HC.out _ (below3 _ _ _ _)).mono ?_; rintro e w' ⟨rfl, q, os, rfl⟩))
  go_ret
  refine ⟨rfl, (below3 _ _ _ _).trans ((Lib.below_grow _ _ ?_ _ _))⟩
  simp; omega
end Go.Proofs.YtcmbedopmkodmaaDoor
