/- Right on both sides, and the small predicates on one value. -/
import Derived.Test.YtkbkkhfmejpbeaaRefNamed
namespace Go.Proofs.Ytkbkkhfmejpbeaa
open Go.RowKit

/-- A value's three cells, as it stands in the model. -/
def vcells (k n : Int) (s : ByteArray) : Array Value := #[.int .u8 k, .int .i64 n, .string s]

def rightB (k n : Int) (s : ByteArray) : Bool := (k == 1 && s.toList.isEmpty) || (k == 2 && n == 0 && namedB s.data.toList)

set_option maxHeartbeats 400000 in
theorem right_any (k n : Int) (s : ByteArray) (w : World) (hs : s.size ≤ maxLen) :
    Calls Try.prog 17 #[.agg #[.int .u8 k, .int .i64 n, .string s]] w fun e w' => e = .returned (.bool (rightB k n s)) ∧ w.alloc (.cells #[.int .u8 k, .int .i64 n, .string s] 25) = w' := by
  cases h1 : (k == 1) with
  | true =>
    have h1' : k = 1 := by simpa using h1
    cases h2 : s.toList.isEmpty with
    | true =>
      rw [show rightB k n s = true from by simp [rightB, h1, h2]]
      clear h1'
      go_enter Try.func17, Try.ntmps17
      go_wp2
      go_ret
      exact ⟨rfl, rfl⟩
    | false =>
      rw [show rightB k n s = false from by simp [rightB, h1', h2]]
      clear h1'
      go_enter Try.func17, Try.ntmps17
      go_wp2
      go_ret
      exact ⟨rfl, rfl⟩
  | false =>
    cases h2 : (k == 2) with
    | true =>
      cases h3 : (n == 0) with
      | true =>
        rw [show rightB k n s = namedB s.data.toList from by simp [rightB, h1, h2, h3]]
        go_enter Try.func17, Try.ntmps17
        go_wp2_with (go_at_call 32; refine (named_any _ _ hs).mono ?_; rintro e w' ⟨rfl, rfl⟩)
        go_ret
        exact ⟨rfl, rfl⟩
      | false =>
        rw [show rightB k n s = false from by simp [rightB, h1, h3]]
        go_enter Try.func17, Try.ntmps17
        go_wp2
        go_ret
        exact ⟨rfl, rfl⟩
    | false =>
      rw [show rightB k n s = false from by simp [rightB, h1, h2]]
      go_enter Try.func17, Try.ntmps17
      go_wp2
      go_ret
      exact ⟨rfl, rfl⟩

set_option maxHeartbeats 400000 in
theorem refRight_any (k n : Int) (s : ByteArray) (w : World) (hs : s.size ≤ maxLen) :
    Calls Try.prog 26 #[.agg #[.int .u8 k, .int .i64 n, .string s]] w fun e w' => e = .returned (.bool (rightB k n s)) ∧ w.alloc (.cells #[.int .u8 k, .int .i64 n, .string s] 25) = w' := by
  cases h1 : (k == 1) with
  | true =>
    have h1' : k = 1 := by simpa using h1
    cases h2 : s.toList.isEmpty with
    | true =>
      rw [show rightB k n s = true from by simp [rightB, h1, h2]]
      clear h1'
      go_enter Try.func26, Try.ntmps26
      go_wp2
      go_ret
      exact ⟨rfl, rfl⟩
    | false =>
      rw [show rightB k n s = false from by simp [rightB, h1', h2]]
      clear h1'
      go_enter Try.func26, Try.ntmps26
      go_wp2
      go_ret
      exact ⟨rfl, rfl⟩
  | false =>
    cases h2 : (k == 2) with
    | true =>
      cases h3 : (n == 0) with
      | true =>
        rw [show rightB k n s = namedB s.data.toList from by simp [rightB, h1, h2, h3]]
        go_enter Try.func26, Try.ntmps26
        go_wp2_with (go_at_call 38; refine (refNamed_any _ _ hs).mono ?_; rintro e w' ⟨rfl, rfl⟩)
        go_ret
        exact ⟨rfl, rfl⟩
      | false =>
        rw [show rightB k n s = false from by simp [rightB, h1, h3]]
        go_enter Try.func26, Try.ntmps26
        go_wp2
        go_ret
        exact ⟨rfl, rfl⟩
    | false =>
      rw [show rightB k n s = false from by simp [rightB, h1, h2]]
      go_enter Try.func26, Try.ntmps26
      go_wp2
      go_ret
      exact ⟨rfl, rfl⟩

theorem wrong_any (k n : Int) (s : ByteArray) (w : World) (hs : s.size ≤ maxLen) :
    Calls Try.prog 55 #[.agg #[.int .u8 k, .int .i64 n, .string s]] w fun e w' => e = .returned (.bool (!rightB k n s)) ∧ Below w.heap.size w w' := by
  go_enter Try.func55, Try.ntmps55
  go_wp2_with (go_at_call 17; refine (right_any _ _ _ _ hs).mono ?_; rintro e w' ⟨rfl, rfl⟩)
  go_ret
  exact ⟨rfl, ((Below.refl _ _).alloc (Nat.le_refl _) _).alloc (by simp) _⟩

theorem isName_any (k n : Int) (s : ByteArray) (w : World) :
    Calls Try.prog 57 #[.agg #[.int .u8 k, .int .i64 n, .string s]] w fun e w' => e = .returned (.bool (k == 2)) ∧ Below w.heap.size w w' := by
  go_enter Try.func57, Try.ntmps57
  go_wp2
  go_ret
  exact ⟨rfl, (Below.refl _ _).alloc (Nat.le_refl _) _⟩

theorem holds_any (k n : Int) (s : ByteArray) (w : World) :
    Calls Try.prog 70 #[.agg #[.int .u8 k, .int .i64 n, .string s]] w fun e w' => e = .returned (.bool (n != 0)) ∧ Below w.heap.size w w' := by
  go_enter Try.func70, Try.ntmps70
  go_wp2
  go_ret
  exact ⟨rfl, (Below.refl _ _).alloc (Nat.le_refl _) _⟩

def truthN (b : Bool) : Int := if b then 1 else 0

theorem number_any (n : Int) (w : World) :
    Calls Try.prog 61 #[.int .i64 n] w fun e w' => e = .returned (.agg #[.int .u8 1, .int .i64 n, .string ⟨#[]⟩]) ∧ w.alloc (.cells #[.int .u8 1, .int .i64 n, .string ⟨#[]⟩] 25) = w' := by
  go_enter Try.func61, Try.ntmps61
  go_wp2
  exact bodyPost_ret (v := .agg #[.int .u8 1, .int .i64 n, .string ⟨#[]⟩]) (by simp [results, Try.results61, go_sem]) rfl ⟨rfl, rfl⟩

theorem refNumber_any (n : Int) (w : World) :
    Calls Try.prog 37 #[.int .i64 n] w fun e w' => e = .returned (.agg #[.int .u8 1, .int .i64 n, .string ⟨#[]⟩]) ∧ w.alloc (.cells #[.int .u8 1, .int .i64 n, .string ⟨#[]⟩] 25) = w' := by
  go_enter Try.func37, Try.ntmps37
  go_wp2
  exact bodyPost_ret (v := .agg #[.int .u8 1, .int .i64 n, .string ⟨#[]⟩]) (by simp [results, Try.results37, go_sem]) rfl ⟨rfl, rfl⟩

theorem truth_any (b : Bool) (w : World) :
    Calls Try.prog 59 #[.bool b] w fun e w' => e = .returned (.agg #[.int .u8 1, .int .i64 (truthN b), .string ⟨#[]⟩]) ∧ (w.alloc (.cells #[.int .u8 1, .int .i64 (truthN b), .string ⟨#[]⟩] 25)).alloc (.cells #[.int .u8 1, .int .i64 (truthN b), .string ⟨#[]⟩] 25) = w' := by
  cases b with
  | true =>
    show Calls _ _ _ _ fun e w' => e = .returned (.agg #[.int .u8 1, .int .i64 1, .string ⟨#[]⟩]) ∧ (w.alloc (.cells #[.int .u8 1, .int .i64 1, .string ⟨#[]⟩] 25)).alloc (.cells #[.int .u8 1, .int .i64 1, .string ⟨#[]⟩] 25) = w'
    go_enter Try.func59, Try.ntmps59
    go_wp2_with (go_at_call 61; refine (number_any _ _).mono ?_; rintro e w' ⟨rfl, rfl⟩)
    exact bodyPost_ret (v := .agg #[.int .u8 1, .int .i64 1, .string ⟨#[]⟩]) (by simp [results, Try.results59, go_sem]) rfl ⟨rfl, rfl⟩
  | false =>
    show Calls _ _ _ _ fun e w' => e = .returned (.agg #[.int .u8 1, .int .i64 0, .string ⟨#[]⟩]) ∧ (w.alloc (.cells #[.int .u8 1, .int .i64 0, .string ⟨#[]⟩] 25)).alloc (.cells #[.int .u8 1, .int .i64 0, .string ⟨#[]⟩] 25) = w'
    go_enter Try.func59, Try.ntmps59
    go_wp2_with (go_at_call 61; refine (number_any _ _).mono ?_; rintro e w' ⟨rfl, rfl⟩)
    exact bodyPost_ret (v := .agg #[.int .u8 1, .int .i64 0, .string ⟨#[]⟩]) (by simp [results, Try.results59, go_sem]) rfl ⟨rfl, rfl⟩

theorem refTruth_any (b : Bool) (w : World) :
    Calls Try.prog 35 #[.bool b] w fun e w' => e = .returned (.agg #[.int .u8 1, .int .i64 (truthN b), .string ⟨#[]⟩]) ∧ (w.alloc (.cells #[.int .u8 1, .int .i64 (truthN b), .string ⟨#[]⟩] 25)).alloc (.cells #[.int .u8 1, .int .i64 (truthN b), .string ⟨#[]⟩] 25) = w' := by
  cases b with
  | true =>
    show Calls _ _ _ _ fun e w' => e = .returned (.agg #[.int .u8 1, .int .i64 1, .string ⟨#[]⟩]) ∧ (w.alloc (.cells #[.int .u8 1, .int .i64 1, .string ⟨#[]⟩] 25)).alloc (.cells #[.int .u8 1, .int .i64 1, .string ⟨#[]⟩] 25) = w'
    go_enter Try.func35, Try.ntmps35
    go_wp2_with (go_at_call 37; refine (refNumber_any _ _).mono ?_; rintro e w' ⟨rfl, rfl⟩)
    exact bodyPost_ret (v := .agg #[.int .u8 1, .int .i64 1, .string ⟨#[]⟩]) (by simp [results, Try.results35, go_sem]) rfl ⟨rfl, rfl⟩
  | false =>
    show Calls _ _ _ _ fun e w' => e = .returned (.agg #[.int .u8 1, .int .i64 0, .string ⟨#[]⟩]) ∧ (w.alloc (.cells #[.int .u8 1, .int .i64 0, .string ⟨#[]⟩] 25)).alloc (.cells #[.int .u8 1, .int .i64 0, .string ⟨#[]⟩] 25) = w'
    go_enter Try.func35, Try.ntmps35
    go_wp2_with (go_at_call 37; refine (refNumber_any _ _).mono ?_; rintro e w' ⟨rfl, rfl⟩)
    exact bodyPost_ret (v := .agg #[.int .u8 1, .int .i64 0, .string ⟨#[]⟩]) (by simp [results, Try.results35, go_sem]) rfl ⟨rfl, rfl⟩

end Go.Proofs.Ytkbkkhfmejpbeaa
