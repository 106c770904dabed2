/- Compare on the reference's side. -/
import Derived.Test.YtcmbedopmkodmaaDoorCompare
namespace Go.Proofs.YtcmbedopmkodmaaDoor
open Go.RowKit

theorem cmpV_right {x y : Int × Int × ByteArray} (h1 : rightB x.1 x.2.1 x.2.2 = true) (h2 : rightB y.1 y.2.1 y.2.2 = true) : cmpV x y = or3 (cmp3 x.1 y.1) (cmp3 x.2.1 y.2.1) (Lib.compareBytes x.2.2.data.toList y.2.2.data.toList) :=
  if_neg (by rintro (h | h); (exact absurd (h1.symm.trans h) (by simp)); (exact absurd (h2.symm.trans h) (by simp)))

theorem cmp3_lt {x y : Int} (h : x < y) : cmp3 x y = -1 := if_pos h
theorem cmp3_gt {x y : Int} (h : y < x) : cmp3 x y = 1 := by unfold cmp3; rw [if_neg (by omega), if_pos h]
theorem cmp3_eq (x : Int) : cmp3 x x = 0 := by unfold cmp3; rw [if_neg (by omega), if_neg (by omega)]

set_option maxHeartbeats 2000000 in
theorem rcmp_x (xk xn yk yn : Int) (xs ys : ByteArray) (w : World) (hx : xs.size ≤ maxLen)  (h1 : rightB xk xn xs = false) :
    Calls Tryd.prog 17 #[.agg #[.int .u8 xk, .int .i64 xn, .string xs], .agg #[.int .u8 yk, .int .i64 yn, .string ys]] w fun e w' => e = .returned (.int .i64 (0)) ∧ Gr w w' := by
  go_enter Tryd.func17, Tryd.ntmps17
  go_wp2_with fail
  refine (refRight_any _ _ _ _ hx).mono ?_
  rintro e w1 ⟨rfl, rfl⟩
  go_wp2
  go_ret
  exact ⟨rfl, (((Gr.refl w).alloc _).alloc _).alloc _⟩

set_option maxHeartbeats 2000000 in
theorem rcmp_y (xk xn yk yn : Int) (xs ys : ByteArray) (w : World) (hx : xs.size ≤ maxLen) (hy : ys.size ≤ maxLen) (h1 : rightB xk xn xs = true) (h2 : rightB yk yn ys = false) :
    Calls Tryd.prog 17 #[.agg #[.int .u8 xk, .int .i64 xn, .string xs], .agg #[.int .u8 yk, .int .i64 yn, .string ys]] w fun e w' => e = .returned (.int .i64 (0)) ∧ Gr w w' := by
  go_enter Tryd.func17, Tryd.ntmps17
  go_wp2_with fail
  refine (refRight_any _ _ _ _ hx).mono ?_
  rintro e w1 ⟨rfl, rfl⟩
  go_wp2_with fail
  refine (refRight_any _ _ _ _ hy).mono ?_
  rintro e w1 ⟨rfl, rfl⟩
  go_wp2
  go_ret
  exact ⟨rfl, ((((Gr.refl w).alloc _).alloc _).alloc _).alloc _⟩

set_option maxHeartbeats 2000000 in
theorem rcmp_klt (xk xn yk yn : Int) (xs ys : ByteArray) (w : World) (hx : xs.size ≤ maxLen) (hy : ys.size ≤ maxLen) (h1 : rightB xk xn xs = true) (h2 : rightB yk yn ys = true) (t1 : decide (xk < yk) = true) :
    Calls Tryd.prog 17 #[.agg #[.int .u8 xk, .int .i64 xn, .string xs], .agg #[.int .u8 yk, .int .i64 yn, .string ys]] w fun e w' => e = .returned (.int .i64 (-1)) ∧ Gr w w' := by
  go_enter Tryd.func17, Tryd.ntmps17
  go_wp2_with fail
  refine (refRight_any _ _ _ _ hx).mono ?_
  rintro e w1 ⟨rfl, rfl⟩
  go_wp2_with fail
  refine (refRight_any _ _ _ _ hy).mono ?_
  rintro e w1 ⟨rfl, rfl⟩
  go_wp2
  go_ret
  exact ⟨rfl, ((((Gr.refl w).alloc _).alloc _).alloc _).alloc _⟩

set_option maxHeartbeats 2000000 in
theorem rcmp_kgt (xk xn yk yn : Int) (xs ys : ByteArray) (w : World) (hx : xs.size ≤ maxLen) (hy : ys.size ≤ maxLen) (h1 : rightB xk xn xs = true) (h2 : rightB yk yn ys = true) (t1 : decide (xk < yk) = false) (t2 : (xk == yk) = false) (hE : eqvB (xk, xn, xs) (yk, yn, ys) = false) :
    Calls Tryd.prog 17 #[.agg #[.int .u8 xk, .int .i64 xn, .string xs], .agg #[.int .u8 yk, .int .i64 yn, .string ys]] w fun e w' => e = .returned (.int .i64 (1)) ∧ Gr w w' := by
  have heq := fun w => eqV xk xn yk yn xs ys w
  rw [hE] at heq
  have hg := eqGuardV
  clear hE
  go_enter Tryd.func17, Tryd.ntmps17
  go_wp2_with fail
  refine (refRight_any _ _ _ _ hx).mono ?_
  rintro e w1 ⟨rfl, rfl⟩
  go_wp2_with fail
  refine (refRight_any _ _ _ _ hy).mono ?_
  rintro e w1 ⟨rfl, rfl⟩
  go_wp2
  go_ret
  exact ⟨rfl, ((((Gr.refl w).alloc _).alloc _).alloc _).alloc _⟩

set_option maxHeartbeats 2000000 in
theorem rcmp_nlt (xk xn yk yn : Int) (xs ys : ByteArray) (w : World) (hx : xs.size ≤ maxLen) (hy : ys.size ≤ maxLen) (h1 : rightB xk xn xs = true) (h2 : rightB yk yn ys = true) (t1 : decide (xk < yk) = false) (t2 : (xk == yk) = true) (t3 : decide (xn < yn) = true) :
    Calls Tryd.prog 17 #[.agg #[.int .u8 xk, .int .i64 xn, .string xs], .agg #[.int .u8 yk, .int .i64 yn, .string ys]] w fun e w' => e = .returned (.int .i64 (-1)) ∧ Gr w w' := by
  go_enter Tryd.func17, Tryd.ntmps17
  go_wp2_with fail
  refine (refRight_any _ _ _ _ hx).mono ?_
  rintro e w1 ⟨rfl, rfl⟩
  go_wp2_with fail
  refine (refRight_any _ _ _ _ hy).mono ?_
  rintro e w1 ⟨rfl, rfl⟩
  go_wp2
  go_ret
  exact ⟨rfl, ((((Gr.refl w).alloc _).alloc _).alloc _).alloc _⟩

set_option maxHeartbeats 2000000 in
theorem rcmp_ngt (xk xn yk yn : Int) (xs ys : ByteArray) (w : World) (hx : xs.size ≤ maxLen) (hy : ys.size ≤ maxLen) (h1 : rightB xk xn xs = true) (h2 : rightB yk yn ys = true) (t1 : decide (xk < yk) = false) (t2 : (xk == yk) = true) (t3 : decide (xn < yn) = false) (t4 : (xn == yn) = false) (hE : eqvB (xk, xn, xs) (yk, yn, ys) = false) :
    Calls Tryd.prog 17 #[.agg #[.int .u8 xk, .int .i64 xn, .string xs], .agg #[.int .u8 yk, .int .i64 yn, .string ys]] w fun e w' => e = .returned (.int .i64 (1)) ∧ Gr w w' := by
  have heq := fun w => eqV xk xn yk yn xs ys w
  rw [hE] at heq
  have hg := eqGuardV
  clear hE
  go_enter Tryd.func17, Tryd.ntmps17
  go_wp2_with fail
  refine (refRight_any _ _ _ _ hx).mono ?_
  rintro e w1 ⟨rfl, rfl⟩
  go_wp2_with fail
  refine (refRight_any _ _ _ _ hy).mono ?_
  rintro e w1 ⟨rfl, rfl⟩
  go_wp2
  go_ret
  exact ⟨rfl, ((((Gr.refl w).alloc _).alloc _).alloc _).alloc _⟩

set_option maxHeartbeats 2000000 in
theorem rcmp_slt (xk xn yk yn : Int) (xs ys : ByteArray) (w : World) (hx : xs.size ≤ maxLen) (hy : ys.size ≤ maxLen) (h1 : rightB xk xn xs = true) (h2 : rightB yk yn ys = true) (t1 : decide (xk < yk) = false) (t2 : (xk == yk) = true) (t3 : decide (xn < yn) = false) (t4 : (xn == yn) = true) (t5 : Op.bytesLess xs.toList ys.toList = true) :
    Calls Tryd.prog 17 #[.agg #[.int .u8 xk, .int .i64 xn, .string xs], .agg #[.int .u8 yk, .int .i64 yn, .string ys]] w fun e w' => e = .returned (.int .i64 (-1)) ∧ Gr w w' := by
  go_enter Tryd.func17, Tryd.ntmps17
  go_wp2_with fail
  refine (refRight_any _ _ _ _ hx).mono ?_
  rintro e w1 ⟨rfl, rfl⟩
  go_wp2_with fail
  refine (refRight_any _ _ _ _ hy).mono ?_
  rintro e w1 ⟨rfl, rfl⟩
  go_wp2
  go_ret
  exact ⟨rfl, ((((Gr.refl w).alloc _).alloc _).alloc _).alloc _⟩

set_option maxHeartbeats 2000000 in
theorem rcmp_seq (xk xn yk yn : Int) (xs ys : ByteArray) (w : World) (hx : xs.size ≤ maxLen) (hy : ys.size ≤ maxLen) (h1 : rightB xk xn xs = true) (h2 : rightB yk yn ys = true) (t1 : decide (xk < yk) = false) (t2 : (xk == yk) = true) (t3 : decide (xn < yn) = false) (t4 : (xn == yn) = true) (t5 : Op.bytesLess xs.toList ys.toList = false) (hE : eqvB (xk, xn, xs) (yk, yn, ys) = true) :
    Calls Tryd.prog 17 #[.agg #[.int .u8 xk, .int .i64 xn, .string xs], .agg #[.int .u8 yk, .int .i64 yn, .string ys]] w fun e w' => e = .returned (.int .i64 (0)) ∧ Gr w w' := by
  have heq := fun w => eqV xk xn yk yn xs ys w
  rw [hE] at heq
  have hg := eqGuardV
  clear hE
  go_enter Tryd.func17, Tryd.ntmps17
  go_wp2_with fail
  refine (refRight_any _ _ _ _ hx).mono ?_
  rintro e w1 ⟨rfl, rfl⟩
  go_wp2_with fail
  refine (refRight_any _ _ _ _ hy).mono ?_
  rintro e w1 ⟨rfl, rfl⟩
  go_wp2
  go_ret
  exact ⟨rfl, ((((Gr.refl w).alloc _).alloc _).alloc _).alloc _⟩

set_option maxHeartbeats 2000000 in
theorem rcmp_sgt (xk xn yk yn : Int) (xs ys : ByteArray) (w : World) (hx : xs.size ≤ maxLen) (hy : ys.size ≤ maxLen) (h1 : rightB xk xn xs = true) (h2 : rightB yk yn ys = true) (t1 : decide (xk < yk) = false) (t2 : (xk == yk) = true) (t3 : decide (xn < yn) = false) (t4 : (xn == yn) = true) (t5 : Op.bytesLess xs.toList ys.toList = false) (hE : eqvB (xk, xn, xs) (yk, yn, ys) = false) :
    Calls Tryd.prog 17 #[.agg #[.int .u8 xk, .int .i64 xn, .string xs], .agg #[.int .u8 yk, .int .i64 yn, .string ys]] w fun e w' => e = .returned (.int .i64 (1)) ∧ Gr w w' := by
  have heq := fun w => eqV xk xn yk yn xs ys w
  rw [hE] at heq
  have hg := eqGuardV
  clear hE
  go_enter Tryd.func17, Tryd.ntmps17
  go_wp2_with fail
  refine (refRight_any _ _ _ _ hx).mono ?_
  rintro e w1 ⟨rfl, rfl⟩
  go_wp2_with fail
  refine (refRight_any _ _ _ _ hy).mono ?_
  rintro e w1 ⟨rfl, rfl⟩
  go_wp2
  go_ret
  exact ⟨rfl, ((((Gr.refl w).alloc _).alloc _).alloc _).alloc _⟩

theorem eqv_false {x y : Int × Int × ByteArray} (h : x ≠ y) : eqvB x y = false := by
  cases he : eqvB x y with
  | false => rfl
  | true => exact absurd ((eqvB_iff x y).1 he) h

theorem refCompare_any (xk xn yk yn : Int) (xs ys : ByteArray) (w : World) (hx : xs.size ≤ maxLen) (hy : ys.size ≤ maxLen) : Calls Tryd.prog 17 #[.agg #[.int .u8 xk, .int .i64 xn, .string xs], .agg #[.int .u8 yk, .int .i64 yn, .string ys]] w fun e w' => e = .returned (.int .i64 (cmpV (xk, xn, xs) (yk, yn, ys))) ∧ Gr w w' := by
  cases h1 : rightB xk xn xs with
  | false =>
    rw [show cmpV (xk, xn, xs) (yk, yn, ys) = 0 from if_pos (Or.inl h1)]
    exact rcmp_x xk xn yk yn xs ys w hx h1
  | true =>
    cases h2 : rightB yk yn ys with
    | false =>
      rw [show cmpV (xk, xn, xs) (yk, yn, ys) = 0 from if_pos (Or.inr h2)]
      exact rcmp_y xk xn yk yn xs ys w hx hy h1 h2
    | true =>
      rw [cmpV_right (x := (xk, xn, xs)) (y := (yk, yn, ys)) h1 h2]
      show Calls _ _ _ _ fun e w' => e = .returned (.int .i64 (or3 (cmp3 xk yk) (cmp3 xn yn) (Lib.compareBytes xs.data.toList ys.data.toList))) ∧ Gr w w'
      rcases (by omega : xk < yk ∨ yk < xk ∨ xk = yk) with h | h | h
      · rw [cmp3_lt h]
        exact rcmp_klt xk xn yk yn xs ys w hx hy h1 h2 (decide_eq_true h)
      · rw [cmp3_gt h]
        exact rcmp_kgt xk xn yk yn xs ys w hx hy h1 h2 (decide_eq_false (by omega)) (by simp; omega) (eqv_false (by intro e; cases e; omega))
      · have t1 : decide (xk < yk) = false := decide_eq_false (by omega)
        have t2 : (xk == yk) = true := by simp [h]
        rw [show cmp3 xk yk = 0 from by rw [h]; exact cmp3_eq _]
        rcases (by omega : xn < yn ∨ yn < xn ∨ xn = yn) with hn | hn | hn
        · rw [cmp3_lt hn]
          exact rcmp_nlt xk xn yk yn xs ys w hx hy h1 h2 t1 t2 (decide_eq_true hn)
        · rw [cmp3_gt hn]
          exact rcmp_ngt xk xn yk yn xs ys w hx hy h1 h2 t1 t2 (decide_eq_false (by omega)) (by simp; omega) (eqv_false (by intro e; cases e; omega))
        · have t3 : decide (xn < yn) = false := decide_eq_false (by omega)
          have t4 : (xn == yn) = true := by simp [hn]
          rw [show cmp3 xn yn = 0 from by rw [hn]; exact cmp3_eq _, cmpBytes_spec]
          have hxl : xs.toList = xs.data.toList := ByteArray.toList_eq _
          have hyl : ys.toList = ys.data.toList := ByteArray.toList_eq _
          cases hb : Op.bytesLess xs.data.toList ys.data.toList with
          | true =>
            rw [if_pos rfl]
            exact rcmp_slt xk xn yk yn xs ys w hx hy h1 h2 t1 t2 t3 t4 (by rw [hxl, hyl]; exact hb)
          | false =>
            rw [if_neg (by simp)]
            by_cases he : xs.data.toList = ys.data.toList
            · rw [if_pos he]
              exact rcmp_seq xk xn yk yn xs ys w hx hy h1 h2 t1 t2 t3 t4 (by rw [hxl, hyl]; exact hb) (by unfold eqvB; simp [h, hn, hxl, hyl, he])
            · rw [if_neg he]
              exact rcmp_sgt xk xn yk yn xs ys w hx hy h1 h2 t1 t2 t3 t4 (by rw [hxl, hyl]; exact hb) (eqv_false (by intro e; cases e; exact he rfl))
end Go.Proofs.YtcmbedopmkodmaaDoor
