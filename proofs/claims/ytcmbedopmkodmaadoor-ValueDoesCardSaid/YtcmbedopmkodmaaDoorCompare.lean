/- Compare on value's side. -/
import Derived.Test.YtcmbedopmkodmaaDoorCmp
namespace Go.Proofs.YtcmbedopmkodmaaDoor
open Go.RowKit

def cmpV (x y : Int × Int × ByteArray) : Int := if rightB x.1 x.2.1 x.2.2 = false ∨ rightB y.1 y.2.1 y.2.2 = false then 0 else or3 (cmp3 x.1 y.1) (cmp3 x.2.1 y.2.1) (Lib.compareBytes x.2.2.data.toList y.2.2.data.toList)

theorem cell_alloc' (w : World) (cs : Array Value) (t : TypeId) (j : Nat) : (w.alloc (.cells cs t)).cell? ⟨w.heap.size, j, none⟩ = cs[j]? := by
  show (match (w.heap.push (Obj.cells cs t))[w.heap.size]? with | some (.cells c _ _) => if (none : Option _).isSome then none else c[j]? | _ => none) = _
  rw [Array.getElem?_push_size]
  rfl

theorem strCmp (a b : ByteArray) (w : World) : Calls Tryd.prog 39 #[.string a, .string b] w fun e w' => e = .returned (.int .i64 (Lib.compareBytes a.data.toList b.data.toList)) ∧ w = w' :=
  (Tryd.strings_Compare a b w).mono fun _ _ ⟨h, h'⟩ => ⟨h, h'.symm⟩

set_option maxHeartbeats 1000000 in
theorem compare_x (xk xn yk yn : Int) (xs ys : ByteArray) (w : World) (hx : xs.size ≤ maxLen) (h1 : rightB xk xn xs = false) :
    Calls Tryd.prog 16 #[.agg #[.int .u8 xk, .int .i64 xn, .string xs], .agg #[.int .u8 yk, .int .i64 yn, .string ys]] w fun e w' => e = .returned (.int .i64 0) ∧ Gr w w' := by
  go_enter Tryd.func16, Tryd.ntmps16
  go_wp2_with fail
  refine (right_any _ _ _ _ hx).mono ?_
  rintro e w1 ⟨rfl, rfl⟩
  go_wp2
  go_ret
  exact ⟨rfl, (((Gr.refl w).alloc _).alloc _).alloc _⟩

set_option maxHeartbeats 1000000 in
theorem compare_y (xk xn yk yn : Int) (xs ys : ByteArray) (w : World) (hx : xs.size ≤ maxLen) (hy : ys.size ≤ maxLen) (h1 : rightB xk xn xs = true) (h2 : rightB yk yn ys = false) :
    Calls Tryd.prog 16 #[.agg #[.int .u8 xk, .int .i64 xn, .string xs], .agg #[.int .u8 yk, .int .i64 yn, .string ys]] w fun e w' => e = .returned (.int .i64 0) ∧ Gr w w' := by
  go_enter Tryd.func16, Tryd.ntmps16
  go_wp2_with fail
  refine (right_any _ _ _ _ hx).mono ?_
  rintro e w1 ⟨rfl, rfl⟩
  go_wp2_with fail
  refine (right_any _ _ _ _ hy).mono ?_
  rintro e w1 ⟨rfl, rfl⟩
  go_wp2
  go_ret
  exact ⟨rfl, ((((Gr.refl w).alloc _).alloc _).alloc _).alloc _⟩

set_option maxHeartbeats 4000000 in
theorem compare_xy (xk xn yk yn : Int) (xs ys : ByteArray) (w : World) (hx : xs.size ≤ maxLen) (hy : ys.size ≤ maxLen) (h1 : rightB xk xn xs = true) (h2 : rightB yk yn ys = true) :
    Calls Tryd.prog 16 #[.agg #[.int .u8 xk, .int .i64 xn, .string xs], .agg #[.int .u8 yk, .int .i64 yn, .string ys]] w fun e w' => e = .returned (.int .i64 (or3 (cmp3 xk yk) (cmp3 xn yn) (Lib.compareBytes xs.data.toList ys.data.toList))) ∧ Gr w w' := by
  have HK := Lib.hid (cmpKind_any xk yk)
  have HI := Lib.hid (cmpInt_any xn yn)
  have HS := Lib.hid (strCmp xs ys)
  generalize cmp3 xk yk = p at HK ⊢
  generalize cmp3 xn yn = q at HI ⊢
  generalize Lib.compareBytes xs.data.toList ys.data.toList = r at HS ⊢
  go_enter Tryd.func16, Tryd.ntmps16
  go_wp2_with fail
  refine (right_any _ _ _ _ hx).mono ?_
  rintro e w1 ⟨rfl, rfl⟩
  go_wp2_with fail
  refine (right_any _ _ _ _ hy).mono ?_
  rintro e w1 ⟨rfl, rfl⟩
  go_wp2_with fail
  obtain ⟨w0, hw0⟩ : ∃ w0, w0 = (((w.alloc (.cells #[.int .u8 xk, .int .i64 xn, .string xs] 29)).alloc (.cells #[.int .u8 yk, .int .i64 yn, .string ys] 29)).alloc (.cells #[.int .u8 xk, .int .i64 xn, .string xs] 29)).alloc (.cells #[.int .u8 yk, .int .i64 yn, .string ys] 29) := ⟨_, rfl⟩
  rw [← hw0]
  have a1 : w0.cell? ⟨w.heap.size, 0, none⟩ = some (.int .u8 xk) := by rw [hw0]; go_simp
  have a2 : w0.cell? ⟨w.heap.size, 1, none⟩ = some (.int .i64 xn) := by rw [hw0]; go_simp
  have a3 : w0.cell? ⟨w.heap.size, 2, none⟩ = some (.string xs) := by rw [hw0]; go_simp
  have b1 : w0.cell? ⟨w.heap.size + 1, 0, none⟩ = some (.int .u8 yk) := by rw [hw0]; go_simp
  have b2 : w0.cell? ⟨w.heap.size + 1, 1, none⟩ = some (.int .i64 yn) := by rw [hw0]; go_simp
  have b3 : w0.cell? ⟨w.heap.size + 1, 2, none⟩ = some (.string ys) := by rw [hw0]; go_simp
  have l1 : w.heap.size < w0.heap.size := by rw [hw0]; simp; omega
  have l2 : w.heap.size + 1 < w0.heap.size := by rw [hw0]; simp
  have HG : Hid (Gr w w0) := by rw [hw0]; exact ((((Gr.refl w).alloc _).alloc _).alloc _).alloc _
  clear hw0
  obtain ⟨ba, hba⟩ : ∃ b, b = w.heap.size := ⟨_, rfl⟩
  rw [← hba] at a1 a2 a3 b1 b2 b3 l1 l2 ⊢
  clear hba
  have n1 : ba ≠ w0.heap.size := by omega
  have n2 : ba + 1 ≠ w0.heap.size := by omega
  go_region_held3 (fun w' => w'.cell? ⟨ba, 0, none⟩ = some (.int .u8 xk) ∧ w'.cell? ⟨ba, 1, none⟩ = some (.int .i64 xn) ∧ w'.cell? ⟨ba, 2, none⟩ = some (.string xs) ∧ w'.cell? ⟨ba + 1, 0, none⟩ = some (.int .u8 yk) ∧ w'.cell? ⟨ba + 1, 1, none⟩ = some (.int .i64 yn) ∧ w'.cell? ⟨ba + 1, 2, none⟩ = some (.string ys)) (go_keep) (first | (go_at_call 37; refine (HK.out _).mono ?_; rintro e w' ⟨rfl, rfl⟩) | (go_at_call 38; refine (HI.out _).mono ?_; rintro e w' ⟨rfl, rfl⟩) | (go_at_call 39; refine (HS.out _).mono ?_; rintro e w' ⟨rfl, rfl⟩) | (go_at_call 36; refine (or_any _ p q r _ ?_ ?_ ?_).mono ?_; exact cell_alloc' _ _ _ _; exact cell_alloc' _ _ _ _; exact cell_alloc' _ _ _ _; rintro e w' ⟨rfl, rfl⟩))
  go_wp2
  go_ret
  exact ⟨rfl, (HG.out.alloc _).drew⟩

theorem compare_any (xk xn yk yn : Int) (xs ys : ByteArray) (w : World) (hx : xs.size ≤ maxLen) (hy : ys.size ≤ maxLen) : Calls Tryd.prog 16 #[.agg #[.int .u8 xk, .int .i64 xn, .string xs], .agg #[.int .u8 yk, .int .i64 yn, .string ys]] w fun e w' => e = .returned (.int .i64 (cmpV (xk, xn, xs) (yk, yn, ys))) ∧ Gr w w' := by
  cases h1 : rightB xk xn xs with
  | false =>
    rw [show cmpV (xk, xn, xs) (yk, yn, ys) = 0 from if_pos (Or.inl h1)]
    exact compare_x xk xn yk yn xs ys w hx h1
  | true =>
    cases h2 : rightB yk yn ys with
    | false =>
      rw [show cmpV (xk, xn, xs) (yk, yn, ys) = 0 from if_pos (Or.inr h2)]
      exact compare_y xk xn yk yn xs ys w hx hy h1 h2
    | true =>
      rw [show cmpV (xk, xn, xs) (yk, yn, ys) = or3 (cmp3 xk yk) (cmp3 xn yn) (Lib.compareBytes xs.data.toList ys.data.toList) from if_neg (by rintro (h | h); (exact absurd (h1.symm.trans h) (by simp)); (exact absurd (h2.symm.trans h) (by simp)))]
      exact compare_xy xk xn yk yn xs ys w hx hy h1 h2

theorem cmpBytes_spec : ∀ a b : List UInt8, Lib.compareBytes a b = if Op.bytesLess a b = true then -1 else if a = b then 0 else 1
  | [], [] => rfl
  | [], _ :: _ => rfl
  | _ :: _, [] => rfl
  | a :: x, b :: y => by
    simp only [Lib.compareBytes, Op.bytesLess]
    by_cases h1 : a < b
    · rw [if_pos h1]; simp [h1]
    · rw [if_neg h1]
      by_cases h2 : b < a
      · rw [if_pos h2]
        have hne : a ≠ b := by rintro rfl; exact h1 h2
        simp [h1, hne]
      · rw [if_neg h2]
        have he : a = b := by
          rw [UInt8.lt_iff_toNat_lt] at h1 h2
          exact UInt8.toNat_inj.1 (by omega)
        subst he
        rw [cmpBytes_spec x y]
        simp [h1]
end Go.Proofs.YtcmbedopmkodmaaDoor
