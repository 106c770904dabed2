/- The closures of package value's two maps, each by its own walk. -/
import Derived.Test.YtkbkkhfmejpbeaaEq
namespace Go.Proofs.Ytkbkkhfmejpbeaa
open Go.RowKit

theorem ans1 (b off c : Nat) (x1 x2 y1 y2 : Int) (x3 y3 : ByteArray) (w : World) (hx : At w b off (x1, x2, x3)) (hy : At w b (off + 3) (y1, y2, y3)) :
    Calls Try.prog 65 #[.slice (some ⟨b, off, none⟩) 2 c] w fun e w' => e = .returned (.bool (eqvB (x1, x2, x3) (y1, y2, y3))) ∧ Below w.heap.size w w' := by
  obtain ⟨hx1, hx2, hx3⟩ := hx
  obtain ⟨hy1, hy2, hy3⟩ := hy
  have heq := fun w => eqV x1 x2 y1 y2 x3 y3 w
  have hg := eqGuardV
  go_enter Try.func65, Try.ntmps65
  go_wp2
  go_quiet (fail)
  go_wp2
  go_ret
  exact ⟨rfl, below_drewN (Below.refl _ _) _⟩

theorem ans2 (b off c : Nat) (x1 x2 y1 y2 : Int) (x3 y3 : ByteArray) (w : World) (hx : At w b off (x1, x2, x3)) (hy : At w b (off + 3) (y1, y2, y3)) :
    Calls Try.prog 66 #[.slice (some ⟨b, off, none⟩) 2 c] w fun e w' => e = .returned (.bool (!eqvB (x1, x2, x3) (y1, y2, y3))) ∧ Below w.heap.size w w' := by
  obtain ⟨hx1, hx2, hx3⟩ := hx
  obtain ⟨hy1, hy2, hy3⟩ := hy
  have heq := fun w => neV x1 x2 y1 y2 x3 y3 w
  have hg := eqGuardV
  go_enter Try.func66, Try.ntmps66
  go_wp2
  go_quiet (fail)
  go_wp2
  go_ret
  exact ⟨rfl, below_drewN (Below.refl _ _) _⟩

theorem ans3 (b off c : Nat) (x1 x2 y1 y2 : Int) (x3 y3 : ByteArray) (w : World) (hx : At w b off (x1, x2, x3)) (hy : At w b (off + 3) (y1, y2, y3)) :
    Calls Try.prog 67 #[.slice (some ⟨b, off, none⟩) 2 c] w fun e w' => e = .returned (.bool (decide (x2 < y2))) ∧ Below w.heap.size w w' := by
  obtain ⟨hx1, hx2, hx3⟩ := hx
  obtain ⟨hy1, hy2, hy3⟩ := hy
  go_enter Try.func67, Try.ntmps67
  go_wp2
  go_quiet (fail)
  go_wp2
  go_ret
  exact ⟨rfl, below_drewN (Below.refl _ _) _⟩

theorem ans4 (b off c : Nat) (x1 x2 y1 y2 : Int) (x3 y3 : ByteArray) (w : World) (hx : At w b off (x1, x2, x3)) (hy : At w b (off + 3) (y1, y2, y3)) :
    Calls Try.prog 68 #[.slice (some ⟨b, off, none⟩) 2 c] w fun e w' => e = .returned (.bool (decide (x2 ≤ y2))) ∧ Below w.heap.size w w' := by
  obtain ⟨hx1, hx2, hx3⟩ := hx
  obtain ⟨hy1, hy2, hy3⟩ := hy
  go_enter Try.func68, Try.ntmps68
  go_wp2
  go_quiet (fail)
  go_wp2
  go_ret
  exact ⟨rfl, below_drewN (Below.refl _ _) _⟩

set_option maxHeartbeats 400000 in
theorem ans5 (b off c : Nat) (x1 x2 y1 y2 : Int) (x3 y3 : ByteArray) (w : World) (hx : At w b off (x1, x2, x3)) (hy : At w b (off + 3) (y1, y2, y3)) (hl : b < w.heap.size) :
    Calls Try.prog 69 #[.slice (some ⟨b, off, none⟩) 2 c] w fun e w' => e = .returned (.bool (x2 != 0 && y2 != 0)) ∧ Below w.heap.size w w' := by
  have hyl := Lib.hid (fun w1 (h : Below w.heap.size w w1) => hy.later h hl)
  clear hy
  obtain ⟨hx1, hx2, hx3⟩ := hx
  cases h : (x2 != 0) with
  | false =>
    go_enter Try.func69, Try.ntmps69
    go_wp2_with fail
    refine (holds_any _ _ _ _).mono ?_
    rintro e w1 ⟨rfl, hb1⟩
    go_wp2
    go_ret
    exact ⟨rfl, hb1⟩
  | true =>
    go_enter Try.func69, Try.ntmps69
    go_wp2_with fail
    refine (holds_any _ _ _ _).mono ?_
    rintro e w1 ⟨rfl, hb1⟩
    obtain ⟨hy1, hy2, hy3⟩ := hyl.out w1 hb1
    go_wp2_with fail
    refine (holds_any _ _ _ _).mono ?_
    rintro e w2 ⟨rfl, hb2⟩
    go_wp2
    go_ret
    exact ⟨rfl, hb1.trans (hb2.mono hb1.size)⟩

set_option maxHeartbeats 400000 in
theorem ans6 (b off c : Nat) (x1 x2 y1 y2 : Int) (x3 y3 : ByteArray) (w : World) (hx : At w b off (x1, x2, x3)) (hy : At w b (off + 3) (y1, y2, y3)) (hl : b < w.heap.size) :
    Calls Try.prog 71 #[.slice (some ⟨b, off, none⟩) 2 c] w fun e w' => e = .returned (.bool (x2 != 0 || y2 != 0)) ∧ Below w.heap.size w w' := by
  have hyl := Lib.hid (fun w1 (h : Below w.heap.size w w1) => hy.later h hl)
  clear hy
  obtain ⟨hx1, hx2, hx3⟩ := hx
  cases h : (x2 != 0) with
  | true =>
    go_enter Try.func71, Try.ntmps71
    go_wp2_with fail
    refine (holds_any _ _ _ _).mono ?_
    rintro e w1 ⟨rfl, hb1⟩
    go_wp2
    go_ret
    exact ⟨rfl, hb1⟩
  | false =>
    go_enter Try.func71, Try.ntmps71
    go_wp2_with fail
    refine (holds_any _ _ _ _).mono ?_
    rintro e w1 ⟨rfl, hb1⟩
    obtain ⟨hy1, hy2, hy3⟩ := hyl.out w1 hb1
    go_wp2_with fail
    refine (holds_any _ _ _ _).mono ?_
    rintro e w2 ⟨rfl, hb2⟩
    go_wp2
    go_ret
    exact ⟨rfl, hb1.trans (hb2.mono hb1.size)⟩

theorem ans7 (b off c : Nat) (x1 x2 : Int) (x3 : ByteArray) (w : World) (hx : At w b off (x1, x2, x3)) :
    Calls Try.prog 72 #[.slice (some ⟨b, off, none⟩) 1 c] w fun e w' => e = .returned (.bool (!(x2 != 0))) ∧ Below w.heap.size w w' := by
  obtain ⟨hx1, hx2, hx3⟩ := hx
  go_enter Try.func72, Try.ntmps72
  go_wp2_with fail
  refine (holds_any _ _ _ _).mono ?_
  rintro e w1 ⟨rfl, hb1⟩
  go_wp2
  go_ret
  exact ⟨rfl, hb1⟩

theorem res1 (b off c : Nat) (x1 x2 y1 y2 : Int) (x3 y3 : ByteArray) (w : World) (hx : At w b off (x1, x2, x3)) (hy : At w b (off + 3) (y1, y2, y3)) (h1 : In64 x2) (h2 : In64 y2) :
    Calls Try.prog 73 #[.slice (some ⟨b, off, none⟩) 2 c] w fun e w' => e = .returned (.tuple #[.int .i64 (wrap64 (x2 + y2)), .bool (fitB (x2 + y2))]) ∧ Below w.heap.size w w' := by
  obtain ⟨hx1, hx2, hx3⟩ := hx
  obtain ⟨hy1, hy2, hy3⟩ := hy
  have hc := fun w => sum_any x2 y2 w h1 h2
  generalize wrap64 (x2 + y2) = n at hc ⊢
  generalize fitB (x2 + y2) = r at hc ⊢
  clear h1 h2
  go_enter Try.func73, Try.ntmps73
  go_wp2
  go_quiet ((go_at_call 74; exact Calls.quiet_of_same ((hc _).mono fun _ _ ⟨h, h'⟩ => ⟨h, h'.symm⟩)))
  go_wp2
  go_ret2
  exact ⟨rfl, below_drewN (Below.refl _ _) _⟩

theorem res2 (b off c : Nat) (x1 x2 y1 y2 : Int) (x3 y3 : ByteArray) (w : World) (hx : At w b off (x1, x2, x3)) (hy : At w b (off + 3) (y1, y2, y3)) (h1 : In64 x2) (h2 : In64 y2) :
    Calls Try.prog 75 #[.slice (some ⟨b, off, none⟩) 2 c] w fun e w' => e = .returned (.tuple #[.int .i64 (wrap64 (x2 - y2)), .bool (fitB (x2 - y2))]) ∧ Below w.heap.size w w' := by
  obtain ⟨hx1, hx2, hx3⟩ := hx
  obtain ⟨hy1, hy2, hy3⟩ := hy
  have hc := fun w => difference_any x2 y2 w h1 h2
  generalize wrap64 (x2 - y2) = n at hc ⊢
  generalize fitB (x2 - y2) = r at hc ⊢
  clear h1 h2
  go_enter Try.func75, Try.ntmps75
  go_wp2
  go_quiet ((go_at_call 76; exact Calls.quiet_of_same ((hc _).mono fun _ _ ⟨h, h'⟩ => ⟨h, h'.symm⟩)))
  go_wp2
  go_ret2
  exact ⟨rfl, below_drewN (Below.refl _ _) _⟩

theorem res3 (b off c : Nat) (x1 x2 y1 y2 : Int) (x3 y3 : ByteArray) (w : World) (hx : At w b off (x1, x2, x3)) (hy : At w b (off + 3) (y1, y2, y3)) (h1 : In64 x2) (h2 : In64 y2) :
    Calls Try.prog 77 #[.slice (some ⟨b, off, none⟩) 2 c] w fun e w' => e = .returned (.tuple #[.int .i64 (wrap64 (x2 * y2)), .bool (fitB (x2 * y2))]) ∧ Below w.heap.size w w' := by
  obtain ⟨hx1, hx2, hx3⟩ := hx
  obtain ⟨hy1, hy2, hy3⟩ := hy
  have hc := fun w => product_any x2 y2 w h1 h2
  generalize wrap64 (x2 * y2) = n at hc ⊢
  generalize fitB (x2 * y2) = r at hc ⊢
  clear h1 h2
  go_enter Try.func77, Try.ntmps77
  go_wp2
  go_quiet ((go_at_call 78; exact Calls.quiet_of_same ((hc _).mono fun _ _ ⟨h, h'⟩ => ⟨h, h'.symm⟩)))
  go_wp2
  go_ret2
  exact ⟨rfl, below_drewN (Below.refl _ _) _⟩

theorem res4 (b off c : Nat) (x1 x2 : Int) (x3 : ByteArray) (w : World) (hx : At w b off (x1, x2, x3)) (h1 : In64 x2) :
    Calls Try.prog 79 #[.slice (some ⟨b, off, none⟩) 1 c] w fun e w' => e = .returned (.tuple #[.int .i64 (wrap64 (-x2)), .bool (fitB (-x2))]) ∧ Below w.heap.size w w' := by
  obtain ⟨hx1, hx2, hx3⟩ := hx
  have hc := fun w => difference_any 0 x2 w ⟨by omega, by omega⟩ h1
  rw [Int.zero_sub] at hc
  generalize wrap64 (-x2) = n at hc ⊢
  generalize fitB (-x2) = r at hc ⊢
  clear h1
  go_enter Try.func79, Try.ntmps79
  go_wp2_with (go_at_call 76; refine (hc _).mono ?_; rintro e w' ⟨rfl, rfl⟩)
  go_ret2
  exact ⟨rfl, Below.refl _ _⟩
end Go.Proofs.Ytkbkkhfmejpbeaa
