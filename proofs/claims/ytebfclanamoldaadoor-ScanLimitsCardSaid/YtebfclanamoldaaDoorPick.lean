/- A number brought into a range. -/
import Derived.Test.YtebfclanamoldaaDoorEqL
namespace Go.Proofs.YtebfclanamoldaaDoor
open Go.RowKit

/-- A number from 0 to n - 1. -/
def pickI (x : Int) (n : Nat) : Nat := (x % (n : Int)).toNat
theorem pickI_lt (x : Int) (n : Nat) (h : 0 < n) : pickI x n < n := by
  have h1 := Int.emod_nonneg x (b := (n : Int)) (by omega)
  have h2 := Int.emod_lt_of_pos x (b := (n : Int)) (by omega)
  unfold pickI
  omega

set_option maxRecDepth 100000 in
theorem pick_any (x : Int) (n : Nat) (hn : 0 < n) (hn2 : n ≤ 9223372036854775807) (w : World) :
    Calls Tryd.prog 16 #[.int .i64 x, .int .i64 n] w fun e w' => e = .returned (.int .i64 ((pickI x n : Nat) : Int)) ∧ w = w' := by
  have hp : ((pickI x n : Nat) : Int) = x % (n : Int) := by
    unfold pickI
    have := Int.emod_nonneg x (b := (n : Int)) (by omega)
    omega
  have e0 := Int.emod_nonneg x (b := (n : Int)) (by omega)
  have e1 := Int.emod_lt_of_pos x (b := (n : Int)) (by omega)
  have hd : decide ((n : Int) < 1) = false := by simp; omega
  have hd' : decide (n < 1) = false := by simp; omega
  have hnz : ((n : Int) == 0) = false := by simp; omega
  have HP := Lib.hid hp
  clear hp
  by_cases hP : 0 ≤ x ∨ (n : Int) ∣ x
  · have ht : x.tmod (n : Int) = x % (n : Int) := by rw [Int.tmod_eq_emod, if_pos hP]; simp
    generalize x % (n : Int) = r at HP e0 e1 ht
    have hw : IntKind.i64.wrap r = r := IntWalk.i64_in _ (by omega)
    have hx' : decide (r < 0) = false := by simp; omega
    clear hP
    go_enter Tryd.func16, Tryd.ntmps16
    go_wp2_with fail
    go_ret
    exact ⟨by rw [HP.out]; rfl, rfl⟩
  · have ht : x.tmod (n : Int) = x % (n : Int) - (n : Int) := by rw [Int.tmod_eq_emod, if_neg hP]; simp
    generalize x % (n : Int) = r at HP e0 e1 ht
    have hw : IntKind.i64.wrap (r - (n : Int)) = r - (n : Int) := IntWalk.i64_in _ (by omega)
    have hx' : decide (r - (n : Int) < 0) = true := by simp; omega
    clear hP
    go_enter Tryd.func16, Tryd.ntmps16
    go_wp2_with fail
    go_ret
    exact ⟨by rw [HP.out]; first | rfl | exact congrArg (fun z => Ending.returned (.int .i64 z)) (by omega), rfl⟩
end Go.Proofs.YtebfclanamoldaaDoor
