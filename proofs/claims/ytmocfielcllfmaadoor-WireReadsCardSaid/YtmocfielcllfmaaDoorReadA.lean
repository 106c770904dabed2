/- read: both readers tell the same, in whatever form. -/
import Derived.Test.YtmocfielcllfmaaDoorRefP
namespace Go.Proofs.YtmocfielcllfmaaDoor
open Go.RowKit

theorem rdone_any (D B : Nat) (ao : Option Addr) (l0 : List UInt8) (c : Nat) (s : St) (w : World) (h : RfS w D B ao l0 c s) :
    Calls Tryd.prog 16 #[.pointer (some ⟨D, 0, none⟩)] w fun e w' => e = .returned (.bool (doneB s)) ∧ ∃ n, w' = w.drewN n := by
  obtain ⟨k, b, h1, h2, rfl⟩ := h.ex
  have mixed : Tryd.prog.follows .mixedOrders = true := by kernel_rfl
  have c0 : w.cell? ⟨D, 0, none⟩ = some (.slice ao l0.length c) := Lib.cell_of_heap h1 0
  have c1 : w.cell? ⟨D, 1, none⟩ = some (.int .i64 k) := Lib.cell_of_heap h1 1
  have c2 : w.cell? ⟨D, 2, none⟩ = some (.bool b) := Lib.cell_of_heap h1 2
  clear h h1
  cases b with
  | true =>
    go_enter Tryd.func16, Tryd.ntmps16
    go_wp2_with fail
    go_quiet (fail)
    go_wp2
    go_ret
    exact ⟨rfl, _, rfl⟩
  | false =>
    by_cases hk : k = l0.length
    · subst hk
      have hd : doneB (if (false : Bool) = true then badS else (l0.drop l0.length, false)) = true := by simp [doneB]
      rw [hd]
      clear hd
      go_enter Tryd.func16, Tryd.ntmps16
      go_wp2_with fail
      go_quiet (fail)
      go_wp2
      go_ret
      exact ⟨rfl, _, rfl⟩
    · have hd : doneB (if (false : Bool) = true then badS else (l0.drop k, false)) = false := by
        have : (l0.drop k).isEmpty = false := by
          cases he : l0.drop k with
          | nil => have := List.drop_eq_nil_iff.1 he; omega
          | cons x y => rfl
        simp [doneB, this]
      rw [hd]
      have hb : ((k : Int) == (l0.length : Int)) = false := by simp; omega
      have hb2 : (k == l0.length) = false := by simp; omega
      clear hd
      go_enter Tryd.func16, Tryd.ntmps16
      go_wp2_with fail
      go_quiet (fail)
      clear hb hb2
      go_wp2
      go_ret
      exact ⟨rfl, _, rfl⟩

theorem pick_all (x : Int) : ∃ p : Nat, p < 8 ∧ ∀ w, Calls Tryd.prog 47 #[.int .i64 x, .int .i64 8] w fun e w' => e = .returned (.int .i64 p) ∧ w = w' := by
  have h1 := Int.tmod_lt_of_pos x (show (0 : Int) < 8 by omega)
  have h2 : -8 < x.tmod 8 := by
    rcases Int.lt_or_le x 0 with h | h
    · have := Int.tmod_lt_of_pos (-x) (show (0 : Int) < 8 by omega)
      rw [Int.neg_tmod] at this
      omega
    · have := Int.tmod_nonneg 8 h
      omega
  generalize hy : x.tmod 8 = y at h1 h2
  by_cases hneg : y < 0
  · have hd : decide (y < 0) = true := by simp [hneg]
    have hs : IntKind.i64.wrap (y + 8) = y + 8 := IntWalk.i64_in _ (by omega)
    refine ⟨(y + 8).toNat, by omega, fun w => ?_⟩
    go_enter Tryd.func47, Tryd.ntmps47
    go_wp2
    go_ret
    exact ⟨congrArg (fun v => Ending.returned (.int .i64 v)) (by omega), rfl⟩
  · have hd : decide (y < 0) = false := by simp; omega
    refine ⟨y.toNat, by omega, fun w => ?_⟩
    go_enter Tryd.func47, Tryd.ntmps47
    go_wp2
    go_ret
    exact ⟨congrArg (fun v => Ending.returned (.int .i64 v)) (by omega), rfl⟩
end Go.Proofs.YtmocfielcllfmaaDoor
