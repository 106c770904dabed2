/- slices.SortFunc of matches: rows of twelve at most, and rows without a match. -/
import Derived.Test.YtlkmabnjmklkpaaDoorSort14
namespace Go.Proofs.YtlkmabnjmklkpaaDoor
open Go.RowKit Go.Sort Go.Lib

set_option maxRecDepth 100000 in
set_option maxHeartbeats 4000000 in
/-- What the insertion sort tells, slices.SortFunc tells. -/
theorem sortFunc_small (ao : Option Addr) (n cap : Nat) (fv : Value) (w : World) (hn : n ≤ 12) (Q : World → Prop)
    (hI : Calls Tryd.prog 50 #[.slice ao n cap, .int .i64 0, .int .i64 n, fv] w fun e w' => e = .returned (.tuple #[]) ∧ Q w') :
    Calls Tryd.prog 32 #[.slice ao n cap, fv] w fun e w' => e = .returned (.tuple #[]) ∧ Q w' := by
  have KI := Lib.hid hI
  clear hI
  have hp : ∀ lim : Int, Calls Tryd.prog 43 #[.slice ao n cap, .int .i64 0, .int .i64 n, .int .i64 lim, fv] w fun e w' => e = .returned (.tuple #[]) ∧ Q w' := fun lim => by
    have h12 : decide ((n : Int) ≤ 12) = true := by simp; omega
    have h12' : decide (n ≤ 12) = true := by simp; omega
    go_enter Tryd.func43, Tryd.ntmps43
    go_wp2_with fail
    refine wp_loop_rounds 1 ?_
    rw [rounds_succ]
    go_wp2_with (go_at_call 50; refine KI.out.mono ?_; rintro e w1 ⟨rfl, hq⟩; have HQ := Lib.hid hq; clear hq)
    (try simp only [Exit.inBlock, Exit.then]); refine bodyPost_ret (results_none rfl _ _ _) rfl ?_
    exact ⟨rfl, HQ.out⟩
  have KP := Lib.hid hp
  clear hp KI
  have wr : IntKind.u64.wrap (n : Int) = n := by simp [IntKind.wrap, IntKind.bits, IntKind.signed]; omega
  have KL := Lib.hid (Tryd.bits_Len (n : Int) w (by omega) (by omega))
  go_enter Tryd.func32, Tryd.ntmps32
  go_wp2_with (first | (go_at_call 44; refine KL.out.mono ?_; rintro e w1 ⟨rfl, rfl⟩) | (go_at_call 43; refine (KP.out _).mono ?_; rintro e w1 ⟨rfl, hq⟩; have HQ := Lib.hid hq; clear hq))
  go_end0
  exact ⟨rfl, HQ.out⟩

set_option maxRecDepth 100000 in
set_option maxHeartbeats 4000000 in
theorem insM_none (ao : Option Addr) (cap : Nat) (fv : Value) (w : World) :
    Calls Tryd.prog 50 #[.slice ao 0 cap, .int .i64 0, .int .i64 (0 : Nat), fv] w fun e w' => e = .returned (.tuple #[]) ∧ w' = w := by
  go_enter Tryd.func50, Tryd.ntmps50
  go_wp2
  refine wp_loop_rounds 1 ?_
  rw [rounds_succ]
  go_wp2
  go_end0
  exact ⟨rfl, rfl⟩
end Go.Proofs.YtlkmabnjmklkpaaDoor
