/- Two rows of tokens, put side by side. -/
import Derived.Test.YtebfclanamoldaaDoorRefTokens
import Derived.Test.YtebfclanamoldaaDoorEqL
namespace Go.Proofs.YtebfclanamoldaaDoor
open Go.RowKit

theorem sameLexes_none (ao bo : Option Addr) (ca cb : Nat) (w : World) :
    Calls Tryd.prog 11 #[.slice ao 0 ca, .slice bo 0 cb] w fun e w' => e = .returned (.bool true) ∧ ∃ m, w.drewN m = w' := by
  go_enter Tryd.func11, Tryd.ntmps11
  go_wp2
  go_loopw [5] (fun i wr => i = .int .i64 0 ∧ wr = w) (fun i _ => 0 - (intOf i).toNat)
  case atStart => exact ⟨rfl, rfl⟩
  case round =>
    obtain ⟨rfl, rfl⟩ := hrel
    go_wp2
    go_ret
    exact ⟨rfl, 0, rfl⟩

set_option maxRecDepth 100000 in
set_option maxHeartbeats 1000000 in
theorem sameLexes_any (ys : List Y) (ga gb ca cb : Nat) (hn : ys.length ≤ 100000) (w : World)
    (ha : ∀ (j : Nat) (u : Value), (lexCs ys)[j]? = some u → w.cell? ⟨ga, j, none⟩ = some u) (hb : ∀ (j : Nat) (u : Value), (lexCs ys)[j]? = some u → w.cell? ⟨gb, j, none⟩ = some u) :
    Calls Tryd.prog 11 #[.slice (some ⟨ga, 0, none⟩) ys.length ca, .slice (some ⟨gb, 0, none⟩) ys.length cb] w fun e w' => e = .returned (.bool true) ∧ ∃ m, w.drewN m = w' := by
  have HA := Lib.hid ha
  have HB := Lib.hid hb
  have hq := neL
  have hg := eqGuardL
  obtain ⟨n, hn'⟩ : ∃ n, ys.length = n := ⟨_, rfl⟩
  have HNL := Lib.hid hn'
  rw [hn'] at hn ⊢
  clear ha hb hn'
  go_enter Tryd.func11, Tryd.ntmps11
  go_wp2
  go_loopw [5] (fun i wr => ∃ k m : Nat, k ≤ n ∧ i = .int .i64 k ∧ wr = w.drewN m) (fun i _ => n - (intOf i).toNat)
  case atStart => exact ⟨0, 0, Nat.zero_le _, rfl, rfl⟩
  case round =>
    obtain ⟨k, m, hk, rfl, rfl⟩ := hrel
    by_cases hlt : k < n
    · have hkl : k < ys.length := by rw [HNL.out]; exact hlt
      obtain ⟨b0, b1, b2⟩ := lexCs_at ys k hkl
      have c0 := HA.out _ _ b0
      have c1 := HA.out _ _ b1
      have c2 := HA.out _ _ b2
      have d0 := HB.out _ _ b0
      have d1 := HB.out _ _ b1
      have d2 := HB.out _ _ b2
      generalize ys[k] = x at c0 c1 c2 d0 d1 d2
      obtain ⟨⟨er, kd, tx, rs⟩, a⟩ := x
      simp only at c0 c1 c2 d0 d1 d2
      obtain ⟨z, hz⟩ : ∃ z : ByteArray, z = ⟨tx.toArray⟩ := ⟨_, rfl⟩
      rw [← hz] at c1 d1
      have hs := eqLB_self kd (a : Int) z
      clear b0 b1 b2 hkl hz
      go_wp2_with fail
      go_quiet (fail)
      go_wp2
      go_roundw
      case rel => exact ⟨k + 1, _, by omega, by go_num, rfl⟩
      case measure => clear c0 c1 c2 d0 d1 d2; simp [intOf]; omega
    · obtain rfl : k = n := by omega
      go_wp2
      go_ret
      exact ⟨rfl, _, rfl⟩
end Go.Proofs.YtebfclanamoldaaDoor
