/- CopyValues, SameValues. -/
import Derived.Test.YtnnhgbncghpecaaGreatPatB10
namespace Go.Proofs.YtnnhgbncghpecaaGreat
open Go.RowKit

set_option maxRecDepth 100000 in
set_option maxHeartbeats 1000000 in
theorem sameV_yes (l : List V3) (a1 : Option Addr) (c1 : Nat) (a2 : Option Addr) (c2 : Nat) (w : World) (h1 : Sl10 w.heap.size w l.length a1 c1 (cellsV l)) (h2 : Sl10 w.heap.size w l.length a2 c2 (cellsV l)) :
    Calls Tryz.prog 29 #[.slice a1 l.length c1, .slice a2 l.length c2] w fun e w' => e = .returned (.bool true) ∧ Gr w w' := by
  have H1 := Lib.hid h1
  have H2 := Lib.hid h2
  have hm : l.length ≤ 9223372036854775807 := by have := h1.cap; have := h1.top; unfold maxLen at this; omega
  have hg := eqGuardV
  have mixed : Tryz.prog.follows .mixedOrders = true := by kernel_rfl
  clear h1 h2
  go_enter Tryz.func29, Tryz.ntmps29
  go_wp2_with fail
  go_loopw [5] (fun i wr => ∃ j : Nat, j ≤ l.length ∧ i = .int .i64 j ∧ Hid (Gr w wr)) (fun i _ => l.length - (intOf i).toNat)
  case atStart => exact ⟨0, by omega, rfl, Gr.refl _⟩
  case round =>
    obtain ⟨j, hj, rfl, HG⟩ := hrel
    by_cases hlt : j < l.length
    · obtain ⟨g1, o1, rfl, l1, x1, x2, x3⟩ := (H1.out.up HG.out.below HG.out.below.size).vget hlt
      obtain ⟨g2, o2, rfl, l2, y1, y2, y3⟩ := (H2.out.up HG.out.below HG.out.below.size).vget hlt
      generalize l.getD j zeroT = v at *
      obtain ⟨v1, v2, v3⟩ := v
      have hne := fun W => neV v1 v2 v1 v2 v3 v3 W
      rw [(eqvB_iff (v1, v2, v3) (v1, v2, v3)).2 rfl] at hne
      simp only at x1 x2 x3 y1 y2 y3
      have hjn : (j : Int) < (l.length : Int) := by omega
      generalize l.length = n at *
      clear H1 H2
      go_wp2_with fail
      go_quiet (fail)
      go_wp2
      have HG2 : Hid (Gr w (wr.drewN nq)) := HG.out.drewN nq
      clear HG x1 x2 x3 y1 y2 y3
      go_roundw
      case rel => exact ⟨j + 1, by omega, by go_num, HG2⟩
      case measure => simp [intOf]; omega
    · obtain rfl : j = l.length := by omega
      go_wp2
      go_ret
      exact ⟨rfl, HG.out⟩
end Go.Proofs.YtnnhgbncghpecaaGreat
