/- The document's word: whether an env is well made. -/
import Derived.Test.YtnnhgbncghpecaaGreatMade10
namespace Go.Proofs.YtnnhgbncghpecaaGreat
open Go.RowKit

set_option maxRecDepth 100000 in
set_option maxHeartbeats 4000000 in
theorem refMade_any (e : E10) (ho : Option Addr) (hc : Nat) (vo : Option Addr) (vc : Nat) (w : World) (h : Env10 w.heap.size w e ho hc vo vc) :
    Calls Tryz.prog 28 #[aggE e ho hc vo vc] w fun r w' => r = .returned (.bool (madeP e)) ∧ Below w.heap.size w w' := by
  have HH := Lib.hid h.has
  have HV := Lib.hid h.vals
  have hm : e.1.length ≤ 9223372036854775807 := by have := h.has.cap; have := h.has.top; unfold maxLen at this; omega
  have hm2 : e.2.length ≤ 9223372036854775807 := by have := h.vals.cap; have := h.vals.top; unfold maxLen at this; omega
  have hg := eqGuardV
  clear h
  unfold aggE
  by_cases hl : e.1.length = e.2.length
  · have HLen := Lib.hid hl
    rw [← hl] at hm2 ⊢
    clear hl
    have HB0 : Hid (∀ o1, Below w.heap.size w (w.alloc o1)) := fun o1 => below_own _
    go_enter Tryz.func28, Tryz.ntmps28
    go_wp2_with fail
    go_loopw [3] (fun i wr => ∃ j : Nat, j ≤ e.1.length ∧ i = .int .i64 j ∧ Hid (∀ k, k < j → made1 (e.1.getD k false, e.2.getD k zeroT) = true) ∧ wr = w.alloc (.cells #[.slice ho e.1.length hc, .slice vo e.1.length vc] 47)) (fun i _ => e.1.length - (intOf i).toNat)
    case atStart => exact ⟨0, by omega, rfl, (fun k hk => absurd hk (Nat.not_lt_zero _)), rfl⟩
    case round =>
      obtain ⟨j, hj, rfl, HG, rfl⟩ := hrel
      by_cases hlt : j < e.1.length
      · obtain ⟨g1, o1, rfl, l1, x1⟩ := HH.out.bat hlt
        obtain ⟨g2, o2, rfl, l2, x2, x3, x4⟩ := HV.out.vget (j := j) (by rw [← HLen.out]; exact hlt)
        have HBad := Lib.hid (made_bad (e := e) hlt)
        have hjn : (j : Int) < (e.1.length : Int) := by omega
        cases hb : e.1.getD j false with
        | true =>
          have HG2 : Hid (∀ k, k < j + 1 → made1 (e.1.getD k false, e.2.getD k zeroT) = true) := fun k hk => by
            rcases Nat.lt_or_ge k j with h | h
            · exact HG.out k h
            · obtain rfl : k = j := by omega
              rw [hb]; rfl
          rw [hb] at x1
          clear hb HBad HG x2 x3 x4
          go_wp2
          go_roundw
          case rel => exact ⟨j + 1, by omega, by go_num, HG2, trivial⟩
          case measure => simp [intOf]; omega
        | false =>
          have HG2 : Hid (eqvB (e.2.getD j zeroT) zeroT = true → ∀ k, k < j + 1 → made1 (e.1.getD k false, e.2.getD k zeroT) = true) := fun he k hk => by
            rcases Nat.lt_or_ge k j with h | h
            · exact HG.out k h
            · obtain rfl : k = j := by omega
              rw [hb]
              exact he
          have HB2 : Hid (eqvB (e.2.getD j zeroT) zeroT = false → madeP e = false) := fun he => HBad.out (by rw [hb]; exact he)
          rw [hb] at x1
          clear hb HBad HG
          generalize e.2.getD j zeroT = v at *
          obtain ⟨v1, v2, v3⟩ := v
          have hne := fun W => neV v1 v2 0 0 v3 ⟨#[]⟩ W
          have e0 : eqvB (v1, v2, v3) zeroT = eqvB (v1, v2, v3) (0, 0, ⟨#[]⟩) := rfl
          rw [e0] at HG2 HB2
          simp only at x2 x3 x4
          cases hq : eqvB (v1, v2, v3) (0, 0, ⟨#[]⟩) with
          | true =>
            rw [hq] at hne
            have HG3 := Lib.hid (HG2.out hq)
            clear HG2 HB2 hq e0
            go_wp2
            go_roundw
            case rel => exact ⟨j + 1, by omega, by go_num, HG3, trivial⟩
            case measure => simp [intOf]; omega
          | false =>
            rw [hq] at hne
            have HB3 := Lib.hid (HB2.out hq)
            clear HG2 HB2 hq e0
            go_wp2
            go_ret
            exact ⟨by rw [HB3.out]; rfl, HB0.out _⟩
      · obtain rfl : j = e.1.length := by omega
        have HR := Lib.hid (made_good HLen.out HG.out)
        clear HG
        go_wp2
        go_ret
        exact ⟨by rw [HR.out]; rfl, HB0.out _⟩
  · have HR := Lib.hid (made_len hl)
    have hne : ((e.1.length : Int) != (e.2.length : Int)) = true := by simp; omega
    have hne2 : ¬ ((e.1.length : Int) = (e.2.length : Int)) := by omega
    clear hl
    go_enter Tryz.func28, Tryz.ntmps28
    go_wp2
    go_ret
    exact ⟨by rw [HR.out]; rfl, below_own _⟩
end Go.Proofs.YtnnhgbncghpecaaGreat
