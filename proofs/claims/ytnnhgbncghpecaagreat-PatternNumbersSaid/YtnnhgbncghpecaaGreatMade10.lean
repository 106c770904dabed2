/- Whether an env is well made: the program's word, and the document's. -/
import Derived.Test.YtnnhgbncghpecaaGreatMem10
namespace Go.Proofs.YtnnhgbncghpecaaGreat
open Go.RowKit

theorem made_len {e : E10} (h : e.1.length ≠ e.2.length) : madeP e = false := by simp [madeP, h]
theorem made_bad {e : E10} {j : Nat} (h1 : j < e.1.length) (h : made1 (e.1.getD j false, e.2.getD j zeroT) = false) : madeP e = false := by
  by_cases hl : e.1.length = e.2.length
  · unfold madeP
    rw [Bool.and_eq_false_iff]
    refine Or.inr ?_
    rw [Bool.eq_false_iff]
    intro hall
    rw [List.all_eq_true] at hall
    have hz : j < (e.1.zip e.2).length := by rw [List.length_zip]; omega
    have := hall (e.1.zip e.2)[j] (List.getElem_mem hz)
    rw [List.getElem_zip] at this
    rw [List.getD_eq_getElem?_getD, List.getD_eq_getElem?_getD, List.getElem?_eq_getElem h1, List.getElem?_eq_getElem (by omega)] at h
    simp only [Option.getD_some] at h
    rw [this] at h
    cases h
  · exact made_len hl
theorem made_good {e : E10} (hl : e.1.length = e.2.length) (h : ∀ j, j < e.1.length → made1 (e.1.getD j false, e.2.getD j zeroT) = true) : madeP e = true := by
  unfold madeP
  rw [Bool.and_eq_true, decide_eq_true_eq]
  refine ⟨hl, ?_⟩
  rw [List.all_eq_true]
  intro p hp
  obtain ⟨j, hj, rfl⟩ := List.getElem_of_mem hp
  rw [List.length_zip] at hj
  have := h j (by omega)
  rw [List.getD_eq_getElem?_getD, List.getD_eq_getElem?_getD, List.getElem?_eq_getElem (by omega), List.getElem?_eq_getElem (by omega)] at this
  rw [List.getElem_zip]
  exact this
theorem Sl10.bat {B : Nat} {W : World} {l : List Bool} {ao : Option Addr} {c : Nat} (h : Sl10 B W l.length ao c (cellsB l)) {j : Nat} (hj : j < l.length) : ∃ g o, ao = some ⟨g, o, none⟩ ∧ g < B ∧ W.cell? ⟨g, o + j, none⟩ = some (.bool (l.getD j false)) := by
  have q := cellsB_get l j hj
  obtain ⟨g, o, rfl, l', r⟩ := h.row (fun hn => by rw [hn] at q; cases q)
  exact ⟨g, o, rfl, l', r _ _ q⟩
theorem Sl10.vget {B : Nat} {W : World} {l : List V3} {ao : Option Addr} {c : Nat} (h : Sl10 B W l.length ao c (cellsV l)) {j : Nat} (hj : j < l.length) : ∃ g o, ao = some ⟨g, o, none⟩ ∧ g < B ∧ W.cell? ⟨g, o + j * 3, none⟩ = some (.int .u8 (l.getD j zeroT).1) ∧ W.cell? ⟨g, o + j * 3 + 1, none⟩ = some (.int .i64 (l.getD j zeroT).2.1) ∧ W.cell? ⟨g, o + j * 3 + 2, none⟩ = some (.string (l.getD j zeroT).2.2) := by
  obtain ⟨q0, q1, q2⟩ := cellsV_get l j hj
  obtain ⟨g, o, rfl, l', r⟩ := h.row (fun hn => by rw [hn] at q0; cases q0)
  exact ⟨g, o, rfl, l', r _ _ q0, by rw [Nat.add_assoc]; exact r _ _ q1, by rw [Nat.add_assoc]; exact r _ _ q2⟩

set_option maxRecDepth 100000 in
set_option maxHeartbeats 4000000 in
theorem made_any (e : E10) (ho : Option Addr) (hc : Nat) (vo : Option Addr) (vc : Nat) (w : World) (h : Env10 w.heap.size w e ho hc vo vc) :
    Calls Tryz.prog 42 #[aggE e ho hc vo vc] w fun r w' => r = .returned (.bool (madeP e)) ∧ Below w.heap.size w w' := by
  have HH := Lib.hid h.has
  have HV := Lib.hid h.vals
  have hm : e.1.length ≤ 9223372036854775807 := by have := h.has.cap; have := h.has.top; unfold maxLen at this; omega
  have hm2 : e.2.length ≤ 9223372036854775807 := by have := h.vals.cap; have := h.vals.top; unfold maxLen at this; omega
  have hg := eqGuardV
  clear h
  unfold aggE
  by_cases hl : e.1.length = e.2.length
  · have HLen := Lib.hid hl
    rw [← hl] at hm2 ⊢
    clear hl
    have HB0 : Hid (∀ o1, Below w.heap.size w (w.alloc o1)) := fun o1 => below_own _
    go_enter Tryz.func42, Tryz.ntmps42
    go_wp2_with fail
    go_loopw [15] (fun i wr => ∃ j : Nat, j ≤ e.1.length ∧ i = .int .i64 j ∧ Hid (∀ k, k < j → made1 (e.1.getD k false, e.2.getD k zeroT) = true) ∧ wr = w.alloc (.cells #[.slice ho e.1.length hc, .slice vo e.1.length vc] 44)) (fun i _ => e.1.length - (intOf i).toNat)
    case atStart => exact ⟨0, by omega, rfl, (fun k hk => absurd hk (Nat.not_lt_zero _)), rfl⟩
    case round =>
      obtain ⟨j, hj, rfl, HG, rfl⟩ := hrel
      by_cases hlt : j < e.1.length
      · obtain ⟨g1, o1, rfl, l1, x1⟩ := HH.out.bat hlt
        obtain ⟨g2, o2, rfl, l2, x2, x3, x4⟩ := HV.out.vget (j := j) (by rw [← HLen.out]; exact hlt)
        have HBad := Lib.hid (made_bad (e := e) hlt)
        have hjn : (j : Int) < (e.1.length : Int) := by omega
        cases hb : e.1.getD j false with
        | true =>
          have HG2 : Hid (∀ k, k < j + 1 → made1 (e.1.getD k false, e.2.getD k zeroT) = true) := fun k hk => by
            rcases Nat.lt_or_ge k j with h | h
            · exact HG.out k h
            · obtain rfl : k = j := by omega
              rw [hb]; rfl
          rw [hb] at x1
          clear hb HBad HG x2 x3 x4
          go_wp2
          go_roundw
          case rel => exact ⟨j + 1, by omega, by go_num, HG2, trivial⟩
          case measure => simp [intOf]; omega
        | false =>
          have HG2 : Hid (eqvB (e.2.getD j zeroT) zeroT = true → ∀ k, k < j + 1 → made1 (e.1.getD k false, e.2.getD k zeroT) = true) := fun he k hk => by
            rcases Nat.lt_or_ge k j with h | h
            · exact HG.out k h
            · obtain rfl : k = j := by omega
              rw [hb]
              exact he
          have HB2 : Hid (eqvB (e.2.getD j zeroT) zeroT = false → madeP e = false) := fun he => HBad.out (by rw [hb]; exact he)
          rw [hb] at x1
          clear hb HBad HG
          generalize e.2.getD j zeroT = v at *
          obtain ⟨v1, v2, v3⟩ := v
          have hne := fun W => neV v1 v2 0 0 v3 ⟨#[]⟩ W
          have e0 : eqvB (v1, v2, v3) zeroT = eqvB (v1, v2, v3) (0, 0, ⟨#[]⟩) := rfl
          rw [e0] at HG2 HB2
          simp only at x2 x3 x4
          cases hq : eqvB (v1, v2, v3) (0, 0, ⟨#[]⟩) with
          | true =>
            rw [hq] at hne
            have HG3 := Lib.hid (HG2.out hq)
            clear HG2 HB2 hq e0
            go_wp2
            go_roundw
            case rel => exact ⟨j + 1, by omega, by go_num, HG3, trivial⟩
            case measure => simp [intOf]; omega
          | false =>
            rw [hq] at hne
            have HB3 := Lib.hid (HB2.out hq)
            clear HG2 HB2 hq e0
            go_wp2
            go_ret
            exact ⟨by rw [HB3.out]; rfl, HB0.out _⟩
      · obtain rfl : j = e.1.length := by omega
        have HR := Lib.hid (made_good HLen.out HG.out)
        clear HG
        go_wp2
        go_ret
        exact ⟨by rw [HR.out]; rfl, HB0.out _⟩
  · have HR := Lib.hid (made_len hl)
    have hne : ((e.1.length : Int) != (e.2.length : Int)) = true := by simp; omega
    have hne2 : ¬ ((e.1.length : Int) = (e.2.length : Int)) := by omega
    clear hl
    go_enter Tryz.func42, Tryz.ntmps42
    go_wp2
    go_ret
    exact ⟨by rw [HR.out]; rfl, below_own _⟩
end Go.Proofs.YtnnhgbncghpecaaGreat
