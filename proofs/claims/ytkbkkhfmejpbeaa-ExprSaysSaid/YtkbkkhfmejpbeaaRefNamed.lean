/- The reference's Named, and Right on both sides: the same plain function. -/
import Derived.Test.YtkbkkhfmejpbeaaLeaf
namespace Go.Proofs.Ytkbkkhfmejpbeaa
open Go.RowKit

theorem named_none (l : List UInt8) (h : l.length = 0 ∨ 24 < l.length) : namedB l = false := by
  unfold namedB
  rcases h with h | h
  · rw [show decide (1 ≤ l.length) = false from by rw [h]; rfl]; rfl
  · rw [show decide (l.length ≤ 24) = false from by simp; omega]; simp

theorem named_low (l : List UInt8) (h : lowB (byteAt l 0) = false) : namedB l = false := by
  unfold namedB
  rw [h]; simp

theorem named_not (l : List UInt8) (j : Nat) (hj : j < l.length) (h : midB (byteAt l j) = false) : namedB l = false := by
  unfold namedB
  rw [not_all_of_byte l j hj h]; simp

theorem named_yes (l : List UInt8) (h1 : 1 ≤ l.length) (h2 : l.length ≤ 24) (h3 : lowB (byteAt l 0) = true) (h : ∀ j, j < l.length → midB (byteAt l j) = true) : namedB l = true := by
  unfold namedB
  rw [all_of_bytes l h, h3]; simp; omega

theorem first_low {l : List UInt8} {k : Nat} {c : Int} (h : byteAt l k = c) (hc : lowB c = true) (hp : 0 < k → lowB (byteAt l 0) = true) : lowB (byteAt l 0) = true := by
  rcases Nat.eq_zero_or_pos k with h0 | h0
  · subst h0; rw [h]; exact hc
  · exact hp h0

set_option maxHeartbeats 1000000 in
theorem refNamed_any (s : ByteArray) (w : World) (hs : s.size ≤ maxLen) :
    Calls Try.prog 38 #[.string s] w fun e w' => e = .returned (.bool (namedB s.data.toList)) ∧ w = w' := by
  unfold maxLen at hs
  have hlen : s.data.toList.length = s.size := by simp
  have HNO : Hid (s.size = 0 ∨ 24 < s.size → namedB s.data.toList = false) := fun h => named_none _ (by rw [hlen]; exact h)
  have HLO : Hid (lowB (byteAt s.data.toList 0) = false → namedB s.data.toList = false) := named_low _
  have HNT : Hid (∀ j, j < s.size → midB (byteAt s.data.toList j) = false → namedB s.data.toList = false) := fun j hj h => named_not _ j (by rw [hlen]; exact hj) h
  have HYE : Hid (1 ≤ s.size → s.size ≤ 24 → lowB (byteAt s.data.toList 0) = true → (∀ j, j < s.size → midB (byteAt s.data.toList j) = true) → namedB s.data.toList = true) :=
    fun a b c d => named_yes _ (by rw [hlen]; exact a) (by rw [hlen]; exact b) c fun j hj => d j (by rw [hlen] at hj; exact hj)
  clear hlen
  generalize namedB s.data.toList = r at HNO HLO HNT HYE ⊢
  go_enter Try.func38, Try.ntmps38
  go_wp2
  go_loop [3, 4, 5] (fun i _ _ => ∃ k : Nat, k ≤ s.size ∧ i = .int .i64 k ∧ Hid (∀ j, j < k → midB (byteAt s.data.toList j) = true) ∧ Hid (0 < k → lowB (byteAt s.data.toList 0) = true)) (fun i _ _ => s.size - (intOf i).toNat)
  case atStart => exact ⟨0, Nat.zero_le _, rfl, fun j hj => absurd hj (Nat.not_lt_zero _), fun h => absurd h (Nat.lt_irrefl _)⟩
  case round =>
    obtain ⟨k, hk, rfl, HA, HB⟩ := hrel
    by_cases hlt : k < s.size
    · have hbk := Lib.hid (byteAt_lt s k hlt)
      by_cases h97 : 97 ≤ (s[k].toNat : Int) ∧ (s[k].toNat : Int) ≤ 122
      · obtain ⟨ha, hb⟩ := h97
        have hq : Hid (midB (s[k].toNat : Int) = true) := by unfold Hid midB lowB; simp [ha, hb]
        have hl : Hid (lowB (s[k].toNat : Int) = true) := by unfold Hid lowB; simp [ha, hb]
        go_wp2
        go_round
        case rel =>
          refine ⟨k + 1, by omega, by go_num, ?_, ?_⟩
          · intro j hj
            rcases Nat.lt_or_ge j k with h | h
            · exact HA.out j h
            · obtain rfl : j = k := by omega
              rw [hbk.out]; exact hq.out
          · intro _
            exact first_low hbk.out hl.out HB.out
        case measure => simp [intOf]; omega
      · by_cases hk0 : k = 0
        · subst hk0
          have HR : Hid (r = false) := HLO.out (by rw [hbk.out]; unfold lowB; simp; omega)
          rcases (by omega : (s[0].toNat : Int) < 97 ∨ 122 < (s[0].toNat : Int)) with ha | ha
          · clear h97
            have f0 : decide ((97 : Int) ≤ (s[0].toNat : Int)) = false := by simp; omega
            go_wp2
            go_ret
            exact ⟨by rw [HR.out]; rfl, rfl⟩
          · have hc : (97 : Int) ≤ (s[0].toNat : Int) := by omega
            clear h97
            have f0 : decide ((97 : Int) ≤ (s[0].toNat : Int)) = true := by simp; omega
            have f1 : decide ((s[0].toNat : Int) ≤ 122) = false := by simp; omega
            go_wp2
            go_ret
            exact ⟨by rw [HR.out]; rfl, rfl⟩
        · have hkb : ((k : Int) == 0) = false := by simp; omega
          have hfirst : Hid (lowB (byteAt s.data.toList 0) = true) := HB.out (by omega)
          by_cases hd : 48 ≤ (s[k].toNat : Int) ∧ (s[k].toNat : Int) ≤ 57
          · obtain ⟨hd1, hd2⟩ := hd
            have ha : (s[k].toNat : Int) < 97 := by omega
            have hq : Hid (midB (s[k].toNat : Int) = true) := by unfold Hid midB digB; simp [hd1, hd2]
            clear h97 hk0
            have f0 : decide ((97 : Int) ≤ (s[k].toNat : Int)) = false := by simp; omega
            have f1 : decide ((48 : Int) ≤ (s[k].toNat : Int)) = true := by simp; omega
            have f2 : decide ((s[k].toNat : Int) ≤ 57) = true := by simp; omega
            go_wp2
            go_round
            case rel =>
              refine ⟨k + 1, by omega, by go_num, ?_, ?_⟩
              · intro j hj
                rcases Nat.lt_or_ge j k with h | h
                · exact HA.out j h
                · obtain rfl : j = k := by omega
                  rw [hbk.out]; exact hq.out
              · intro _
                exact hfirst.out
            case measure => simp [intOf]; omega
          · by_cases hu : ((s[k].toNat : Int) == 95) = true
            · have hu' : (s[k].toNat : Int) = 95 := by simpa using hu
              have ha : (s[k].toNat : Int) < 97 := by omega
              have hd1 : (48 : Int) ≤ (s[k].toNat : Int) := by omega
              have hd2 : (57 : Int) < (s[k].toNat : Int) := by omega
              have hq : Hid (midB (s[k].toNat : Int) = true) := by unfold Hid midB; simp [hu']
              clear h97 hk0 hd
              have f0 : decide ((97 : Int) ≤ (s[k].toNat : Int)) = false := by simp; omega
              have f1 : decide ((48 : Int) ≤ (s[k].toNat : Int)) = true := by simp; omega
              have f2 : decide ((s[k].toNat : Int) ≤ 57) = false := by simp; omega
              clear hu'
              go_wp2
              go_round
              case rel =>
                refine ⟨k + 1, by omega, by go_num, ?_, ?_⟩
                · intro j hj
                  rcases Nat.lt_or_ge j k with h | h
                  · exact HA.out j h
                  · obtain rfl : j = k := by omega
                    rw [hbk.out]; exact hq.out
                · intro _
                  exact hfirst.out
              case measure => simp [intOf]; omega
            · have hu' : ((s[k].toNat : Int) == 95) = false := by simpa using hu
              have hm : midB (s[k].toNat : Int) = false := by
                unfold midB lowB digB
                rw [hu']
                simp
                omega
              have HR : Hid (r = false) := HNT.out k hlt (by rw [hbk.out]; exact hm)
              clear hm
              rcases (by omega : (s[k].toNat : Int) < 97 ∨ 122 < (s[k].toNat : Int)) with ha | ha
              · rcases (by omega : (s[k].toNat : Int) < 48 ∨ 57 < (s[k].toNat : Int)) with hb | hb
                · clear h97 hk0 hd hu
                  have f0 : decide ((97 : Int) ≤ (s[k].toNat : Int)) = false := by simp; omega
                  have f1 : decide ((48 : Int) ≤ (s[k].toNat : Int)) = false := by simp; omega
                  go_wp2
                  go_ret
                  exact ⟨by rw [HR.out]; rfl, rfl⟩
                · have hb2 : (48 : Int) ≤ (s[k].toNat : Int) := by omega
                  clear h97 hk0 hd hu
                  have f0 : decide ((97 : Int) ≤ (s[k].toNat : Int)) = false := by simp; omega
                  have f1 : decide ((48 : Int) ≤ (s[k].toNat : Int)) = true := by simp; omega
                  have f2 : decide ((s[k].toNat : Int) ≤ 57) = false := by simp; omega
                  go_wp2
                  go_ret
                  exact ⟨by rw [HR.out]; rfl, rfl⟩
              · have hb1 : (97 : Int) ≤ (s[k].toNat : Int) := by omega
                have hb2 : (48 : Int) ≤ (s[k].toNat : Int) := by omega
                have hb3 : (57 : Int) < (s[k].toNat : Int) := by omega
                clear h97 hk0 hd hu
                have f0 : decide ((97 : Int) ≤ (s[k].toNat : Int)) = true := by simp; omega
                have f1 : decide ((s[k].toNat : Int) ≤ 122) = false := by simp; omega
                have f2 : decide ((48 : Int) ≤ (s[k].toNat : Int)) = true := by simp; omega
                have f3 : decide ((s[k].toNat : Int) ≤ 57) = false := by simp; omega
                go_wp2
                go_ret
                exact ⟨by rw [HR.out]; rfl, rfl⟩
    · have hks : k = s.size := by omega
      subst hks
      by_cases h1 : 1 ≤ s.size
      · by_cases h2 : s.size ≤ 24
        · have HR : Hid (r = true) := HYE.out h1 h2 (HB.out h1) HA.out
          have f0 : decide ((s.size : Int) ≤ 24) = true := by simp; omega
          go_wp2
          go_ret
          exact ⟨by rw [HR.out]; rfl, rfl⟩
        · have HR : Hid (r = false) := HNO.out (Or.inr (by omega))
          have f0 : decide ((s.size : Int) ≤ 24) = false := by simp; omega
          go_wp2
          go_ret
          exact ⟨by rw [HR.out]; rfl, rfl⟩
      · have HR : Hid (r = false) := HNO.out (Or.inl (by omega))
        go_wp2
        go_ret
        exact ⟨by rw [HR.out]; rfl, rfl⟩
end Go.Proofs.Ytkbkkhfmejpbeaa
