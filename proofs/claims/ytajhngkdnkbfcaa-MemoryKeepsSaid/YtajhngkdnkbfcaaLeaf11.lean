/- The leaves of package value and of its reference: what a name is; each is a plain function of its bytes. -/
import Derived.Test.YtajhngkdnkbfcaaBase11
import Derived.WalkKit
import Derived.WalkLawsBesides
import Derived.WalkSpells
import Derived.Below
import Derived.BigQuiet
import Derived.Deep.QuietTactic
import Derived.LoopTactic
import Derived.Lib.Hide
import Derived.IntWalk
import Derived.Outline
namespace Go.Proofs.Ytajhngkdnkbfcaa
open Go.RowKit

def lowB (c : Int) : Bool := decide (97 ≤ c) && decide (c ≤ 122)
def digB (c : Int) : Bool := decide (48 ≤ c) && decide (c ≤ 57)

theorem isLetter_yes (c : Int) (h1 : 97 ≤ c) (h2 : c ≤ 122) (w : World) :
    Calls Try.prog 44 #[.int .u8 c] w fun e w' => e = .returned (.bool true) ∧ w = w' := by
  go_enter Try.func44, Try.ntmps44
  go_wp2
  go_ret
  exact ⟨rfl, rfl⟩

theorem isLetter_any (c : Int) (w : World) :
    Calls Try.prog 44 #[.int .u8 c] w fun e w' => e = .returned (.bool (lowB c)) ∧ w = w' := by
  by_cases h1 : 97 ≤ c
  · by_cases h2 : c ≤ 122
    · rw [show lowB c = true from by simp [lowB, h1, h2]]
      exact isLetter_yes c h1 h2 w
    · rw [show lowB c = false from by simp [lowB, h2]]
      go_enter Try.func44, Try.ntmps44
      go_wp2
      go_ret
      exact ⟨rfl, rfl⟩
  · rw [show lowB c = false from by simp [lowB, h1]]
    go_enter Try.func44, Try.ntmps44
    go_wp2
    go_ret
    exact ⟨rfl, rfl⟩

theorem isDigit_any (c : Int) (w : World) :
    Calls Try.prog 45 #[.int .u8 c] w fun e w' => e = .returned (.bool (digB c)) ∧ w = w' := by
  by_cases h1 : 48 ≤ c
  · by_cases h2 : c ≤ 57
    · rw [show digB c = true from by simp [digB, h1, h2]]
      go_enter Try.func45, Try.ntmps45
      go_wp2
      go_ret
      exact ⟨rfl, rfl⟩
    · rw [show digB c = false from by simp [digB, h2]]
      go_enter Try.func45, Try.ntmps45
      go_wp2
      go_ret
      exact ⟨rfl, rfl⟩
  · rw [show digB c = false from by simp [digB, h1]]
    go_enter Try.func45, Try.ntmps45
    go_wp2
    go_ret
    exact ⟨rfl, rfl⟩

/-- What may stand in a name behind its first byte. -/
def midB (c : Int) : Bool := lowB c || digB c || c == 95

def byteAt (l : List UInt8) (k : Nat) : Int := ((l[k]?.getD 0).toNat : Int)

/-- A name's text: 1 to 24 bytes, the first one a letter, the others letters, digits or _. -/
def namedB (l : List UInt8) : Bool := decide (1 ≤ l.length) && decide (l.length ≤ 24) && lowB (byteAt l 0) && l.all fun c => midB (c.toNat : Int)

theorem byteAt_lt (s : ByteArray) (k : Nat) (h : k < s.size) : byteAt s.data.toList k = ((s[k]'h).toNat : Int) := by
  have hk : k < s.data.toList.length := by simpa using h
  unfold byteAt
  rw [List.getElem?_eq_getElem hk]
  rfl

theorem all_of_bytes (l : List UInt8) (h : ∀ j, j < l.length → midB (byteAt l j) = true) : (l.all fun c => midB (c.toNat : Int)) = true := by
  rw [List.all_eq_true]
  intro c hc
  obtain ⟨j, hj, rfl⟩ := List.getElem_of_mem hc
  have := h j hj
  unfold byteAt at this
  rw [List.getElem?_eq_getElem hj] at this
  exact this

theorem not_all_of_byte (l : List UInt8) (j : Nat) (hj : j < l.length) (h : midB (byteAt l j) = false) : (l.all fun c => midB (c.toNat : Int)) = false := by
  rw [Bool.eq_false_iff]
  intro hall
  rw [List.all_eq_true] at hall
  have := hall l[j] (List.getElem_mem hj)
  unfold byteAt at h
  rw [List.getElem?_eq_getElem hj] at h
  simp only [Option.getD_some] at h
  rw [h] at this
  cases this

set_option maxHeartbeats 400000 in
theorem named_any (s : ByteArray) (w : World) (hs : s.size ≤ maxLen) :
    Calls Try.prog 41 #[.string s] w fun e w' => e = .returned (.bool (namedB s.data.toList)) ∧ w = w' := by
  unfold maxLen at hs
  by_cases h0 : s.toList = []
  · rw [show namedB s.data.toList = false from by rw [ByteArray.toList_eq] at h0; rw [h0]; rfl]
    go_enter Try.func41, Try.ntmps41
    go_wp2
    go_ret
    exact ⟨rfl, rfl⟩
  · by_cases h1 : s.size ≤ 24
    · have h0' : 0 < s.size := by
        rcases Nat.eq_zero_or_pos s.size with h | h
        · exfalso; apply h0; rw [ByteArray.toList_eq]; exact List.eq_nil_of_length_eq_zero (by simpa using h)
        · exact h
      have hb0 := byteAt_lt s 0 h0'
      have hlen : s.data.toList.length = s.size := by simp
      cases hl0 : lowB (byteAt s.data.toList 0) with
      | false =>
        rw [show namedB s.data.toList = false from by simp [namedB, hl0]]
        rw [hb0] at hl0
        clear hb0 hlen
        go_enter Try.func41, Try.ntmps41
        go_wp2_with (go_at_call 44; refine (isLetter_any _ _).mono ?_; rintro e w' ⟨rfl, rfl⟩)
        go_ret
        exact ⟨rfl, rfl⟩
      | true =>
        have HN : Hid (∀ b, (s.data.toList.all fun c => midB (c.toNat : Int)) = b → namedB s.data.toList = b) := by
          intro b hb
          rw [namedB, hl0, hb]
          simp
          intro _
          exact ⟨h0', h1⟩
        rw [hb0] at hl0
        have HL := Lib.hid hlen
        have hne : s.toList.isEmpty = false := by simpa using h0
        have hle : decide (24 < (s.size : Int)) = false := by simp; omega
        clear hb0 hlen
        generalize namedB s.data.toList = r at HN ⊢
        go_enter Try.func41, Try.ntmps41
        go_wp2_with (go_at_call 44; refine (isLetter_any _ _).mono ?_; rintro e w' ⟨rfl, rfl⟩)
        go_loop [20, 3, 4] (fun i _ _ => ∃ k : Nat, k ≤ s.size ∧ i = .int .i64 k ∧ Hid (∀ j, j < k → midB (byteAt s.data.toList j) = true)) (fun i _ _ => s.size - (intOf i).toNat)
        case atStart => exact ⟨0, Nat.zero_le _, rfl, fun j hj => absurd hj (Nat.not_lt_zero _)⟩
        case round =>
          obtain ⟨k, hk, rfl, HA⟩ := hrel
          clear hl0
          by_cases hlt : k < s.size
          · have hbk := Lib.hid (byteAt_lt s k hlt)
            have HM : Hid (∀ b, midB (s[k].toNat : Int) = b → midB (byteAt s.data.toList k) = b) := by
              intro b hb; rw [hbk.out]; exact hb
            cases h2 : lowB (s[k].toNat : Int) with
            | true =>
              have hq : Hid (midB (s[k].toNat : Int) = true) := by unfold Hid midB; rw [h2]; rfl
              go_wp2_with (first | (go_at_call 44; refine (isLetter_any _ _).mono ?_; rintro e w' ⟨rfl, rfl⟩) | (go_at_call 45; refine (isDigit_any _ _).mono ?_; rintro e w' ⟨rfl, rfl⟩))
              go_round
              case rel => exact ⟨k + 1, by omega, by go_num, fun j hj => by
                rcases Nat.lt_or_ge j k with h | h
                · exact HA.out j h
                · obtain rfl : j = k := by omega
                  exact HM.out _ hq.out⟩
              case measure => simp [intOf]; omega
            | false =>
              cases h3 : digB (s[k].toNat : Int) with
              | true =>
                have hq : Hid (midB (s[k].toNat : Int) = true) := by unfold Hid midB; rw [h2, h3]; rfl
                go_wp2_with (first | (go_at_call 44; refine (isLetter_any _ _).mono ?_; rintro e w' ⟨rfl, rfl⟩) | (go_at_call 45; refine (isDigit_any _ _).mono ?_; rintro e w' ⟨rfl, rfl⟩))
                go_round
                case rel => exact ⟨k + 1, by omega, by go_num, fun j hj => by
                  rcases Nat.lt_or_ge j k with h | h
                  · exact HA.out j h
                  · obtain rfl : j = k := by omega
                    exact HM.out _ hq.out⟩
                case measure => simp [intOf]; omega
              | false =>
                cases h4 : ((s[k].toNat : Int) == 95) with
                | true =>
                  have hq : Hid (midB (s[k].toNat : Int) = true) := by unfold Hid midB; rw [h2, h3, h4]; rfl
                  have h5 : ((s[k].toNat : Int) != 95) = false := by rw [bne, h4]; rfl
                  clear h4
                  go_wp2_with (first | (go_at_call 44; refine (isLetter_any _ _).mono ?_; rintro e w' ⟨rfl, rfl⟩) | (go_at_call 45; refine (isDigit_any _ _).mono ?_; rintro e w' ⟨rfl, rfl⟩))
                  go_round
                  case rel => exact ⟨k + 1, by omega, by go_num, fun j hj => by
                    rcases Nat.lt_or_ge j k with h | h
                    · exact HA.out j h
                    · obtain rfl : j = k := by omega
                      exact HM.out _ hq.out⟩
                  case measure => simp [intOf]; omega
                | false =>
                  have h5 : ((s[k].toNat : Int) != 95) = true := by rw [bne, h4]; rfl
                  have hq : Hid (midB (s[k].toNat : Int) = false) := by unfold Hid midB; rw [h2, h3, h4]; rfl
                  have HR : Hid (r = false) := HN.out false (not_all_of_byte _ k (by rw [HL.out]; exact hlt) (HM.out _ hq.out))
                  clear h4
                  go_wp2_with (first | (go_at_call 44; refine (isLetter_any _ _).mono ?_; rintro e w' ⟨rfl, rfl⟩) | (go_at_call 45; refine (isDigit_any _ _).mono ?_; rintro e w' ⟨rfl, rfl⟩))
                  go_ret
                  exact ⟨by rw [HR.out]; rfl, rfl⟩
          · have hkk : k = s.size := by omega
            have HR : Hid (r = true) := HN.out true (all_of_bytes _ fun j hj => HA.out j (by rw [HL.out] at hj; omega))
            clear hkk
            go_wp2
            go_ret
            exact ⟨by rw [HR.out]; rfl, rfl⟩
    · rw [show namedB s.data.toList = false from by simp [namedB]; intro _ h; exact absurd h (by simpa using h1)]
      go_enter Try.func41, Try.ntmps41
      go_wp2
      go_ret
      exact ⟨rfl, rfl⟩
def rightB (k n : Int) (s : ByteArray) : Bool := (k == 1 && s.toList.isEmpty) || (k == 2 && n == 0 && namedB s.data.toList)
set_option maxHeartbeats 400000 in
theorem right_any (k n : Int) (s : ByteArray) (w : World) (hs : s.size ≤ maxLen) :
    Calls Try.prog 34 #[.agg #[.int .u8 k, .int .i64 n, .string s]] w fun e w' => e = .returned (.bool (rightB k n s)) ∧ w.alloc (.cells #[.int .u8 k, .int .i64 n, .string s] 33) = w' := by
  cases h1 : (k == 1) with
  | true =>
    have h1' : k = 1 := by simpa using h1
    cases h2 : s.toList.isEmpty with
    | true =>
      rw [show rightB k n s = true from by simp [rightB, h1, h2]]
      clear h1'
      go_enter Try.func34, Try.ntmps34
      go_wp2
      go_ret
      exact ⟨rfl, rfl⟩
    | false =>
      rw [show rightB k n s = false from by simp [rightB, h1', h2]]
      clear h1'
      go_enter Try.func34, Try.ntmps34
      go_wp2
      go_ret
      exact ⟨rfl, rfl⟩
  | false =>
    cases h2 : (k == 2) with
    | true =>
      cases h3 : (n == 0) with
      | true =>
        rw [show rightB k n s = namedB s.data.toList from by simp [rightB, h1, h2, h3]]
        go_enter Try.func34, Try.ntmps34
        go_wp2_with (go_at_call 41; refine (named_any _ _ hs).mono ?_; rintro e w' ⟨rfl, rfl⟩)
        go_ret
        exact ⟨rfl, rfl⟩
      | false =>
        rw [show rightB k n s = false from by simp [rightB, h1, h3]]
        go_enter Try.func34, Try.ntmps34
        go_wp2
        go_ret
        exact ⟨rfl, rfl⟩
    | false =>
      rw [show rightB k n s = false from by simp [rightB, h1, h2]]
      go_enter Try.func34, Try.ntmps34
      go_wp2
      go_ret
      exact ⟨rfl, rfl⟩
end Go.Proofs.Ytajhngkdnkbfcaa
