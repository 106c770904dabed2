/- The document's Number, and its small looks at bytes. -/
import Derived.Test.YtfmjhbaenpbfoaaGreatDoorNumber
namespace Go.Proofs.YtfmjhbaenpbfoaaGreatDoor
open Go.RowKit

theorem refDigit_any (x : UInt8) (w : World) : Calls Tryz.prog 160 #[.int .u8 (x.toNat : Int)] w fun e w' => e = .returned (.bool (digB x)) ∧ w = w' := by
  unfold digB
  by_cases h1 : 48 ≤ x.toNat
  · rw [decide_eq_true h1, Bool.true_and]
    have i1 : (48 : Int) ≤ (x.toNat : Int) := by omega
    have f1 : decide ((48 : Int) ≤ (x.toNat : Int)) = true := by simpa using i1
    have HE : Hid (decide ((x.toNat : Int) ≤ 57) = decide (x.toNat ≤ 57)) := by
      unfold Hid
      rw [decide_eq_decide]
      omega
    clear h1
    go_enter Tryz.func160, Tryz.ntmps160
    go_wp2
    go_ret
    exact ⟨by rw [← HE.out]; rfl, rfl⟩
  · rw [decide_eq_false h1, Bool.false_and]
    have i1 : ¬ (48 : Int) ≤ (x.toNat : Int) := by omega
    have f1 : decide ((48 : Int) ≤ (x.toNat : Int)) = false := by simp; omega
    clear h1
    go_enter Tryz.func160, Tryz.ntmps160
    go_wp2
    go_ret
    exact ⟨rfl, rfl⟩
/-- The document's reckoning, to at most M. -/
def refN (M : Nat) : Nat → Bs → Option Nat
  | n, [] => some n
  | n, c :: l => if digB c then (if 10 * n + (c.toNat - 48) ≤ M then refN M (10 * n + (c.toNat - 48)) l else none) else none
theorem refN_cons (M n : Nat) (c : UInt8) (l : Bs) : refN M n (c :: l) = if digB c then (if 10 * n + (c.toNat - 48) ≤ M then refN M (10 * n + (c.toNat - 48)) l else none) else none := rfl
theorem refN_all (M : Nat) (l : Bs) : ∀ n, n ≤ M → refN M n l = if l.all digB = true ∧ numV n l ≤ M then some (numV n l) else none := by
  induction l with
  | nil => intro n h; rw [if_pos ⟨rfl, h⟩]; rfl
  | cons c l ih =>
    intro n h
    have e2 : numV n (c :: l) = numV (10 * n + (c.toNat - 48)) l := rfl
    rw [refN_cons, e2, List.all_cons]
    cases hd : digB c with
    | false =>
      rw [if_neg (by simp), if_neg]
      rintro ⟨h1, _⟩
      cases h1
    | true =>
      rw [if_pos rfl, Bool.true_and]
      by_cases h1 : 10 * n + (c.toNat - 48) ≤ M
      · rw [if_pos h1, ih _ h1]
      · rw [if_neg h1, if_neg]
        rintro ⟨_, hh⟩
        exact h1 (Nat.le_trans (numV_le l (10 * n + (c.toNat - 48))) hh)

abbrev maxN : Nat := 9223372036854775807
theorem refN_bool (M : Nat) (l : Bs) (b : Bool) (v : Nat) (hv : l = [] → v = 0) : (if (!l.isEmpty && b && decide (v ≤ M)) then ((v : Nat) : Int) else 0) = (((if b = true ∧ v ≤ M then some v else none).getD 0 : Nat) : Int) ∧ (!l.isEmpty && b && decide (v ≤ M)) = ((if b = true ∧ v ≤ M then some v else none : Option Nat).isSome && !l.isEmpty) := by
  cases l with
  | nil =>
    obtain rfl := hv rfl
    by_cases h : b = true ∧ 0 ≤ M
    · rw [if_pos h]; simp
    · rw [if_neg h]; simp
  | cons c l =>
    by_cases h : b = true ∧ v ≤ M
    · rw [if_pos h, h.1, decide_eq_true h.2]; simp
    · rw [if_neg h]
      by_cases h1 : b = true
      · rw [h1, decide_eq_false (fun x => h ⟨h1, x⟩)]; simp
      · rw [show b = false by simpa using h1]; simp
theorem refN_out (l : Bs) : numI l = (((refN maxN 0 l).getD 0 : Nat) : Int) ∧ numB l = ((refN maxN 0 l).isSome && !l.isEmpty) := by
  rw [refN_all maxN l 0 (Nat.zero_le _)]
  exact refN_bool _ l (l.all digB) (numV 0 l) (fun h => by rw [h]; rfl)

set_option maxRecDepth 100000 in
set_option maxHeartbeats 2000000 in
theorem refNumber_any (s : ByteArray) (w : World) (hs : s.size ≤ 100000) :
    Calls Tryz.prog 129 #[.string s] w fun e w' => e = .returned (.tuple #[.int .i64 (numI s.data.toList), .bool (numB s.data.toList)]) ∧ w = w' := by
  obtain ⟨o1, o2⟩ := refN_out s.data.toList
  rw [o1, o2]
  clear o1 o2
  obtain ⟨be, hbe⟩ : ∃ be, s.data.toList.isEmpty = be := ⟨_, rfl⟩
  have HEM : Hid (s.toList.isEmpty = be) := by unfold Hid; rw [Lib.toList_data, hbe]
  rw [hbe]
  clear hbe
  obtain ⟨r, hr⟩ : ∃ r, refN maxN 0 s.data.toList = r := ⟨_, rfl⟩
  have HR0 := Lib.hid hr
  rw [hr]
  clear hr
  go_enter Tryz.func129, Tryz.ntmps129
  go_wp2
  go_loop [4, 5, 6] (fun n i _ => ∃ (k m : Nat), k ≤ s.size ∧ m ≤ 9223372036854775807 ∧ i = .int .i64 k ∧ n = .int .i64 m ∧ Hid (refN maxN m (s.data.toList.drop k) = r)) (fun _ i _ => s.size - (intOf i).toNat)
  case atStart => exact ⟨0, 0, Nat.zero_le _, by decide, rfl, rfl, HR0⟩
  case round =>
    obtain ⟨k, m, hk, hm, rfl, rfl, HR⟩ := hrel
    by_cases hlt : k < s.size
    · have hd := HR.out
      rw [drop_at s k hlt, refN_cons] at hd
      have KD := Lib.hid (fun w => refDigit_any s[k] w)
      cases hdig : digB s[k] with
      | false =>
        rw [hdig] at hd KD
        have HF : Hid (r = none) := by rw [if_neg (by simp)] at hd; exact hd.symm
        clear hd hdig
        go_wp2_with (go_at_call 160; refine (KD.out _).mono ?_; rintro e w' ⟨rfl, rfl⟩)
        go_ret2
        exact ⟨by rw [HF.out]; rfl, rfl⟩
      | true =>
        rw [hdig] at hd KD
        rw [if_pos rfl] at hd
        have hc : 48 ≤ s[k].toNat ∧ s[k].toNat ≤ 57 := by simpa [digB] using hdig
        obtain ⟨x, hx⟩ : ∃ x : Nat, x = s[k].toNat - 48 := ⟨_, rfl⟩
        rw [← hx] at hd
        have e1 : (s[k].toNat : Int) - 48 = (x : Int) := by omega
        have hx9 : x ≤ 9 := by omega
        have i1 : (48 : Int) ≤ (s[k].toNat : Int) := by omega
        have i2 : (s[k].toNat : Int) ≤ 57 := by omega
        clear hdig hc hx hm
        by_cases hov : 10 * m + x ≤ maxN
        · rw [if_pos hov] at hd
          have HF := Lib.hid hd
          have i3 : (x : Int) ≤ 9 := by omega
          have hov' : 10 * m + x ≤ 9223372036854775807 := hov
          have i4 : 10 * (m : Int) + (x : Int) ≤ 9223372036854775807 := by omega
          have i5 : 10 * (m : Int) ≤ 9223372036854775807 := by omega
          have f1 : decide ((9223372036854775807 - (x : Int)) / 10 < (m : Int)) = false := by simp; omega
          have HOV := Lib.hid hov
          clear hd hov hov' hx9
          go_wp2_with (go_at_call 160; refine (KD.out _).mono ?_; rintro e w' ⟨rfl, rfl⟩)
          go_round
          case rel => exact ⟨k + 1, 10 * m + x, by omega, HOV.out, by go_num, by go_num, HF⟩
          case measure => simp [intOf]; omega
        · rw [if_neg hov] at hd
          have HF : Hid (r = none) := hd.symm
          have i3 : (x : Int) ≤ 9 := by omega
          have hov' : ¬ 10 * m + x ≤ 9223372036854775807 := hov
          have f1 : decide ((9223372036854775807 - (x : Int)) / 10 < (m : Int)) = true := by simp; omega
          clear hd hov hov' hx9
          go_wp2_with (go_at_call 160; refine (KD.out _).mono ?_; rintro e w' ⟨rfl, rfl⟩)
          go_ret2
          exact ⟨by rw [HF.out]; rfl, rfl⟩
    · obtain rfl : k = s.size := by omega
      have HF : Hid (r = some m) := by
        have h := HR.out
        rw [List.drop_of_length_le (by simp)] at h
        exact h.symm
      go_wp2
      go_ret2
      refine ⟨?_, rfl⟩
      rw [HF.out, ← HEM.out]
      rfl
end Go.Proofs.YtfmjhbaenpbfoaaGreatDoor
