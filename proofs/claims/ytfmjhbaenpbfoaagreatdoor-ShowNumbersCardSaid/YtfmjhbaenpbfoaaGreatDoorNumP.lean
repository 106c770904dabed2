/- Numbers: what digits say, plainly. -/
import Derived.Test.YtfmjhbaenpbfoaaGreatDoorPlain
import Derived.Lib.ParseIntB
import Derived.Lib.SlTrimSet
namespace Go.Proofs.YtfmjhbaenpbfoaaGreatDoor

theorem numV_le (t : Bs) : ∀ n : Nat, n ≤ numV n t := by
  induction t with
  | nil => intro n; exact Nat.le_refl _
  | cons c l ih =>
    intro n
    have h := ih (10 * n + (c.toNat - 48))
    show n ≤ numV (10 * n + (c.toNat - 48)) l
    generalize numV (10 * n + (c.toNat - 48)) l = u at h ⊢
    omega
theorem parseM_ok (M : Nat) (hM : M ≤ 18446744073709551615) (t : Bs) : t.all digB = true → ∀ acc : Nat, numV acc t ≤ M → Lib.parseUintM M acc t = .ok (numV acc t) := by
  induction t with
  | nil => intro _ acc _; rfl
  | cons c l ih =>
    intro h acc ha
    rw [List.all_cons, Bool.and_eq_true] at h
    have hc : 48 ≤ c.toNat ∧ c.toNat ≤ 57 := by simpa [digB] using h.1
    have hle := numV_le l (10 * acc + (c.toNat - 48))
    have e : acc * 10 + (c.toNat - 48) = 10 * acc + (c.toNat - 48) := by omega
    have e2 : numV acc (c :: l) = numV (10 * acc + (c.toNat - 48)) l := rfl
    rw [e2] at ha ⊢
    rw [Lib.parseUintM, if_pos hc, e, if_neg (by omega), if_neg (by omega)]
    exact ih h.2 _ ha
theorem parseM_range (M : Nat) (t : Bs) : t.all digB = true → ∀ acc : Nat, acc ≤ M → ¬ numV acc t ≤ M → Lib.parseUintM M acc t = .range := by
  induction t with
  | nil => intro _ acc h1 h2; exact absurd h1 h2
  | cons c l ih =>
    intro h acc ha hn
    rw [List.all_cons, Bool.and_eq_true] at h
    have hc : 48 ≤ c.toNat ∧ c.toNat ≤ 57 := by simpa [digB] using h.1
    have e : acc * 10 + (c.toNat - 48) = 10 * acc + (c.toNat - 48) := by omega
    have e2 : numV acc (c :: l) = numV (10 * acc + (c.toNat - 48)) l := rfl
    rw [e2] at hn
    rw [Lib.parseUintM, if_pos hc, e]
    by_cases h1 : 1844674407370955162 ≤ acc
    · rw [if_pos h1]
    · rw [if_neg h1]
      by_cases h2 : M < 10 * acc + (c.toNat - 48)
      · rw [if_pos h2]
      · rw [if_neg h2]
        exact ih h.2 _ (by omega) hn
theorem parseI_ok (t : Bs) (h : numB t = true) : Lib.parseIntB 64 t = .ok ((numV 0 t : Nat) : Int) := by
  unfold numB at h
  rw [Bool.and_eq_true, Bool.and_eq_true] at h
  obtain ⟨⟨h1, h2⟩, h3⟩ := h
  have h3' : numV 0 t ≤ 9223372036854775807 := by simpa using h3
  cases t with
  | nil => simp at h1
  | cons c l =>
    have hc : 48 ≤ c.toNat ∧ c.toNat ≤ 57 := by
      have := (Bool.and_eq_true _ _ ▸ (List.all_cons ▸ h2 : (digB c && l.all digB) = true) : digB c = true ∧ _).1
      simpa [digB] using this
    have hm := parseM_ok (2 ^ 64 - 1) (by decide) (c :: l) h2 0 (Nat.le_trans h3' (by decide))
    simp only [Lib.parseIntB, Lib.parseUintB]
    rw [if_neg (show ¬ (c.toNat = 43 ∨ c.toNat = 45) by omega), if_neg (by simp), hm]
    generalize numV 0 (c :: l) = u at h3'
    have hneg : ¬ c.toNat = 45 := by omega
    have hu : ¬ 2 ^ (64 - 1) ≤ u := by
      show ¬ 9223372036854775808 ≤ u
      omega
    show (if ¬ c.toNat = 45 ∧ 2 ^ (64 - 1) ≤ u then Lib.NumEnd.range else if c.toNat = 45 ∧ 2 ^ (64 - 1) < u then Lib.NumEnd.range else .ok (if c.toNat = 45 then -(u : Int) else u)) = _
    rw [if_neg (fun h => hu h.2), if_neg (fun h => hneg h.1), if_neg hneg]
theorem parseI_range (t : Bs) (h0 : t ≠ []) (h : t.all digB = true) (hn : numB t = false) : Lib.parseIntB 64 t = .range := by
  have h3 : ¬ numV 0 t ≤ 9223372036854775807 := by
    intro h3
    unfold numB at hn
    rw [h, decide_eq_true h3] at hn
    cases t with
    | nil => exact h0 rfl
    | cons => simp at hn
  cases t with
  | nil => exact absurd rfl h0
  | cons c l =>
    have hc : 48 ≤ c.toNat ∧ c.toNat ≤ 57 := by
      have := (Bool.and_eq_true _ _ ▸ (List.all_cons ▸ h : (digB c && l.all digB) = true) : digB c = true ∧ _).1
      simpa [digB] using this
    have hneg : ¬ c.toNat = 45 := by omega
    simp only [Lib.parseIntB, Lib.parseUintB]
    rw [if_neg (show ¬ (c.toNat = 43 ∨ c.toNat = 45) by omega), if_neg (by simp)]
    by_cases h4 : numV 0 (c :: l) ≤ 2 ^ 64 - 1
    · rw [parseM_ok (2 ^ 64 - 1) (by decide) (c :: l) h 0 h4]
      generalize numV 0 (c :: l) = u at h3
      have hu : 2 ^ (64 - 1) ≤ u := by
        show 9223372036854775808 ≤ u
        omega
      show (if ¬ c.toNat = 45 ∧ 2 ^ (64 - 1) ≤ u then Lib.NumEnd.range else if c.toNat = 45 ∧ 2 ^ (64 - 1) < u then Lib.NumEnd.range else .ok (if c.toNat = 45 then -(u : Int) else u)) = _
      rw [if_pos ⟨hneg, hu⟩]
    · rw [parseM_range (2 ^ 64 - 1) (c :: l) h 0 (by decide) h4]

theorem dropWhile_nil {p : UInt8 → Bool} {l : Bs} : l.dropWhile p = [] ↔ l.all p = true := by
  induction l with
  | nil => simp
  | cons c l ih =>
    cases h : p c with
    | true => rw [List.dropWhile_cons_of_pos h, ih]; simp [h]
    | false => rw [List.dropWhile_cons_of_neg (by simp [h])]; simp [h]
theorem trim_nil (l cs : Bs) : Lib.trimS l cs = [] ↔ l.all (cs.contains ·) = true := by
  unfold Lib.trimS Lib.trimLeftS Lib.trimRightS
  constructor
  · intro h
    rw [dropWhile_nil, List.all_reverse] at h
    have h2 : l.reverse.dropWhile (cs.contains ·) = [] := by
      cases hd : l.reverse.dropWhile (cs.contains ·) with
      | nil => rfl
      | cons c m =>
        have hx := next_dropWhile (cs.contains ·) l.reverse
        rw [hd] at hx h
        rw [List.all_cons, Bool.and_eq_true] at h
        have hx' : cs.contains c = false := hx
        rw [hx'] at h
        cases h.1
    rw [dropWhile_nil, List.all_reverse] at h2
    exact h2
  · intro h
    have h2 : l.reverse.dropWhile (cs.contains ·) = [] := by rw [dropWhile_nil, List.all_reverse]; exact h
    rw [h2]
    rfl
end Go.Proofs.YtfmjhbaenpbfoaaGreatDoor
