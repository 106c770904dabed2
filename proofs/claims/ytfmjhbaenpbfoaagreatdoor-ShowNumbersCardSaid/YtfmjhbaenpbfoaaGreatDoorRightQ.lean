/- The program's table is the document's: kind by kind. -/
import Derived.Test.YtfmjhbaenpbfoaaGreatDoorRightP
namespace Go.Proofs.YtfmjhbaenpbfoaaGreatDoor
open Go.RowKit

theorem zero_is (n : Int) : (decide (0 ≤ n) && decide (n ≤ 0)) = (n == 0) := by
  by_cases h : n = 0
  · subst h; rfl
  · rw [beq_eq_false_iff_ne.2 h]
    by_cases h1 : 0 ≤ n
    · rw [decide_eq_true h1, decide_eq_false (by omega)]; rfl
    · rw [decide_eq_false h1]; rfl
theorem dropWhile_all (p : T → Bool) : ∀ l : List T, (l.dropWhile p).isEmpty = l.all p
  | [] => rfl
  | q :: r => by
    rw [List.dropWhile_cons, List.all_cons]
    cases h : p q with
    | true => rw [if_pos rfl, dropWhile_all p r]; rfl
    | false => rw [if_neg (by simp)]; rfl
theorem turn_none (l : List T) : turnK 0 0 [] l = (l.length == 0) := by
  unfold turnK
  rw [stripK]
  cases l with
  | nil => rfl
  | cons q r => simp
theorem turn_many (rows : List (List Int)) (l : List T) (h : l.length ≤ 4096) : turnK 0 4096 rows l = (stripK rows l).isEmpty := by
  unfold turnK
  rw [decide_eq_true (by omega), decide_eq_true (by omega)]
  rfl
theorem strip_one (ks : List Int) (l : List T) : (stripK [ks] l).isEmpty = l.all fun q => ks.contains q.kind := by
  rw [stripK, stripK]
  exact dropWhile_all _ l
theorem turn_just (m : Nat) (ks : List Int) (l : List T) : turnK m m [ks] l = (l.length == m && l.all fun q => ks.contains q.kind) := by
  unfold turnK
  rw [strip_one]
  congr 1
  by_cases h : l.length = m
  · rw [h, decide_eq_true (Int.le_refl _)]
    simp
  · rw [beq_eq_false_iff_ne.2 h]
    by_cases h1 : (m : Int) ≤ l.length
    · rw [decide_eq_true h1, decide_eq_false (by omega)]; rfl
    · rw [decide_eq_false h1]; rfl
theorem turn_least (ks : List Int) (l : List T) (h : l.length ≤ 4096) : turnK 1 4096 [ks] l = (decide (1 ≤ l.length) && l.all fun q => ks.contains q.kind) := by
  unfold turnK
  rw [strip_one, decide_eq_true (show (l.length : Int) ≤ 4096 by omega), Bool.and_true]
  congr 1
  by_cases h : 1 ≤ l.length
  · rw [decide_eq_true h, decide_eq_true (by omega)]
  · rw [decide_eq_false h, decide_eq_false (by omega)]
theorem among_is (ks : List Int) (k : Int) : among ks k = ks.contains k := by
  unfold among
  rw [List.contains_eq_any_beq]

theorem tab1 (s : ByteArray) (n : Int) (l : List T) : tabQ 1 s n l = (s.toList.isEmpty && (n == 0) && turnK 0 4096 [[2, 4]] l) := by
  rw [← zero_is]
  simp [tabQ, shL, Sh.has, Bool.and_assoc]
theorem tab2 (s : ByteArray) (n : Int) (l : List T) : tabQ 2 s n l = (nameT s && (n == 0) && turnK 0 4096 [[3]] l) := by
  rw [← zero_is, ← name_is]
  simp [tabQ, shL, Sh.has, Bool.and_assoc]
theorem tab3 (s : ByteArray) (n : Int) (l : List T) : tabQ 3 s n l = (nameT s && (n == 0) && turnK 0 0 [] l) := by
  rw [← zero_is, ← name_is]
  simp [tabQ, shL, Sh.has, Bool.and_assoc]
theorem tab4 (s : ByteArray) (n : Int) (l : List T) : tabQ 4 s n l = (nameT s && decide (-2147483647 ≤ n) && decide (n ≤ 2147483647) && turnK 0 4096 [[5, 6, 7], [8, 9, 10, 11]] l) := by
  rw [← name_is]
  simp [tabQ, shL, Sh.has, Bool.and_assoc]
theorem tab5 (s : ByteArray) (n : Int) (l : List T) : tabQ 5 s n l = (nameT s && (n == 0) && turnK 0 4096 [[12, 13, 14, 15]] l) := by
  rw [← zero_is, ← name_is]
  simp [tabQ, shL, Sh.has, Bool.and_assoc]
theorem tab6 (s : ByteArray) (n : Int) (l : List T) : tabQ 6 s n l = (nameT s && (n == 0) && turnK 0 4096 [[12, 13, 14, 15]] l) := by
  rw [← zero_is, ← name_is]
  simp [tabQ, shL, Sh.has, Bool.and_assoc]
theorem tab7 (s : ByteArray) (n : Int) (l : List T) : tabQ 7 s n l = (s.toList.isEmpty && (n == 0) && turnK 1 1 [[13, 14, 15, 16]] l) := by
  rw [← zero_is]
  simp [tabQ, shL, Sh.has, Bool.and_assoc]
theorem tab8 (s : ByteArray) (n : Int) (l : List T) : tabQ 8 s n l = (nameT s && (n == 0) && turnK 0 4096 [[13, 14, 15, 16]] l) := by
  rw [← zero_is, ← name_is]
  simp [tabQ, shL, Sh.has, Bool.and_assoc]
theorem tab9 (s : ByteArray) (n : Int) (l : List T) : tabQ 9 s n l = (s.toList.isEmpty && decide (0 ≤ n) && decide (n ≤ 2147483647) && turnK 0 0 [] l) := by
  simp [tabQ, shL, Sh.has, Bool.and_assoc]
theorem tab10 (s : ByteArray) (n : Int) (l : List T) : tabQ 10 s n l = (s.toList.isEmpty && (n == 0) && turnK 1 4096 [[13, 14, 15, 16]] l) := by
  rw [← zero_is]
  simp [tabQ, shL, Sh.has, Bool.and_assoc]
theorem tab11 (s : ByteArray) (n : Int) (l : List T) : tabQ 11 s n l = (s.toList.isEmpty && (n == 0) && turnK 0 0 [] l) := by
  rw [← zero_is]
  simp [tabQ, shL, Sh.has, Bool.and_assoc]
theorem tab12 (s : ByteArray) (n : Int) (l : List T) : tabQ 12 s n l = (s.toList.isEmpty && (n == 0) && turnK 0 0 [] l) := by
  rw [← zero_is]
  simp [tabQ, shL, Sh.has, Bool.and_assoc]
theorem tab13 (s : ByteArray) (n : Int) (l : List T) : tabQ 13 s n l = (Nm.namedB s.data.toList && (n == 0) && turnK 0 0 [] l) := by
  rw [← zero_is, ← word_is]
  simp [tabQ, shL, Sh.has, Bool.and_assoc]
theorem tab14 (s : ByteArray) (n : Int) (l : List T) : tabQ 14 s n l = (numB s.data.toList && (n == 0) && turnK 0 0 [] l) := by
  rw [← zero_is]
  simp [tabQ, shL, Sh.has, Bool.and_assoc]
theorem tab15 (s : ByteArray) (n : Int) (l : List T) : tabQ 15 s n l = (Nm.namedB s.data.toList && (n == 0) && turnK 0 0 [] l) := by
  rw [← zero_is, ← word_is]
  simp [tabQ, shL, Sh.has, Bool.and_assoc]
theorem tab16 (s : ByteArray) (n : Int) (l : List T) : tabQ 16 s n l = (((oneZ.any fun z => s.toList == z.toList) && (n == 0) && turnK 1 1 [[13, 14, 15, 16]] l) || ((opsZ.any fun z => s.toList == z.toList) && (n == 0) && turnK 2 2 [[13, 14, 15, 16]] l)) := by
  rw [← zero_is]
  simp [tabQ, shL, Sh.has, Bool.and_assoc]
theorem tabX (k : Int) (s : ByteArray) (n : Int) (l : List T) (h : k < 1 ∨ 16 < k) : tabQ k s n l = false := by
  have e : ∀ z : Int, 1 ≤ z → z ≤ 16 → (k == z) = false := fun z h1 h2 => beq_eq_false_iff_ne.2 (by omega)
  simp [tabQ, shL, Sh.has, e]
end Go.Proofs.YtfmjhbaenpbfoaaGreatDoor
