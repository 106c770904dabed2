/- Plain: the comparison of two matches as a number: below 0 just if the first one stands ahead, 0 just if they are the same. -/
import Derived.Test.YtlkmabnjmklkpaaDoorPlain14
import Derived.Lib.Small
import Derived.Sort.Statements
import Derived.Shelf.SlSortCmp.Insertion
namespace Go.Proofs.YtlkmabnjmklkpaaDoor
open Go.RowKit Go.Sort

theorem cmpI_neg (x y : Int) : Lib.compareInt x y < 0 ↔ x < y := by
  unfold Lib.compareInt
  by_cases h1 : x < y
  · simp [h1]
  · by_cases h2 : x > y <;> simp [h1, h2]
theorem cmpI_zero (x y : Int) : Lib.compareInt x y = 0 ↔ x = y := by
  unfold Lib.compareInt
  by_cases h1 : x < y
  · simp [h1]; omega
  · by_cases h2 : x > y
    · simp [h1, h2]; omega
    · simp [h1, h2]; omega

/-- Two rows of numbers, one by one. -/
def cmpL : List Int → List Int → Int
  | [], [] => 0
  | [], _ :: _ => -1
  | _ :: _, [] => 1
  | x :: xs, y :: ys => if x = y then cmpL xs ys else Lib.compareInt x y
theorem cmpL_gt : ∀ (p q : List Int), cmpL q p < 0 ↔ gtL p q = true
  | [], [] => by simp [cmpL, gtL]
  | [], _ :: _ => by simp [cmpL, gtL]
  | _ :: _, [] => by simp [cmpL, gtL]
  | x :: xs, y :: ys => by
    by_cases h : x = y
    · subst h
      simp only [cmpL, gtL, if_true]
      exact cmpL_gt xs ys
    · have h' : ¬ y = x := fun e => h e.symm
      simp only [cmpL, gtL, if_neg h, if_neg h', cmpI_neg, decide_eq_true_eq]
theorem cmpL_zero : ∀ (p q : List Int), cmpL p q = 0 ↔ p = q
  | [], [] => by simp [cmpL]
  | [], _ :: _ => by simp [cmpL]
  | _ :: _, [] => by simp [cmpL]
  | x :: xs, y :: ys => by
    by_cases h : x = y
    · subst h
      simp only [cmpL, if_true, cmpL_zero xs ys, List.cons.injEq, true_and]
    · have e : cmpL (x :: xs) (y :: ys) = Lib.compareInt x y := by simp only [cmpL, if_neg h]
      rw [e, cmpI_zero]
      exact ⟨fun e => absurd e h, fun e => absurd (List.cons.inj e).1 h⟩
theorem cmpL_lt : ∀ (p q : List Int), p.length = q.length → (cmpL p q < 0 ↔ ltL p q = true)
  | [], [], _ => by simp [cmpL, ltL]
  | [], _ :: _, h => by simp at h
  | _ :: _, [], h => by simp at h
  | x :: xs, y :: ys, hl => by
    by_cases h : x = y
    · subst h
      simp only [cmpL, ltL, if_true]
      exact cmpL_lt xs ys (by simpa using hl)
    · simp only [cmpL, ltL, if_neg h, cmpI_neg, decide_eq_true_eq]

/-- The first one that is not 0. -/
def orI : List Int → Int
  | [] => 0
  | x :: l => if x = 0 then orI l else x
def cmp14 (s : List Int) (a b : Tok14) : Int :=
  orI [Lib.compareInt (salOf14 s b.1) (salOf14 s a.1), cmpL (falling14 b.2) (falling14 a.2), Lib.compareInt a.1 b.1, cmpL a.2 b.2]
theorem cmp14_neg (s : List Int) (a b : Tok14) : cmp14 s a b < 0 ↔ better14 s a b = true := by
  unfold cmp14 better14
  simp only [orI]
  by_cases h1 : salOf14 s a.1 = salOf14 s b.1
  · rw [if_pos ((cmpI_zero _ _).2 h1.symm), if_pos h1]
    by_cases h2 : falling14 a.2 = falling14 b.2
    · rw [if_pos ((cmpL_zero _ _).2 h2.symm), if_pos h2]
      have hl : a.2.length = b.2.length := by rw [← falling_len a.2, ← falling_len b.2, h2]
      by_cases h3 : a.1 = b.1
      · rw [if_pos ((cmpI_zero _ _).2 h3), if_pos h3]
        by_cases h4 : cmpL a.2 b.2 = 0
        · rw [if_pos h4, ← cmpL_lt _ _ hl, h4]
        · rw [if_neg h4]; exact cmpL_lt _ _ hl
      · rw [if_neg (fun e => h3 ((cmpI_zero _ _).1 e)), if_neg h3, cmpI_neg, decide_eq_true_eq]
    · rw [if_neg (fun e => h2 ((cmpL_zero _ _).1 e).symm), if_neg h2, cmpL_gt]
  · rw [if_neg (fun e => h1 ((cmpI_zero _ _).1 e).symm), if_neg h1, cmpI_neg, decide_eq_true_eq]
theorem cmp14_zero (s : List Int) (a b : Tok14) : cmp14 s a b = 0 ↔ a = b := by
  constructor
  · intro h
    unfold cmp14 at h
    simp only [orI] at h
    by_cases h1 : Lib.compareInt (salOf14 s b.1) (salOf14 s a.1) = 0
    · rw [if_pos h1] at h
      by_cases h2 : cmpL (falling14 b.2) (falling14 a.2) = 0
      · rw [if_pos h2] at h
        by_cases h3 : Lib.compareInt a.1 b.1 = 0
        · rw [if_pos h3] at h
          by_cases h4 : cmpL a.2 b.2 = 0
          · exact Prod.ext ((cmpI_zero _ _).1 h3) ((cmpL_zero _ _).1 h4)
          · rw [if_neg h4] at h; exact absurd h h4
        · rw [if_neg h3] at h; exact absurd h h3
      · rw [if_neg h2] at h; exact absurd h h2
    · rw [if_neg h1] at h; exact absurd h h1
  · rintro rfl
    unfold cmp14
    simp only [orI]
    rw [if_pos ((cmpI_zero _ _).2 rfl), if_pos ((cmpL_zero _ _).2 rfl), if_pos ((cmpI_zero _ _).2 rfl), if_pos ((cmpL_zero _ _).2 rfl)]
theorem cmp14_lt (s : List Int) (a b : Tok14) : ltOf (cmp14 s) a b = better14 s a b := by
  unfold ltOf
  by_cases h : cmp14 s a b < 0
  · rw [decide_eq_true h, (cmp14_neg s a b).1 h]
  · rw [decide_eq_false h]
    cases hb : better14 s a b with
    | true => exact absurd ((cmp14_neg s a b).2 hb) h
    | false => rfl
end Go.Proofs.YtlkmabnjmklkpaaDoor
