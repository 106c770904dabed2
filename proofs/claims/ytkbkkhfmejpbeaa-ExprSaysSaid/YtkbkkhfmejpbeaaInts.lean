/- Sums, differences, products of 64 bits, on both sides: what fits and what does not. -/
import Derived.Test.YtkbkkhfmejpbeaaRight
namespace Go.Proofs.Ytkbkkhfmejpbeaa
open Go.RowKit

def fitB (x : Int) : Bool := decide (-9223372036854775808 ≤ x) && decide (x ≤ 9223372036854775807)
structure In64 (x : Int) : Prop where
  lo : -9223372036854775808 ≤ x
  hi : x ≤ 9223372036854775807

theorem wrap_fit {x : Int} (h : fitB x = true) : wrap64 x = x := by
  simp [fitB] at h
  unfold wrap64; omega

theorem In64.of_fit {x : Int} (h : fitB x = true) : In64 x := by
  simp [fitB] at h
  exact ⟨h.1, h.2⟩

theorem fit_iff (x : Int) : fitB x = true ↔ In64 x := ⟨In64.of_fit, fun h => by simp [fitB, h.lo, h.hi]⟩

theorem In64.wrap (x : Int) : In64 (wrap64 x) := by
  constructor <;> unfold wrap64 <;> omega

theorem bool_ext {a b : Bool} (h : a = true ↔ b = true) : a = b := by
  cases a <;> cases b <;> simp_all

theorem sum_test (a b : Int) (ha : In64 a) (hb : In64 b) : (decide (wrap64 (a + b) < a) == decide (b < 0)) = fitB (a + b) := by
  obtain ⟨a1, a2⟩ := ha
  obtain ⟨b1, b2⟩ := hb
  apply bool_ext
  rw [fit_iff, beq_iff_eq, decide_eq_decide]
  constructor
  · intro h
    unfold wrap64 at h
    constructor <;> omega
  · intro ⟨h1, h2⟩
    unfold wrap64
    omega

theorem diff_test (a b : Int) (ha : In64 a) (hb : In64 b) : (decide (a < wrap64 (a - b)) == decide (b < 0)) = fitB (a - b) := by
  obtain ⟨a1, a2⟩ := ha
  obtain ⟨b1, b2⟩ := hb
  apply bool_ext
  rw [fit_iff, beq_iff_eq, decide_eq_decide]
  constructor
  · intro h
    unfold wrap64 at h
    constructor <;> omega
  · intro ⟨h1, h2⟩
    unfold wrap64
    omega

theorem tmod_lt (n b : Int) (h : b ≠ 0) : (n.tmod b).natAbs < b.natAbs := by
  rw [Int.natAbs_tmod]
  exact Nat.mod_lt _ (by omega)

theorem tdiv_mul (a b : Int) (hb : b ≠ 0) : (a * b).tdiv b = a := Int.mul_tdiv_cancel _ hb

/-- Where a quotient of a product that wrapped round is the first factor, nothing wrapped: but at the least number and -1. -/
theorem quo_back (a b : Int) (ha : In64 a) (hb : In64 b) (hb0 : b ≠ 0) (hne : ¬ (a = -9223372036854775808 ∧ b = -1)) (h : wrap64 ((wrap64 (a * b)).tdiv b) = a) : fitB (a * b) = true := by
  obtain ⟨a1, a2⟩ := ha
  obtain ⟨b1, b2⟩ := hb
  rw [fit_iff]
  have hn := In64.wrap (a * b)
  obtain ⟨n1, n2⟩ := hn
  have hmod : ∃ q : Int, a * b = wrap64 (a * b) + 18446744073709551616 * q := by
    refine ⟨(a * b - wrap64 (a * b)) / 18446744073709551616, ?_⟩
    generalize a * b = p
    unfold wrap64; omega
  obtain ⟨q, hq⟩ := hmod
  generalize wrap64 (a * b) = n at *
  have hq0 : q = 0 := by
    by_cases hlow : n = -9223372036854775808 ∧ b = -1
    · obtain ⟨rfl, rfl⟩ := hlow
      exfalso
      apply hne
      refine ⟨?_, rfl⟩
      rw [← h]
      decide +kernel
    · have hd : wrap64 (n.tdiv b) = n.tdiv b := by
        have hle : (n.tdiv b).natAbs ≤ n.natAbs := by
          rw [Int.natAbs_tdiv]
          exact Nat.div_le_self _ _
        have hx : n.tdiv b ≤ 9223372036854775807 := by
          rcases Int.lt_or_le 9223372036854775807 (n.tdiv b) with hgt | hgt
          · exfalso
            apply hlow
            have hn' : n = -9223372036854775808 := by omega
            refine ⟨hn', ?_⟩
            have hmul := Int.tmod_add_mul_tdiv n b
            have hr : (n.tmod b).natAbs < b.natAbs := tmod_lt n b hb0
            have ht : n.tdiv b = 9223372036854775808 := by omega
            rw [ht, hn'] at hmul
            subst hn'
            omega
          · exact hgt
        unfold wrap64; omega
      rw [hd] at h
      have hmul := Int.tmod_add_mul_tdiv n b
      rw [h, Int.mul_comm b a, hq] at hmul
      have hr : (n.tmod b).natAbs < b.natAbs := tmod_lt n b hb0
      omega
  subst hq0
  rw [hq]
  constructor <;> omega

theorem prod_test (a b : Int) (ha : In64 a) (hb : In64 b) (ha0 : a ≠ 0) (hb0 : b ≠ 0) :
    (wrap64 ((wrap64 (a * b)).tdiv b) == a && (decide (wrap64 (a * b) < 0) == (decide (a < 0) != decide (b < 0)))) = fitB (a * b) := by
  apply bool_ext
  constructor
  · intro h
    rw [Bool.and_eq_true] at h
    obtain ⟨h1, h2⟩ := h
    refine quo_back a b ha hb hb0 ?_ (by simpa using h1)
    rintro ⟨rfl, rfl⟩
    revert h2
    decide +kernel
  · intro h
    have hw := wrap_fit h
    rw [hw, tdiv_mul a b hb0]
    have hwa : wrap64 a = a := wrap_fit (by rw [fit_iff]; exact ha)
    rw [hwa]
    simp only [beq_self_eq_true, Bool.true_and]
    rcases Int.lt_or_gt_of_ne ha0 with h1 | h1 <;> rcases Int.lt_or_gt_of_ne hb0 with h2 | h2
    · have : 0 < a * b := Int.mul_pos_of_neg_of_neg h1 h2
      simp [h1, h2]; omega
    · have : a * b < 0 := Int.mul_neg_of_neg_of_pos h1 h2
      simp [h1, this]; omega
    · have : a * b < 0 := Int.mul_neg_of_pos_of_neg h1 h2
      simp [h2, this]; omega
    · have : 0 < a * b := Int.mul_pos h1 h2
      have e1 : ¬ a < 0 := by omega
      have e2 : ¬ b < 0 := by omega
      have e3 : ¬ a * b < 0 := by omega
      simp [e1, e2, e3]
end Go.Proofs.Ytkbkkhfmejpbeaa
