/- The order of right values is one, and their texts are one each: plain lemmas. -/
import Derived.Test.YtcmbedopmkodmaaDoorRefCmp
import Derived.Test.YtcmbedopmkodmaaDoorTexts
namespace Go.Proofs.YtcmbedopmkodmaaDoor
open Go.RowKit

theorem cmp3_neg (x y : Int) : cmp3 x y = -cmp3 y x := by
  unfold cmp3
  rcases (by omega : x < y ∨ y < x ∨ x = y) with h | h | h
  · rw [if_pos h, if_neg (by omega), if_pos h]
  · rw [if_neg (by omega), if_pos h, if_pos h]; rfl
  · subst h; simp

theorem bytesLess_irrefl : ∀ a : List UInt8, Op.bytesLess a a = false
  | [] => rfl
  | a :: x => by
    simp only [Op.bytesLess, bytesLess_irrefl x]
    simp

theorem bytesLess_asymm : ∀ a b : List UInt8, Op.bytesLess a b = true → Op.bytesLess b a = false
  | [], [], h => by simp [Op.bytesLess] at h
  | [], _ :: _, _ => rfl
  | _ :: _, [], h => by simp [Op.bytesLess] at h
  | a :: x, b :: y, h => by
    simp only [Op.bytesLess, Bool.or_eq_true, decide_eq_true_eq, Bool.and_eq_true, beq_iff_eq] at h
    simp only [Op.bytesLess, Bool.or_eq_false_iff, decide_eq_false_iff_not, Bool.and_eq_false_iff, beq_eq_false_iff_ne]
    rcases h with h | ⟨rfl, h⟩
    · rw [UInt8.lt_iff_toNat_lt] at h
      refine ⟨by rw [UInt8.lt_iff_toNat_lt]; omega, Or.inl ?_⟩
      rintro rfl; omega
    · exact ⟨by rw [UInt8.lt_iff_toNat_lt]; omega, Or.inr (bytesLess_asymm x y h)⟩

theorem bytesLess_total : ∀ a b : List UInt8, Op.bytesLess a b = false → a ≠ b → Op.bytesLess b a = true
  | [], [], _, h => absurd rfl h
  | [], _ :: _, h, _ => by simp [Op.bytesLess] at h
  | _ :: _, [], _, _ => rfl
  | a :: x, b :: y, h, hne => by
    simp only [Op.bytesLess, Bool.or_eq_false_iff, decide_eq_false_iff_not, Bool.and_eq_false_iff, beq_eq_false_iff_ne] at h
    simp only [Op.bytesLess, Bool.or_eq_true, decide_eq_true_eq, Bool.and_eq_true, beq_iff_eq]
    obtain ⟨h1, h2⟩ := h
    by_cases e : a = b
    · subst e
      right
      refine ⟨rfl, bytesLess_total x y ?_ (fun e => hne (by rw [e]))⟩
      rcases h2 with h2 | h2
      · exact absurd rfl h2
      · exact h2
    · left
      rw [UInt8.lt_iff_toNat_lt] at h1 ⊢
      have : a.toNat ≠ b.toNat := fun e' => e (UInt8.toNat_inj.1 e')
      omega

theorem bytesLess_trans : ∀ a b c : List UInt8, Op.bytesLess a b = true → Op.bytesLess b c = true → Op.bytesLess a c = true
  | _, [], _, h, _ => by rename_i a _; cases a <;> simp [Op.bytesLess] at h
  | _, _ :: _, [], _, h => by simp [Op.bytesLess] at h
  | [], _ :: _, _ :: _, _, _ => rfl
  | a :: x, b :: y, c :: z, h1, h2 => by
    simp only [Op.bytesLess, Bool.or_eq_true, decide_eq_true_eq, Bool.and_eq_true, beq_iff_eq] at h1 h2 ⊢
    rcases h1 with h1 | ⟨rfl, h1⟩ <;> rcases h2 with h2 | ⟨rfl, h2⟩
    · left; rw [UInt8.lt_iff_toNat_lt] at *; omega
    · left; exact h1
    · left; exact h2
    · right; exact ⟨rfl, bytesLess_trans x y z h1 h2⟩

theorem cmpBytes_neg (a b : List UInt8) : Lib.compareBytes a b = -Lib.compareBytes b a := by
  rw [cmpBytes_spec, cmpBytes_spec]
  cases h : Op.bytesLess a b with
  | true =>
    rw [bytesLess_asymm a b h]
    have hne : b ≠ a := by rintro rfl; rw [bytesLess_irrefl] at h; cases h
    simp [hne]
  | false =>
    by_cases e : a = b
    · subst e; simp [h]
    · rw [bytesLess_total a b h e]
      simp [e]

theorem or3_neg (a b c : Int) : or3 (-a) (-b) (-c) = -or3 a b c := by
  unfold or3
  by_cases ha : a = 0
  · subst ha
    by_cases hb : b = 0
    · subst hb; simp
    · simp [hb]
  · simp [ha]

theorem cmpV_neg (x y : Int × Int × ByteArray) : cmpV x y = -cmpV y x := by
  unfold cmpV
  by_cases h : rightB x.1 x.2.1 x.2.2 = false ∨ rightB y.1 y.2.1 y.2.2 = false
  · rw [if_pos h, if_pos h.symm]; rfl
  · rw [if_neg h, if_neg (fun h' => h h'.symm), cmp3_neg x.1, cmp3_neg x.2.1, cmpBytes_neg, or3_neg]

theorem cmp3_range (x y : Int) : -1 ≤ cmp3 x y ∧ cmp3 x y ≤ 1 := by
  unfold cmp3; split <;> (try split) <;> omega
theorem cmpBytes_range (a b : List UInt8) : -1 ≤ Lib.compareBytes a b ∧ Lib.compareBytes a b ≤ 1 := by
  rw [cmpBytes_spec]; split <;> (try split) <;> omega
theorem or3_range {a b c : Int} (ha : -1 ≤ a ∧ a ≤ 1) (hb : -1 ≤ b ∧ b ≤ 1) (hc : -1 ≤ c ∧ c ≤ 1) : -1 ≤ or3 a b c ∧ or3 a b c ≤ 1 := by
  unfold or3; split <;> (try split) <;> omega
theorem cmpV_range (x y : Int × Int × ByteArray) : -1 ≤ cmpV x y ∧ cmpV x y ≤ 1 := by
  unfold cmpV
  split
  · omega
  · exact or3_range (cmp3_range _ _) (cmp3_range _ _) (cmpBytes_range _ _)
end Go.Proofs.YtcmbedopmkodmaaDoor
