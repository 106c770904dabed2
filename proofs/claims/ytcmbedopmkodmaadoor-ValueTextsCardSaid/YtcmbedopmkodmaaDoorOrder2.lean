/- The order goes on; it is 0 just at the same; texts are one each: plain lemmas. -/
import Derived.Test.YtcmbedopmkodmaaDoorOrder
namespace Go.Proofs.YtcmbedopmkodmaaDoor
open Go.RowKit

theorem or3_le {a b c : Int} : or3 a b c ≤ 0 ↔ a < 0 ∨ a = 0 ∧ (b < 0 ∨ b = 0 ∧ c ≤ 0) := by
  unfold or3
  by_cases ha : a = 0
  · subst ha
    by_cases hb : b = 0
    · subst hb; simp
    · simp [hb]; omega
  · simp [ha]; omega

theorem or3_zero {a b c : Int} : or3 a b c = 0 ↔ a = 0 ∧ b = 0 ∧ c = 0 := by
  unfold or3
  by_cases ha : a = 0
  · subst ha
    by_cases hb : b = 0
    · subst hb; simp
    · simp [hb]
  · simp [ha]

theorem cmp3_lt_iff {x y : Int} : cmp3 x y < 0 ↔ x < y := by
  unfold cmp3; split <;> (try split) <;> omega
theorem cmp3_zero {x y : Int} : cmp3 x y = 0 ↔ x = y := by
  unfold cmp3; split <;> (try split) <;> omega
theorem cmpBytes_le {a b : List UInt8} : Lib.compareBytes a b ≤ 0 ↔ Op.bytesLess a b = true ∨ a = b := by
  rw [cmpBytes_spec]
  cases h : Op.bytesLess a b with
  | true => simp
  | false =>
    by_cases e : a = b
    · simp [e]
    · simp [e]
theorem cmpBytes_zero {a b : List UInt8} : Lib.compareBytes a b = 0 ↔ a = b := by
  rw [cmpBytes_spec]
  cases h : Op.bytesLess a b with
  | true =>
    have hne : a ≠ b := by rintro rfl; rw [bytesLess_irrefl] at h; cases h
    simp [hne]
  | false =>
    by_cases e : a = b
    · simp [e]
    · simp [e]

theorem cmpBytes_trans {a b c : List UInt8} (h1 : Lib.compareBytes a b ≤ 0) (h2 : Lib.compareBytes b c ≤ 0) : Lib.compareBytes a c ≤ 0 := by
  rw [cmpBytes_le] at *
  rcases h1 with h1 | rfl
  · rcases h2 with h2 | rfl
    · exact Or.inl (bytesLess_trans _ _ _ h1 h2)
    · exact Or.inl h1
  · exact h2

def RightV (x : Int × Int × ByteArray) : Prop := rightB x.1 x.2.1 x.2.2 = true

theorem cmpV_trans {x y z : Int × Int × ByteArray} (hx : RightV x) (hy : RightV y) (hz : RightV z) (h1 : cmpV x y ≤ 0) (h2 : cmpV y z ≤ 0) : cmpV x z ≤ 0 := by
  rw [cmpV_right hx hy, or3_le, cmp3_lt_iff, cmp3_zero, cmp3_lt_iff, cmp3_zero] at h1
  rw [cmpV_right hy hz, or3_le, cmp3_lt_iff, cmp3_zero, cmp3_lt_iff, cmp3_zero] at h2
  rw [cmpV_right hx hz, or3_le, cmp3_lt_iff, cmp3_zero, cmp3_lt_iff, cmp3_zero]
  rcases h1 with h1 | ⟨e1, h1⟩
  · left; rcases h2 with h2 | ⟨e2, _⟩ <;> omega
  · rcases h2 with h2 | ⟨e2, h2⟩
    · left; omega
    · right
      refine ⟨by omega, ?_⟩
      rcases h1 with h1 | ⟨f1, h1⟩
      · left; rcases h2 with h2 | ⟨f2, _⟩ <;> omega
      · rcases h2 with h2 | ⟨f2, h2⟩
        · left; omega
        · right; exact ⟨by omega, cmpBytes_trans h1 h2⟩

theorem cmpV_zero {x y : Int × Int × ByteArray} (hx : RightV x) (hy : RightV y) : cmpV x y = 0 ↔ x = y := by
  rw [cmpV_right hx hy, or3_zero, cmp3_zero, cmp3_zero, cmpBytes_zero]
  obtain ⟨x1, x2, ⟨⟨x3⟩⟩⟩ := x
  obtain ⟨y1, y2, ⟨⟨y3⟩⟩⟩ := y
  simp

/-- What digits say. -/
def numOf (l : List UInt8) : Nat := l.foldl (fun acc c => acc * 10 + (c.toNat - 48)) 0

theorem numOf_digits (m : Nat) : numOf (Lib.decDigits m) = m := by
  induction m using Nat.strongRecOn with
  | ind m ih =>
    rw [Lib.decDigits]
    split
    · rename_i h
      show 0 * 10 + ((UInt8.ofNat (48 + m)).toNat - 48) = m
      rw [UInt8.toNat_ofNat']; omega
    · rename_i h
      have := ih (m / 10) (by omega)
      unfold numOf at this ⊢
      rw [List.foldl_append, this]
      show m / 10 * 10 + ((UInt8.ofNat (48 + m % 10)).toNat - 48) = m
      rw [UInt8.toNat_ofNat']; omega

theorem digits_head (m : Nat) : ∃ c l, Lib.decDigits m = c :: l ∧ 48 ≤ c.toNat ∧ c.toNat ≤ 57 := by
  induction m using Nat.strongRecOn with
  | ind m ih =>
    rw [Lib.decDigits]
    split
    · rename_i h
      exact ⟨_, [], rfl, by rw [UInt8.toNat_ofNat']; omega, by rw [UInt8.toNat_ofNat']; omega⟩
    · rename_i h
      obtain ⟨c, l, e, h1, h2⟩ := ih (m / 10) (by omega)
      exact ⟨c, l ++ [_], by rw [e]; rfl, h1, h2⟩

theorem itoa_inj {a b : Int} (h : Lib.itoa a = Lib.itoa b) : a = b := by
  obtain ⟨c, l, e, h1, _⟩ := digits_head a.toNat
  obtain ⟨c', l', e', h1', _⟩ := digits_head b.toNat
  unfold Lib.itoa at h
  split at h <;> split at h
  · have := congrArg numOf (List.cons.inj h).2
    rw [numOf_digits, numOf_digits] at this
    omega
  · rw [e'] at h
    have := (List.cons.inj h).1
    subst this
    simp at h1'
  · rw [e] at h
    have := (List.cons.inj h).1
    subst this
    simp at h1
  · have := congrArg numOf h
    rw [numOf_digits, numOf_digits] at this
    omega

theorem itoa_head (a : Int) : ∃ c l, Lib.itoa a = c :: l ∧ c ≠ 39 := by
  unfold Lib.itoa
  split
  · exact ⟨45, _, rfl, by decide⟩
  · obtain ⟨c, l, e, h1, _⟩ := digits_head a.toNat
    exact ⟨c, l, e, by rintro rfl; simp at h1⟩

theorem text_name' (n : Int) (s : ByteArray) (h : rightB 2 n s = true) : (textS (2, n, s)).data.toList = 39 :: s.data.toList := by
  unfold textS
  rw [if_pos h, if_pos rfl, ByteArray.data_append]
  simp
theorem text_num' (n : Int) (s : ByteArray) (h : rightB 1 n s = true) : (textS (1, n, s)).data.toList = Lib.itoa n := by
  unfold textS
  rw [if_pos h, if_neg (by show ¬ (1 : Int) = 2; omega)]

theorem right_cases {k n : Int} {s : ByteArray} (h : rightB k n s = true) : (k = 1 ∧ s = ⟨#[]⟩) ∨ (k = 2 ∧ n = 0) := by
  by_cases h2 : k = 2
  · subst h2
    simp [rightB] at h
    exact Or.inr ⟨rfl, h.1⟩
  · obtain rfl := right_kind h h2
    left
    simp [rightB] at h
    refine ⟨rfl, ?_⟩
    rw [ByteArray.toList_eq] at h
    obtain ⟨⟨l⟩⟩ := s
    simp at h
    rw [h]

theorem text_inj {x y : Int × Int × ByteArray} (hx : RightV x) (hy : RightV y) : (textS x).data.toList = (textS y).data.toList ↔ x = y := by
  refine ⟨fun h => ?_, fun h => by rw [h]⟩
  obtain ⟨x1, x2, x3⟩ := x
  obtain ⟨y1, y2, y3⟩ := y
  rcases right_cases hx with ⟨e1, e2⟩ | ⟨e1, e2⟩ <;> rcases right_cases hy with ⟨f1, f2⟩ | ⟨f1, f2⟩ <;> simp only at e1 e2 f1 f2 <;> subst e1 e2 f1 f2
  · rw [text_num' _ _ hx, text_num' _ _ hy] at h
    obtain rfl : x2 = y2 := itoa_inj h
    rfl
  · rw [text_num' _ _ hx, text_name' _ _ hy] at h
    obtain ⟨c, l, e, hc⟩ := itoa_head x2
    rw [e] at h
    exact absurd (List.cons.inj h).1 hc
  · rw [text_name' _ _ hx, text_num' _ _ hy] at h
    obtain ⟨c, l, e, hc⟩ := itoa_head y2
    rw [e] at h
    exact absurd (List.cons.inj h).1.symm hc
  · rw [text_name' _ _ hx, text_name' _ _ hy] at h
    have := (List.cons.inj h).2
    obtain ⟨⟨l⟩⟩ := x3
    obtain ⟨⟨l'⟩⟩ := y3
    simp at this
    rw [this]

theorem text_some {x : Int × Int × ByteArray} (hx : RightV x) : (textS x).data.toList ≠ [] := by
  obtain ⟨x1, x2, x3⟩ := x
  rcases right_cases hx with ⟨e1, e2⟩ | ⟨e1, e2⟩ <;> simp only at e1 e2 <;> subst e1 e2
  · rw [text_num' _ _ hx]
    obtain ⟨c, l, e, _⟩ := itoa_head x2
    rw [e]; simp
  · rw [text_name' _ _ hx]; simp
end Go.Proofs.YtcmbedopmkodmaaDoor
