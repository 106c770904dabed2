/- Plain: a match's key: its numbers as text, blanks between; no two matches have one key. -/
import Derived.Test.YtlkmabnjmklkpaaDoorPlain14
import Derived.Lib.ItoaMem
namespace Go.Proofs.YtlkmabnjmklkpaaDoor

def numOf14 (l : List UInt8) : Nat := l.foldl (fun acc c => acc * 10 + (c.toNat - 48)) 0
theorem numOf_digits14 (m : Nat) : numOf14 (Lib.decDigits m) = m := by
  induction m using Nat.strongRecOn with
  | ind m ih =>
    rw [Lib.decDigits]
    split
    · rename_i h
      show 0 * 10 + ((UInt8.ofNat (48 + m)).toNat - 48) = m
      rw [UInt8.toNat_ofNat']; omega
    · rename_i h
      have := ih (m / 10) (by omega)
      unfold numOf14 at this ⊢
      rw [List.foldl_append, this]
      show m / 10 * 10 + ((UInt8.ofNat (48 + m % 10)).toNat - 48) = m
      rw [UInt8.toNat_ofNat']; omega
theorem digits_all (m : Nat) : ∀ c, c ∈ Lib.decDigits m → 48 ≤ c.toNat ∧ c.toNat ≤ 57 := by
  induction m using Nat.strongRecOn with
  | ind m ih =>
    rw [Lib.decDigits]
    split
    · rename_i h
      intro c hc
      rw [List.mem_singleton.1 hc, UInt8.toNat_ofNat']
      omega
    · rename_i h
      intro c hc
      rcases List.mem_append.1 hc with hc | hc
      · exact ih (m / 10) (by omega) c hc
      · rw [List.mem_singleton.1 hc, UInt8.toNat_ofNat']
        omega
theorem digits_some (m : Nat) : Lib.decDigits m ≠ [] := by
  rw [Lib.decDigits]
  split <;> simp
theorem itoa_inj14 {a b : Int} (h : Lib.itoa a = Lib.itoa b) : a = b := by
  have hd : ∀ m l, Lib.decDigits m ≠ (45 : UInt8) :: l := fun m l e => by
    have := (digits_all m 45 (by rw [e]; exact List.mem_cons_self)).1
    simp at this
  unfold Lib.itoa at h
  split at h <;> split at h
  · have := congrArg numOf14 (List.cons.inj h).2
    rw [numOf_digits14, numOf_digits14] at this
    omega
  · exact absurd h.symm (hd _ _)
  · exact absurd h (hd _ _)
  · have := congrArg numOf14 h
    rw [numOf_digits14, numOf_digits14] at this
    omega
theorem itoa_blank (a : Int) : (32 : UInt8) ∉ Lib.itoa a := by
  intro h
  have hd : ∀ m, (32 : UInt8) ∉ Lib.decDigits m := fun m h => by
    have := (digits_all m 32 h).1
    simp at this
  unfold Lib.itoa at h
  split at h
  · rcases List.mem_cons.1 h with h | h
    · exact absurd h (by decide)
    · exact hd _ h
  · exact hd _ h

/-- What stands behind the rule: a blank and a number each. -/
def tailT : List Int → List UInt8
  | [] => []
  | x :: l => 32 :: (Lib.itoa x ++ tailT l)
def keyT (t : Tok14) : List UInt8 := Lib.itoa t.1 ++ tailT t.2
theorem tailT_snoc (l : List Int) (x : Int) : tailT (l ++ [x]) = tailT l ++ 32 :: Lib.itoa x := by
  induction l with
  | nil => simp [tailT]
  | cons y l ih => simp [tailT, ih]
/-- A number, then nothing or a blank: both can be told. -/
theorem word_one : ∀ (p q r s : List UInt8), (32 : UInt8) ∉ p → (32 : UInt8) ∉ q → (r = [] ∨ ∃ r', r = 32 :: r') → (s = [] ∨ ∃ s', s = 32 :: s') → p ++ r = q ++ s → p = q ∧ r = s
  | [], [], r, s, _, _, _, _, h => ⟨rfl, h⟩
  | [], c :: q, r, s, _, hq, hr, _, h => by
    rcases hr with rfl | ⟨r', rfl⟩
    · simp at h
    · simp only [List.nil_append, List.cons_append, List.cons.injEq] at h
      exact absurd (by rw [h.1]; exact List.mem_cons_self) hq
  | c :: p, [], r, s, hp, _, _, hs, h => by
    rcases hs with rfl | ⟨s', rfl⟩
    · simp at h
    · simp only [List.nil_append, List.cons_append, List.cons.injEq] at h
      exact absurd (by rw [← h.1]; exact List.mem_cons_self) hp
  | c :: p, d :: q, r, s, hp, hq, hr, hs, h => by
    simp only [List.cons_append, List.cons.injEq] at h
    obtain ⟨h1, h2⟩ := word_one p q r s (fun e => hp (List.mem_cons_of_mem _ e)) (fun e => hq (List.mem_cons_of_mem _ e)) hr hs h.2
    exact ⟨by rw [h.1, h1], h2⟩
theorem tailT_head (l : List Int) : tailT l = [] ∨ ∃ r', tailT l = 32 :: r' := by
  cases l with
  | nil => exact .inl rfl
  | cons x l => exact .inr ⟨_, rfl⟩
theorem tailT_inj : ∀ (p q : List Int), tailT p = tailT q → p = q
  | [], [], _ => rfl
  | [], _ :: _, h => by simp [tailT] at h
  | _ :: _, [], h => by simp [tailT] at h
  | x :: p, y :: q, h => by
    simp only [tailT, List.cons.injEq, true_and] at h
    obtain ⟨h1, h2⟩ := word_one _ _ _ _ (itoa_blank x) (itoa_blank y) (tailT_head p) (tailT_head q) h
    rw [itoa_inj14 h1, tailT_inj p q h2]
theorem keyT_inj {a b : Tok14} (h : keyT a = keyT b) : a = b := by
  obtain ⟨h1, h2⟩ := word_one _ _ _ _ (itoa_blank a.1) (itoa_blank b.1) (tailT_head a.2) (tailT_head b.2) h
  exact Prod.ext (itoa_inj14 h1) (tailT_inj _ _ h2)
end Go.Proofs.YtlkmabnjmklkpaaDoor
