/- Which texts are names, and which are words, by the tokens told of them. Plain. -/
import Derived.Test.YtfmjhbaenpbfoaaGreatDoorTokOf
namespace Go.Proofs.YtfmjhbaenpbfoaaGreatDoor
open Go.RowKit

theorem takeWhile_id (P : UInt8 → Bool) : ∀ l : Bs, l.all P = true → l.takeWhile P = l ∧ l.dropWhile P = []
  | [], _ => ⟨rfl, rfl⟩
  | c :: l, h => by
    rw [List.all_cons, Bool.and_eq_true] at h
    obtain ⟨h1, h2⟩ := takeWhile_id P l h.2
    rw [List.takeWhile_cons_of_pos h.1, List.dropWhile_cons_of_pos h.1, h1, h2]
    exact ⟨rfl, rfl⟩
theorem low_skip (c : UInt8) (l : Bs) (h : lowB c = true) : skipS false (c :: l) = c :: l := by
  unfold lowB at h
  simp only [Bool.and_eq_true, decide_eq_true_eq] at h
  have hb : blankB c = false := by
    unfold blankB
    simp only [Bool.or_eq_false_iff, decide_eq_false_iff_not]
    omega
  have hh : hashB c = false := by
    unfold hashB
    simp only [decide_eq_false_iff_not]
    omega
  rw [skipS, if_neg (by simp [hb]), if_neg (by simp [hh])]
def kindW (l : Bs) : Int := if wordsB.contains l = true then 1 else 2
theorem tok_low (c : UInt8) (r : Bs) (hc : lowB c = true) (h : (c :: r).all onB = true) (h2 : (c :: r).length ≤ 24) : tokT (c :: r) = ⟨0, kindW (c :: r), c :: r, []⟩ := by
  obtain ⟨e1, e2⟩ := takeWhile_id onB (c :: r) h
  rw [tokT, if_pos hc]
  unfold wordT kindW
  rw [e1, e2]
  by_cases hw : wordsB.contains (c :: r) = true
  · rw [if_pos hw, if_pos hw]
    rfl
  · rw [if_neg hw, if_neg hw]
    have hn : nameB (c :: r) = true := by
      unfold nameB
      rw [decide_eq_true h2, Bool.and_true]
      exact hc
    rw [hn]
    rfl
theorem told_named (c : UInt8) (r : Bs) (hc : lowB c = true) (h : (c :: r).all onB = true) (h2 : (c :: r).length ≤ 24) :
    ∃ y, toldOf (c :: r) = ([(⟨0, kindW (c :: r), c :: r, []⟩, 0), y], 0, 0) := by
  have hk : kindW (c :: r) ≠ 7 := by unfold kindW; split <;> decide
  have hs : seqF (c :: r).length ((c :: r).length + 1) (c :: r) = [(⟨0, kindW (c :: r), c :: r, []⟩, 0), (⟨0, 7, [], []⟩, (c :: r).length)] := by
    rw [seqF_succ, low_skip c r hc, tok_low c r hc h h2, Nat.sub_self, if_pos ⟨rfl, hk⟩]
    show _ :: seqF (c :: r).length ((r.length) + 1) [] = _
    rw [seqF_succ]
    rfl
  refine ⟨(⟨0, 7, [], []⟩, (c :: r).length), ?_⟩
  unfold toldOf
  rw [if_neg (by omega), hs]
  rfl
/-- A name or a word is told as that. -/
theorem tokK_named (s : ByteArray) (h : Nm.namedB s.data.toList = true) : tokK s = kindW s.data.toList := by
  unfold tokK
  generalize s.data.toList = l at h
  unfold Nm.namedB at h
  simp only [Bool.and_eq_true, decide_eq_true_eq] at h
  obtain ⟨⟨⟨h1, h2⟩, h3⟩, h4⟩ := h
  cases l with
  | nil => simp at h1
  | cons c r =>
    have hc : lowB c = true := by
      rw [← lowI]
      exact h3
    have hall : (c :: r).all onB = true := by
      rw [List.all_eq_true] at h4 ⊢
      intro x hx
      have := h4 x hx
      unfold Nm.midB Nm.lowB Nm.digB at this
      unfold onB lowB digB
      simp only [Bool.or_eq_true, Bool.and_eq_true, decide_eq_true_eq, beq_iff_eq] at this ⊢
      omega
    obtain ⟨y, hy⟩ := told_named c r hc hall h2
    rw [hy]
    simp

theorem words_short : ∀ t, t ∈ wordsB → t.length ≤ 24 := by decide
theorem tkOf_kind {k : Int} {t r : Bs} {b : Bool} (h : (tkOf k t r b).err = 0) : b = true ∧ (tkOf k t r b).kind = k ∧ (tkOf k t r b).text = t := by
  cases b with
  | true => exact ⟨rfl, rfl, rfl⟩
  | false => exact absurd (show (201 : Int) = 0 from h) (by decide)
theorem tok_kind (m : Bs) (he : (tokT m).err = 0) (hk : (tokT m).kind = 1 ∨ (tokT m).kind = 2) : Nm.namedB (tokT m).text = true := by
  cases m with
  | nil => exact absurd hk (by rw [tokT]; decide)
  | cons c r =>
    rw [tokT] at he hk ⊢
    by_cases h1 : lowB c = true
    · rw [if_pos h1] at he hk ⊢
      have hon : onB c = true := by unfold onB; rw [h1]; rfl
      have hall := takeWhile_all onB (c :: r)
      have hnx : nextB lowB ((c :: r).takeWhile onB) = true := by rw [List.takeWhile_cons_of_pos hon]; exact h1
      unfold wordT at he hk ⊢
      by_cases hw : wordsB.contains ((c :: r).takeWhile onB) = true
      · rw [if_pos hw] at he hk ⊢
        rw [(tkOf_kind he).2.2, namedI _ hall]
        unfold nameB
        rw [hnx, decide_eq_true (words_short _ (List.contains_iff_mem.1 hw))]
        rfl
      · rw [if_neg hw] at he hk ⊢
        obtain ⟨e1, _, e3⟩ := tkOf_kind he
        rw [e3, namedI _ hall, e1]
    · rw [if_neg h1] at he hk
      exfalso
      by_cases h2 : decide (c.toNat = 63) = true
      · rw [if_pos h2] at he hk
        unfold namedT at he hk
        rw [(tkOf_kind he).2.1] at hk
        omega
      · rw [if_neg h2] at he hk
        by_cases h3 : decide (c.toNat = 39) = true
        · rw [if_pos h3] at he hk
          unfold namedT at he hk
          rw [(tkOf_kind he).2.1] at hk
          omega
        · rw [if_neg h3] at he hk
          by_cases h4 : digB c = true
          · rw [if_pos h4] at he hk
            unfold numberT at he hk
            rw [(tkOf_kind he).2.1] at hk
            omega
          · rw [if_neg h4] at he hk
            unfold signT at he hk
            split at he
            · rename_i t ht
              simp only [ht] at hk
              rw [(tkOf_kind he).2.1] at hk
              omega
            · exact absurd (show (200 : Int) = 0 from he) (by decide)
/-- What is told as a name or a word is one. -/
theorem named_tokK (s : ByteArray) (h : tokK s = 1 ∨ tokK s = 2) : Nm.namedB s.data.toList = true := by
  unfold tokK at h
  generalize s.data.toList = l at h ⊢
  cases hq : (toldOf l).1 with
  | nil => rw [hq] at h; simp at h
  | cons x xs =>
    rw [hq] at h
    simp only at h
    by_cases hx : x.1.text = l
    · rw [if_pos hx] at h
      have hh : x.1 = tokT (skipS false l) ∧ x.1.err = 0 := by
        unfold toldOf at hq
        split at hq
        · cases hq
        · split at hq
          · cases hq
          · rename_i hf
            rw [seqF_succ] at hq hf
            have hx1 := (List.cons.inj hq).1
            rw [List.find?_eq_none] at hf
            have := hf _ (List.mem_cons_self ..)
            refine ⟨by rw [← hx1], ?_⟩
            rw [← hx1]
            simpa using this
      rw [← hx, hh.1]
      exact tok_kind _ (by rw [← hh.1]; exact hh.2) (by rw [← hh.1]; exact h)
    · rw [if_neg hx] at h
      omega

/-- What the program and the document ask of texts is one. -/
theorem word_is (s : ByteArray) : (tokK s == 2 || tokK s == 1) = Nm.namedB s.data.toList := by
  cases h : Nm.namedB s.data.toList with
  | true =>
    rw [tokK_named s h]
    unfold kindW
    split <;> rfl
  | false =>
    have h1 : tokK s ≠ 1 := fun e => by have := named_tokK s (Or.inl e); rw [h] at this; cases this
    have h2 : tokK s ≠ 2 := fun e => by have := named_tokK s (Or.inr e); rw [h] at this; cases this
    rw [beq_eq_false_iff_ne.2 h1, beq_eq_false_iff_ne.2 h2]
    rfl
theorem words_any_is (s : ByteArray) : (wordsZ.any fun z => z.toList == s.toList) = wordsB.contains s.data.toList := by
  show ((wordsB.map fun t => (⟨t.toArray⟩ : ByteArray)).any fun z => z.toList == s.toList) = _
  rw [List.any_map, List.contains_eq_any_beq]
  congr 1
  funext t
  show ((⟨t.toArray⟩ : ByteArray).toList == s.toList) = (s.data.toList == t)
  rw [text_beq]
  by_cases e : t = s.data.toList
  · rw [decide_eq_true e, e]
    simp
  · rw [decide_eq_false e]
    exact (beq_eq_false_iff_ne.2 (fun h => e h.symm)).symm
theorem name_is (s : ByteArray) : (tokK s == 2) = nameT s := by
  unfold nameT
  rw [words_any_is]
  cases h : Nm.namedB s.data.toList with
  | true =>
    rw [tokK_named s h, Bool.true_and]
    unfold kindW
    cases hw : wordsB.contains s.data.toList <;> rfl
  | false =>
    have h2 : tokK s ≠ 2 := fun e => by have := named_tokK s (Or.inr e); rw [h] at this; cases this
    rw [beq_eq_false_iff_ne.2 h2]
    rfl
end Go.Proofs.YtfmjhbaenpbfoaaGreatDoor
