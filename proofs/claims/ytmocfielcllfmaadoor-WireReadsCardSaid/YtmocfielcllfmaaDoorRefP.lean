/- What the document's reader tells, beside the plain readers. -/
import Derived.Test.YtmocfielcllfmaaDoorRefE
namespace Go.Proofs.YtmocfielcllfmaaDoor
open Go.RowKit

theorem whole_agree {α : Type} {f : St → α × St} {p : Rd α} (h : Agree f p) (z : α) : Agree (wholeS f z) p where
  ok := fun {l x r} e => by
    unfold wholeS
    rw [h.ok e, if_neg (by simp)]
  no := fun {l} e => by
    unfold wholeS
    have := h.no e
    split
    · exact this
    · exact this
  bad := by
    unfold wholeS
    have := h.bad
    split
    · exact this
    · exact this

def octR (s : St) : Int × St := (((wordS 1 s).1 : Int), (wordS 1 s).2)
theorem oct1_agree : Agree octR octP := oct_agree

theorem factR0_agree : Agree factR0 factP where
  ok := fun {l x r} h => by
    unfold factP at h
    split at h
    · rename_i h1
      split at h
      · rename_i h2
        split at h
        · rename_i h3
          simp only [Option.some.injEq, Prod.mk.injEq] at h
          obtain ⟨rfl, rfl⟩ := h
          simp only [factR0, num_agree.ok h1, num_agree.ok h2, valuesR_agree.ok h3]
        · cases h
      · cases h
    · cases h
  no := fun {l} h => by
    unfold factP at h
    split at h
    · rename_i h1
      split at h
      · rename_i h2
        split at h
        · cases h
        · rename_i h3
          simp only [factR0, num_agree.ok h1, num_agree.ok h2, valuesR_agree.no h3]
      · rename_i h2
        simp only [factR0, num_agree.ok h1, num_agree.no h2, valuesR_agree.bad]
    · rename_i h1
      simp only [factR0, num_agree.no h1, num_agree.bad, valuesR_agree.bad]
  bad := by simp only [factR0, num_agree.bad, valuesR_agree.bad]

theorem factR_agree : Agree factR factP := whole_agree factR0_agree _

theorem commandR0_eq (s : St) : commandR0 s = (((octR s).1, (textS (octR s).2).1, (valuesR (numS (textS (octR s).2).2).2).1, (numS (textS (octR s).2).2).1), (valuesR (numS (textS (octR s).2).2).2).2) := rfl

theorem commandR0_agree : Agree commandR0 commandP where
  ok := fun {l x r} h => by
    unfold commandP at h
    split at h
    · rename_i h1
      split at h
      · rename_i h2
        split at h
        · rename_i h3
          split at h
          · rename_i h4
            simp only [Option.some.injEq, Prod.mk.injEq] at h
            obtain ⟨rfl, rfl⟩ := h
            simp only [commandR0_eq, oct1_agree.ok h1, text_agree.ok h2, num_agree.ok h3, valuesR_agree.ok h4]
          · cases h
        · cases h
      · cases h
    · cases h
  no := fun {l} h => by
    unfold commandP at h
    split at h
    · rename_i h1
      split at h
      · rename_i h2
        split at h
        · rename_i h3
          split at h
          · cases h
          · rename_i h4
            simp only [commandR0_eq, oct1_agree.ok h1, text_agree.ok h2, num_agree.ok h3, valuesR_agree.no h4]
        · rename_i h3
          simp only [commandR0_eq, oct1_agree.ok h1, text_agree.ok h2, num_agree.no h3, valuesR_agree.bad]
      · rename_i h2
        simp only [commandR0_eq, oct1_agree.ok h1, text_agree.no h2, num_agree.bad, valuesR_agree.bad]
    · rename_i h1
      simp only [commandR0_eq, oct1_agree.no h1, text_agree.bad, num_agree.bad, valuesR_agree.bad]
  bad := by simp only [commandR0_eq, oct1_agree.bad, text_agree.bad, num_agree.bad, valuesR_agree.bad]

theorem commandR_agree : Agree commandR commandP := whole_agree commandR0_agree _

theorem replyR0_agree : Agree replyR0 replyP where
  ok := fun {l x r} h => by
    unfold replyP at h
    split at h
    · rename_i h1
      split at h
      · rename_i h2
        split at h
        · rename_i h3
          split at h
          · rename_i h4
            simp only [Option.some.injEq, Prod.mk.injEq] at h
            obtain ⟨rfl, rfl⟩ := h
            simp only [replyR0, num_agree.ok h1, num_agree.ok h2, (many_agree factR_agree).ok h3, valuesR_agree.ok h4]
          · cases h
        · cases h
      · cases h
    · cases h
  no := fun {l} h => by
    unfold replyP at h
    split at h
    · rename_i h1
      split at h
      · rename_i h2
        split at h
        · rename_i h3
          split at h
          · cases h
          · rename_i h4
            simp only [replyR0, num_agree.ok h1, num_agree.ok h2, (many_agree factR_agree).ok h3, valuesR_agree.no h4]
        · rename_i h3
          simp only [replyR0, num_agree.ok h1, num_agree.ok h2, (many_agree factR_agree).no h3, valuesR_agree.bad]
      · rename_i h2
        simp only [replyR0, num_agree.ok h1, num_agree.no h2, (many_agree factR_agree).bad, valuesR_agree.bad]
    · rename_i h1
      simp only [replyR0, num_agree.no h1, num_agree.bad, (many_agree factR_agree).bad, valuesR_agree.bad]
  bad := by simp only [replyR0, num_agree.bad, (many_agree factR_agree).bad, valuesR_agree.bad]

theorem entryR0_eq (s : St) : entryR0 s = (((numS s).1, (octR (numS s).2).1, (numS (octR (numS s).2).2).1, (numS (numS (octR (numS s).2).2).2).1, (commandR (numS (numS (octR (numS s).2).2).2).2).1, (manyS numS (commandR (numS (numS (octR (numS s).2).2).2).2).2).1), (manyS numS (commandR (numS (numS (octR (numS s).2).2).2).2).2).2) := rfl

theorem entryR0_agree : Agree entryR0 entryP where
  ok := fun {l x r} h => by
    unfold entryP at h
    split at h
    · rename_i h1
      split at h
      · rename_i h2
        split at h
        · rename_i h3
          split at h
          · rename_i h4
            split at h
            · rename_i h5
              split at h
              · rename_i h6
                simp only [Option.some.injEq, Prod.mk.injEq] at h
                obtain ⟨rfl, rfl⟩ := h
                simp only [entryR0_eq, num_agree.ok h1, oct1_agree.ok h2, num_agree.ok h3, num_agree.ok h4, commandR_agree.ok h5, (many_agree num_agree).ok h6]
              · cases h
            · cases h
          · cases h
        · cases h
      · cases h
    · cases h
  no := fun {l} h => by
    unfold entryP at h
    split at h
    · rename_i h1
      split at h
      · rename_i h2
        split at h
        · rename_i h3
          split at h
          · rename_i h4
            split at h
            · rename_i h5
              split at h
              · cases h
              · rename_i h6
                simp only [entryR0_eq, num_agree.ok h1, oct1_agree.ok h2, num_agree.ok h3, num_agree.ok h4, commandR_agree.ok h5, (many_agree num_agree).no h6]
            · rename_i h5
              simp only [entryR0_eq, num_agree.ok h1, oct1_agree.ok h2, num_agree.ok h3, num_agree.ok h4, commandR_agree.no h5, (many_agree num_agree).bad]
          · rename_i h4
            simp only [entryR0_eq, num_agree.ok h1, oct1_agree.ok h2, num_agree.ok h3, num_agree.no h4, commandR_agree.bad, (many_agree num_agree).bad]
        · rename_i h3
          simp only [entryR0_eq, num_agree.ok h1, oct1_agree.ok h2, num_agree.no h3, num_agree.bad, commandR_agree.bad, (many_agree num_agree).bad]
      · rename_i h2
        simp only [entryR0_eq, num_agree.ok h1, oct1_agree.no h2, num_agree.bad, commandR_agree.bad, (many_agree num_agree).bad]
    · rename_i h1
      simp only [entryR0_eq, num_agree.no h1, oct1_agree.bad, num_agree.bad, commandR_agree.bad, (many_agree num_agree).bad]
  bad := by simp only [entryR0_eq, num_agree.bad, oct1_agree.bad, commandR_agree.bad, (many_agree num_agree).bad]


theorem num_pub {s : St} (h : OkS s) : numS s = pubS numP 0 s := by
  rw [← whole_pub num_agree 0 h]
  unfold wholeS
  split
  · rename_i hb
    have hz : (numS s).1 = 0 := by
      unfold numS at hb ⊢
      rw [word_zero h hb]
      rfl
    rw [← hz]
  · rfl

theorem text_pub {s : St} (h : OkS s) : textS s = pubS textP ⟨#[]⟩ s := by
  rw [← whole_pub text_agree ⟨#[]⟩ h]
  unfold wholeS
  split
  · rename_i hb
    have hz : (textS s).1 = ⟨#[]⟩ := by
      unfold textS at hb ⊢
      have ho := count_ok h
      generalize countS s = r at hb ho
      obtain ⟨n, s1⟩ := r
      simp only at hb ho ⊢
      unfold takeS at hb ⊢
      split
      · rename_i hle
        rw [if_pos hle] at hb
        have := ho hb
        rw [this]
        simp [badS]
      · rfl
    rw [← hz]
  · rfl

theorem value_pub {s : St} (h : OkS s) : valueR s = pubS valueP (0, 0, ⟨#[]⟩) s := whole_pub value_agree _ h
theorem values_pub {s : St} (h : OkS s) : valuesR s = pubS valuesP [] s := by
  rw [← whole_pub valuesR_agree [] h]
  unfold wholeS
  split
  · rename_i hb
    have hz : (valuesR s).1 = [] := by
      unfold valuesR manyS at hb ⊢
      have hu := under_start (f := valueR) h
      have ho := count_ok h
      have hcz := fun hb => count_zero h hb
      generalize countS s = r at hb ho hu hcz
      obtain ⟨n, s1⟩ := r
      simp only at hb ho hu hcz ⊢
      have key : ∀ (n : Nat) (acc : List V3) (s1 : St), (n = 0 → s1.2 = true → acc = []) → (rowS valueR n acc s1).2.2 = true → (s1.2 = true → n = 0) → (rowS valueR n acc s1).1 = [] := by
        intro n
        induction n with
        | zero => intro acc s1 h1 h2 _; exact h1 rfl h2
        | succ n ih =>
          intro acc s1 h1 h2 h3
          rw [rowS] at h2 ⊢
          split
          · rfl
          · rename_i hf
            rw [if_neg hf] at h2
            exact ih _ _ (fun _ hb => absurd hb hf) h2 (fun hb => absurd hb hf)
      exact key n [] s1 (fun _ _ => rfl) hb hcz
    rw [← hz]
  · rfl
theorem fact_pub {s : St} (h : OkS s) : factR s = pubS factP (0, 0, []) s := whole_pub factR0_agree _ h
theorem command_pub {s : St} (h : OkS s) : commandR s = pubS commandP (0, ⟨#[]⟩, [], 0) s := whole_pub commandR0_agree _ h
theorem reply_pub {s : St} (h : OkS s) : replyR s = pubS replyP (0, 0, [], []) s := whole_pub replyR0_agree _ h
theorem entry_pub {s : St} (h : OkS s) : entryR s = pubS entryP (0, 0, 0, 0, (0, ⟨#[]⟩, [], 0), []) s := whole_pub entryR0_agree _ h
end Go.Proofs.YtmocfielcllfmaaDoor
