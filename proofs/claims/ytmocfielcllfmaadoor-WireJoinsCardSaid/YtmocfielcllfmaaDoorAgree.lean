/- What the reader's steps answer, beside the plain readers. -/
import Derived.Test.YtmocfielcllfmaaDoorEntry
namespace Go.Proofs.YtmocfielcllfmaaDoor
open Go.RowKit

structure Agree {α : Type} (f : St → α × St) (p : Rd α) : Prop where
  ok : ∀ {l x r}, p l = some (x, r) → f (l, false) = (x, (r, false))
  no : ∀ {l}, p l = none → (f (l, false)).2 = badS
  bad : (f badS).2 = badS

theorem take_bad (n : Nat) : takeS n badS = ([], badS) := by
  unfold takeS badS
  split
  · simp
  · rfl
theorem take_agree (n : Nat) : Agree (takeS n) (takeP n) where
  ok := fun {l x r} h => by
    unfold takeP at h
    unfold takeS
    split at h
    · rename_i hn
      simp only [Option.some.injEq, Prod.mk.injEq] at h
      obtain ⟨rfl, rfl⟩ := h
      exact if_pos hn
    · cases h
  no := fun {l} h => by
    unfold takeP at h
    unfold takeS
    split at h
    · cases h
    · rename_i hn
      rw [if_neg (by exact hn)]
  bad := by rw [take_bad]

theorem word_agree (k : Nat) : Agree (wordS k) (wordP k) where
  ok := fun {l x r} h => by
    unfold wordP at h
    unfold wordS
    split at h
    · rename_i b r' ht
      simp only [Option.some.injEq, Prod.mk.injEq] at h
      obtain ⟨rfl, rfl⟩ := h
      rw [(take_agree k).ok ht]
    · cases h
  no := fun {l} h => by
    unfold wordP at h
    unfold wordS
    split at h
    · cases h
    · rename_i ht
      exact (take_agree k).no ht
  bad := by unfold wordS; exact (take_agree k).bad
theorem word_bad (k : Nat) : wordS k badS = (0, badS) := by
  unfold wordS
  rw [take_bad]
  rfl

theorem num_agree : Agree numS numP where
  ok := fun {l x r} h => by
    unfold numP at h
    unfold numS
    split at h
    · rename_i b r' ht
      simp only [Option.some.injEq, Prod.mk.injEq] at h
      obtain ⟨rfl, rfl⟩ := h
      rw [(word_agree 8).ok ht]
    · cases h
  no := fun {l} h => by
    unfold numP at h
    unfold numS
    split at h
    · cases h
    · rename_i ht
      exact (word_agree 8).no ht
  bad := by unfold numS; exact (word_agree 8).bad

theorem oct_agree : Agree octS octP where
  ok := fun {l x r} h => by
    unfold octP at h
    unfold octS
    split at h
    · rename_i b r' ht
      simp only [Option.some.injEq, Prod.mk.injEq] at h
      obtain ⟨rfl, rfl⟩ := h
      rw [(word_agree 1).ok ht]
    · cases h
  no := fun {l} h => by
    unfold octP at h
    unfold octS
    split at h
    · cases h
    · rename_i ht
      exact (word_agree 1).no ht
  bad := by unfold octS; exact (word_agree 1).bad

theorem count_bad : countS badS = (0, badS) := by
  unfold countS
  rw [word_bad]
  rfl
theorem count_agree : Agree countS countP where
  ok := fun {l x r} h => by
    unfold countP at h
    unfold countS
    split at h
    · rename_i b r' ht
      split at h
      · cases h
      · rename_i hn
        rw [(word_agree 4).ok ht]
        simp only [Option.some.injEq, Prod.mk.injEq] at h
        obtain ⟨rfl, rfl⟩ := h
        exact if_neg hn
    · cases h
  no := fun {l} h => by
    unfold countP at h
    unfold countS
    split at h
    · rename_i b r' ht
      split at h
      · rename_i hn
        rw [(word_agree 4).ok ht, if_pos hn]
      · cases h
    · rename_i ht
      split
      · rfl
      · exact (word_agree 4).no ht
  bad := by rw [count_bad]

theorem text_agree : Agree textS textP where
  ok := fun {l x r} h => by
    unfold textP at h
    unfold textS
    split at h
    · rename_i n r1 hc
      split at h
      · rename_i b r2 ht
        simp only [Option.some.injEq, Prod.mk.injEq] at h
        obtain ⟨rfl, rfl⟩ := h
        rw [count_agree.ok hc, (take_agree n).ok ht]
      · cases h
    · cases h
  no := fun {l} h => by
    unfold textP at h
    unfold textS
    split at h
    · rename_i n r1 hc
      split at h
      · cases h
      · rename_i ht
        rw [count_agree.ok hc]
        exact (take_agree n).no ht
    · rename_i hc
      simp only
      rw [count_agree.no hc, take_bad]
  bad := by unfold textS; rw [count_bad, take_bad]

theorem value_agree : Agree valueS valueP where
  ok := fun {l x r} h => by
    unfold valueP at h
    unfold valueS
    split at h
    · rename_i k r1 hk
      rw [oct_agree.ok hk]
      split at h
      · rename_i h1
        split at h
        · rename_i z r2 hz
          simp only [Option.some.injEq, Prod.mk.injEq] at h
          obtain ⟨rfl, rfl⟩ := h
          rw [if_pos h1, num_agree.ok hz]
        · cases h
      · rename_i h1
        split at h
        · rename_i h2
          split at h
          · rename_i z r2 hz
            simp only [Option.some.injEq, Prod.mk.injEq] at h
            obtain ⟨rfl, rfl⟩ := h
            rw [if_neg h1, if_pos h2, text_agree.ok hz]
          · cases h
        · cases h
    · cases h
  no := fun {l} h => by
    unfold valueP at h
    unfold valueS
    split at h
    · rename_i k r1 hk
      rw [oct_agree.ok hk]
      split at h
      · rename_i h1
        split at h
        · cases h
        · rename_i hz
          rw [if_pos h1]
          exact num_agree.no hz
      · rename_i h1
        split at h
        · rename_i h2
          split at h
          · cases h
          · rename_i hz
            rw [if_neg h1, if_pos h2]
            exact text_agree.no hz
        · rename_i h2
          rw [if_neg h1, if_neg h2]
    · rename_i hk
      split
      · simp only; rw [oct_agree.no hk, num_agree.bad]
      · split
        · simp only; rw [oct_agree.no hk, text_agree.bad]
        · rfl
  bad := by
    unfold valueS
    split
    · simp only; rw [oct_agree.bad, num_agree.bad]
    · split
      · simp only; rw [oct_agree.bad, text_agree.bad]
      · rfl

theorem row_ok {α : Type} {f : St → α × St} {p : Rd α} (h : Agree f p) : ∀ (n : Nat) (acc : List α) (l : List UInt8) (xs : List α) (r : List UInt8), rowP p n l = some (xs, r) → rowS f n acc (l, false) = (acc ++ xs, (r, false))
  | 0, acc, l, xs, r, e => by
    simp only [rowP, Option.some.injEq, Prod.mk.injEq] at e
    obtain ⟨rfl, rfl⟩ := e
    simp [rowS]
  | n + 1, acc, l, xs, r, e => by
    rw [rowP] at e
    split at e
    · rename_i x r1 h1
      split at e
      · rename_i ys r2 h2
        simp only [Option.some.injEq, Prod.mk.injEq] at e
        obtain ⟨rfl, rfl⟩ := e
        rw [rowS, h.ok h1, if_neg (by simp), row_ok h n _ r1 ys r2 h2]
        simp
      · cases e
    · cases e
theorem row_no {α : Type} {f : St → α × St} {p : Rd α} (h : Agree f p) : ∀ (n : Nat) (acc : List α) (l : List UInt8), rowP p n l = none → (rowS f n acc (l, false)).2 = badS
  | 0, acc, l, e => by simp [rowP] at e
  | n + 1, acc, l, e => by
    rw [rowP] at e
    split at e
    · rename_i x r1 h1
      split at e
      · cases e
      · rename_i h2
        rw [rowS, h.ok h1, if_neg (by simp)]
        exact row_no h n _ r1 h2
    · rename_i h1
      rw [rowS, h.no h1]
      rfl

theorem many_agree {α : Type} {f : St → α × St} {p : Rd α} (h : Agree f p) : Agree (manyS f) (manyP p) where
  ok := fun {l x r} e => by
    unfold manyP at e
    unfold manyS
    split at e
    · rename_i n r1 hc
      rw [count_agree.ok hc]
      exact row_ok h n [] r1 x r e
    · cases e
  no := fun {l} e => by
    unfold manyP at e
    unfold manyS
    split at e
    · rename_i n r1 hc
      rw [count_agree.ok hc]
      exact row_no h n [] r1 e
    · rename_i hc
      have h2 := count_agree.no hc
      have h1 : (countS (l, false)).1 = 0 := by
        unfold countP at hc
        unfold countS
        split at hc
        · rename_i b r' ht
          split at hc
          · rename_i hn
            rw [(word_agree 4).ok ht, if_pos hn]
          · cases hc
        · rename_i ht
          have ht' : takeP 4 l = none := by
            unfold wordP at ht
            split at ht
            · cases ht
            · assumption
          have hw : wordS 4 (l, false) = (0, badS) := by
            unfold wordS
            unfold takeP at ht'
            unfold takeS
            split at ht'
            · cases ht'
            · rename_i hn
              rw [if_neg (by exact hn)]
              rfl
          rw [hw]
          rfl
      rw [h1, h2]
      rfl
  bad := by unfold manyS; rw [count_bad]; rfl

theorem values_agree : Agree valuesS valuesP := many_agree value_agree

theorem fact_agree : Agree factS factP where
  ok := fun {l x r} h => by
    unfold factP at h
    split at h
    · rename_i h1
      split at h
      · rename_i h2
        split at h
        · rename_i h3
          simp only [Option.some.injEq, Prod.mk.injEq] at h
          obtain ⟨rfl, rfl⟩ := h
          simp only [factS, num_agree.ok h1, num_agree.ok h2, values_agree.ok h3]
        · cases h
      · cases h
    · cases h
  no := fun {l} h => by
    unfold factP at h
    split at h
    · rename_i h1
      split at h
      · rename_i h2
        split at h
        · cases h
        · rename_i h3
          simp only [factS, num_agree.ok h1, num_agree.ok h2, values_agree.no h3]
      · rename_i h2
        simp only [factS, num_agree.ok h1, num_agree.no h2, values_agree.bad]
    · rename_i h1
      simp only [factS, num_agree.no h1, num_agree.bad, values_agree.bad]
  bad := by simp only [factS, num_agree.bad, values_agree.bad]

theorem command_agree : Agree commandS commandP where
  ok := fun {l x r} h => by
    unfold commandP at h
    split at h
    · rename_i h1
      split at h
      · rename_i h2
        split at h
        · rename_i h3
          split at h
          · rename_i h4
            simp only [Option.some.injEq, Prod.mk.injEq] at h
            obtain ⟨rfl, rfl⟩ := h
            simp only [commandS, oct_agree.ok h1, text_agree.ok h2, num_agree.ok h3, values_agree.ok h4]
          · cases h
        · cases h
      · cases h
    · cases h
  no := fun {l} h => by
    unfold commandP at h
    split at h
    · rename_i h1
      split at h
      · rename_i h2
        split at h
        · rename_i h3
          split at h
          · cases h
          · rename_i h4
            simp only [commandS, oct_agree.ok h1, text_agree.ok h2, num_agree.ok h3, values_agree.no h4]
        · rename_i h3
          simp only [commandS, oct_agree.ok h1, text_agree.ok h2, num_agree.no h3, values_agree.bad]
      · rename_i h2
        simp only [commandS, oct_agree.ok h1, text_agree.no h2, num_agree.bad, values_agree.bad]
    · rename_i h1
      simp only [commandS, oct_agree.no h1, text_agree.bad, num_agree.bad, values_agree.bad]
  bad := by simp only [commandS, oct_agree.bad, text_agree.bad, num_agree.bad, values_agree.bad]

theorem reply_agree : Agree replyS replyP where
  ok := fun {l x r} h => by
    unfold replyP at h
    split at h
    · rename_i h1
      split at h
      · rename_i h2
        split at h
        · rename_i h3
          split at h
          · rename_i h4
            simp only [Option.some.injEq, Prod.mk.injEq] at h
            obtain ⟨rfl, rfl⟩ := h
            simp only [replyS, num_agree.ok h1, num_agree.ok h2, (many_agree fact_agree).ok h3, values_agree.ok h4]
          · cases h
        · cases h
      · cases h
    · cases h
  no := fun {l} h => by
    unfold replyP at h
    split at h
    · rename_i h1
      split at h
      · rename_i h2
        split at h
        · rename_i h3
          split at h
          · cases h
          · rename_i h4
            simp only [replyS, num_agree.ok h1, num_agree.ok h2, (many_agree fact_agree).ok h3, values_agree.no h4]
        · rename_i h3
          simp only [replyS, num_agree.ok h1, num_agree.ok h2, (many_agree fact_agree).no h3, values_agree.bad]
      · rename_i h2
        simp only [replyS, num_agree.ok h1, num_agree.no h2, (many_agree fact_agree).bad, values_agree.bad]
    · rename_i h1
      simp only [replyS, num_agree.no h1, num_agree.bad, (many_agree fact_agree).bad, values_agree.bad]
  bad := by simp only [replyS, num_agree.bad, (many_agree fact_agree).bad, values_agree.bad]

theorem entry_agree : Agree entryS entryP where
  ok := fun {l x r} h => by
    unfold entryP at h
    split at h
    · rename_i h1
      split at h
      · rename_i h2
        split at h
        · rename_i h3
          split at h
          · rename_i h4
            split at h
            · rename_i h5
              split at h
              · rename_i h6
                simp only [Option.some.injEq, Prod.mk.injEq] at h
                obtain ⟨rfl, rfl⟩ := h
                simp only [entryS, num_agree.ok h1, oct_agree.ok h2, num_agree.ok h3, num_agree.ok h4, command_agree.ok h5, (many_agree num_agree).ok h6]
              · cases h
            · cases h
          · cases h
        · cases h
      · cases h
    · cases h
  no := fun {l} h => by
    unfold entryP at h
    split at h
    · rename_i h1
      split at h
      · rename_i h2
        split at h
        · rename_i h3
          split at h
          · rename_i h4
            split at h
            · rename_i h5
              split at h
              · cases h
              · rename_i h6
                simp only [entryS, num_agree.ok h1, oct_agree.ok h2, num_agree.ok h3, num_agree.ok h4, command_agree.ok h5, (many_agree num_agree).no h6]
            · rename_i h5
              simp only [entryS, num_agree.ok h1, oct_agree.ok h2, num_agree.ok h3, num_agree.ok h4, command_agree.no h5, (many_agree num_agree).bad]
          · rename_i h4
            simp only [entryS, num_agree.ok h1, oct_agree.ok h2, num_agree.ok h3, num_agree.no h4, command_agree.bad, (many_agree num_agree).bad]
        · rename_i h3
          simp only [entryS, num_agree.ok h1, oct_agree.ok h2, num_agree.no h3, num_agree.bad, command_agree.bad, (many_agree num_agree).bad]
      · rename_i h2
        simp only [entryS, num_agree.ok h1, oct_agree.no h2, num_agree.bad, command_agree.bad, (many_agree num_agree).bad]
    · rename_i h1
      simp only [entryS, num_agree.no h1, oct_agree.bad, num_agree.bad, command_agree.bad, (many_agree num_agree).bad]
  bad := by simp only [entryS, num_agree.bad, oct_agree.bad, command_agree.bad, (many_agree num_agree).bad]

/-- What the outer calls tell. -/
def OkS (s : St) : Prop := s.2 = true → s = badS
def pubS {α : Type} (p : Rd α) (z : α) (s : St) : α × St :=
  if s.2 = true then (z, badS) else match p s.1 with
    | some (x, r) => (x, (r, false))
    | none => (z, badS)
def wholeS {α : Type} (f : St → α × St) (z : α) (s : St) : α × St := if (f s).2.2 = true then (z, (f s).2) else f s

theorem whole_pub {α : Type} {f : St → α × St} {p : Rd α} (h : Agree f p) (z : α) {s : St} (ok : OkS s) : wholeS f z s = pubS p z s := by
  obtain ⟨l, b⟩ := s
  unfold wholeS pubS
  cases b with
  | true =>
    have e : (l, true) = badS := ok rfl
    rw [e, h.bad]
    rfl
  | false =>
    rw [if_neg (by simp : ¬ ((l, false) : St).2 = true)]
    simp only
    cases hp : p l with
    | none =>
      rw [h.no hp]
      rfl
    | some v =>
      obtain ⟨x, r⟩ := v
      rw [h.ok hp]
      rfl

theorem pub_ok {α : Type} (p : Rd α) (z : α) (s : St) : OkS (pubS p z s).2 := by
  unfold pubS
  split
  · intro _; rfl
  · split
    · intro h; cases h
    · intro _; rfl
end Go.Proofs.YtmocfielcllfmaaDoor
