/- Where tokens stand, plainly. -/
import Derived.Test.YtebfclanamoldaaDoorTokens
namespace Go.Proofs.YtebfclanamoldaaDoor

/-- A ? or a ' stands ahead of the text. -/
def ahead (k : Int) : Nat := if k = 3 ∨ k = 5 then 1 else 0
/-- Tokens stand where they are told, from a place on. -/
def Placed (all : Bs) : Nat → List Y → Prop
  | _, [] => True
  | p, x :: ys => p ≤ x.2 ∧ x.2 + ahead x.1.kind + x.1.text.length ≤ all.length ∧ (all.drop (x.2 + ahead x.1.kind)).take x.1.text.length = x.1.text ∧ Placed all (x.2 + ahead x.1.kind + x.1.text.length) ys

/-- A token that is none stands at its place: its text, and what is left. -/
structure Stands (l : Bs) (x : Tk) : Prop where
  len : ahead x.kind + x.text.length ≤ l.length
  text : (l.drop (ahead x.kind)).take x.text.length = x.text
  rest : x.rest = l.drop (ahead x.kind + x.text.length)
theorem tkOf_ok {k : Int} {t rest : Bs} {b : Bool} (h : (tkOf k t rest b).err = 0) : tkOf k t rest b = ⟨0, k, t, rest⟩ ∧ b = true := by
  unfold tkOf at h ⊢
  cases b with
  | true => exact ⟨rfl, rfl⟩
  | false => exact absurd (show (201 : Int) = 0 from h) (by decide)
theorem stands_while (k : Int) (P : UInt8 → Bool) (l : Bs) (hk : ahead k = 0) : Stands l ⟨0, k, l.takeWhile P, l.dropWhile P⟩ := by
  have h := takeDrop_len P l
  refine ⟨?_, ?_, ?_⟩
  · show ahead k + (l.takeWhile P).length ≤ l.length
    omega
  · show (l.drop (ahead k)).take _ = _
    rw [hk, List.drop_zero, takeWhile_take]
  · show _ = l.drop (ahead k + _)
    rw [hk, Nat.zero_add, dropWhile_drop]
theorem stands_named (k : Int) (c : UInt8) (r : Bs) (hk : ahead k = 1) : Stands (c :: r) ⟨0, k, r.takeWhile onB, r.dropWhile onB⟩ := by
  have h := takeDrop_len onB r
  refine ⟨?_, ?_, ?_⟩
  · show ahead k + (r.takeWhile onB).length ≤ (c :: r).length
    rw [hk, List.length_cons]
    omega
  · show ((c :: r).drop (ahead k)).take _ = _
    rw [hk]
    exact takeWhile_take onB r
  · show _ = (c :: r).drop (ahead k + _)
    rw [hk, Nat.add_comm]
    exact (dropWhile_drop onB r).symm

theorem tokT_cons (c : UInt8) (r : Bs) : tokT (c :: r) = if lowB c then wordT (c :: r) else if decide (c.toNat = 63) then namedT 3 r else if decide (c.toNat = 39) then namedT 5 r else if digB c then numberT (c :: r) else signT (c :: r) := rfl
theorem tok_stands (l : Bs) (h : (tokT l).err = 0) : Stands l (tokT l) := by
  cases l with
  | nil => exact ⟨by decide, rfl, rfl⟩
  | cons c r =>
    rw [tokT_cons] at h ⊢
    by_cases h0 : lowB c = true
    · rw [if_pos h0] at h ⊢
      unfold wordT at h ⊢
      split
      · rename_i hw
        rw [if_pos hw] at h
        rw [(tkOf_ok h).1]
        exact stands_while 1 onB _ rfl
      · rename_i hw
        rw [if_neg hw] at h
        rw [(tkOf_ok h).1]
        exact stands_while 2 onB _ rfl
    · rw [if_neg h0] at h ⊢
      by_cases h1 : decide (c.toNat = 63) = true
      · rw [if_pos h1] at h ⊢
        unfold namedT at h ⊢
        rw [(tkOf_ok h).1]
        exact stands_named 3 c r rfl
      · rw [if_neg h1] at h ⊢
        by_cases h2 : decide (c.toNat = 39) = true
        · rw [if_pos h2] at h ⊢
          unfold namedT at h ⊢
          rw [(tkOf_ok h).1]
          exact stands_named 5 c r rfl
        · rw [if_neg h2] at h ⊢
          by_cases h3 : digB c = true
          · rw [if_pos h3] at h ⊢
            unfold numberT at h ⊢
            rw [(tkOf_ok h).1]
            exact stands_while 4 digB _ rfl
          · rw [if_neg h3] at h ⊢
            unfold signT at h ⊢
            cases ht : signsB.find? (fun t => t.isPrefixOf (c :: r)) with
            | none => rw [ht] at h; exact absurd (show (200 : Int) = 0 from h) (by decide)
            | some t =>
              have hp : t <+: (c :: r) := List.isPrefixOf_iff_prefix.1 (List.find?_eq_some_iff_getElem.1 ht).1
              show Stands (c :: r) ⟨0, 6, t, (c :: r).drop t.length⟩
              refine ⟨?_, ?_, ?_⟩
              · have := hp.length_le
                show ahead 6 + t.length ≤ (c :: r).length
                have e : ahead 6 = 0 := rfl
                omega
              · show ((c :: r).drop (ahead 6)).take t.length = t
                have e : ahead 6 = 0 := rfl
                rw [e, List.drop_zero]
                exact (List.prefix_iff_eq_take.1 hp).symm
              · show (c :: r).drop t.length = (c :: r).drop (ahead 6 + t.length)
                have e : ahead 6 = 0 := rfl
                rw [e, Nat.zero_add]
theorem tok_end (l : Bs) (h : (tokT l).err = 0) (hk : (tokT l).kind = 7) : l = [] := by
  cases l with
  | nil => rfl
  | cons c r =>
    exfalso
    rw [tokT_cons] at h hk
    by_cases h0 : lowB c = true
    · rw [if_pos h0] at h hk
      unfold wordT at h hk
      split at hk
      · rename_i hw
        rw [if_pos hw] at h
        rw [(tkOf_ok h).1] at hk
        exact absurd (show (1 : Int) = 7 from hk) (by decide)
      · rename_i hw
        rw [if_neg hw] at h
        rw [(tkOf_ok h).1] at hk
        exact absurd (show (2 : Int) = 7 from hk) (by decide)
    · rw [if_neg h0] at h hk
      by_cases h1 : decide (c.toNat = 63) = true
      · rw [if_pos h1] at h hk
        unfold namedT at h hk
        rw [(tkOf_ok h).1] at hk
        exact absurd (show (3 : Int) = 7 from hk) (by decide)
      · rw [if_neg h1] at h hk
        by_cases h2 : decide (c.toNat = 39) = true
        · rw [if_pos h2] at h hk
          unfold namedT at h hk
          rw [(tkOf_ok h).1] at hk
          exact absurd (show (5 : Int) = 7 from hk) (by decide)
        · rw [if_neg h2] at h hk
          by_cases h3 : digB c = true
          · rw [if_pos h3] at h hk
            unfold numberT at h hk
            rw [(tkOf_ok h).1] at hk
            exact absurd (show (4 : Int) = 7 from hk) (by decide)
          · rw [if_neg h3] at h hk
            unfold signT at h hk
            cases ht : signsB.find? (fun t => t.isPrefixOf (c :: r)) with
            | none => rw [ht] at h; exact absurd (show (200 : Int) = 0 from h) (by decide)
            | some t => rw [ht] at hk; exact absurd (show (6 : Int) = 7 from hk) (by decide)

/-- What is left behind blanks is what stands from its place on. -/
theorem skip_place' (all : Bs) (p : Nat) (hp : p ≤ all.length) : all.drop (all.length - (skipS false (all.drop p)).length) = skipS false (all.drop p) ∧ all.length - (skipS false (all.drop p)).length ≤ all.length ∧ p ≤ all.length - (skipS false (all.drop p)).length := by
  obtain ⟨m, h1, e1⟩ := skipS_drop (all.drop p) false
  rw [e1, List.drop_drop]
  have h2 : (all.drop (p + m)).length = all.length - (p + m) := by simp
  rw [h2]
  simp at h1
  refine ⟨?_, by omega, by omega⟩
  congr 1
  omega

theorem seq_placed (all : Bs) (f : Nat) : ∀ p, p ≤ all.length → (∀ y ∈ seqF all.length f (all.drop p), y.1.err = 0) → Placed all p (seqF all.length f (all.drop p)) := by
  induction f with
  | zero => intro p _ _; trivial
  | succ f ih =>
    intro p hp hok
    rw [seqF_succ] at hok ⊢
    obtain ⟨hd, ha, hpa⟩ := skip_place' all p hp
    generalize skipS false (all.drop p) = l at hok hd ha hpa ⊢
    generalize hA : all.length - l.length = a at hok hd ha hpa ⊢
    have he := hok _ List.mem_cons_self
    have hs := tok_stands l he
    have hlen : l.length = all.length - a := by rw [← hd]; simp
    obtain ⟨s1, s2, s3⟩ := hs
    refine ⟨hpa, ?_, ?_, ?_⟩
    · show a + ahead (tokT l).kind + (tokT l).text.length ≤ all.length
      omega
    · show (all.drop (a + ahead (tokT l).kind)).take (tokT l).text.length = (tokT l).text
      rw [← List.drop_drop, hd]
      exact s2
    · show Placed all (a + ahead (tokT l).kind + (tokT l).text.length) _
      have e : (tokT l).rest = all.drop (a + ahead (tokT l).kind + (tokT l).text.length) := by
        rw [s3, ← hd, List.drop_drop]
        congr 1
        omega
      split
      · rename_i hc
        rw [e] at hok ⊢
        exact ih _ (by omega) (fun y hy => hok y (List.mem_cons_of_mem _ (by rw [if_pos hc]; exact hy)))
      · trivial
theorem seq_last (N : Nat) (f : Nat) : ∀ l : Bs, l.length < f → (∀ y ∈ seqF N f l, y.1.err = 0) → ∃ q, seqF N f l = q ++ [(⟨0, 7, [], []⟩, N)] := by
  induction f with
  | zero => intro l h; omega
  | succ f ih =>
    intro l hl hok
    have hsl := skipS_len false l
    rw [seqF_succ] at hok ⊢
    generalize skipS false l = m at hok hsl ⊢
    have he := hok _ List.mem_cons_self
    have he' : (tokT m).err = 0 := he
    by_cases hk : (tokT m).kind = 7
    · have hm := tok_end m he' hk
      subst hm
      rw [if_neg (by rintro ⟨_, h⟩; exact h rfl)]
      exact ⟨[], rfl⟩
    · have hless := tok_less m he' hk
      rw [if_pos ⟨he', hk⟩] at hok ⊢
      obtain ⟨q, hq⟩ := ih (tokT m).rest (by omega) (fun y hy => hok y (List.mem_cons_of_mem _ hy))
      exact ⟨(tokT m, N - m.length) :: q, by rw [hq]; rfl⟩
end Go.Proofs.YtebfclanamoldaaDoor
