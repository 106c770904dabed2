/- Tokens written with blanks or comments between are told as they were: plainly. -/
import Derived.Test.YtebfclanamoldaaDoorPlacesP
namespace Go.Proofs.YtebfclanamoldaaDoor

/-- What stands ahead of a text. -/
def sigil (k : Int) : Bs := if k = 3 then [63] else if k = 5 then [39] else []
/-- A token that may be told. -/
inductive Good : Int → Bs → Prop
  | word (t : Bs) : wordsB.contains t = true → Good 1 t
  | name (t : Bs) : wordsB.contains t = false → nameB t = true → t.all onB = true → Good 2 t
  | var (t : Bs) : nameB t = true → t.all onB = true → Good 3 t
  | atom (t : Bs) : nameB t = true → t.all onB = true → Good 5 t
  | num (t : Bs) : numB t = true → Good 4 t
  | sign (t : Bs) : t ∈ signsB → Good 6 t
  | fin : Good 7 []

theorem takeWhile_all' (P : UInt8 → Bool) (l : Bs) : (l.takeWhile P).all P = true := by
  induction l with
  | nil => rfl
  | cons c l ih =>
    cases h : P c with
    | true => rw [List.takeWhile_cons_of_pos h, List.all_cons, h, ih]; rfl
    | false => rw [List.takeWhile_cons_of_neg (by simp [h])]; rfl
theorem tok_good (l : Bs) (h : (tokT l).err = 0) : Good (tokT l).kind (tokT l).text := by
  cases l with
  | nil => exact Good.fin
  | cons c r =>
    rw [tokT_cons] at h ⊢
    by_cases h0 : lowB c = true
    · rw [if_pos h0] at h ⊢
      unfold wordT at h ⊢
      split
      · rename_i hw
        exact Good.word _ hw
      · rename_i hw
        rw [if_neg hw] at h
        obtain ⟨e, hb⟩ := tkOf_ok h
        rw [e]
        exact Good.name _ (by simpa using hw) hb (takeWhile_all' onB _)
    · rw [if_neg h0] at h ⊢
      by_cases h1 : decide (c.toNat = 63) = true
      · rw [if_pos h1] at h ⊢
        unfold namedT at h ⊢
        obtain ⟨e, hb⟩ := tkOf_ok h
        rw [e]
        exact Good.var _ hb (takeWhile_all' onB _)
      · rw [if_neg h1] at h ⊢
        by_cases h2 : decide (c.toNat = 39) = true
        · rw [if_pos h2] at h ⊢
          unfold namedT at h ⊢
          obtain ⟨e, hb⟩ := tkOf_ok h
          rw [e]
          exact Good.atom _ hb (takeWhile_all' onB _)
        · rw [if_neg h2] at h ⊢
          by_cases h3 : digB c = true
          · rw [if_pos h3] at h ⊢
            unfold numberT at h ⊢
            obtain ⟨e, hb⟩ := tkOf_ok h
            rw [e]
            rw [Bool.and_eq_true] at hb
            exact Good.num _ hb.1
          · rw [if_neg h3] at h ⊢
            unfold signT at h ⊢
            cases ht : signsB.find? (fun t => t.isPrefixOf (c :: r)) with
            | none => rw [ht] at h; exact absurd (show (200 : Int) = 0 from h) (by decide)
            | some t => exact Good.sign t (List.mem_of_find?_eq_some ht)

theorem takeWhile_stop (P : UInt8 → Bool) (t : Bs) (b : UInt8) (m : Bs) (h : t.all P = true) (hb : P b = false) : (t ++ b :: m).takeWhile P = t ∧ (t ++ b :: m).dropWhile P = b :: m := by
  induction t with
  | nil => exact ⟨List.takeWhile_cons_of_neg (by simp [hb]), List.dropWhile_cons_of_neg (by simp [hb])⟩
  | cons c t ih =>
    rw [List.all_cons, Bool.and_eq_true] at h
    obtain ⟨h1, h2⟩ := ih h.2
    rw [List.cons_append]
    exact ⟨by rw [List.takeWhile_cons_of_pos h.1, h1], by rw [List.dropWhile_cons_of_pos h.1, h2]⟩

/-- What a byte is, at a glance. -/
theorem byte_low {c : UInt8} (h : lowB c = true) : blankB c = false ∧ hashB c = false ∧ onB c = true := by
  unfold lowB at h
  simp only [Bool.and_eq_true, decide_eq_true_eq] at h
  refine ⟨?_, ?_, ?_⟩
  · simp only [blankB, Bool.or_eq_false_iff, decide_eq_false_iff_not]; omega
  · simp only [hashB, decide_eq_false_iff_not]; omega
  · simp only [onB, lowB, Bool.or_eq_true, Bool.and_eq_true, decide_eq_true_eq]; omega
theorem byte_dig {c : UInt8} (h : digB c = true) : blankB c = false ∧ hashB c = false ∧ lowB c = false ∧ c.toNat ≠ 63 ∧ c.toNat ≠ 39 := by
  unfold digB at h
  simp only [Bool.and_eq_true, decide_eq_true_eq] at h
  refine ⟨?_, ?_, ?_, by omega, by omega⟩
  · simp only [blankB, Bool.or_eq_false_iff, decide_eq_false_iff_not]; omega
  · simp only [hashB, decide_eq_false_iff_not]; omega
  · simp only [lowB, Bool.and_eq_false_iff, decide_eq_false_iff_not]; omega
theorem byte_blank {b : UInt8} (h : blankB b = true) : onB b = false ∧ digB b = false ∧ lowOnB b = false := by
  unfold blankB at h
  simp only [Bool.or_eq_true, decide_eq_true_eq] at h
  refine ⟨?_, ?_, ?_⟩
  · simp only [onB, lowB, digB, Bool.or_eq_false_iff, Bool.and_eq_false_iff, decide_eq_false_iff_not]; omega
  · simp only [digB, Bool.and_eq_false_iff, decide_eq_false_iff_not]; omega
  · simp only [lowOnB, lowB, Bool.or_eq_false_iff, Bool.and_eq_false_iff, decide_eq_false_iff_not]; omega
theorem name_first {t : Bs} (h : nameB t = true) : ∃ c r, t = c :: r ∧ lowB c = true := by
  unfold nameB at h
  rw [Bool.and_eq_true] at h
  cases t with
  | nil => exact absurd h.1 (by decide)
  | cons c r => exact ⟨c, r, rfl, h.1⟩
theorem word_name {t : Bs} (h : wordsB.contains t = true) : nameB t = true ∧ t.all onB = true := by
  have h1 : ∀ u ∈ wordsB, nameB u = true ∧ u.all onB = true := by decide +kernel
  exact h1 t (List.contains_iff_mem.1 h)

/-- Signs, with a blank behind: none goes on. -/
theorem sign_blank (t : Bs) (ht : t ∈ signsB) (b : UInt8) (hb : b = 9 ∨ b = 10 ∨ b = 32) (m : Bs) : signsB.find? (fun u => u.isPrefixOf (t ++ b :: m)) = some t := by
  unfold signsB at ht
  simp only [List.mem_cons, List.not_mem_nil, or_false] at ht
  rcases hb with rfl | rfl | rfl <;> (rcases ht with rfl | rfl | rfl | rfl | rfl | rfl | rfl | rfl | rfl | rfl | rfl | rfl | rfl | rfl | rfl | rfl | rfl <;> rfl)
theorem sign_first (t : Bs) (ht : t ∈ signsB) : ∃ c r, t = c :: r ∧ lowB c = false ∧ c.toNat ≠ 63 ∧ c.toNat ≠ 39 ∧ digB c = false ∧ blankB c = false ∧ hashB c = false := by
  unfold signsB at ht
  simp only [List.mem_cons, List.not_mem_nil, or_false] at ht
  rcases ht with rfl | rfl | rfl | rfl | rfl | rfl | rfl | rfl | rfl | rfl | rfl | rfl | rfl | rfl | rfl | rfl | rfl <;> exact ⟨_, _, rfl, by decide, by decide, by decide, by decide, by decide, by decide⟩

theorem skip_first (c : UInt8) (r : Bs) (h1 : blankB c = false) (h2 : hashB c = false) : skipS false (c :: r) = c :: r := skipS_stop _ h1 h2

/-- A token that may be told, a blank behind: it is told, and the blank is left. -/
theorem good_told (k : Int) (t : Bs) (h : Good k t) (hk : k ≠ 7) (b : UInt8) (hb : b = 9 ∨ b = 10 ∨ b = 32) (m : Bs) : tokT (skipS false (sigil k ++ t ++ b :: m)) = ⟨0, k, t, b :: m⟩ := by
  have hbl : blankB b = true := by rcases hb with rfl | rfl | rfl <;> decide
  obtain ⟨n1, n2, n3⟩ := byte_blank hbl
  have named : ∀ k', nameB t = true → t.all onB = true → namedT k' (t ++ b :: m) = ⟨0, k', t, b :: m⟩ := fun k' hn ha => by
    obtain ⟨e1, e2⟩ := takeWhile_stop onB t b m ha n1
    unfold namedT
    rw [e1, e2, hn]
    rfl
  cases h with
  | word _ hw =>
    obtain ⟨hn, ha⟩ := word_name hw
    obtain ⟨c, r, rfl, hc⟩ := name_first hn
    obtain ⟨b1, b2, _⟩ := byte_low hc
    obtain ⟨e1, e2⟩ := takeWhile_stop onB (c :: r) b m ha n1
    show tokT (skipS false (c :: (r ++ b :: m))) = _
    rw [skip_first c _ b1 b2, tokT_cons, if_pos hc]
    unfold wordT
    rw [show c :: (r ++ b :: m) = (c :: r) ++ b :: m from rfl, e1, e2, if_pos hw]
    rfl
  | name _ hw hn ha =>
    obtain ⟨c, r, rfl, hc⟩ := name_first hn
    obtain ⟨b1, b2, _⟩ := byte_low hc
    obtain ⟨e1, e2⟩ := takeWhile_stop onB (c :: r) b m ha n1
    show tokT (skipS false (c :: (r ++ b :: m))) = _
    rw [skip_first c _ b1 b2, tokT_cons, if_pos hc]
    unfold wordT
    rw [show c :: (r ++ b :: m) = (c :: r) ++ b :: m from rfl, e1, e2, if_neg (by rw [hw]; simp), hn]
    rfl
  | var _ hn ha =>
    show tokT (skipS false ((63 : UInt8) :: (t ++ b :: m))) = _
    rw [skip_first 63 _ (by decide) (by decide), tokT_cons, if_neg (by decide), if_pos (by decide), named 3 hn ha]
  | atom _ hn ha =>
    show tokT (skipS false ((39 : UInt8) :: (t ++ b :: m))) = _
    rw [skip_first 39 _ (by decide) (by decide), tokT_cons, if_neg (by decide), if_neg (by decide), if_pos (by decide), named 5 hn ha]
  | num _ hn =>
    have hn' := hn
    unfold numB at hn
    rw [Bool.and_eq_true, Bool.and_eq_true] at hn
    obtain ⟨⟨h1, h2⟩, _⟩ := hn
    cases t with
    | nil => exact absurd h1 (by decide)
    | cons c r =>
      have hd : digB c = true := by rw [List.all_cons, Bool.and_eq_true] at h2; exact h2.1
      obtain ⟨b1, b2, b3, b4, b5⟩ := byte_dig hd
      obtain ⟨e1, e2⟩ := takeWhile_stop digB (c :: r) b m h2 n2
      show tokT (skipS false (c :: (r ++ b :: m))) = _
      rw [skip_first c _ b1 b2, tokT_cons, if_neg (by rw [b3]; simp), if_neg (by simpa using b4), if_neg (by simpa using b5), if_pos hd]
      unfold numberT
      rw [show c :: (r ++ b :: m) = (c :: r) ++ b :: m from rfl, e1, e2, hn', show nextB lowOnB (b :: m) = false from n3]
      rfl
  | sign _ hs =>
    obtain ⟨c, r, rfl, f1, f2, f3, f4, f5, f6⟩ := sign_first t hs
    show tokT (skipS false (c :: (r ++ b :: m))) = _
    rw [skip_first c _ f5 f6, tokT_cons, if_neg (by rw [f1]; simp), if_neg (by simpa using f2), if_neg (by simpa using f3), if_neg (by rw [f4]; simp)]
    unfold signT
    rw [show c :: (r ++ b :: m) = (c :: r) ++ b :: m from rfl, sign_blank (c :: r) hs b hb m]
    show tkOf 6 (c :: r) (((c :: r) ++ b :: m).drop (c :: r).length) true = _
    rw [List.drop_left]
    rfl
  | fin => exact absurd rfl hk

/-- What may stand between: it begins with a blank, and goes by. -/
structure Between (g : Bs) : Prop where
  first : ∃ b r, g = b :: r ∧ (b = 9 ∨ b = 10 ∨ b = 32)
  gone : ∀ m, skipS false (g ++ m) = skipS false m
def writtenB (g : Bs) : List Y → Bs
  | [] => []
  | x :: ys => sigil x.1.kind ++ x.1.text ++ g ++ writtenB g ys
theorem writtenB_append (g : Bs) (l m : List Y) : writtenB g (l ++ m) = writtenB g l ++ writtenB g m := by
  induction l with
  | nil => rfl
  | cons x l ih => simp only [List.cons_append, writtenB, ih, List.append_assoc]

theorem seqF_skip (N f : Nat) (l m : Bs) (h : skipS false l = skipS false m) : seqF N (f + 1) l = seqF N (f + 1) m := by rw [seqF_succ, seqF_succ, h]

/-- The end. -/
abbrev endY (N : Nat) : Y := (⟨0, 7, [], []⟩, N)
/-- Kinds and texts. -/
def kt (y : Y) : Int × Bs := (y.1.kind, y.1.text)
theorem back (g : Bs) (hg : Between g) (N : Nat) (q : List Y) : ∀ f, q.length < f → (∀ y ∈ q, Good y.1.kind y.1.text ∧ y.1.kind ≠ 7) →
    (seqF N f (writtenB g (q ++ [endY N]))).map kt = (q ++ [endY N]).map kt ∧ ∀ y ∈ seqF N f (writtenB g (q ++ [endY N])), y.1.err = 0 := by
  obtain ⟨b, r, hbr, hb⟩ := hg.first
  induction q with
  | nil =>
    intro f hf _
    obtain ⟨f', rfl⟩ : ∃ f', f = f' + 1 := ⟨f - 1, by omega⟩
    have e : skipS false (writtenB g ([] ++ [endY N])) = [] := by
      have h1 : writtenB g ([] ++ [endY N]) = g ++ [] := by simp [writtenB, sigil]
      rw [h1, hg.gone]
      rfl
    rw [seqF_succ, e]
    constructor
    · rfl
    · intro y hy
      have : tokT [] = ⟨0, 7, [], []⟩ := rfl
      rw [this] at hy
      simp at hy
      rw [hy]
  | cons x q ih =>
    intro f hf hq
    obtain ⟨f', rfl⟩ : ∃ f', f = f' + 1 := ⟨f - 1, by omega⟩
    rw [List.length_cons] at hf
    obtain ⟨f'', rfl⟩ : ∃ f'', f' = f'' + 1 := ⟨f' - 1, by omega⟩
    obtain ⟨hgd, hk7⟩ := hq x List.mem_cons_self
    have e : writtenB g ((x :: q) ++ [endY N]) = sigil x.1.kind ++ x.1.text ++ b :: (r ++ writtenB g (q ++ [endY N])) := by
      rw [List.cons_append]
      simp only [writtenB]
      rw [hbr]
      simp
    have ht := good_told x.1.kind x.1.text hgd hk7 b hb (r ++ writtenB g (q ++ [endY N]))
    obtain ⟨i1, i2⟩ := ih (f'' + 1) (by omega) (fun y hy => hq y (List.mem_cons_of_mem _ hy))
    have es : seqF N (f'' + 1) (b :: (r ++ writtenB g (q ++ [endY N]))) = seqF N (f'' + 1) (writtenB g (q ++ [endY N])) := by
      apply seqF_skip
      have h1 := hg.gone (writtenB g (q ++ [endY N]))
      generalize writtenB g (q ++ [endY N]) = W at h1 ⊢
      rw [hbr] at h1
      exact h1
    rw [e, seqF_succ, ht, if_pos ⟨rfl, hk7⟩, es]
    constructor
    · rw [List.map_cons, i1]
      rfl
    · intro y hy
      rcases List.mem_cons.1 hy with rfl | hy
      · rfl
      · exact i2 y hy
end Go.Proofs.YtebfclanamoldaaDoor
