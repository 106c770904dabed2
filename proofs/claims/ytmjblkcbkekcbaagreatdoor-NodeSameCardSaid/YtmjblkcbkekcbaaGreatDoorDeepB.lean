/- What holds of the program's descent: plain. -/
import Derived.Test.YtmjblkcbkekcbaaGreatDoorDeepA
import Derived.Test.YtmjblkcbkekcbaaGreatDoorSameP
namespace Go.Proofs.YtmjblkcbkekcbaaGreatDoor
open Go.RowKit

theorem deepL_append (l m : List T) : deepL (l ++ m) = max (deepL l) (deepL m) := by
  induction l with
  | nil => simp [deepL]
  | cons x l ih => simp only [List.cons_append, deepL, ih]; omega
theorem deepL_take (l : List T) (n : Nat) (h : n < l.length) : deepL (l.take (n + 1)) = max (deepL (l.take n)) (deepL (l[n]).kids + 1) := by
  rw [List.take_add_one, List.getElem?_eq_getElem h, deepL_append]
  show max _ (deepL [l[n]]) = _
  rw [deepL, deepL, T.deep_eq]
  omega
theorem deepL_le : ∀ l : List T, deepL l ≤ manyL l
  | [] => by rw [deepL]; omega
  | k :: l => by
    rw [deepL, manyL]
    have h1 := deep_le_many k
    have h2 := deepL_le l
    omega

/-- The next kid's slice, where the level's row stands, is v. -/
def CellIs (base db mb : Nat) (w : World) (a : LevV) (v : Value) : Prop := ∃ sb off nn cc, a.1.2 = .slice (some ⟨sb, off, none⟩) nn cc ∧ Old db mb base sb ∧ w.cell? ⟨sb, off + a.2.1 * 5 + 4, none⟩ = some v
theorem CellIs.keep {base db mb : Nat} {w w' : World} {a : LevV} {v : Value} (h : CellIs base db mb w a v) (hk : ∀ k, Old db mb base k → w'.heap[k]? = w.heap[k]?) : CellIs base db mb w' a v := by
  obtain ⟨sb, off, nn, cc, h1, h2, h3⟩ := h
  exact ⟨sb, off, nn, cc, h1, h2, (cell_block (hk _ h2)).trans h3⟩
theorem CellIs.eq {base db mb : Nat} {w : World} {a : LevV} {v u : Value} (h : CellIs base db mb w a v) (h' : CellIs base db mb w a u) : v = u := by
  obtain ⟨sb, off, nn, cc, h1, h2, h3⟩ := h
  obtain ⟨sb', off', nn', cc', h1', h2', h3'⟩ := h'
  rw [h1] at h1'
  simp only [Value.slice.injEq, Option.some.injEq, Addr.mk.injEq, and_true] at h1'
  obtain ⟨⟨rfl, rfl⟩, -, -⟩ := h1'
  rw [h3] at h3'
  exact Option.some.inj h3'

/-- What holds of the path and of what is known; f: the last level's next kid is not known yet to be known. -/
structure DInv (base db mb : Nat) (w : World) (rk : Key) (f : Bool) (L : List LevV) (l : List (Key × Value)) : Prop where
  each : ∀ p, p ∈ L → p.2.1 ≤ p.1.1.kids.length ∧ p.2.2 = deepL (p.1.1.kids.take p.2.1) ∧ manyL p.1.1.kids ≤ 1000000
  desc : L.Pairwise (fun a b => manyL b.1.1.kids < manyL a.1.1.kids)
  link : ∀ (i : Nat) (a b : LevV), L[i]? = some a → L[i + 1]? = some b → a.2.1 < a.1.1.kids.length ∧ CellIs base db mb w a b.1.2
  flag : f = false → ∃ L0 a ao k c, L = L0 ++ [a] ∧ a.2.1 < a.1.1.kids.length ∧ CellIs base db mb w a (.slice ao k c) ∧ ∃ p, p ∈ l ∧ p.1 = keyA ao k
  rootIn : ∃ p, p ∈ l ∧ p.1 = rk

def lower (p : LevV) : Nat := 2 + 3 * manyL (p.1.1.kids.drop (p.2.1 + 1))
def upper (p : LevV) : Nat := 1 + 3 * manyL (p.1.1.kids.drop p.2.1)
def lows : List LevV → Nat
  | [] => 0
  | p :: l => lower p + lows l
theorem lows_append (l m : List LevV) : lows (l ++ m) = lows l + lows m := by
  induction l with
  | nil => simp [lows]
  | cons x l ih => simp only [List.cons_append, lows, ih]; omega
theorem lows_len (l : List LevV) : l.length ≤ lows l := by
  induction l with
  | nil => simp
  | cons x l ih => simp only [List.length_cons, lows, lower]; omega
/-- How many steps are still to come, at most. -/
def phi (f : Bool) (L : List LevV) : Nat := match L.getLast? with
  | none => 0
  | some p => lows L.dropLast + if f then upper p else lower p
theorem phi_snoc (f : Bool) (L : List LevV) (p : LevV) : phi f (L ++ [p]) = lows L + if f then upper p else lower p := by
  unfold phi
  simp
theorem phi_len (f : Bool) (L : List LevV) : L.length ≤ phi f L := by
  rcases List.eq_nil_or_concat L with rfl | ⟨L0, p, h⟩
  · simp
  · rw [List.concat_eq_append] at h
    subst h
    rw [phi_snoc, List.length_append, List.length_singleton]
    have := lows_len L0
    unfold upper lower
    split <;> omega

theorem DInv.keep {base db mb : Nat} {w w' : World} {rk : Key} {f : Bool} {L : List LevV} {l : List (Key × Value)} (h : DInv base db mb w rk f L l) (hk : ∀ k, Old db mb base k → w'.heap[k]? = w.heap[k]?) : DInv base db mb w' rk f L l :=
  ⟨h.each, h.desc, fun i a b ha hb => ⟨(h.link i a b ha hb).1, (h.link i a b ha hb).2.keep hk⟩, fun hf => by
    obtain ⟨L0, a, ao, k, c, h1, h2, h3, h4⟩ := h.flag hf
    exact ⟨L0, a, ao, k, c, h1, h2, h3.keep hk, h4⟩, h.rootIn⟩

theorem snoc_at {L : List LevV} {p a : LevV} {i : Nat} (h : (L ++ [p])[i]? = some a) : (i < L.length ∧ L[i]? = some a) ∨ (i = L.length ∧ a = p) := by
  by_cases hi : i < L.length
  · rw [List.getElem?_append_left hi] at h
    exact Or.inl ⟨hi, h⟩
  · rw [List.getElem?_append_right (by omega)] at h
    have : i - L.length = 0 := by
      have := (List.getElem?_eq_some_iff.1 h).1
      simp at this
      omega
    rw [this] at h
    exact Or.inr ⟨by omega, (Option.some.inj h).symm⟩

/-- The last level is done. -/
theorem DInv.pop {base db mb : Nat} {w : World} {rk : Key} {f : Bool} {L : List LevV} {p : LevV} {l l' : List (Key × Value)} (h : DInv base db mb w rk f (L ++ [p]) l) (ao : Option Addr) (c : Nat) (hp : p.1.2 = .slice ao p.1.1.kids.length c) (hn : p.2.1 = p.1.1.kids.length) (hin : ∃ q, q ∈ l' ∧ q.1 = keyA ao p.1.1.kids.length) (hold : ∀ q, q ∈ l → ∃ q', q' ∈ l' ∧ q'.1 = q.1) :
    ∃ f', DInv base db mb w rk f' L l' ∧ phi f' L < phi f (L ++ [p]) := by
  have hf : f = true := by
    cases f with
    | true => rfl
    | false =>
      obtain ⟨L0, a, ao', k, c', h1, h2, -⟩ := h.flag rfl
      have := (List.append_inj' h1 rfl).2
      simp only [List.cons.injEq, and_true] at this
      subst this
      omega
  subst hf
  have hroot : ∃ q, q ∈ l' ∧ q.1 = rk := by
    obtain ⟨q, hq, e⟩ := h.rootIn
    obtain ⟨q', hq', e'⟩ := hold q hq
    exact ⟨q', hq', e'.trans e⟩
  have heach : ∀ q, q ∈ L → q.2.1 ≤ q.1.1.kids.length ∧ q.2.2 = deepL (q.1.1.kids.take q.2.1) ∧ manyL q.1.1.kids ≤ 1000000 := fun q hq => h.each q (List.mem_append_left _ hq)
  have hdesc := (List.pairwise_append.1 h.desc).1
  have hlink : ∀ (i : Nat) (a b : LevV), L[i]? = some a → L[i + 1]? = some b → a.2.1 < a.1.1.kids.length ∧ CellIs base db mb w a b.1.2 := fun i a b ha hb => by
    have h1 := (List.getElem?_eq_some_iff.1 ha).1
    have h2 := (List.getElem?_eq_some_iff.1 hb).1
    exact h.link i a b (by rw [List.getElem?_append_left h1]; exact ha) (by rw [List.getElem?_append_left h2]; exact hb)
  have hphi : phi true (L ++ [p]) = lows L + 1 := by
    rw [phi_snoc]
    simp only [if_true, upper]
    rw [hn, List.drop_length, manyL]
  rcases List.eq_nil_or_concat L with hL | ⟨L1, a, hL⟩
  · subst hL
    exact ⟨true, ⟨heach, hdesc, hlink, (fun h => by cases h), hroot⟩, by rw [hphi]; simp [phi]⟩
  · rw [List.concat_eq_append] at hL
    subst hL
    refine ⟨false, ⟨heach, hdesc, hlink, fun _ => ?_, hroot⟩, ?_⟩
    · obtain ⟨h1, h2⟩ := h.link L1.length a p (by simp) (by simp)
      rw [hp] at h2
      exact ⟨L1, a, ao, p.1.1.kids.length, c, rfl, h1, h2, hin⟩
    · rw [hphi, phi_snoc, lows_append]
      simp [lows]
/-- The next kid was not known. -/
theorem DInv.enter {base db mb : Nat} {w : World} {rk : Key} {f : Bool} {L : List LevV} {p : LevV} {l : List (Key × Value)} (h : DInv base db mb w rk f (L ++ [p]) l) (k : T) (ao : Option Addr) (c : Nat) (hn : p.2.1 < p.1.1.kids.length) (hk : k = p.1.1.kids[p.2.1]) (hc : CellIs base db mb w p (.slice ao k.kids.length c)) (hnot : ∀ q, q ∈ l → q.1 ≠ keyA ao k.kids.length) (v : Value) :
    DInv base db mb w rk true (L ++ [p] ++ [((k, .slice ao k.kids.length c), (0, 0))]) (l ++ [(keyA ao k.kids.length, v)]) ∧ phi true (L ++ [p] ++ [((k, .slice ao k.kids.length c), (0, 0))]) < phi f (L ++ [p]) := by
  have hf : f = true := by
    cases f with
    | true => rfl
    | false =>
      obtain ⟨L0, a, ao', k', c', h1, h2, h3, q, hq, e⟩ := h.flag rfl
      have := (List.append_inj' h1 rfl).2
      simp only [List.cons.injEq, and_true] at this
      subst this
      have := hc.eq h3
      simp only [Value.slice.injEq] at this
      obtain ⟨rfl, h5, -⟩ := this
      rw [← h5] at e
      exact absurd e (hnot q hq)
  subst hf
  have hm := manyL_at (l := p.1.1.kids) (i := p.2.1) (a := k) (by rw [hk]; exact List.getElem?_eq_getElem hn)
  refine ⟨⟨?_, ?_, ?_, (fun h => by cases h), ?_⟩, ?_⟩
  · intro q hq
    rcases List.mem_append.1 hq with hq | hq
    · exact h.each q hq
    · obtain rfl := List.mem_singleton.1 hq
      have := (h.each p (List.mem_append_right _ (List.mem_singleton.2 rfl))).2.2
      refine ⟨Nat.zero_le _, ?_, ?_⟩
      · show 0 = deepL (List.take 0 _)
        rw [List.take_zero, deepL]
      · show manyL k.kids ≤ 1000000
        omega
  · rw [List.pairwise_append]
    refine ⟨h.desc, by simp, fun a ha b hb => ?_⟩
    obtain rfl := List.mem_singleton.1 hb
    show manyL k.kids < manyL a.1.1.kids
    rcases List.mem_append.1 ha with ha | ha
    · have := (List.pairwise_append.1 h.desc).2.2 a ha p (List.mem_singleton.2 rfl)
      omega
    · obtain rfl := List.mem_singleton.1 ha
      exact hm
  · intro i a b ha hb
    rcases snoc_at hb with ⟨hi, hb'⟩ | ⟨hi, rfl⟩
    · refine h.link i a b ?_ hb'
      rcases snoc_at ha with ⟨_, ha'⟩ | ⟨hi', _⟩
      · exact ha'
      · omega
    · rcases snoc_at ha with ⟨hi', ha'⟩ | ⟨hi', _⟩
      · rcases snoc_at ha' with ⟨hi2, _⟩ | ⟨_, rfl⟩
        · rw [List.length_append, List.length_singleton] at hi
          omega
        · exact ⟨hn, hc⟩
      · omega
  · obtain ⟨q, hq, e⟩ := h.rootIn
    exact ⟨q, List.mem_append_left _ hq, e⟩
  · rw [phi_snoc, phi_snoc, lows_append]
    simp only [if_true, upper, lows, lower]
    have h1 := manyL_drop p.1.1 p.2.1 hn
    rw [← hk, T.many_eq k] at h1
    rw [h1]
    simp only [List.drop_zero]
    omega
/-- The next kid is known. -/
theorem DInv.next {base db mb : Nat} {w : World} {rk : Key} {f : Bool} {L : List LevV} {p : LevV} {l : List (Key × Value)} (h : DInv base db mb w rk f (L ++ [p]) l) (hn : p.2.1 < p.1.1.kids.length) (d : Nat) (hd : d = max p.2.2 (deepL (p.1.1.kids[p.2.1]).kids + 1)) :
    DInv base db mb w rk true (L ++ [(p.1, (p.2.1 + 1, d))]) l ∧ phi true (L ++ [(p.1, (p.2.1 + 1, d))]) < phi f (L ++ [p]) := by
  have hp := h.each p (List.mem_append_right _ (List.mem_singleton.2 rfl))
  refine ⟨⟨?_, ?_, ?_, (fun h => by cases h), h.rootIn⟩, ?_⟩
  · intro q hq
    rcases List.mem_append.1 hq with hq | hq
    · exact h.each q (List.mem_append_left _ hq)
    · obtain rfl := List.mem_singleton.1 hq
      refine ⟨hn, ?_, hp.2.2⟩
      show d = deepL (p.1.1.kids.take (p.2.1 + 1))
      rw [deepL_take _ _ hn, hd, hp.2.1]
  · rw [List.pairwise_append]
    refine ⟨(List.pairwise_append.1 h.desc).1, by simp, fun a ha b hb => ?_⟩
    obtain rfl := List.mem_singleton.1 hb
    exact (List.pairwise_append.1 h.desc).2.2 a ha p (List.mem_singleton.2 rfl)
  · intro i a b ha hb
    rcases snoc_at ha with ⟨hi, ha'⟩ | ⟨hi, _⟩
    · rcases snoc_at hb with ⟨_, hb'⟩ | ⟨hi', rfl⟩
      · exact h.link i a b (by rw [List.getElem?_append_left hi]; exact ha') (by rw [List.getElem?_append_left (List.getElem?_eq_some_iff.1 hb').1]; exact hb')
      · have := h.link i a p (by rw [List.getElem?_append_left hi]; exact ha') (by rw [hi', List.getElem?_append_right (Nat.le_refl _), Nat.sub_self]; rfl)
        exact this
    · rcases snoc_at hb with ⟨hi', _⟩ | ⟨hi', _⟩
      · omega
      · omega
  · rw [phi_snoc, phi_snoc]
    simp only [if_true, upper]
    have h1 := manyL_drop p.1.1 p.2.1 hn
    have h2 : 1 ≤ (p.1.1.kids[p.2.1]).many := by rw [T.many_eq]; omega
    split
    · omega
    · rw [lower]
      omega

theorem mem_set {l : List (Key × Value)} {i : Nat} {x p : Key × Value} (h : p ∈ l.set i x) : p = x ∨ ∃ j, j ≠ i ∧ l[j]? = some p := by
  obtain ⟨j, hj⟩ := List.getElem?_of_mem h
  rw [List.getElem?_set] at hj
  by_cases hij : i = j
  · rw [if_pos hij] at hj
    split at hj
    · exact Or.inl (Option.some.inj hj).symm
    · cases hj
  · rw [if_neg hij] at hj
    exact Or.inr ⟨j, fun e => hij e.symm, hj⟩
/-- What is known behind a put. -/
theorem known_put {l l' : List (Key × Value)} {key : Key} {v : Value} (hn : (l.map Prod.fst).Nodup) (h : ((∀ p, p ∈ l → p.1 ≠ key) ∧ l' = l ++ [(key, v)]) ∨ ∃ i, (l[i]?).map Prod.fst = some key ∧ l' = l.set i (key, v)) :
    (l'.map Prod.fst).Nodup ∧ (∀ p, p ∈ l' → (p ∈ l ∧ p.1 ≠ key) ∨ p = (key, v)) ∧ (key, v) ∈ l' ∧ ∀ p, p ∈ l → ∃ p', p' ∈ l' ∧ p'.1 = p.1 := by
  rcases h with ⟨h1, rfl⟩ | ⟨i, h1, rfl⟩
  · refine ⟨?_, ?_, List.mem_append_right _ (List.mem_singleton.2 rfl), fun p hp => ⟨p, List.mem_append_left _ hp, rfl⟩⟩
    · rw [List.map_append, List.nodup_append]
      refine ⟨hn, by simp, fun a ha b hb => ?_⟩
      obtain ⟨p, hp, rfl⟩ := List.mem_map.1 ha
      have : b = key := by simpa using hb
      rw [this]
      exact h1 p hp
    · intro p hp
      rcases List.mem_append.1 hp with hp | hp
      · exact Or.inl ⟨hp, h1 p hp⟩
      · exact Or.inr (List.mem_singleton.1 hp)
  · obtain ⟨q, hq, hqk⟩ : ∃ q, l[i]? = some q ∧ q.1 = key := by
      cases hq : l[i]? with
      | none => rw [hq] at h1; cases h1
      | some q => rw [hq] at h1; exact ⟨q, rfl, Option.some.inj h1⟩
    have hi := (List.getElem?_eq_some_iff.1 hq).1
    have hmap : (l.set i (key, v)).map Prod.fst = l.map Prod.fst := by
      apply List.ext_getElem?
      intro j
      simp only [List.getElem?_map, List.getElem?_set]
      by_cases hij : i = j
      · subst hij
        rw [if_pos rfl, if_pos hi, hq]
        simp [hqk]
      · rw [if_neg hij]
    refine ⟨by rw [hmap]; exact hn, ?_, List.mem_of_getElem? (i := i) (by rw [List.getElem?_set, if_pos rfl, if_pos hi]), ?_⟩
    · intro p hp
      rcases mem_set hp with h | ⟨j, hj, hjp⟩
      · exact Or.inr h
      · refine Or.inl ⟨List.mem_of_getElem? hjp, fun e => hj ?_⟩
        have e1 : (l.map Prod.fst)[j]? = some key := by rw [List.getElem?_map, hjp, Option.map_some, e]
        have e2 : (l.map Prod.fst)[i]? = some key := by rw [List.getElem?_map, hq, Option.map_some, hqk]
        have hlj := (List.getElem?_eq_some_iff.1 e1).1
        exact (List.getElem?_inj hlj hn).1 (e1.trans e2.symm)
    · intro p hp
      have : p.1 ∈ (l.set i (key, v)).map Prod.fst := by rw [hmap]; exact List.mem_map_of_mem hp
      obtain ⟨p', hp', e⟩ := List.mem_map.1 this
      exact ⟨p', hp', e⟩
end Go.Proofs.YtmjblkcbkekcbaaGreatDoor
