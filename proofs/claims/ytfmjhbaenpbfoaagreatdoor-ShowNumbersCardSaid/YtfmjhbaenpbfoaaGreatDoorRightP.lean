/- The program's table is the document's: plain. -/
import Derived.Test.YtfmjhbaenpbfoaaGreatDoorShapes
import Derived.Test.YtfmjhbaenpbfoaaGreatDoorRefRight
namespace Go.Proofs.YtfmjhbaenpbfoaaGreatDoor
open Go.RowKit

/-- What the table's lines say. -/
def tabQ : Int → ByteArray → Int → List T → Bool := fun k s n l => shL.any fun p => p.1.has k s n l
mutual
/-- A node whose text is seen as s, with all that is in it. -/
def T.ok : T → ByteArray → Bool
  | .mk k _ n p l, s => decide (0 ≤ p) && tabQ k s n l && okL k l
def okL (k : Int) : List T → Bool
  | [] => true
  | q :: r => q.ok (seenT k q) && okL k r
end
theorem T.ok_eq (t : T) (s : ByteArray) : t.ok s = (decide (0 ≤ t.pos) && tabQ t.kind s t.num t.kids && okL t.kind t.kids) := by cases t; rw [T.ok]; rfl
theorem okL_all (k : Int) : ∀ l : List T, okL k l = l.all fun q => q.ok (seenT k q)
  | [] => by rw [okL]; rfl
  | q :: r => by rw [okL, okL_all k r]; rfl

/-- The walk says yes just of what is so, and not too deep, nor too great. -/
theorem walk_says (t : T) : ∀ (s : ByteArray) (a : Nat) (left : Int), 0 ≤ left →
    walkR tabQ t s a left = if (t.ok s && decide (a + t.deep ≤ 30) && decide ((t.many : Int) ≤ left)) = true then (true, left - t.many) else (false, (walkR tabQ t s a left).2) := by
  induction t using T.ind with
  | h t ih =>
    intro s a left h0
    have hl : ∀ (l : List T), (∀ k, k ∈ l → k ∈ t.kids) → ∀ lf : Int, 0 ≤ lf → ∀ a, walkL tabQ t.kind l a lf = if (okL t.kind l && decide (l = [] ∨ a + deepL l ≤ 30) && decide ((manyL l : Int) ≤ lf)) = true then (true, lf - manyL l) else (false, (walkL tabQ t.kind l a lf).2) := by
      intro l
      induction l with
      | nil =>
        intro _ lf hlf a
        rw [walkL, okL, if_pos (by simp [manyL, hlf])]
        simp [manyL]
      | cons q r ihl =>
        intro hk lf hlf a
        have hq := ih q (hk q (List.mem_cons_self ..)) (seenT t.kind q) a lf hlf
        have hd : 1 ≤ q.deep := by rw [T.deep_eq]; omega
        rw [walkL, okL, manyL, deepL]
        by_cases hc : (q.ok (seenT t.kind q) && decide (a + q.deep ≤ 30) && decide ((q.many : Int) ≤ lf)) = true
        · rw [if_pos hc] at hq
          rw [hq]
          simp only [if_true]
          simp only [Bool.and_eq_true, decide_eq_true_eq] at hc
          obtain ⟨⟨h1, h2⟩, h3⟩ := hc
          rw [ihl (fun k hk' => hk k (List.mem_cons_of_mem _ hk')) _ (by omega) a, h1, Bool.true_and]
          have e1 : (decide (r = [] ∨ a + deepL r ≤ 30)) = decide (q :: r = [] ∨ a + max q.deep (deepL r) ≤ 30) := by
            by_cases hr : r = []
            · subst hr
              rw [decide_eq_true (Or.inl rfl), decide_eq_true (Or.inr (by rw [deepL]; omega))]
            · by_cases h4 : a + deepL r ≤ 30
              · rw [decide_eq_true (Or.inr h4), decide_eq_true (Or.inr (by omega))]
              · rw [decide_eq_false (by rintro (h | h); exact hr h; exact h4 h), decide_eq_false (by rintro (h | h); cases h; omega)]
          have e2 : (decide ((manyL r : Int) ≤ lf - q.many)) = decide (((q.many + manyL r : Nat) : Int) ≤ lf) := by
            by_cases h : ((q.many + manyL r : Nat) : Int) ≤ lf
            · rw [decide_eq_true h, decide_eq_true (by omega)]
            · rw [decide_eq_false h, decide_eq_false (by omega)]
          rw [e1, e2]
          by_cases hf : (okL t.kind r && decide (q :: r = [] ∨ a + max q.deep (deepL r) ≤ 30) && decide (((q.many + manyL r : Nat) : Int) ≤ lf)) = true
          · rw [if_pos hf, if_pos hf]
            refine Prod.ext rfl ?_
            show lf - q.many - manyL r = lf - ((q.many + manyL r : Nat) : Int)
            omega
          · rw [if_neg hf, if_neg hf]
        · rw [if_neg hc] at hq
          rw [hq]
          simp only [Bool.false_eq_true, if_false]
          rw [if_neg]
          intro h
          simp only [Bool.and_eq_true, decide_eq_true_eq] at h hc
          obtain ⟨⟨⟨h1, h2⟩, h3⟩, h4⟩ := h
          refine hc ⟨⟨h1, ?_⟩, by omega⟩
          rcases h3 with h3 | h3
          · cases h3
          · omega
    rw [walkR_eq]
    by_cases hb : (decide (left - 1 < 0) || !(decide (0 ≤ t.pos) && decide ((a : Int) < 30)) || !tabQ t.kind s t.num t.kids) = true
    · rw [if_pos hb, if_neg]
      intro h
      rw [T.ok_eq] at h
      simp only [Bool.and_eq_true, Bool.or_eq_true, decide_eq_true_eq, Bool.not_eq_true', Bool.and_eq_false_iff, decide_eq_false_iff_not] at h hb
      obtain ⟨⟨⟨⟨h1, h2⟩, h3⟩, h4⟩, h5⟩ := h
      have hm : 1 ≤ t.many := by rw [T.many_eq]; omega
      have hd : 1 ≤ t.deep := by rw [T.deep_eq]; omega
      rcases hb with (hb | hb) | hb
      · omega
      · rcases hb with hb | hb
        · exact hb h1
        · omega
      · rw [h2] at hb
        cases hb
    · rw [if_neg hb]
      simp only [Bool.or_eq_true, decide_eq_true_eq, Bool.not_eq_true', Bool.and_eq_false_iff, decide_eq_false_iff_not, not_or] at hb
      obtain ⟨⟨h1, h2, h3⟩, h4⟩ := hb
      have hq : tabQ t.kind s t.num t.kids = true := by simpa using h4
      rw [hl t.kids (fun _ h => h) _ (by omega), T.ok_eq, hq, decide_eq_true (show 0 ≤ t.pos by omega), Bool.true_and, Bool.true_and]
      have e1 : decide (t.kids = [] ∨ a + 1 + deepL t.kids ≤ 30) = decide (a + t.deep ≤ 30) := by
        rw [T.deep_eq]
        by_cases hr : t.kids = []
        · rw [hr, decide_eq_true (Or.inl rfl), decide_eq_true (by rw [deepL]; omega)]
        · by_cases h5 : a + (deepL t.kids + 1) ≤ 30
          · rw [decide_eq_true h5, decide_eq_true (Or.inr (by omega))]
          · rw [decide_eq_false h5, decide_eq_false (by rintro (h | h); exact hr h; omega)]
      have e2 : decide ((manyL t.kids : Int) ≤ left - 1) = decide ((t.many : Int) ≤ left) := by
        rw [T.many_eq]
        by_cases h : ((1 + manyL t.kids : Nat) : Int) ≤ left
        · rw [decide_eq_true h, decide_eq_true (by omega)]
        · rw [decide_eq_false h, decide_eq_false (by omega)]
      rw [e1, e2]
      by_cases hf : (okL t.kind t.kids && decide (a + t.deep ≤ 30) && decide ((t.many : Int) ≤ left)) = true
      · rw [if_pos hf, if_pos hf]
        refine Prod.ext rfl ?_
        show left - 1 - manyL t.kids = left - (t.many : Int)
        rw [T.many_eq]
        omega
      · rw [if_neg hf, if_neg hf]
end Go.Proofs.YtfmjhbaenpbfoaaGreatDoor
