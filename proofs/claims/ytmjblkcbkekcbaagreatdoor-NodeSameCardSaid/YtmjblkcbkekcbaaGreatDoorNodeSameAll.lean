/- NodeSame is true for any two trees: it is told whether they are the same but for places as the document says, and they stay as they were; no conditions. -/
import Derived.Test.YtmjblkcbkekcbaaGreatDoorShapes
import Derived.Test.YtmjblkcbkekcbaaGreatDoorRefRight
import Derived.Test.YtmjblkcbkekcbaaGreatDoorDeepD
import Derived.Test.YtmjblkcbkekcbaaGreatDoorSameP
import Derived.Test.YtmjblkcbkekcbaaGreatDoorKeptT
import Derived.Test.YtmjblkcbkekcbaaGreatDoorRefSame
import Derived.Test.YtmjblkcbkekcbaaGreatDoorCards
import Derived.Test.YtmjblkcbkekcbaaGreatDoorTie
import Derived.Deep.DeepCutAuto
import Derived.Orders
import Derived.ProofKit
import Derived.OpenShut
import Derived.ChangeArms
import Derived.ChangeMaps5
import Derived.Deep.Slices
import Derived.Lib.SmallJoins
import Derived.Lib.LaidTab
import Derived.LaidMore
import Derived.Lay
import Derived.SevenTiedAt
import Derived.Stop.Joined
import Derived.LaidLaws
import Derived.Stop.LaidErr
import Derived.ChangeBears2
namespace Go.Proofs.YtmjblkcbkekcbaaGreatDoor
open Go.RowKit

/-- What the table's lines say. -/
def tabQ : Int → ByteArray → Int → List T → Bool := fun k s n l => shL.any fun p => p.1.has k s n l
mutual
/-- A node whose text is seen as s, with all that is in it. -/
def T.ok : T → ByteArray → Bool
  | .mk k _ n p l, s => decide (0 ≤ p) && tabQ k s n l && okL k l
def okL (k : Int) : List T → Bool
  | [] => true
  | q :: r => q.ok (seenT k q) && okL k r
end
theorem T.ok_eq (t : T) (s : ByteArray) : t.ok s = (decide (0 ≤ t.pos) && tabQ t.kind s t.num t.kids && okL t.kind t.kids) := by cases t; rw [T.ok]; rfl
theorem okL_all (k : Int) : ∀ l : List T, okL k l = l.all fun q => q.ok (seenT k q)
  | [] => by rw [okL]; rfl
  | q :: r => by rw [okL, okL_all k r]; rfl

/-- The walk says yes just of what is so, and not too deep, nor too great. -/
theorem walk_says (t : T) : ∀ (s : ByteArray) (a : Nat) (left : Int), 0 ≤ left →
    walkR tabQ t s a left = if (t.ok s && decide (a + t.deep ≤ 30) && decide ((t.many : Int) ≤ left)) = true then (true, left - t.many) else (false, (walkR tabQ t s a left).2) := by
  induction t using T.ind with
  | h t ih =>
    intro s a left h0
    have hl : ∀ (l : List T), (∀ k, k ∈ l → k ∈ t.kids) → ∀ lf : Int, 0 ≤ lf → ∀ a, walkL tabQ t.kind l a lf = if (okL t.kind l && decide (l = [] ∨ a + deepL l ≤ 30) && decide ((manyL l : Int) ≤ lf)) = true then (true, lf - manyL l) else (false, (walkL tabQ t.kind l a lf).2) := by
      intro l
      induction l with
      | nil =>
        intro _ lf hlf a
        rw [walkL, okL, if_pos (by simp [manyL, hlf])]
        simp [manyL]
      | cons q r ihl =>
        intro hk lf hlf a
        have hq := ih q (hk q (List.mem_cons_self ..)) (seenT t.kind q) a lf hlf
        have hd : 1 ≤ q.deep := by rw [T.deep_eq]; omega
        rw [walkL, okL, manyL, deepL]
        by_cases hc : (q.ok (seenT t.kind q) && decide (a + q.deep ≤ 30) && decide ((q.many : Int) ≤ lf)) = true
        · rw [if_pos hc] at hq
          rw [hq]
          simp only [if_true]
          simp only [Bool.and_eq_true, decide_eq_true_eq] at hc
          obtain ⟨⟨h1, h2⟩, h3⟩ := hc
          rw [ihl (fun k hk' => hk k (List.mem_cons_of_mem _ hk')) _ (by omega) a, h1, Bool.true_and]
          have e1 : (decide (r = [] ∨ a + deepL r ≤ 30)) = decide (q :: r = [] ∨ a + max q.deep (deepL r) ≤ 30) := by
            by_cases hr : r = []
            · subst hr
              rw [decide_eq_true (Or.inl rfl), decide_eq_true (Or.inr (by rw [deepL]; omega))]
            · by_cases h4 : a + deepL r ≤ 30
              · rw [decide_eq_true (Or.inr h4), decide_eq_true (Or.inr (by omega))]
              · rw [decide_eq_false (by rintro (h | h); exact hr h; exact h4 h), decide_eq_false (by rintro (h | h); cases h; omega)]
          have e2 : (decide ((manyL r : Int) ≤ lf - q.many)) = decide (((q.many + manyL r : Nat) : Int) ≤ lf) := by
            by_cases h : ((q.many + manyL r : Nat) : Int) ≤ lf
            · rw [decide_eq_true h, decide_eq_true (by omega)]
            · rw [decide_eq_false h, decide_eq_false (by omega)]
          rw [e1, e2]
          by_cases hf : (okL t.kind r && decide (q :: r = [] ∨ a + max q.deep (deepL r) ≤ 30) && decide (((q.many + manyL r : Nat) : Int) ≤ lf)) = true
          · rw [if_pos hf, if_pos hf]
            refine Prod.ext rfl ?_
            show lf - q.many - manyL r = lf - ((q.many + manyL r : Nat) : Int)
            omega
          · rw [if_neg hf, if_neg hf]
        · rw [if_neg hc] at hq
          rw [hq]
          simp only [Bool.false_eq_true, if_false]
          rw [if_neg]
          intro h
          simp only [Bool.and_eq_true, decide_eq_true_eq] at h hc
          obtain ⟨⟨⟨h1, h2⟩, h3⟩, h4⟩ := h
          refine hc ⟨⟨h1, ?_⟩, by omega⟩
          rcases h3 with h3 | h3
          · cases h3
          · omega
    rw [walkR_eq]
    by_cases hb : (decide (left - 1 < 0) || !(decide (0 ≤ t.pos) && decide ((a : Int) < 30)) || !tabQ t.kind s t.num t.kids) = true
    · rw [if_pos hb, if_neg]
      intro h
      rw [T.ok_eq] at h
      simp only [Bool.and_eq_true, Bool.or_eq_true, decide_eq_true_eq, Bool.not_eq_true', Bool.and_eq_false_iff, decide_eq_false_iff_not] at h hb
      obtain ⟨⟨⟨⟨h1, h2⟩, h3⟩, h4⟩, h5⟩ := h
      have hm : 1 ≤ t.many := by rw [T.many_eq]; omega
      have hd : 1 ≤ t.deep := by rw [T.deep_eq]; omega
      rcases hb with (hb | hb) | hb
      · omega
      · rcases hb with hb | hb
        · exact hb h1
        · omega
      · rw [h2] at hb
        cases hb
    · rw [if_neg hb]
      simp only [Bool.or_eq_true, decide_eq_true_eq, Bool.not_eq_true', Bool.and_eq_false_iff, decide_eq_false_iff_not, not_or] at hb
      obtain ⟨⟨h1, h2, h3⟩, h4⟩ := hb
      have hq : tabQ t.kind s t.num t.kids = true := by simpa using h4
      rw [hl t.kids (fun _ h => h) _ (by omega), T.ok_eq, hq, decide_eq_true (show 0 ≤ t.pos by omega), Bool.true_and, Bool.true_and]
      have e1 : decide (t.kids = [] ∨ a + 1 + deepL t.kids ≤ 30) = decide (a + t.deep ≤ 30) := by
        rw [T.deep_eq]
        by_cases hr : t.kids = []
        · rw [hr, decide_eq_true (Or.inl rfl), decide_eq_true (by rw [deepL]; omega)]
        · by_cases h5 : a + (deepL t.kids + 1) ≤ 30
          · rw [decide_eq_true h5, decide_eq_true (Or.inr (by omega))]
          · rw [decide_eq_false h5, decide_eq_false (by rintro (h | h); exact hr h; omega)]
      have e2 : decide ((manyL t.kids : Int) ≤ left - 1) = decide ((t.many : Int) ≤ left) := by
        rw [T.many_eq]
        by_cases h : ((1 + manyL t.kids : Nat) : Int) ≤ left
        · rw [decide_eq_true h, decide_eq_true (by omega)]
        · rw [decide_eq_false h, decide_eq_false (by omega)]
      rw [e1, e2]
      by_cases hf : (okL t.kind t.kids && decide (a + t.deep ≤ 30) && decide ((t.many : Int) ≤ left)) = true
      · rw [if_pos hf, if_pos hf]
        refine Prod.ext rfl ?_
        show left - 1 - manyL t.kids = left - (t.many : Int)
        rw [T.many_eq]
        omega
      · rw [if_neg hf, if_neg hf]
end Go.Proofs.YtmjblkcbkekcbaaGreatDoor

namespace Go.Proofs.YtmjblkcbkekcbaaGreatDoor
open Go.RowKit

theorem zero_is (n : Int) : (decide (0 ≤ n) && decide (n ≤ 0)) = (n == 0) := by
  by_cases h : n = 0
  · subst h; rfl
  · rw [beq_eq_false_iff_ne.2 h]
    by_cases h1 : 0 ≤ n
    · rw [decide_eq_true h1, decide_eq_false (by omega)]; rfl
    · rw [decide_eq_false h1]; rfl
theorem dropWhile_all (p : T → Bool) : ∀ l : List T, (l.dropWhile p).isEmpty = l.all p
  | [] => rfl
  | q :: r => by
    rw [List.dropWhile_cons, List.all_cons]
    cases h : p q with
    | true => rw [if_pos rfl, dropWhile_all p r]; rfl
    | false => rw [if_neg (by simp)]; rfl
theorem turn_none (l : List T) : turnK 0 0 [] l = (l.length == 0) := by
  unfold turnK
  rw [stripK]
  cases l with
  | nil => rfl
  | cons q r => simp
theorem turn_many (rows : List (List Int)) (l : List T) (h : l.length ≤ 4096) : turnK 0 4096 rows l = (stripK rows l).isEmpty := by
  unfold turnK
  rw [decide_eq_true (by omega), decide_eq_true (by omega)]
  rfl
theorem strip_one (ks : List Int) (l : List T) : (stripK [ks] l).isEmpty = l.all fun q => ks.contains q.kind := by
  rw [stripK, stripK]
  exact dropWhile_all _ l
theorem turn_just (m : Nat) (ks : List Int) (l : List T) : turnK m m [ks] l = (l.length == m && l.all fun q => ks.contains q.kind) := by
  unfold turnK
  rw [strip_one]
  congr 1
  by_cases h : l.length = m
  · rw [h, decide_eq_true (Int.le_refl _)]
    simp
  · rw [beq_eq_false_iff_ne.2 h]
    by_cases h1 : (m : Int) ≤ l.length
    · rw [decide_eq_true h1, decide_eq_false (by omega)]; rfl
    · rw [decide_eq_false h1]; rfl
theorem turn_least (ks : List Int) (l : List T) (h : l.length ≤ 4096) : turnK 1 4096 [ks] l = (decide (1 ≤ l.length) && l.all fun q => ks.contains q.kind) := by
  unfold turnK
  rw [strip_one, decide_eq_true (show (l.length : Int) ≤ 4096 by omega), Bool.and_true]
  congr 1
  by_cases h : 1 ≤ l.length
  · rw [decide_eq_true h, decide_eq_true (by omega)]
  · rw [decide_eq_false h, decide_eq_false (by omega)]
theorem among_is (ks : List Int) (k : Int) : among ks k = ks.contains k := by
  unfold among
  rw [List.contains_eq_any_beq]

theorem tab1 (s : ByteArray) (n : Int) (l : List T) : tabQ 1 s n l = (s.toList.isEmpty && (n == 0) && turnK 0 4096 [[2, 4]] l) := by
  rw [← zero_is]
  simp [tabQ, shL, Sh.has, Bool.and_assoc]
theorem tab2 (s : ByteArray) (n : Int) (l : List T) : tabQ 2 s n l = (nameT s && (n == 0) && turnK 0 4096 [[3]] l) := by
  rw [← zero_is, ← name_is]
  simp [tabQ, shL, Sh.has, Bool.and_assoc]
theorem tab3 (s : ByteArray) (n : Int) (l : List T) : tabQ 3 s n l = (nameT s && (n == 0) && turnK 0 0 [] l) := by
  rw [← zero_is, ← name_is]
  simp [tabQ, shL, Sh.has, Bool.and_assoc]
theorem tab4 (s : ByteArray) (n : Int) (l : List T) : tabQ 4 s n l = (nameT s && decide (-2147483647 ≤ n) && decide (n ≤ 2147483647) && turnK 0 4096 [[5, 6, 7], [8, 9, 10, 11]] l) := by
  rw [← name_is]
  simp [tabQ, shL, Sh.has, Bool.and_assoc]
theorem tab5 (s : ByteArray) (n : Int) (l : List T) : tabQ 5 s n l = (nameT s && (n == 0) && turnK 0 4096 [[12, 13, 14, 15]] l) := by
  rw [← zero_is, ← name_is]
  simp [tabQ, shL, Sh.has, Bool.and_assoc]
theorem tab6 (s : ByteArray) (n : Int) (l : List T) : tabQ 6 s n l = (nameT s && (n == 0) && turnK 0 4096 [[12, 13, 14, 15]] l) := by
  rw [← zero_is, ← name_is]
  simp [tabQ, shL, Sh.has, Bool.and_assoc]
theorem tab7 (s : ByteArray) (n : Int) (l : List T) : tabQ 7 s n l = (s.toList.isEmpty && (n == 0) && turnK 1 1 [[13, 14, 15, 16]] l) := by
  rw [← zero_is]
  simp [tabQ, shL, Sh.has, Bool.and_assoc]
theorem tab8 (s : ByteArray) (n : Int) (l : List T) : tabQ 8 s n l = (nameT s && (n == 0) && turnK 0 4096 [[13, 14, 15, 16]] l) := by
  rw [← zero_is, ← name_is]
  simp [tabQ, shL, Sh.has, Bool.and_assoc]
theorem tab9 (s : ByteArray) (n : Int) (l : List T) : tabQ 9 s n l = (s.toList.isEmpty && decide (0 ≤ n) && decide (n ≤ 2147483647) && turnK 0 0 [] l) := by
  simp [tabQ, shL, Sh.has, Bool.and_assoc]
theorem tab10 (s : ByteArray) (n : Int) (l : List T) : tabQ 10 s n l = (s.toList.isEmpty && (n == 0) && turnK 1 4096 [[13, 14, 15, 16]] l) := by
  rw [← zero_is]
  simp [tabQ, shL, Sh.has, Bool.and_assoc]
theorem tab11 (s : ByteArray) (n : Int) (l : List T) : tabQ 11 s n l = (s.toList.isEmpty && (n == 0) && turnK 0 0 [] l) := by
  rw [← zero_is]
  simp [tabQ, shL, Sh.has, Bool.and_assoc]
theorem tab12 (s : ByteArray) (n : Int) (l : List T) : tabQ 12 s n l = (s.toList.isEmpty && (n == 0) && turnK 0 0 [] l) := by
  rw [← zero_is]
  simp [tabQ, shL, Sh.has, Bool.and_assoc]
theorem tab13 (s : ByteArray) (n : Int) (l : List T) : tabQ 13 s n l = (Nm.namedB s.data.toList && (n == 0) && turnK 0 0 [] l) := by
  rw [← zero_is, ← word_is]
  simp [tabQ, shL, Sh.has, Bool.and_assoc]
theorem tab14 (s : ByteArray) (n : Int) (l : List T) : tabQ 14 s n l = (numB s.data.toList && (n == 0) && turnK 0 0 [] l) := by
  rw [← zero_is]
  simp [tabQ, shL, Sh.has, Bool.and_assoc]
theorem tab15 (s : ByteArray) (n : Int) (l : List T) : tabQ 15 s n l = (Nm.namedB s.data.toList && (n == 0) && turnK 0 0 [] l) := by
  rw [← zero_is, ← word_is]
  simp [tabQ, shL, Sh.has, Bool.and_assoc]
theorem tab16 (s : ByteArray) (n : Int) (l : List T) : tabQ 16 s n l = (((oneZ.any fun z => s.toList == z.toList) && (n == 0) && turnK 1 1 [[13, 14, 15, 16]] l) || ((opsZ.any fun z => s.toList == z.toList) && (n == 0) && turnK 2 2 [[13, 14, 15, 16]] l)) := by
  rw [← zero_is]
  simp [tabQ, shL, Sh.has, Bool.and_assoc]
theorem tabX (k : Int) (s : ByteArray) (n : Int) (l : List T) (h : k < 1 ∨ 16 < k) : tabQ k s n l = false := by
  have e : ∀ z : Int, 1 ≤ z → z ≤ 16 → (k == z) = false := fun z h1 h2 => beq_eq_false_iff_ne.2 (by omega)
  simp [tabQ, shL, Sh.has, e]
end Go.Proofs.YtmjblkcbkekcbaaGreatDoor

namespace Go.Proofs.YtmjblkcbkekcbaaGreatDoor
open Go.RowKit

theorem one_is (s : ByteArray) : (oneZ.any fun z => s.toList == z.toList) = (s.toList == [45] || s.toList == [110, 111, 116]) := by
  have e1 : (⟨#[45]⟩ : ByteArray).toList = [45] := by rw [ByteArray.toList_eq]
  have e2 : (⟨#[110, 111, 116]⟩ : ByteArray).toList = [110, 111, 116] := by rw [ByteArray.toList_eq]
  simp only [oneZ, List.any_cons, List.any_nil, Bool.or_false, e1, e2]
theorem ops_is (s : ByteArray) : (opsZ.any fun z => s.toList == z.toList) = twoT s := by
  unfold twoT
  show (twoZ.any fun z => s.toList == z.toList) = _
  congr 1
  funext z
  rw [Bool.eq_iff_iff, beq_iff_eq, beq_iff_eq]
  exact ⟨fun h => h.symm, fun h => h.symm⟩
theorem num_head (s : ByteArray) : numB s.data.toList = (numsT s && !(s.data.toList.head? == some 45)) := by
  rw [← cutS_num]
  show _ = (numB (cutT s) && _)
  unfold cutT
  cases h : s.data.toList with
  | nil => simp [numB]
  | cons c r =>
    by_cases hc : c = 45
    · subst hc
      have hz : numB (45 :: r) = false := by
        have hd : digB 45 = false := by decide
        unfold numB
        simp [hd]
      simp [hz]
    · have hn : ¬ ((c :: r).head? = some 45) := fun e => hc (by simpa using e)
      have hn' : ((c :: r).head? == some 45) = false := beq_eq_false_iff_ne.2 hn
      rw [if_neg hn, hn']
      simp
/-- Whether a - ahead may stand there. -/
def dashOK (pk : Int) (t : T) : Bool := pk == 5 || pk == 6 || !dashT t
theorem seen_text (pk : Int) (t : T) (h : t.kind ≠ 14) : seenT pk t = t.text := by
  unfold seenT
  rw [if_neg (fun e => h e.1)]
theorem dash_no (pk : Int) (t : T) (h : t.kind ≠ 14) : dashOK pk t = true := by
  unfold dashOK dashT
  rw [beq_eq_false_iff_ne.2 h]
  simp
theorem kids_gen (pk : Int) (ks : List Int) (hk : ks.contains 1 = false) : ∀ l : List T, (∀ q, q ∈ l → q.kind ≠ 1 → q.ok (seenT pk q) = (q.right && dashOK pk q)) → ((l.all fun q => ks.contains q.kind) && okL pk l) = ((l.all fun q => dashOK pk q) && allK ks l)
  | [], _ => by rw [okL, allK]; rfl
  | q :: r, h => by
    have ih := kids_gen pk ks hk r fun q hq => h q (List.mem_cons_of_mem _ hq)
    rw [List.all_cons, List.all_cons, okL, allK, among_is]
    cases hc : ks.contains q.kind with
    | false => simp
    | true =>
      have hq : q.kind ≠ 1 := fun e => by rw [e, hk] at hc; cases hc
      rw [h q (List.mem_cons_self ..) hq]
      simp only [Bool.true_and]
      cases hr : q.right with
      | false => simp
      | true =>
        cases hd : dashOK pk q with
        | false => simp
        | true => simpa using ih
theorem all_dash (pk : Int) (ks : List Int) (hk : ks.contains 14 = false) : ∀ l : List T, ((l.all fun q => dashOK pk q) && allK ks l) = allK ks l
  | [] => by rw [allK]; rfl
  | q :: r => by
    have ih := all_dash pk ks hk r
    rw [List.all_cons, allK, among_is]
    cases hc : ks.contains q.kind with
    | false => simp
    | true =>
      have hq : q.kind ≠ 14 := fun e => by rw [e, hk] at hc; cases hc
      rw [dash_no pk q hq, ← ih]
      cases q.right <;> cases (r.all fun q => dashOK pk q) <;> simp
theorem all_dash5 (pk : Int) (h : pk = 5 ∨ pk = 6) (l : List T) : (l.all fun q => dashOK pk q) = true := by
  rw [List.all_eq_true]
  intro q _
  unfold dashOK
  rcases h with rfl | rfl <;> rfl
theorem all_dashE (pk : Int) (h5 : pk ≠ 5) (h6 : pk ≠ 6) (l : List T) : ((l.all fun q => dashOK pk q) && allK [13, 14, 15, 16] l) = exprsK l := by
  rw [exprsK_eq]
  congr 2
  funext q
  unfold dashOK
  rw [beq_eq_false_iff_ne.2 h5, beq_eq_false_iff_ne.2 h6]
  rfl
theorem rule_gen : ∀ l : List T, (∀ q, q ∈ l → q.kind ≠ 1 → q.ok (seenT 4 q) = (q.right && dashOK 4 q)) → ((stripK [[5, 6, 7], [8, 9, 10, 11]] l).isEmpty && okL 4 l) = ruleK l
  | [], _ => by rw [okL, ruleK]; rfl
  | q :: r, h => by
    have ih := rule_gen r fun q hq => h q (List.mem_cons_of_mem _ hq)
    by_cases hc : condK q.kind = true
    · have hc' : ([5, 6, 7] : List Int).contains q.kind = true := by
        unfold condK at hc
        simp only [Bool.or_eq_true, beq_iff_eq] at hc
        rcases hc with (hc | hc) | hc <;> rw [hc] <;> rfl
      have hk1 : q.kind ≠ 1 := fun e => by rw [e] at hc'; cases hc'
      have hk14 : q.kind ≠ 14 := fun e => by rw [e] at hc'; cases hc'
      have hs : stripK [[5, 6, 7], [8, 9, 10, 11]] (q :: r) = stripK [[5, 6, 7], [8, 9, 10, 11]] r := by
        conv => lhs; rw [stripK, List.dropWhile_cons, if_pos hc']
        conv => rhs; rw [stripK]
      rw [hs, okL, ruleK, if_pos hc, h q (List.mem_cons_self ..) hk1, dash_no 4 q hk14, Bool.and_true, ← ih, among_is, hc']
      cases q.right <;> simp
    · have hc' : ([5, 6, 7] : List Int).contains q.kind = false := by
        rw [Bool.eq_false_iff]
        intro e
        apply hc
        rw [List.contains_iff_mem] at e
        simp only [List.mem_cons, List.not_mem_nil, or_false] at e
        unfold condK
        rcases e with e | e | e <;> rw [e] <;> rfl
      have hs : stripK [[5, 6, 7], [8, 9, 10, 11]] (q :: r) = stripK [[8, 9, 10, 11]] (q :: r) := by
        rw [stripK, List.dropWhile_cons, if_neg (by rw [hc']; simp)]
      rw [hs, ruleK, if_neg hc, strip_one, kids_gen 4 [8, 9, 10, 11] rfl (q :: r) h, all_dash 4 [8, 9, 10, 11] rfl, allK_cons, actsK_eq]

theorem len_many (t : T) : t.kids.length < t.many := by
  have e : ∀ l : List T, l.length ≤ manyL l := by
    intro l
    induction l with
    | nil => simp
    | cons k l ih =>
      rw [List.length_cons, manyL]
      have : 1 ≤ k.many := by rw [T.many_eq]; omega
      omega
  have := e t.kids
  rw [T.many_eq]
  omega
theorem T.right_if (t : T) : t.right = (decide (0 ≤ t.pos) && (t.num == 0 || t.kind == 4 || t.kind == 9) &&
    (if t.kind == 2 then nameT t.text && allK [3] t.kids
    else if t.kind == 3 then nameT t.text && t.kids.length == 0
    else if t.kind == 4 then nameT t.text && decide (-2147483647 ≤ t.num) && decide (t.num ≤ 2147483647) && ruleK t.kids
    else if t.kind == 5 || t.kind == 6 then nameT t.text && allK [12, 13, 14, 15] t.kids
    else if t.kind == 7 then t.text.toList.isEmpty && t.kids.length == 1 && exprsK t.kids
    else if t.kind == 8 then nameT t.text && exprsK t.kids
    else if t.kind == 9 then t.text.toList.isEmpty && decide (0 ≤ t.num) && decide (t.num ≤ 2147483647) && t.kids.length == 0
    else if t.kind == 10 then t.text.toList.isEmpty && decide (1 ≤ t.kids.length) && exprsK t.kids
    else if t.kind == 11 || t.kind == 12 then t.text.toList.isEmpty && t.kids.length == 0
    else if t.kind == 13 || t.kind == 15 then Nm.namedB t.text.data.toList && t.kids.length == 0
    else if t.kind == 14 then numsT t.text && t.kids.length == 0
    else if t.kind == 16 then (t.kids.length == 1 && (t.text.toList == [45] || t.text.toList == [110, 111, 116]) || t.kids.length == 2 && twoT t.text) && exprsK t.kids
    else false)) := by cases t; rw [T.right]; rfl
theorem okL_nil (k : Int) (l : List T) (h : (l.length == 0) = true) : okL k l = true := by
  have hl : l = [] := List.eq_nil_of_length_eq_zero (by simpa using h)
  rw [hl, okL]

theorem ok_right (t : T) : t.many ≤ 4096 → t.kind ≠ 1 → ∀ pk, t.ok (seenT pk t) = (t.right && dashOK pk t) := by
  induction t using T.ind with
  | h t ih =>
    intro hm h1 pk
    have hlen : t.kids.length ≤ 4096 := by have := len_many t; omega
    have ihk : ∀ q, q ∈ t.kids → q.kind ≠ 1 → q.ok (seenT t.kind q) = (q.right && dashOK t.kind q) := fun q hq h => ih q hq (by have := many_kid hq; omega) h t.kind
    by_cases h14 : t.kind = 14
    · rw [T.ok_eq, T.right_if, h14, tab14, turn_none]
      have e : (numB (seenT pk t).data.toList) = (numsT t.text && dashOK pk t) := by
        unfold seenT dashOK dashT
        by_cases h5 : pk = 5 ∨ pk = 6
        · rw [if_pos ⟨h14, h5⟩, cutS_num]
          rcases h5 with rfl | rfl <;> simp
        · rw [if_neg (fun e => h5 e.2), num_head, h14, beq_eq_false_iff_ne.2 (fun e => h5 (Or.inl e)), beq_eq_false_iff_ne.2 (fun e => h5 (Or.inr e))]
          simp
      rw [e]
      cases hz : (t.kids.length == 0) with
      | false => simp
      | true =>
        rw [okL_nil _ _ hz]
        cases decide (0 ≤ t.pos) <;> cases (t.num == 0) <;> cases numsT t.text <;> cases dashOK pk t <;> rfl
    · rw [seen_text pk t h14, dash_no pk t h14, Bool.and_true, T.ok_eq, T.right_if]
      by_cases hk : t.kind < 1 ∨ 16 < t.kind
      · rw [tabX _ _ _ _ hk]
        have e : ∀ z : Int, 1 ≤ z → z ≤ 16 → (t.kind == z) = false := fun z h1 h2 => beq_eq_false_iff_ne.2 (by omega)
        simp [e]
      · have hcase : t.kind = 2 ∨ t.kind = 3 ∨ t.kind = 4 ∨ t.kind = 5 ∨ t.kind = 6 ∨ t.kind = 7 ∨ t.kind = 8 ∨ t.kind = 9 ∨ t.kind = 10 ∨ t.kind = 11 ∨ t.kind = 12 ∨ t.kind = 13 ∨ t.kind = 15 ∨ t.kind = 16 := by omega
        have hnone : ∀ (k : Int) (x : Bool), (decide (0 ≤ t.pos) && (x && turnK 0 0 [] t.kids) && okL k t.kids) = (decide (0 ≤ t.pos) && (x && (t.kids.length == 0))) := by
          intro k x
          rw [turn_none]
          cases hz : (t.kids.length == 0) with
          | false => simp
          | true => rw [okL_nil _ _ hz, Bool.and_true]
        rcases hcase with h | h | h | h | h | h | h | h | h | h | h | h | h | h
        · rw [h] at ihk ⊢
          have g := kids_gen 2 [3] rfl t.kids ihk
          rw [all_dash 2 [3] rfl] at g
          rw [tab2, turn_many _ _ hlen, strip_one, ← g]
          cases decide (0 ≤ t.pos) <;> cases (t.num == 0) <;> cases nameT t.text <;> simp
        · rw [h, tab3, hnone]
          cases decide (0 ≤ t.pos) <;> cases (t.num == 0) <;> cases nameT t.text <;> simp
        · rw [h] at ihk ⊢
          have g := rule_gen t.kids ihk
          rw [tab4, turn_many _ _ hlen, ← g]
          cases decide (0 ≤ t.pos) <;> cases nameT t.text <;> cases decide (-2147483647 ≤ t.num) <;> cases decide (t.num ≤ 2147483647) <;> simp
        · rw [h] at ihk ⊢
          have g := kids_gen 5 [12, 13, 14, 15] rfl t.kids ihk
          rw [all_dash5 5 (Or.inl rfl), Bool.true_and] at g
          rw [tab5, turn_many _ _ hlen, strip_one, ← g]
          cases decide (0 ≤ t.pos) <;> cases (t.num == 0) <;> cases nameT t.text <;> simp
        · rw [h] at ihk ⊢
          have g := kids_gen 6 [12, 13, 14, 15] rfl t.kids ihk
          rw [all_dash5 6 (Or.inr rfl), Bool.true_and] at g
          rw [tab6, turn_many _ _ hlen, strip_one, ← g]
          cases decide (0 ≤ t.pos) <;> cases (t.num == 0) <;> cases nameT t.text <;> simp
        · rw [h] at ihk ⊢
          have g := kids_gen 7 [13, 14, 15, 16] rfl t.kids ihk
          rw [all_dashE 7 (by decide) (by decide)] at g
          have ht := turn_just 1 [13, 14, 15, 16] t.kids
          rw [tab7, show turnK 1 1 [[13, 14, 15, 16]] t.kids = _ from ht, ← g]
          cases decide (0 ≤ t.pos) <;> cases (t.num == 0) <;> cases t.text.toList.isEmpty <;> cases (t.kids.length == 1) <;> simp
        · rw [h] at ihk ⊢
          have g := kids_gen 8 [13, 14, 15, 16] rfl t.kids ihk
          rw [all_dashE 8 (by decide) (by decide)] at g
          rw [tab8, turn_many _ _ hlen, strip_one, ← g]
          cases decide (0 ≤ t.pos) <;> cases (t.num == 0) <;> cases nameT t.text <;> simp
        · rw [h, tab9, hnone]
          cases decide (0 ≤ t.pos) <;> cases t.text.toList.isEmpty <;> simp
        · rw [h] at ihk ⊢
          have g := kids_gen 10 [13, 14, 15, 16] rfl t.kids ihk
          rw [all_dashE 10 (by decide) (by decide)] at g
          rw [tab10, turn_least _ _ hlen, ← g]
          cases decide (0 ≤ t.pos) <;> cases (t.num == 0) <;> cases t.text.toList.isEmpty <;> cases decide (1 ≤ t.kids.length) <;> simp
        · rw [h, tab11, hnone]
          cases decide (0 ≤ t.pos) <;> cases (t.num == 0) <;> cases t.text.toList.isEmpty <;> simp
        · rw [h, tab12, hnone]
          cases decide (0 ≤ t.pos) <;> cases (t.num == 0) <;> cases t.text.toList.isEmpty <;> simp
        · rw [h, tab13, hnone]
          cases decide (0 ≤ t.pos) <;> cases (t.num == 0) <;> cases Nm.namedB t.text.data.toList <;> simp
        · rw [h, tab15, hnone]
          cases decide (0 ≤ t.pos) <;> cases (t.num == 0) <;> cases Nm.namedB t.text.data.toList <;> simp
        · rw [h] at ihk ⊢
          have g := kids_gen 16 [13, 14, 15, 16] rfl t.kids ihk
          rw [all_dashE 16 (by decide) (by decide)] at g
          have ht1 := turn_just 1 [13, 14, 15, 16] t.kids
          have ht2 := turn_just 2 [13, 14, 15, 16] t.kids
          rw [tab16, show turnK 1 1 [[13, 14, 15, 16]] t.kids = _ from ht1, show turnK 2 2 [[13, 14, 15, 16]] t.kids = _ from ht2, one_is, ops_is, ← g]
          cases decide (0 ≤ t.pos) <;> cases (t.num == 0) <;> cases (t.text.toList == [45] || t.text.toList == [110, 111, 116]) <;> cases twoT t.text <;> cases (t.kids.length == 1) <;> cases (t.kids.length == 2) <;> cases (t.kids.all fun q => ([13, 14, 15, 16] : List Int).contains q.kind) <;> simp
/-- The whole. -/
theorem right_is (t : T) : (t.kind == 1 && (walkR tabQ t t.text 0 4096).1) = rightT t := by
  rw [walk_says t t.text 0 4096 (by omega)]
  unfold rightT
  by_cases hk : t.kind = 1
  · by_cases hm : t.many ≤ 4096
    · have hlen : t.kids.length ≤ 4096 := by have := len_many t; omega
      have g := kids_gen 1 [2, 4] rfl t.kids (fun q hq h => ok_right q (by have := many_kid hq; omega) h 1)
      rw [all_dash 1 [2, 4] rfl] at g
      have e : t.ok t.text = (decide (0 ≤ t.pos) && (t.text.toList.isEmpty && (t.num == 0)) && allK [2, 4] t.kids) := by
        rw [T.ok_eq, hk, tab1, turn_many _ _ hlen, strip_one, ← g]
        cases decide (0 ≤ t.pos) <;> cases (t.num == 0) <;> cases t.text.toList.isEmpty <;> simp
      rw [hk, e, decide_eq_true (show (t.many : Int) ≤ 4096 by omega), decide_eq_true hm, Nat.zero_add]
      cases decide (0 ≤ t.pos) <;> cases (t.num == 0) <;> cases t.text.toList.isEmpty <;> cases allK [2, 4] t.kids <;> cases decide (t.deep ≤ 30) <;> simp
    · rw [decide_eq_false hm, decide_eq_false (show ¬ (t.many : Int) ≤ 4096 by omega)]
      simp
  · rw [beq_eq_false_iff_ne.2 hk]
    simp

theorem lines_any (us : List Value) (h : us.length = 17) : hasQ (linesOf us) = tabQ := hasQ_lines us h

set_option maxRecDepth 100000 in
set_option maxHeartbeats 1000000 in
theorem progRight_any (t : T) (v : Value) (w : World) (hk : Lies w.heap.size w t v) (hL : Laid w) (hs : Short t) :
    Calls Tryz.prog 10 #[agg t v] w fun e w' => e = .returned (.bool (rightT t)) ∧ Below w.heap.size w w' := by
  have HL := Lib.hid hL
  have HS := Lib.hid hs
  have HK := Lib.hid hk
  obtain ⟨ao, c, ps, rfl, k1⟩ := hk.out
  have HR := Lib.hid (right_is t)
  have KH := Lib.hid (fun W => shapes_any W)
  clear hL hs hk k1
  unfold agg
  go_enter Tryz.func10, Tryz.ntmps10
  go_wp2_with (go_at_call 26; go_must (refine (KH.out _).mono ?_; rintro e w1 ⟨us, sv, hul, rfl, hln, hb1⟩; have HLn := Lib.hid (And.intro hul hln); obtain ⟨⟨sao, sc, rfl, -⟩, -, -⟩ := hln; have HB1 := Lib.hid (below_step (below_own _) hb1); have HB1' := Lib.hid hb1; clear hul hb1; refine Hid.out ?_))
  have HW : Hid (WalkAt w1.heap.size w1.heap.size (w1.alloc (.cells #[.slice sao (linesOf us).length sc, .int .i64 4096] 46)) (.slice sao (linesOf us).length sc) (linesOf us) 4096) := by
    have hh := heap_alloc_new w1 (.cells #[.slice sao (linesOf us).length sc, .int .i64 4096] 46)
    have h5 := HL.out.errs.two
    have h6 := HB1.out.size
    exact ⟨Lib.cell_of_heap hh 0, Lib.cell_of_heap hh 1, fun j => Lib.frozen_of_heap hh j, HLn.out.2.up (below_own _) (Nat.le_refl _), (HL.out.below HB1.out).below (below_own _), by omega, Nat.le_refl _, by simp⟩
  have KW : Hid (∀ W, Below (w1.alloc (.cells #[.slice sao (linesOf us).length sc, .int .i64 4096] 46)).heap.size (w1.alloc (.cells #[.slice sao (linesOf us).length sc, .int .i64 4096] 46)) W → Calls Tryz.prog 27 #[.pointer (some ⟨w1.heap.size, 0, none⟩), .agg #[.int .u8 t.kind, .string t.text, .int .i64 t.num, .int .i64 t.pos, .slice ao t.kids.length c, .int .i64 0]] W fun e w' => e = .returned (.bool (walkR tabQ t t.text 0 4096).1) ∧ Below w.heap.size w w') := fun W hb => by
    have hbw : Below w.heap.size w (w1.alloc (.cells #[.slice sao (linesOf us).length sc, .int .i64 4096] 46)) := below_new HB1.out _
    have := progRight_walk t t.text 0 4096 (.slice ao t.kids.length c) (.slice sao (linesOf us).length sc) (linesOf us) w1.heap.size w1.heap.size W (HW.out.below hb) (by omega) (by omega) (by omega) HS.out.size HS.out ((HK.out.up (hbw.trans (hb.mono hbw.size)) (show w.heap.size ≤ w1.heap.size from HB1.out.size)))
    rw [lines_any us HLn.out.1] at this
    refine this.mono ?_
    rintro e w' ⟨he, -, hf⟩
    have h1 := HB1.out.size
    have h2 := hb.size
    exact ⟨he, (hbw.trans (hb.mono hbw.size)).trans (hf.below (by simp at h2; omega) h1)⟩
  have hsz : w.heap.size < w1.heap.size := by
    have := HB1'.out.size
    simp at this
    omega
  have nb0 : w1.cell? ⟨w.heap.size, 0, none⟩ = some (.int .u8 t.kind) := by
    have h := (bret HB1'.out).1 0
    rw [h]
    exact cells_made w _ _ 0 _ rfl
  have nb1 : w1.cell? ⟨w.heap.size, 1, none⟩ = some (.string t.text) := by
    have h := (bret HB1'.out).1 1
    rw [h]
    exact cells_made w _ _ 1 _ rfl
  have nb2 : w1.cell? ⟨w.heap.size, 2, none⟩ = some (.int .i64 t.num) := by
    have h := (bret HB1'.out).1 2
    rw [h]
    exact cells_made w _ _ 2 _ rfl
  have nb3 : w1.cell? ⟨w.heap.size, 3, none⟩ = some (.int .i64 t.pos) := by
    have h := (bret HB1'.out).1 3
    rw [h]
    exact cells_made w _ _ 3 _ rfl
  have nb4 : w1.cell? ⟨w.heap.size, 4, none⟩ = some (.slice ao t.kids.length c) := by
    have h := (bret HB1'.out).1 4
    rw [h]
    exact cells_made w _ _ 4 _ rfl
  have HBW : Hid (Below w.heap.size w (w1.alloc (.cells #[.slice sao (linesOf us).length sc, .int .i64 4096] 46))) := below_new HB1.out _
  by_cases hk1 : t.kind = 1
  · have hk1' : (t.kind == 1) = true := beq_iff_eq.2 hk1
    have HK1 := Lib.hid hk1'
    clear hk1'
    rw [hk1] at KW
    refine Lib.hid ?_
    go_wp2_with (go_at_call 27; go_must (refine (KW.out _ (Below.refl _ _)).mono ?_; rintro e w2 ⟨rfl, hb2⟩; have HB2 := Lib.hid hb2; clear hb2; refine Hid.out ?_))
    refine Lib.hid ?_
    go_wp2_with fail
    go_ret
    have h := HR.out
    rw [HK1.out] at h
    exact ⟨by rw [← h]; rfl, HB2.out⟩
  · have hk1' : (t.kind == 1) = false := beq_eq_false_iff_ne.2 hk1
    have HK1 := Lib.hid hk1'
    clear hk1'
    refine Lib.hid ?_
    go_wp2_with fail
    go_ret
    have h := HR.out
    rw [HK1.out] at h
    exact ⟨by rw [← h]; rfl, HBW.out⟩
end Go.Proofs.YtmjblkcbkekcbaaGreatDoor

namespace Go.Proofs.YtmjblkcbkekcbaaGreatDoor
open Go.RowKit

theorem lookup_val {P : Program} {s : Prop} {kt : TypeId} {K : Type} {enc : K → Value} {good : World → K → Prop} (T : KeyOf P s kt K enc good) (x : K) (t et : TypeId)
    (ht : P.underlying t = some (.map kt et)) (w : World) (b : Nat) (l : List (K × Value)) (hm : MapIs enc w b l) (hx : good w x) (hg : ∀ p, p ∈ l → good w p.1) (hin : ∃ p, p ∈ l ∧ p.1 = x) :
    ∃ v k, (Instr.lookup t (.map (some b)) (enc x) false).run P w = .ok v (w.drewN k) ∧ (s → (x, v) ∈ l) := by
  obtain ⟨es, clock, h1, h2⟩ := hm
  obtain ⟨o, k, h3, h4, h5⟩ := findKey_any T x es.toList l w h2 hx hg
  cases o with
  | none =>
    obtain ⟨p, hp, e⟩ := hin
    exact absurd e (h4 rfl p hp)
  | some o =>
    obtain ⟨i, v⟩ := o
    refine ⟨v, k, ?_, fun hs => ?_⟩
    · simp [Instr.lookup, run_underlying ht, MapKept.run_getObj_map h1, T.check, h3, Result.andThen]
    · obtain ⟨y, hy, he⟩ := h5 i v rfl
      rw [← he hs]
      exact List.mem_of_getElem? hy
theorem alloc_set (w : World) (o o' : Obj) : ({ w.alloc o with heap := (w.alloc o).heap.setIfInBounds w.heap.size o' } : World) = w.alloc o' := by
  have h : (w.heap.push o).setIfInBounds w.heap.size o' = w.heap.push o' := by
    apply Array.ext
    · simp
    · intro i h1 h2
      simp only [Array.size_setIfInBounds, Array.size_push] at h1
      rw [Array.getElem_setIfInBounds (by simpa using h1)]
      by_cases e : w.heap.size = i
      · subst e; simp
      · rw [if_neg e, Array.getElem_push, Array.getElem_push]
        simp [show i < w.heap.size from by omega]
  simp only [World.alloc] at h ⊢
  rw [h]
theorem insert_first (W : World) (val : Value) : (Instr.mapUpdate 53 (.map (some W.heap.size)) (.agg #[.pointer none, .int .i64 0]) val).run Tryz.prog (W.alloc (.map #[] 0)) = .ok () (W.alloc (.map #[⟨.agg #[.pointer none, .int .i64 0], val, 0⟩] 1)) := by
  have hb : (W.alloc (.map #[] 0)).heap[W.heap.size]? = some (.map #[] 0) := heap_alloc_new W _
  have hc := checkKey_row rowT (W.alloc (.map #[] 0)) (none, 0) false 9998
  have hc' : (Instr.checkKey false 10000 52 (.agg #[.pointer none, .int .i64 0])).run Tryz.prog (W.alloc (.map #[] 0)) = .ok () (W.alloc (.map #[] 0)) := hc
  have hu : Tryz.prog.underlying 53 = some (.map 52 3) := Tryz.underlying53
  obtain ⟨d, hd, -⟩ := (kRow True).now
  have hf : (Instr.findKey 52 (.agg #[.pointer none, .int .i64 0]) []).run Tryz.prog (W.alloc (.map #[] 0)) = .ok none (W.alloc (.map #[] 0)) := by
    simp [Instr.findKey, run_underlying hd, Instr.findNow, Result.andThen]
  simp [Instr.mapUpdate, run_underlying hu, MapKept.run_getObj_map hb, hc', hf, MapKept.run_setObj_map _ hb, Result.andThen]
  exact alloc_set _ _ _

abbrev deepW (w : World) (t : T) (v : Value) : World := (((w.alloc (boxN t v)).alloc (boxN t v)).alloc (.map #[⟨.agg #[.pointer none, .int .i64 0], .int .i64 0, 0⟩] 1)).alloc (.cells #[.slice none 0 0, .map (some (w.heap.size + 1 + 1))] 56)
theorem deepW_below (w : World) (t : T) (v : Value) : Below w.heap.size w (deepW w t v) := below_new (below_new (below_new (below_own _) _) _) _
theorem deep_start (t : T) (a1 : Option Addr) (c1 : Nat) (ps1 : List (T × Value)) (w : World) (k1 : RowAt True (fun k => k < w.heap.size) w t a1 c1 ps1) :
    DpAt (w.heap.size + 4) (w.heap.size + 1 + 1 + 1) (w.heap.size + 1 + 1) (deepW w t (.slice a1 t.kids.length c1)) (.slice none 0 0) [] [((none, 0), .int .i64 0)] ∧
    RowAt True (Old (w.heap.size + 1 + 1 + 1) (w.heap.size + 1 + 1) (w.heap.size + 4)) (deepW w t (.slice a1 t.kids.length c1)) (top t) (some ⟨w.heap.size + 1, 0, none⟩) 1 [(t, .slice a1 t.kids.length c1)] := by
  have hB := deepW_below w t (.slice a1 t.kids.length c1)
  obtain ⟨W, hW⟩ : ∃ W, W = deepW w t (.slice a1 t.kids.length c1) := ⟨_, rfl⟩
  have hh : W.heap = (((w.heap.push (boxN t (.slice a1 t.kids.length c1))).push (boxN t (.slice a1 t.kids.length c1))).push (.map #[⟨.agg #[.pointer none, .int .i64 0], .int .i64 0, 0⟩] 1)).push (.cells #[.slice none 0 0, .map (some (w.heap.size + 1 + 1))] 56) := by rw [hW]; rfl
  rw [← hW] at hB ⊢
  have e1 : W.heap[w.heap.size + 1]? = some (boxN t (.slice a1 t.kids.length c1)) := by rw [hh, push_lt _ _ _ (by simp), push_lt _ _ _ (by simp), push_last _ _ _ (by simp)]
  have e2 : W.heap[w.heap.size + 1 + 1]? = some (.map #[⟨.agg #[.pointer none, .int .i64 0], .int .i64 0, 0⟩] 1) := by rw [hh, push_lt _ _ _ (by simp), push_last _ _ _ (by simp)]
  have e3 : W.heap[w.heap.size + 1 + 1 + 1]? = some (.cells #[.slice none 0 0, .map (some (w.heap.size + 1 + 1))] 56 (0, 0)) := by rw [hh, push_last _ _ _ (by simp)]
  have es : W.heap.size = w.heap.size + 4 := by rw [hh]; simp
  have hk : ∀ k, k < w.heap.size → W.heap[k]? = w.heap[k]? := fun k h => hB.block k h
  have ho : ∀ k, k < w.heap.size → Old (w.heap.size + 1 + 1 + 1) (w.heap.size + 1 + 1) (w.heap.size + 4) k := fun k h => ⟨by omega, by omega, by omega⟩
  refine ⟨⟨Lib.cell_of_heap e3 0, Lib.cell_of_heap e3 1, fun j => Lib.frozen_of_heap e3 j, ⟨rfl, Or.inl ⟨rfl, rfl⟩⟩, (fun p hp => by cases hp), ⟨_, _, e2, rfl⟩, by simp, fun p hp => ?_, fun p hp => ?_, fun p hp => ?_, by omega, by omega, by omega, by omega⟩, row_one (k1.keep hk ho) e1 ⟨by omega, by omega, by omega⟩⟩
  · obtain rfl := List.mem_singleton.1 hp
    exact Good.none _ _
  · obtain rfl := List.mem_singleton.1 hp
    intro ad h
    cases h
  · obtain rfl := List.mem_singleton.1 hp
    exact Or.inl ⟨rfl, rfl⟩

set_option maxRecDepth 100000 in
set_option maxHeartbeats 4000000 in
theorem progDeep_any (t : T) (v1 : Value) (w : World) (h1 : Stood True (fun k => k < w.heap.size) w t v1) (hm : t.many ≤ 100000) :
    Calls Tryz.prog 12 #[agg t v1] w fun e w' => e = .returned (.int .i64 (t.deep : Nat)) ∧ Below w.heap.size w w' := by
  obtain ⟨a1, c1, ps1, rfl, k1⟩ := h1.out
  obtain ⟨hC, r1⟩ := deep_start t a1 c1 ps1 w k1
  have hEn : Calls Tryz.prog 30 #[.pointer (some ⟨w.heap.size + 1 + 1 + 1, 0, none⟩), .slice (some ⟨w.heap.size + 1, 0, none⟩) 1 1] (deepW w t (.slice a1 t.kids.length c1)) fun e w' => e = .returned (.tuple #[]) ∧ ∃ lv, Mv (w.heap.size + 1 + 1 + 1) (w.heap.size + 1 + 1) (deepW w t (.slice a1 t.kids.length c1)) (.slice none 0 0) w' lv ∧ ∃ L l f, DpAt (w.heap.size + 4) (w.heap.size + 1 + 1 + 1) (w.heap.size + 1 + 1) w' lv L l ∧ DInv (w.heap.size + 4) (w.heap.size + 1 + 1 + 1) (w.heap.size + 1 + 1) w' (some ⟨w.heap.size + 1, 0, none⟩, 1) f L l ∧ phi f L ≤ 300001 := by
    refine (enter_any _ _ _ (top t) _ 1 _ _ _ _ _ hC (by simp) r1 (fun p hp => ?_)).mono ?_
    · obtain rfl := List.mem_singleton.1 hp
      intro h
      cases h
    · rintro e w' ⟨he, lv, hmv, h⟩
      refine ⟨he, lv, hmv, _, _, true, h, ⟨fun p hp => ?_, by simp, fun i a b ha hb => ?_, (fun h => by cases h), ?_⟩, ?_⟩
      · obtain rfl := List.mem_singleton.1 hp
        refine ⟨Nat.zero_le _, ?_, ?_⟩
        · show 0 = deepL (List.take 0 _)
          rw [List.take_zero, deepL]
        · show manyL [t] ≤ 1000000
          rw [manyL, manyL]
          omega
      · have := (List.getElem?_eq_some_iff.1 hb).1
        simp at this
      · exact ⟨_, List.mem_append_right _ (List.mem_singleton.2 rfl), rfl⟩
      · show phi true ([] ++ [((top t, _), (0, 0))]) ≤ 300001
        rw [phi_snoc]
        show 0 + (1 + 3 * manyL (List.drop 0 [t])) ≤ 300001
        rw [List.drop_zero, manyL, manyL]
        omega
  have HEn := Lib.hid hEn
  have HB6 := Lib.hid (deepW_below w t (.slice a1 t.kids.length c1))
  have HR := Lib.hid r1
  have HE := Lib.hid (show t.deep = deepL [t] by rw [deepL, deepL]; omega)
  have hmm := @run_makeMap Tryz.prog
  have hins : (Instr.mapUpdate 53 (.map (some (w.heap.size + 1 + 1))) (.agg #[.pointer none, .int .i64 0]) (.int .i64 0)).run Tryz.prog (((w.alloc (boxN t (.slice a1 t.kids.length c1))).alloc (boxN t (.slice a1 t.kids.length c1))).alloc (.map #[] 0)) = .ok () (((w.alloc (boxN t (.slice a1 t.kids.length c1))).alloc (boxN t (.slice a1 t.kids.length c1))).alloc (.map #[⟨.agg #[.pointer none, .int .i64 0], .int .i64 0, 0⟩] 1)) := by
    have := insert_first ((w.alloc (boxN t (.slice a1 t.kids.length c1))).alloc (boxN t (.slice a1 t.kids.length c1))) (.int .i64 0)
    rw [show ((w.alloc (boxN t (.slice a1 t.kids.length c1))).alloc (boxN t (.slice a1 t.kids.length c1))).heap.size = w.heap.size + 1 + 1 by simp] at this
    exact this
  clear h1 k1 hC r1 hEn hm
  unfold agg
  go_enter Tryz.func12, Tryz.ntmps12
  go_wp2_with (go_at_call 30; go_must (refine (HEn.out).mono ?_; rintro e w6 ⟨rfl, lv6, hm6, L6, l6, f6, hc6, hi6, hw6⟩; have HM6 := Lib.hid hm6; have HC6 := Lib.hid hc6; have HI6 := Lib.hid hi6; have HW6 := Lib.hid hw6; clear hm6 hc6 hi6 hw6))
  have HMb : Hid (∀ (W : World) (lv : Value), Mv (w.heap.size + 1 + 1 + 1) (w.heap.size + 1 + 1) (deepW w t (.slice a1 t.kids.length c1)) (.slice none 0 0) W lv → Below w.heap.size w W) := fun W lv h =>
    HB6.out.trans ⟨h.os, h.tape, h.output, h.size, fun k hk => h.block k (by have := HB6.out.size; omega) (by omega) (by omega) (by simp [Value.ownBlock])⟩
  have HRk : Hid (∀ (W : World) (lv : Value), Mv (w.heap.size + 1 + 1 + 1) (w.heap.size + 1 + 1) (deepW w t (.slice a1 t.kids.length c1)) (.slice none 0 0) W lv → RowAt True (Old (w.heap.size + 1 + 1 + 1) (w.heap.size + 1 + 1) (w.heap.size + 4)) W (top t) (some ⟨w.heap.size + 1, 0, none⟩) 1 [(t, .slice a1 t.kids.length c1)]) := fun W lv h =>
    HR.out.keep (h.ch (by simp) (by simp [Value.ownBlock])).block fun _ h => h
  clear HB6 HEn HR hins hmm
  generalize deepW w t (.slice a1 t.kids.length c1) = W0 at HM6 HMb HRk
  go_loopg [] (phi f6 L6) (fun k wr => ∃ (lv : Value) (L : List LevV) (l : List (Key × Value)) (f : Bool), Hid (DpAt (w.heap.size + 4) (w.heap.size + 1 + 1 + 1) (w.heap.size + 1 + 1) wr lv L l) ∧ Hid (DInv (w.heap.size + 4) (w.heap.size + 1 + 1 + 1) (w.heap.size + 1 + 1) wr (some ⟨w.heap.size + 1, 0, none⟩, 1) f L l) ∧ phi f L = k ∧ k ≤ 300001 ∧ Hid (Mv (w.heap.size + 1 + 1 + 1) (w.heap.size + 1 + 1) W0 (.slice none 0 0) wr lv))
  case atStart => exact ⟨lv6, L6, l6, f6, HC6, HI6, rfl, HW6.out, HM6⟩
  case round =>
    clear HC6 HI6 HW6 HM6
    obtain ⟨lv, L, l, f, HC, HI, hw, hk, HM⟩ := hrel
    have HK := Lib.hid (And.intro hw hk)
    clear hw hk
    have hcb := HC.out.cbl
    rcases List.eq_nil_or_concat L with hL | ⟨L0, p, hL⟩
    · subst hL
      obtain ⟨ao, c, rfl⟩ := owns_slice HC.out.own
      have b0 : wr.cell? ⟨w.heap.size + 1 + 1 + 1, 0, none⟩ = some (.slice ao 0 c) := HC.out.b0
      have b1 := HC.out.b1
      have hbz : w.heap.size + 1 + 1 + 1 < wr.heap.size := by have := HC.out.bl; omega
      have ask : Hid (∀ W, Gr wr W → ∃ j, (Instr.lookup 53 (.map (some (w.heap.size + 1 + 1))) (.agg #[.pointer (some ⟨w.heap.size + 1, 0, none⟩), .int .i64 1]) false).run Tryz.prog W = .ok (.int .i64 (t.deep : Nat)) (W.drewN j)) := by
        intro W hW
        have hC' := HC.out.later hW.below
        have r := (HRk.out _ _ HM.out).keep (w' := W) (fun k hk => hW.below.block k (by have := hk.1; have := HC.out.bl; omega)) fun _ h => h
        obtain ⟨v, j, hrun, hin⟩ := lookup_val (kRow True) (some ⟨w.heap.size + 1, 0, none⟩, 1) 53 3 Tryz.underlying53 W (w.heap.size + 1 + 1) l hC'.map r.goodKey hC'.good HI.out.rootIn
        have hv : v = .int .i64 (t.deep : Nat) := by
          rcases hC'.mean _ (hin trivial) with ⟨h1, h2⟩ | ⟨q, hq, _⟩ | ⟨q, ao, c, ps, r', h1, h2⟩
          · cases h1
          · cases hq
          · have hs := key_same _ _ _ _ _ _ _ _ r r' h1
            rw [HE.out, show [t] = q.kids from hs]
            exact h2
        rw [hv] at hrun
        exact ⟨j, hrun⟩
      clear HI
      have HRow : Hid (∀ W, Calls Tryz.prog 32 #[.slice (some ⟨w.heap.size + 1, 0, none⟩) 1 1] W fun e w' => e = .returned (.agg #[.pointer (some ⟨w.heap.size + 1, 0, none⟩), .int .i64 1]) ∧ Gr W w') := fun W => by
        refine (rowOf_any (some ⟨w.heap.size + 1, 0, none⟩) 1 1 W (fun _ => ⟨_, _, rfl⟩)).mono ?_
        rintro e w' ⟨rfl, h⟩
        exact ⟨by rw [keyA_pos _ (by omega)]; rfl, h⟩
      go_wp2_with fail
      go_region_with (go_at_call 32; refine (HRow.out _).mono ?_; rintro e w1 ⟨rfl, hg1⟩; obtain ⟨j1, hrun⟩ := ask.out w1 (((Gr.refl wr).drew).trans hg1); have z1 : w1.cell? ⟨w.heap.size + 1 + 1 + 1, 1, none⟩ = some (.map (some (w.heap.size + 1 + 1))) := ((bone hg1.below hbz).1 1).trans b1; have HG := Lib.hid (((Gr.refl wr).drew).trans hg1); clear hg1)
      all_goals (go_wp2_with fail; go_ret)
      all_goals exact ⟨rfl, (HMb.out _ _ HM.out).trans ((HG.out.drewN _).below.mono (HMb.out _ _ HM.out).size)⟩
    · rw [List.concat_eq_append] at hL
      subst hL
      obtain ⟨⟨t', v'⟩, ⟨nx, dp⟩⟩ := p
      have hown := HC.out.own
      obtain ⟨ao, c, rfl⟩ := owns_slice hown
      have b0 : wr.cell? ⟨w.heap.size + 1 + 1 + 1, 0, none⟩ = some (.slice ao (L0.length + 1) c) := by
        have := HC.out.b0
        rw [List.length_append, List.length_singleton] at this
        exact this
      have hC' := HC.out
      rw [show (L0 ++ [((t', v'), (nx, dp))]).length = L0.length + 1 by simp] at hC'
      have HM1 : Hid (Mv (w.heap.size + 1 + 1 + 1) (w.heap.size + 1 + 1) W0 (.slice none 0 0) wr (.slice ao (L0.length + 1) c)) := by
        have := HM.out
        rw [List.length_append, List.length_singleton] at this
        exact this
      have hlen : L0.length + 1 ≤ 1000000 := by
        have h1 := phi_len f (L0 ++ [((t', v'), (nx, dp))])
        have h2 := HK.out.1
        have h3 := HK.out.2
        rw [List.length_append, List.length_singleton] at h1
        omega
      have HStep : Hid (Calls Tryz.prog 31 #[.pointer (some ⟨w.heap.size + 1 + 1 + 1, 0, none⟩)] wr (DStep (w.heap.size + 4) (w.heap.size + 1 + 1 + 1) (w.heap.size + 1 + 1) (some ⟨w.heap.size + 1, 0, none⟩, 1) f (.slice ao (L0.length + 1) c) (L0 ++ [((t', v'), (nx, dp))]) wr)) := by
        have hnx : nx ≤ t'.kids.length := (HI.out.each _ (List.mem_append_right _ (List.mem_singleton.2 rfl))).1
        by_cases h : nx < t'.kids.length
        · exact dstep_go _ _ _ _ f t' v' nx dp _ L0 l wr hC' HI.out hlen h
        · exact dstep_pop _ _ _ _ f t' v' nx dp _ L0 l wr hC' HI.out hlen (by omega)
      have hL0 : (0 : Int) < (L0.length : Int) + 1 := by omega
      clear hown hC' hlen
      go_wp2_with (go_at_call 31; go_must (refine (HStep.out).mono ?_; rintro e w7 ⟨rfl, lv7, L7, l7, f7, hm7, hc7, hi7, hp7⟩; have HM7 := Lib.hid (HM1.out.trans hm7); have HC7 := Lib.hid hc7; have HI7 := Lib.hid hi7; have HP7 := Lib.hid hp7; clear hm7 hc7 hi7 hp7))
      have HP8 : Hid (phi f7 L7 < gk) := by
        have := HP7.out
        rw [HK.out.1] at this
        exact this
      have HK2 := Lib.hid HK.out.2
      clear HI HStep HC HM HM1 HK b0 HP7
      go_roundg (phi f7 L7)
      case measure => exact HP8.out
      case rel => exact ⟨lv7, L7, l7, f7, HC7, HI7, rfl, by have := HK2.out; have := HP8.out; omega, HM7⟩
end Go.Proofs.YtmjblkcbkekcbaaGreatDoor

namespace Go.Proofs.YtmjblkcbkekcbaaGreatDoor
open Go.RowKit

theorem one_box {w w1 : World} {cs : Array Value} {t : TypeId} (h : Below (w.alloc (.cells cs t)).heap.size (w.alloc (.cells cs t)) w1) :
    (∀ j, w1.cell? ⟨w.heap.size, j, none⟩ = cs[j]?) ∧ (∀ j, w1.frozen? ⟨w.heap.size, j, none⟩ = false) :=
  ⟨fun j => ((bret h).1 j).trans (Lib.cell_of_heap (heap_alloc_new w (.cells cs t)) j), fun j => ((bret h).2 j).trans (Lib.frozen_of_heap (heap_alloc_new w (.cells cs t)) j)⟩
theorem of_any (k : Int) (s : ByteArray) (ao : Option Addr) (n c : Nat) (w : World) : Calls Tryz.prog 21 #[.int .u8 k, .string s, .slice ao n c] w fun e w' => e = .returned (.agg #[.int .u8 k, .string s, .int .i64 0, .int .i64 0, .slice ao n c]) ∧ Below w.heap.size w w' := by
  go_enter Tryz.func21, Tryz.ntmps21
  go_wp2_with fail
  exact bodyPost_ret (v := .agg #[.int .u8 k, .string s, .int .i64 0, .int .i64 0, .slice ao n c]) (by simp [results, Tryz.results21, go_sem]) rfl ⟨rfl, below_own _⟩
theorem num_any (s : ByteArray) (w : World) : Calls Tryz.prog 20 #[.string s] w fun e w' => e = .returned (.agg #[.int .u8 14, .string s, .int .i64 0, .int .i64 0, .slice none 0 0]) ∧ Below w.heap.size w w' := by
  have HB0 := Lib.hid (below_own (w := w) (.cells #[.int .u8 0, .string ⟨#[]⟩, .int .i64 0, .int .i64 0, .slice none 0 0] 25))
  have K := Lib.hid (of_any 14 s none 0 0 (w.alloc (.cells #[.int .u8 0, .string ⟨#[]⟩, .int .i64 0, .int .i64 0, .slice none 0 0] 25)))
  go_enter Tryz.func20, Tryz.ntmps20
  go_wp2_with (go_at_call 21; go_must (refine (K.out).mono ?_; rintro e w1 ⟨rfl, hb⟩; obtain ⟨b1, b2⟩ := one_box hb; have HBb := Lib.hid hb; clear hb))
  have hB1 : Below w.heap.size w w1 := HB0.out.trans (HBb.out.mono HB0.out.size)
  refine bodyPost_ret (v := .agg #[.int .u8 14, .string s, .int .i64 0, .int .i64 0, .slice none 0 0]) (by simp [results, Tryz.results20, go_sem, b1]) rfl ⟨rfl, ?_⟩
  exact ((((hB1.setCell (p := ⟨w.heap.size, 0, none⟩) (Nat.le_refl _) _).setCell (p := ⟨w.heap.size, 1, none⟩) (Nat.le_refl _) _).setCell (p := ⟨w.heap.size, 2, none⟩) (Nat.le_refl _) _).setCell (p := ⟨w.heap.size, 3, none⟩) (Nat.le_refl _) _).setCell (p := ⟨w.heap.size, 4, none⟩) (Nat.le_refl _) _
theorem program_any (ao : Option Addr) (n c : Nat) (w : World) : Calls Tryz.prog 22 #[.slice ao n c] w fun e w' => e = .returned (.agg #[.int .u8 1, .string ⟨#[]⟩, .int .i64 0, .int .i64 0, .slice ao n c]) ∧ Below w.heap.size w w' := by
  have HB0 := Lib.hid (below_own (w := w) (.cells #[.int .u8 0, .string ⟨#[]⟩, .int .i64 0, .int .i64 0, .slice none 0 0] 25))
  have K := Lib.hid (of_any 1 ⟨#[]⟩ ao n c (w.alloc (.cells #[.int .u8 0, .string ⟨#[]⟩, .int .i64 0, .int .i64 0, .slice none 0 0] 25)))
  go_enter Tryz.func22, Tryz.ntmps22
  go_wp2_with (go_at_call 21; go_must (refine (K.out).mono ?_; rintro e w1 ⟨rfl, hb⟩; obtain ⟨b1, b2⟩ := one_box hb; have HBb := Lib.hid hb; clear hb))
  have hB1 : Below w.heap.size w w1 := HB0.out.trans (HBb.out.mono HB0.out.size)
  refine bodyPost_ret (v := .agg #[.int .u8 1, .string ⟨#[]⟩, .int .i64 0, .int .i64 0, .slice ao n c]) (by simp [results, Tryz.results22, go_sem, b1]) rfl ⟨rfl, ?_⟩
  exact ((((hB1.setCell (p := ⟨w.heap.size, 0, none⟩) (Nat.le_refl _) _).setCell (p := ⟨w.heap.size, 1, none⟩) (Nat.le_refl _) _).setCell (p := ⟨w.heap.size, 2, none⟩) (Nat.le_refl _) _).setCell (p := ⟨w.heap.size, 3, none⟩) (Nat.le_refl _) _).setCell (p := ⟨w.heap.size, 4, none⟩) (Nat.le_refl _) _
/-- Kids that stand in a block of their own. -/
theorem stood_new {s : Prop} {P : Nat → Prop} {w : World} (t : T) (ps : List (T × Value)) (b : Nat) (ty : TypeId) (hk : ps.map Prod.fst = t.kids) (hb : w.heap[b]? = some (.cells (cellsN ps).toArray ty (0, 0))) (hP : P b) (hl : t.kids.length ≤ 100000) (each : ∀ p, p ∈ ps → Stood s P w p.1 p.2) : Stood s P w t (.slice (some ⟨b, 0, none⟩) t.kids.length t.kids.length) :=
  .mk t (some ⟨b, 0, none⟩) t.kids.length ps hk (fun _ => ⟨b, 0, rfl, hP, fun j u hu => by
    rw [Nat.zero_add, Lib.cell_of_heap hb, ← Array.getElem?_toList]
    exact hu⟩) (fun h => by cases h) (Nat.le_refl _) (by unfold maxLen; omega) (fun _ ad had => by
    obtain rfl := Option.some.inj had
    exact ⟨Lib.frozen_of_heap hb 0, _, _, (0, 0), hb, fun _ => rfl⟩) each
theorem stood_nil {s : Prop} {P : Nat → Prop} {w : World} (t : T) (h : t.kids = []) : Stood s P w t (.slice none 0 0) := by
  have := Stood.mk (s := s) (P := P) (w := w) t none 0 [] h.symm (fun e => absurd rfl e) (fun _ => rfl) (by rw [h]; exact Nat.le_refl _) (by unfold maxLen; omega) (fun hn => by rw [h] at hn; cases hn) (fun p hp => by cases hp)
  rwa [h] at this

/-- What has been made so far. -/
structure Mem (w0 W : World) (L : List (T × Value)) : Prop where
  laid : Laid W
  bel : Below w0.heap.size w0 W
  each : ∀ p, p ∈ L → Stood True (fun k => k < W.heap.size) W p.1 p.2
theorem Mem.up {w0 W W' : World} {L : List (T × Value)} (h : Mem w0 W L) (b : Below W.heap.size W W') : Mem w0 W' L :=
  ⟨h.laid.below b, h.bel.trans (b.mono h.bel.size), fun p hp => (h.each p hp).keep (fun k hk => b.block k hk) (fun _ hk => Nat.lt_of_lt_of_le hk b.size)⟩
theorem Mem.leaf {w0 W : World} {L : List (T × Value)} (h : Mem w0 W L) (t : T) (ht : t.kids = []) : Mem w0 W ((t, .slice none 0 0) :: L) :=
  ⟨h.laid, h.bel, fun p hp => by
    rcases List.mem_cons.1 hp with rfl | hp
    · exact stood_nil t ht
    · exact h.each p hp⟩
theorem Mem.row {w0 W : World} {L : List (T × Value)} (h : Mem w0 W L) (t : T) (ps : List (T × Value)) (hk : ps.map Prod.fst = t.kids) (hl : t.kids.length ≤ 100000) (hp : ∀ p, p ∈ ps → p ∈ L) :
    Mem w0 (W.alloc (.cells (cellsN ps).toArray 25)) ((t, .slice (some ⟨W.heap.size, 0, none⟩) t.kids.length t.kids.length) :: L) := by
  have h2 := h.up (below_own (.cells (cellsN ps).toArray 25))
  refine ⟨h2.laid, h2.bel, fun p hp' => ?_⟩
  rcases List.mem_cons.1 hp' with rfl | hp'
  · exact stood_new t ps W.heap.size _ hk (heap_alloc_new W _) (by simp) hl fun p hp'' => h2.each p (hp p hp'')
  · exact h2.each p hp'
theorem Mem.drop {w0 W : World} {L L' : List (T × Value)} (h : Mem w0 W L) (hl : ∀ p, p ∈ L' → p ∈ L) : Mem w0 W L' := ⟨h.laid, h.bel, fun p hp => h.each p (hl p hp)⟩
theorem of_mem (w0 W : World) (L : List (T × Value)) (h : Mem w0 W L) (k : Int) (s : ByteArray) (ao : Option Addr) (n c : Nat) : Calls Tryz.prog 21 #[.int .u8 k, .string s, .slice ao n c] W fun e w' => e = .returned (.agg #[.int .u8 k, .string s, .int .i64 0, .int .i64 0, .slice ao n c]) ∧ Mem w0 w' L ∧ Below W.heap.size W w' :=
  (of_any k s ao n c W).mono fun _ _ h' => ⟨h'.1, h.up h'.2, h'.2⟩
theorem num_mem (w0 W : World) (L : List (T × Value)) (h : Mem w0 W L) (s : ByteArray) : Calls Tryz.prog 20 #[.string s] W fun e w' => e = .returned (.agg #[.int .u8 14, .string s, .int .i64 0, .int .i64 0, .slice none 0 0]) ∧ Mem w0 w' L ∧ Below W.heap.size W w' :=
  (num_any s W).mono fun _ _ h' => ⟨h'.1, h.up h'.2, h'.2⟩
theorem program_mem (w0 W : World) (L : List (T × Value)) (h : Mem w0 W L) (ao : Option Addr) (n c : Nat) : Calls Tryz.prog 22 #[.slice ao n c] W fun e w' => e = .returned (.agg #[.int .u8 1, .string ⟨#[]⟩, .int .i64 0, .int .i64 0, .slice ao n c]) ∧ Mem w0 w' L ∧ Below W.heap.size W w' :=
  (program_any ao n c W).mono fun _ _ h' => ⟨h'.1, h.up h'.2, h'.2⟩
end Go.Proofs.YtmjblkcbkekcbaaGreatDoor

namespace Go.Proofs.YtmjblkcbkekcbaaGreatDoor
open Go.RowKit

section
variable {P : Program} {ops : Array Oper} {Q : Exit → Act → World → Prop} {md : Region.Mode}

/-- How many operations are still to come. -/
def toCome (ops : Array Oper) (listed : Array Bool) : Nat := ((List.range ops.size).filter fun j => !listed.getD j true).length
theorem toCome_set {listed : Array Bool} {i : Nat} (hi : i < ops.size) (h : listed.getD i true = false) : toCome ops (listed.setIfInBounds i true) < toCome ops listed := by
  have gen : ∀ l : List Nat, (∀ j, j ∈ l → j ≠ i) → (l.filter fun j => !(listed.setIfInBounds i true).getD j true) = l.filter fun j => !listed.getD j true := by
    intro l hl
    apply List.filter_congr
    intro j hj
    rw [getD_set_ne true (hl j hj).symm]
  have own : (listed.setIfInBounds i true).getD i true = true := by
    by_cases hs : i < listed.size
    · simp [hs]
    · simp [hs]
  have le : ∀ l : List Nat, (l.filter fun j => !(listed.setIfInBounds i true).getD j true).length ≤ (l.filter fun j => !listed.getD j true).length := by
    intro l
    induction l with
    | nil => exact Nat.le_refl _
    | cons j l ih =>
      by_cases hj : i = j
      · subst hj
        rw [List.filter_cons_of_neg (by rw [own]; simp), List.filter_cons_of_pos (by rw [h]; rfl), List.length_cons]
        omega
      · rw [List.filter_cons, List.filter_cons, getD_set_ne true hj]
        split
        · simp only [List.length_cons]
          omega
        · omega
  have lt : ∀ l : List Nat, i ∈ l → (l.filter fun j => !(listed.setIfInBounds i true).getD j true).length < (l.filter fun j => !listed.getD j true).length := by
    intro l
    induction l with
    | nil => intro hm; cases hm
    | cons j l ih =>
      intro hm
      by_cases hj : i = j
      · subst hj
        rw [List.filter_cons_of_neg (by rw [own]; simp), List.filter_cons_of_pos (by rw [h]; rfl), List.length_cons]
        have := le l
        omega
      · have := ih ((List.mem_cons.1 hm).resolve_left hj)
        rw [List.filter_cons, List.filter_cons, getD_set_ne true hj]
        split
        · simp only [List.length_cons]
          omega
        · omega
  exact lt _ (List.mem_range.2 hi)

theorem wpAny_inv (I : Array Bool → Act → World → Prop)
    (step : ∀ (listed : Array Bool) (a : Act) (w : World) (i : Nat), I listed a w → i ∈ Region.ready md ops listed → wpOp P ops Q i (I (listed.setIfInBounds i true)) a w)
    (done : ∀ (listed : Array Bool) (a : Act) (w : World), I listed a w → Region.ready md ops listed = [] → Q .normal a w) :
    ∀ (fuel : Nat) (listed : Array Bool) (a : Act) (w : World), toCome ops listed ≤ fuel → I listed a w → wpAny P md ops Q fuel listed a w := by
  intro fuel
  induction fuel with
  | zero =>
    intro listed a w hf hI
    have hr : Region.ready md ops listed = [] := by
      apply List.eq_nil_iff_forall_not_mem.2
      intro j hj
      obtain ⟨h0, o, ho, -⟩ := mem_ready.1 hj
      have hl := toCome_set (ops := ops) (Array.getElem?_eq_some_iff.1 ho).1 h0
      omega
    exact ⟨hr, done _ _ _ hI hr⟩
  | succ fuel ih =>
    intro listed a w hf hI
    refine ⟨fun hr => done _ _ _ hI hr, fun i hi => ?_⟩
    obtain ⟨h0, o, ho, -⟩ := mem_ready.1 hi
    have hl := toCome_set (ops := ops) (Array.getElem?_eq_some_iff.1 ho).1 h0
    exact wpOp_mono (fun a' w' h => ih _ a' w' (by omega) h) (step _ _ _ _ hI hi)

/-- Where every operation waits for earlier ones alone, nothing is ready only when all are done. -/
def earlier (ops : Array Oper) : Bool := (List.range ops.size).all fun j => match ops[j]? with | some o => o.after.toList.all fun e => decide (e.on < j) | none => true
theorem all_done (he : earlier ops = true) {listed : Array Bool} (hs : listed.size = ops.size) (hr : Region.ready md ops listed = []) : ∀ j, j < ops.size → listed.getD j false = true := by
  intro j
  induction j using Nat.strongRecOn with
  | ind j ih =>
    intro hj
    apply Classical.byContradiction
    intro hn
    have hgd : listed.getD j true = false := by
      have hjs : j < listed.size := by omega
      simp only [Array.getD_eq_getD_getElem?, Array.getElem?_eq_getElem hjs, Option.getD_some] at hn ⊢
      simpa using hn
    have hmem : j ∈ Region.ready md ops listed := by
      refine mem_ready.2 ⟨hgd, ops[j], Array.getElem?_eq_getElem hj, fun e hm _ => ?_⟩
      have h1 := List.all_eq_true.1 he j (List.mem_range.2 hj)
      rw [Array.getElem?_eq_getElem hj] at h1
      have h2 := of_decide_eq_true (List.all_eq_true.1 h1 e (by simpa using hm))
      exact ih e.on h2 (by omega)
    rw [hr] at hmem
    cases hmem

/-- A region that draws its order: I holds at its start, and every operation that may come up keeps it. -/
theorem wp_region_inv {id : Nat} {a : Act} {w : World} (I : Array Bool → Act → World → Prop) (hm : P.follows .mixedOrders = true) (he : earlier ops = true)
    (start : I (Array.replicate ops.size false) a w.drew)
    (step : ∀ (listed : Array Bool) (a : Act) (w : World) (i : Nat), listed.size = ops.size → I listed a w → i ∈ Region.ready .any ops listed → wpOp P ops Q i (I (listed.setIfInBounds i true)) a w)
    (done : ∀ (listed : Array Bool) (a : Act) (w : World), I listed a w → (∀ j, j < ops.size → listed.getD j false = true) → Q .normal a w) : (Code.region id ops true).wp P Q a w := by
  refine wp_region_any hm ?_
  refine wpAny_inv (fun l a w => l.size = ops.size ∧ I l a w) (fun l a w i h hi => ?_) (fun l a w h hr => done l a w h.2 (all_done he h.1 hr)) _ _ _ _ ?_ ⟨by simp, start⟩
  · exact wpOp_mono (fun a' w' h' => ⟨by rw [Array.size_setIfInBounds]; exact h.1, h'⟩) (step l a w i h.1 h.2 hi)
  · unfold toCome
    refine Nat.le_trans (List.length_filter_le _ _) ?_
    rw [List.length_range]
    exact Nat.le_refl _
end
end Go.Proofs.YtmjblkcbkekcbaaGreatDoor

namespace Go.Proofs.YtmjblkcbkekcbaaGreatDoor
open Go.RowKit

section
variable {ops : Array Oper} {Q : Exit → Act → World → Prop} {K : Act → World → Prop} {a : Act} {w : World} {i d : Nat} {ty : TypeId} {pos : String} {after : Array Edge} {g : Option (Nat × Bool)}

theorem wpOp_go {o : Oper} (hi : ops[i]? = some o) (hg : Region.wanted o (yielded ops a.tmps) = true) (h : o.wp Tryz.prog a w K Q) : wpOp Tryz.prog ops Q i K a w := by
  unfold wpOp
  rw [hi]
  simp only [hg, if_true]
  exact Or.inl h
theorem wpOp_call {f : FuncId} {xs : Array Operand} {vs : Array Value} {ts : Array TypeId} (hi : ops[i]? = some { dst := some d, op := .call { callee := .value (.func f), args := xs, argTypes := ts }, type := ty, pos := pos, after := after, guard := g })
    (hg : Region.wanted { dst := some d, op := .call { callee := .value (.func f), args := xs, argTypes := ts }, type := ty, pos := pos, after := after, guard := g } (yielded ops a.tmps) = true) (he : Enters Tryz.prog f) (hv : xs.map a.eval = vs) (hc : Calls Tryz.prog f vs w fun e w' => ∃ v, e = .returned v ∧ K (a.put (some d) v) w') : wpOp Tryz.prog ops Q i K a w := by
  refine wpOp_go hi hg ?_
  unfold Oper.wp
  have e3 : a.eval (.func f) = .func (.func f) #[] #[] := rfl
  have KC := Lib.hid hc
  clear hc hg hi
  generalize a.eval = ρ at *
  go_simp
  rw [he]
  refine KC.out.mono ?_
  rintro e w' ⟨v, rfl, h⟩
  exact h
theorem wpOp_load {x : Operand} {b : Nat} {v0 v1 v2 v3 v4 : Value} (hi : ops[i]? = some { dst := some d, op := .load 25 x, type := ty, pos := pos, after := after, guard := g })
    (hg : Region.wanted { dst := some d, op := .load 25 x, type := ty, pos := pos, after := after, guard := g } (yielded ops a.tmps) = true) (hx : a.eval x = .pointer (some ⟨b, 0, none⟩)) (hb : ∀ j, w.cell? ⟨b, j, none⟩ = #[v0, v1, v2, v3, v4][j]?) (hK : K (a.put (some d) (.agg #[v0, v1, v2, v3, v4])) w) : wpOp Tryz.prog ops Q i K a w := by
  refine wpOp_go hi hg ?_
  unfold Oper.wp
  have KK := Lib.hid hK
  clear hK hg hi
  generalize a.eval = ρ at *
  go_simp
  exact KK.out
theorem wpOp_slice1 {x0 : Operand} {t0 : T} {v0 : Value} (hi : ops[i]? = some { dst := some d, op := .buildSlice 23 1 #[(0, x0)], type := ty, pos := pos, after := after, guard := g })
    (hg : Region.wanted { dst := some d, op := .buildSlice 23 1 #[(0, x0)], type := ty, pos := pos, after := after, guard := g } (yielded ops a.tmps) = true) (h0 : a.eval x0 = agg t0 v0) (hK : K (a.put (some d) (.slice (some ⟨w.heap.size, 0, none⟩) 1 1)) (w.alloc (.cells (cellsN [(t0, v0)]).toArray 25))) : wpOp Tryz.prog ops Q i K a w := by
  refine wpOp_go hi hg ?_
  unfold Oper.wp
  have KK := Lib.hid hK
  clear hK hg hi
  unfold agg at *
  generalize a.eval = ρ at *
  go_simp
  exact KK.out
theorem wpOp_slice2 {x0 x1 : Operand} {t0 t1 : T} {v0 v1 : Value} (hi : ops[i]? = some { dst := some d, op := .buildSlice 23 2 #[(0, x0), (1, x1)], type := ty, pos := pos, after := after, guard := g })
    (hg : Region.wanted { dst := some d, op := .buildSlice 23 2 #[(0, x0), (1, x1)], type := ty, pos := pos, after := after, guard := g } (yielded ops a.tmps) = true) (h0 : a.eval x0 = agg t0 v0) (h1 : a.eval x1 = agg t1 v1) (hK : K (a.put (some d) (.slice (some ⟨w.heap.size, 0, none⟩) 2 2)) (w.alloc (.cells (cellsN [(t0, v0), (t1, v1)]).toArray 25))) : wpOp Tryz.prog ops Q i K a w := by
  refine wpOp_go hi hg ?_
  unfold Oper.wp
  have KK := Lib.hid hK
  clear hK hg hi
  unfold agg at *
  generalize a.eval = ρ at *
  go_simp
  exact KK.out
theorem wpOp_slice3 {x0 x1 x2 : Operand} {t0 t1 t2 : T} {v0 v1 v2 : Value} (hi : ops[i]? = some { dst := some d, op := .buildSlice 23 3 #[(0, x0), (1, x1), (2, x2)], type := ty, pos := pos, after := after, guard := g })
    (hg : Region.wanted { dst := some d, op := .buildSlice 23 3 #[(0, x0), (1, x1), (2, x2)], type := ty, pos := pos, after := after, guard := g } (yielded ops a.tmps) = true) (h0 : a.eval x0 = agg t0 v0) (h1 : a.eval x1 = agg t1 v1) (h2 : a.eval x2 = agg t2 v2) (hK : K (a.put (some d) (.slice (some ⟨w.heap.size, 0, none⟩) 3 3)) (w.alloc (.cells (cellsN [(t0, v0), (t1, v1), (t2, v2)]).toArray 25))) : wpOp Tryz.prog ops Q i K a w := by
  refine wpOp_go hi hg ?_
  unfold Oper.wp
  have KK := Lib.hid hK
  clear hK hg hi
  unfold agg at *
  generalize a.eval = ρ at *
  go_simp
  exact KK.out
theorem wpOp_slice4 {x0 x1 x2 x3 : Operand} {t0 t1 t2 t3 : T} {v0 v1 v2 v3 : Value} (hi : ops[i]? = some { dst := some d, op := .buildSlice 23 4 #[(0, x0), (1, x1), (2, x2), (3, x3)], type := ty, pos := pos, after := after, guard := g })
    (hg : Region.wanted { dst := some d, op := .buildSlice 23 4 #[(0, x0), (1, x1), (2, x2), (3, x3)], type := ty, pos := pos, after := after, guard := g } (yielded ops a.tmps) = true) (h0 : a.eval x0 = agg t0 v0) (h1 : a.eval x1 = agg t1 v1) (h2 : a.eval x2 = agg t2 v2) (h3 : a.eval x3 = agg t3 v3) (hK : K (a.put (some d) (.slice (some ⟨w.heap.size, 0, none⟩) 4 4)) (w.alloc (.cells (cellsN [(t0, v0), (t1, v1), (t2, v2), (t3, v3)]).toArray 25))) : wpOp Tryz.prog ops Q i K a w := by
  refine wpOp_go hi hg ?_
  unfold Oper.wp
  have KK := Lib.hid hK
  clear hK hg hi
  unfold agg at *
  generalize a.eval = ρ at *
  go_simp
  exact KK.out
theorem wpOp_slice7 {x0 x1 x2 x3 x4 x5 x6 : Operand} {t0 t1 t2 t3 t4 t5 t6 : T} {v0 v1 v2 v3 v4 v5 v6 : Value} (hi : ops[i]? = some { dst := some d, op := .buildSlice 23 7 #[(0, x0), (1, x1), (2, x2), (3, x3), (4, x4), (5, x5), (6, x6)], type := ty, pos := pos, after := after, guard := g })
    (hg : Region.wanted { dst := some d, op := .buildSlice 23 7 #[(0, x0), (1, x1), (2, x2), (3, x3), (4, x4), (5, x5), (6, x6)], type := ty, pos := pos, after := after, guard := g } (yielded ops a.tmps) = true) (h0 : a.eval x0 = agg t0 v0) (h1 : a.eval x1 = agg t1 v1) (h2 : a.eval x2 = agg t2 v2) (h3 : a.eval x3 = agg t3 v3) (h4 : a.eval x4 = agg t4 v4) (h5 : a.eval x5 = agg t5 v5) (h6 : a.eval x6 = agg t6 v6) (hK : K (a.put (some d) (.slice (some ⟨w.heap.size, 0, none⟩) 7 7)) (w.alloc (.cells (cellsN [(t0, v0), (t1, v1), (t2, v2), (t3, v3), (t4, v4), (t5, v5), (t6, v6)]).toArray 25))) : wpOp Tryz.prog ops Q i K a w := by
  refine wpOp_go hi hg ?_
  unfold Oper.wp
  have KK := Lib.hid hK
  clear hK hg hi
  unfold agg at *
  generalize a.eval = ρ at *
  go_simp
  exact KK.out
theorem wpOp_alloc (hi : ops[i]? = some { dst := some d, op := .alloc 25, type := ty, pos := pos, after := after, guard := g })
    (hg : Region.wanted { dst := some d, op := .alloc 25, type := ty, pos := pos, after := after, guard := g } (yielded ops a.tmps) = true) (hK : K (a.put (some d) (.pointer (some ⟨w.heap.size, 0, none⟩))) (w.alloc (.cells #[.int .u8 0, .string ⟨#[]⟩, .int .i64 0, .int .i64 0, .slice none 0 0] 25))) : wpOp Tryz.prog ops Q i K a w := by
  refine wpOp_go hi hg ?_
  unfold Oper.wp
  have KK := Lib.hid hK
  clear hK hg hi
  generalize a.eval = ρ at *
  go_simp
  exact KK.out
end

/-- What a slot may hold: a tree, the kids of one, a variable that holds a tree, a box that is new. -/
inductive Fx where
  | tree (t : T)
  | rows (l : List T)
  | var (t : T)
  | box (lo : Nat)
  | cell (b : Nat)
  | own (lo : Nat) (t : T)
  | no
  | bool (b : Bool)
  | num (m : Int)
def zeroN : Obj := .cells #[.int .u8 0, .string ⟨#[]⟩, .int .i64 0, .int .i64 0, .slice none 0 0] 25
def Fx.holds (P : Nat → Prop) (w : World) (v : Value) : Fx → Prop
  | .tree t => ∃ u, v = agg t u ∧ Stood True P w t u
  | .rows l => Stood True P w (.mk 0 ⟨#[]⟩ 0 0 l) v
  | .var t => ∃ b u, v = .pointer (some ⟨b, 0, none⟩) ∧ P b ∧ w.heap[b]? = some (boxN t u) ∧ Stood True P w t u
  | .box lo => ∃ b, v = .pointer (some ⟨b, 0, none⟩) ∧ lo ≤ b ∧ b < w.heap.size ∧ w.heap[b]? = some zeroN
  | .cell b => v = .pointer (some ⟨b, 0, none⟩) ∧ b < w.heap.size ∧ w.heap[b]? = some zeroN
  | .own lo t => ∃ b u, v = .pointer (some ⟨b, 0, none⟩) ∧ lo ≤ b ∧ P b ∧ w.heap[b]? = some (boxN t u) ∧ Stood True (fun k => P k ∧ k ≠ b) w t u
  | .no => v = undef
  | .bool b => v = .bool b
  | .num m => v = .int .i64 m
def Fx.isBox : Fx → Bool
  | .box _ => true
  | .cell _ => true
  | _ => false
theorem Fx.keepP {P P' : Nat → Prop} {w w' : World} {v : Value} {f : Fx} (h : f.holds P w v) (hn : f.isBox = false) (hb : ∀ k, P k → w'.heap[k]? = w.heap[k]?) (hP : ∀ k, P k → P' k) : f.holds P' w' v := by
  cases f with
  | tree t => obtain ⟨u, h1, h2⟩ := h; exact ⟨u, h1, h2.keep hb hP⟩
  | rows l => exact Stood.keep h hb hP
  | var t => obtain ⟨c, u, h1, h2, h3, h4⟩ := h; exact ⟨c, u, h1, hP c h2, (hb c h2).trans h3, h4.keep hb hP⟩
  | box lo => cases hn
  | cell b => cases hn
  | own lo t => obtain ⟨c, u, h1, h0, h2, h3, h4⟩ := h; exact ⟨c, u, h1, h0, hP c h2, (hb c h2).trans h3, h4.keep (fun k hk => hb k hk.1) (fun k hk => ⟨hP k hk.1, hk.2⟩)⟩
  | no => exact h
  | bool b => exact h
  | num m => exact h
theorem Fx.keep {P P' : Nat → Prop} {w w' : World} {v : Value} {f : Fx} (h : f.holds P w v) (b' : Below w.heap.size w w') (hs : ∀ k, P k → k < w.heap.size) (hP : ∀ k, P k → P' k) : f.holds P' w' v := by
  have hb : ∀ k, P k → w'.heap[k]? = w.heap[k]? := fun k hk => b'.block k (hs k hk)
  cases hf : f.isBox with
  | false => exact Fx.keepP h hf hb hP
  | true =>
    cases f with
    | box lo => obtain ⟨c, h1, h0, h2, h3⟩ := h; exact ⟨c, h1, h0, Nat.lt_of_lt_of_le h2 b'.size, (b'.block c h2).trans h3⟩
    | tree t => cases hf
    | rows l => cases hf
    | var t => cases hf
    | cell b => obtain ⟨h1, h2, h3⟩ := h; exact ⟨h1, Nat.lt_of_lt_of_le h2 b'.size, (b'.block b h2).trans h3⟩
    | own lo t => cases hf
    | no => cases hf
    | bool b => cases hf
    | num m => cases hf

/-- The blocks from r on that are not the box in slot bs. -/
def PB (r bs : Nat) (a : Act) (w : World) : Nat → Prop := fun k => k < w.heap.size ∧ r ≤ k ∧ a.eval (.tmp bs) ≠ .pointer (some ⟨k, 0, none⟩)
/-- On the way through a region: what the slots hold that are done. -/
structure Reg (r : Nat) (w0 : World) (bs n : Nat) (F : List (Option Nat × Nat × Fx)) (listed : Array Bool) (a : Act) (w : World) : Prop where
  size : a.tmps.size = n
  defers : a.defers = []
  bel : Below w0.heap.size w0 w
  low : r ≤ w.heap.size
  fresh : ∀ k, w.heap.size ≤ k → a.eval (.tmp bs) ≠ .pointer (some ⟨k, 0, none⟩)
  facts : ∀ f, f ∈ F → (∀ j, f.1 = some j → listed.getD j false = true) → f.2.2.holds (PB r bs a w) w (a.eval (.tmp f.2.1))
theorem eval_put_ne (a : Act) (d t : Nat) (v : Value) (h : t ≠ d) : (a.put (some d) v).eval (.tmp t) = a.eval (.tmp t) := by
  simp [Act.put, Act.eval, Array.getElem?_setIfInBounds_ne (Ne.symm h)]
theorem eval_put_same (a : Act) (d : Nat) (v : Value) (h : d < a.tmps.size) : (a.put (some d) v).eval (.tmp d) = v := by
  simp [Act.put, Act.eval, h]
theorem Reg.put {r : Nat} {w0 : World} {bs n : Nat} {F : List (Option Nat × Nat × Fx)} {listed : Array Bool} {a : Act} {w w' : World} (h : Reg r w0 bs n F listed a w) (b : Below w.heap.size w w') (i d : Nat) (v : Value) (hd : d < n)
    (hF : (F.all fun f => f.1 == some i || f.2.1 != d) = true) (hO : (F.all fun f => f.1 != some i || f.2.1 == d) = true) (hbs : d = bs → ∀ k, (k < w.heap.size ∨ w'.heap.size ≤ k) → v ≠ .pointer (some ⟨k, 0, none⟩))
    (hnew : ∀ f, f ∈ F → f.1 = some i → f.2.2.holds (PB r bs (a.put (some d) v) w') w' v) : Reg r w0 bs n F (listed.setIfInBounds i true) (a.put (some d) v) w' where
  size := by
    show (a.tmps.setIfInBounds d v).size = n
    rw [Array.size_setIfInBounds]
    exact h.size
  defers := h.defers
  bel := h.bel.trans (b.mono h.bel.size)
  low := Nat.le_trans h.low b.size
  fresh := fun k hk => by
    by_cases hb : d = bs
    · subst hb
      rw [eval_put_same _ _ _ (by rw [h.size]; exact hd)]
      exact hbs rfl k (Or.inr hk)
    · rw [eval_put_ne _ _ _ _ (Ne.symm hb)]
      exact h.fresh k (Nat.le_trans b.size hk)
  facts := fun f hf hdone => by
    have h1 := List.all_eq_true.1 hF f hf
    have h2 := List.all_eq_true.1 hO f hf
    by_cases hi : f.1 = some i
    · have hd2 : f.2.1 = d := by simpa [hi] using h2
      rw [hd2, eval_put_same _ _ _ (by rw [h.size]; exact hd)]
      exact hnew f hf hi
    · have hd2 : f.2.1 ≠ d := by simpa [hi] using h1
      rw [eval_put_ne _ _ _ _ hd2]
      refine Fx.keep (h.facts f hf fun j hj => ?_) b (fun k hk => hk.1) (fun k hk => ⟨Nat.lt_of_lt_of_le hk.1 b.size, hk.2.1, ?_⟩)
      · have := hdone j hj
        rwa [getD_set_ne false (fun e => hi (by rw [hj, e]))] at this
      · by_cases hb : d = bs
        · subst hb
          rw [eval_put_same _ _ _ (by rw [h.size]; exact hd)]
          exact hbs rfl k (Or.inl hk.1)
        · rw [eval_put_ne _ _ _ _ (Ne.symm hb)]
          exact hk.2.2

section
variable {ops : Array Oper} {Q : Exit → Act → World → Prop} {a : Act} {w : World} {i d : Nat} {ty : TypeId} {pos : String} {after : Array Edge} {g : Option (Nat × Bool)} {ts : Array TypeId} {r : Nat} {w0 : World} {bs n : Nat} {F : List (Option Nat × Nat × Fx)} {listed : Array Bool}
theorem Reg.one (h : Reg r w0 bs n F listed a w) {w' : World} {fx : Fx} (b : Below w.heap.size w w') (v : Value) (hU : F.filter (fun f => f.1 == some i) = [(some i, d, fx)]) (hA : (F.all fun f => f.1 == some i || f.2.1 != d) = true) (hd : d < n) (hbs : d = bs → ∀ k, (k < w.heap.size ∨ w'.heap.size ≤ k) → v ≠ .pointer (some ⟨k, 0, none⟩)) (hnew : fx.holds (PB r bs (a.put (some d) v) w') w' v) : Reg r w0 bs n F (listed.setIfInBounds i true) (a.put (some d) v) w' := by
  have hall : ∀ f, f ∈ F → f.1 = some i → f = (some i, d, fx) := fun f hf hi => by
    have : f ∈ F.filter (fun f => f.1 == some i) := List.mem_filter.2 ⟨hf, by rw [hi]; exact beq_self_eq_true _⟩
    rw [hU] at this
    exact List.mem_singleton.1 this
  refine h.put b i d v hd hA (List.all_eq_true.2 fun f hf => ?_) hbs fun f hf hi => ?_
  · by_cases hi : f.1 = some i
    · rw [hall f hf hi]
      simp
    · simp [hi]
  · rw [hall f hf hi]
    exact hnew
theorem pb_put {r : Nat} {a : Act} {w w' : World} {bs d : Nat} {v : Value} (hne : d ≠ bs) (b : Below w.heap.size w w') : ∀ k, PB r bs a w k → PB r bs (a.put (some d) v) w' k := fun k hk => ⟨Nat.lt_of_lt_of_le hk.1 b.size, hk.2.1, by rw [eval_put_ne _ _ _ _ (Ne.symm hne)]; exact hk.2.2⟩
theorem rows_out {P : Nat → Prop} {w : World} {l : List T} {v : Value} (h : (Fx.rows l).holds P w v) : ∃ ao c, v = .slice ao l.length c := by
  obtain ⟨ao, c, ps, hv, -⟩ := Stood.out h
  exact ⟨ao, c, hv⟩
theorem stood_rows {P : Nat → Prop} {w : World} {t t' : T} {v : Value} (h : Stood True P w t v) (e : t.kids = t'.kids) : Stood True P w t' v := by
  cases h with
  | mk _ ao c ps hk hs hc hl hm hg hp => rw [e] at hk hl hg ⊢; exact .mk t' ao c ps hk hs hc hl hm hg hp
theorem Reg.of (h : Reg r w0 bs n F listed a w) {k : Int} {s : ByteArray} {x : Operand} {l : List T} (hi : ops[i]? = some { dst := some d, op := .call { callee := .value (.func 21), args := #[.const (.int .u8 k), .const (.string s), x], argTypes := ts }, type := ty, pos := pos, after := after, guard := g })
    (hg : Region.wanted { dst := some d, op := .call { callee := .value (.func 21), args := #[.const (.int .u8 k), .const (.string s), x], argTypes := ts }, type := ty, pos := pos, after := after, guard := g } (yielded ops a.tmps) = true) (hx : (Fx.rows l).holds (PB r bs a w) w (a.eval x)) (hU : F.filter (fun f => f.1 == some i) = [(some i, d, .tree (.mk k s 0 0 l))]) (hA : (F.all fun f => f.1 == some i || f.2.1 != d) = true) (hd : d < n) (hbs : d ≠ bs) : wpOp Tryz.prog ops Q i (Reg r w0 bs n F (listed.setIfInBounds i true)) a w := by
  obtain ⟨ao, c, hv⟩ := rows_out hx
  refine wpOp_call (vs := #[.int .u8 k, .string s, .slice ao l.length c]) hi hg (enters_of Tryz.func21 (by kernel_rfl) rfl) (by simp [← hv, Act.eval]) ?_
  refine (of_any k s ao l.length c w).mono ?_
  rintro e w' ⟨rfl, hb⟩
  refine ⟨_, rfl, h.one hb _ hU hA hd (fun e => absurd e hbs) ?_⟩
  refine ⟨.slice ao l.length c, rfl, ?_⟩
  rw [hv] at hx
  exact stood_rows (Stood.keep hx (fun k hk => hb.block k hk.1) (pb_put hbs hb)) rfl
theorem Reg.program (h : Reg r w0 bs n F listed a w) {x : Operand} {l : List T} (hi : ops[i]? = some { dst := some d, op := .call { callee := .value (.func 22), args := #[x], argTypes := ts }, type := ty, pos := pos, after := after, guard := g })
    (hg : Region.wanted { dst := some d, op := .call { callee := .value (.func 22), args := #[x], argTypes := ts }, type := ty, pos := pos, after := after, guard := g } (yielded ops a.tmps) = true) (hx : (Fx.rows l).holds (PB r bs a w) w (a.eval x)) (hU : F.filter (fun f => f.1 == some i) = [(some i, d, .tree (.mk 1 ⟨#[]⟩ 0 0 l))]) (hA : (F.all fun f => f.1 == some i || f.2.1 != d) = true) (hd : d < n) (hbs : d ≠ bs) : wpOp Tryz.prog ops Q i (Reg r w0 bs n F (listed.setIfInBounds i true)) a w := by
  obtain ⟨ao, c, hv⟩ := rows_out hx
  refine wpOp_call (vs := #[.slice ao l.length c]) hi hg (enters_of Tryz.func22 (by kernel_rfl) rfl) (by simp [← hv, Act.eval]) ?_
  refine (program_any ao l.length c w).mono ?_
  rintro e w' ⟨rfl, hb⟩
  refine ⟨_, rfl, h.one hb _ hU hA hd (fun e => absurd e hbs) ?_⟩
  refine ⟨.slice ao l.length c, rfl, ?_⟩
  rw [hv] at hx
  exact stood_rows (Stood.keep hx (fun k hk => hb.block k hk.1) (pb_put hbs hb)) rfl
theorem Reg.num (h : Reg r w0 bs n F listed a w) {s : ByteArray} (hi : ops[i]? = some { dst := some d, op := .call { callee := .value (.func 20), args := #[.const (.string s)], argTypes := ts }, type := ty, pos := pos, after := after, guard := g })
    (hg : Region.wanted { dst := some d, op := .call { callee := .value (.func 20), args := #[.const (.string s)], argTypes := ts }, type := ty, pos := pos, after := after, guard := g } (yielded ops a.tmps) = true) (hU : F.filter (fun f => f.1 == some i) = [(some i, d, .tree (.mk 14 s 0 0 []))]) (hA : (F.all fun f => f.1 == some i || f.2.1 != d) = true) (hd : d < n) (hbs : d ≠ bs) : wpOp Tryz.prog ops Q i (Reg r w0 bs n F (listed.setIfInBounds i true)) a w := by
  refine wpOp_call (vs := #[.string s]) hi hg (enters_of Tryz.func20 (by kernel_rfl) rfl) (by simp [Act.eval]) ?_
  refine (num_any s w).mono ?_
  rintro e w' ⟨rfl, hb⟩
  exact ⟨_, rfl, h.one hb _ hU hA hd (fun e => absurd e hbs) ⟨.slice none 0 0, rfl, stood_nil _ rfl⟩⟩
theorem Reg.load (h : Reg r w0 bs n F listed a w) {x : Operand} {t : T} (hi : ops[i]? = some { dst := some d, op := .load 25 x, type := ty, pos := pos, after := after, guard := g })
    (hg : Region.wanted { dst := some d, op := .load 25 x, type := ty, pos := pos, after := after, guard := g } (yielded ops a.tmps) = true) (hx : (Fx.var t).holds (PB r bs a w) w (a.eval x)) (hU : F.filter (fun f => f.1 == some i) = [(some i, d, .tree t)]) (hA : (F.all fun f => f.1 == some i || f.2.1 != d) = true) (hd : d < n) (hbs : d ≠ bs) : wpOp Tryz.prog ops Q i (Reg r w0 bs n F (listed.setIfInBounds i true)) a w := by
  obtain ⟨b, u, hv, -, hb, hs⟩ := hx
  refine wpOp_load hi hg hv (Lib.cell_of_heap hb) ?_
  exact h.one (Below.refl _ _) _ hU hA hd (fun e => absurd e hbs) ⟨u, rfl, hs.keep (fun _ _ => rfl) (pb_put hbs (Below.refl _ _))⟩
theorem Reg.slice1 (h : Reg r w0 bs n F listed a w) {x0 : Operand} {t0 : T} (hi : ops[i]? = some { dst := some d, op := .buildSlice 23 1 #[(0, x0)], type := ty, pos := pos, after := after, guard := g })
    (hg : Region.wanted { dst := some d, op := .buildSlice 23 1 #[(0, x0)], type := ty, pos := pos, after := after, guard := g } (yielded ops a.tmps) = true) (h0 : (Fx.tree t0).holds (PB r bs a w) w (a.eval x0)) (hU : F.filter (fun f => f.1 == some i) = [(some i, d, .rows [t0])]) (hA : (F.all fun f => f.1 == some i || f.2.1 != d) = true) (hd : d < n) (hbs : d ≠ bs) : wpOp Tryz.prog ops Q i (Reg r w0 bs n F (listed.setIfInBounds i true)) a w := by
  obtain ⟨u0, e0, s0⟩ := h0
  refine wpOp_slice1 hi hg e0 ?_
  have hb := below_own (w := w) (.cells (cellsN [(t0, u0)]).toArray 25)
  refine h.one hb _ hU hA hd (fun e => absurd e hbs) ?_
  refine stood_new (.mk 0 ⟨#[]⟩ 0 0 [t0]) [(t0, u0)] w.heap.size 25 rfl (heap_alloc_new w _) ⟨by simp, h.low, ?_⟩ (by simp [T.kids]) ?_
  · rw [eval_put_ne _ _ _ _ (Ne.symm hbs)]
    exact h.fresh _ (Nat.le_refl _)
  · intro p hp
    have keep : ∀ t u, Stood True (PB r bs a w) w t u → Stood True (PB r bs (a.put (some d) (.slice (some ⟨w.heap.size, 0, none⟩) 1 1)) (w.alloc (.cells (cellsN [(t0, u0)]).toArray 25))) (w.alloc (.cells (cellsN [(t0, u0)]).toArray 25)) t u := fun t u hs => hs.keep (fun k hk => hb.block k hk.1) (pb_put hbs hb)
    simp only [List.mem_cons, List.not_mem_nil, or_false] at hp
    obtain rfl := hp
    · exact keep _ _ s0
theorem Reg.slice2 (h : Reg r w0 bs n F listed a w) {x0 x1 : Operand} {t0 t1 : T} (hi : ops[i]? = some { dst := some d, op := .buildSlice 23 2 #[(0, x0), (1, x1)], type := ty, pos := pos, after := after, guard := g })
    (hg : Region.wanted { dst := some d, op := .buildSlice 23 2 #[(0, x0), (1, x1)], type := ty, pos := pos, after := after, guard := g } (yielded ops a.tmps) = true) (h0 : (Fx.tree t0).holds (PB r bs a w) w (a.eval x0)) (h1 : (Fx.tree t1).holds (PB r bs a w) w (a.eval x1)) (hU : F.filter (fun f => f.1 == some i) = [(some i, d, .rows [t0, t1])]) (hA : (F.all fun f => f.1 == some i || f.2.1 != d) = true) (hd : d < n) (hbs : d ≠ bs) : wpOp Tryz.prog ops Q i (Reg r w0 bs n F (listed.setIfInBounds i true)) a w := by
  obtain ⟨u0, e0, s0⟩ := h0
  obtain ⟨u1, e1, s1⟩ := h1
  refine wpOp_slice2 hi hg e0 e1 ?_
  have hb := below_own (w := w) (.cells (cellsN [(t0, u0), (t1, u1)]).toArray 25)
  refine h.one hb _ hU hA hd (fun e => absurd e hbs) ?_
  refine stood_new (.mk 0 ⟨#[]⟩ 0 0 [t0, t1]) [(t0, u0), (t1, u1)] w.heap.size 25 rfl (heap_alloc_new w _) ⟨by simp, h.low, ?_⟩ (by simp [T.kids]) ?_
  · rw [eval_put_ne _ _ _ _ (Ne.symm hbs)]
    exact h.fresh _ (Nat.le_refl _)
  · intro p hp
    have keep : ∀ t u, Stood True (PB r bs a w) w t u → Stood True (PB r bs (a.put (some d) (.slice (some ⟨w.heap.size, 0, none⟩) 2 2)) (w.alloc (.cells (cellsN [(t0, u0), (t1, u1)]).toArray 25))) (w.alloc (.cells (cellsN [(t0, u0), (t1, u1)]).toArray 25)) t u := fun t u hs => hs.keep (fun k hk => hb.block k hk.1) (pb_put hbs hb)
    simp only [List.mem_cons, List.not_mem_nil, or_false] at hp
    rcases hp with rfl | rfl
    · exact keep _ _ s0
    · exact keep _ _ s1
theorem Reg.slice3 (h : Reg r w0 bs n F listed a w) {x0 x1 x2 : Operand} {t0 t1 t2 : T} (hi : ops[i]? = some { dst := some d, op := .buildSlice 23 3 #[(0, x0), (1, x1), (2, x2)], type := ty, pos := pos, after := after, guard := g })
    (hg : Region.wanted { dst := some d, op := .buildSlice 23 3 #[(0, x0), (1, x1), (2, x2)], type := ty, pos := pos, after := after, guard := g } (yielded ops a.tmps) = true) (h0 : (Fx.tree t0).holds (PB r bs a w) w (a.eval x0)) (h1 : (Fx.tree t1).holds (PB r bs a w) w (a.eval x1)) (h2 : (Fx.tree t2).holds (PB r bs a w) w (a.eval x2)) (hU : F.filter (fun f => f.1 == some i) = [(some i, d, .rows [t0, t1, t2])]) (hA : (F.all fun f => f.1 == some i || f.2.1 != d) = true) (hd : d < n) (hbs : d ≠ bs) : wpOp Tryz.prog ops Q i (Reg r w0 bs n F (listed.setIfInBounds i true)) a w := by
  obtain ⟨u0, e0, s0⟩ := h0
  obtain ⟨u1, e1, s1⟩ := h1
  obtain ⟨u2, e2, s2⟩ := h2
  refine wpOp_slice3 hi hg e0 e1 e2 ?_
  have hb := below_own (w := w) (.cells (cellsN [(t0, u0), (t1, u1), (t2, u2)]).toArray 25)
  refine h.one hb _ hU hA hd (fun e => absurd e hbs) ?_
  refine stood_new (.mk 0 ⟨#[]⟩ 0 0 [t0, t1, t2]) [(t0, u0), (t1, u1), (t2, u2)] w.heap.size 25 rfl (heap_alloc_new w _) ⟨by simp, h.low, ?_⟩ (by simp [T.kids]) ?_
  · rw [eval_put_ne _ _ _ _ (Ne.symm hbs)]
    exact h.fresh _ (Nat.le_refl _)
  · intro p hp
    have keep : ∀ t u, Stood True (PB r bs a w) w t u → Stood True (PB r bs (a.put (some d) (.slice (some ⟨w.heap.size, 0, none⟩) 3 3)) (w.alloc (.cells (cellsN [(t0, u0), (t1, u1), (t2, u2)]).toArray 25))) (w.alloc (.cells (cellsN [(t0, u0), (t1, u1), (t2, u2)]).toArray 25)) t u := fun t u hs => hs.keep (fun k hk => hb.block k hk.1) (pb_put hbs hb)
    simp only [List.mem_cons, List.not_mem_nil, or_false] at hp
    rcases hp with rfl | rfl | rfl
    · exact keep _ _ s0
    · exact keep _ _ s1
    · exact keep _ _ s2
theorem Reg.slice4 (h : Reg r w0 bs n F listed a w) {x0 x1 x2 x3 : Operand} {t0 t1 t2 t3 : T} (hi : ops[i]? = some { dst := some d, op := .buildSlice 23 4 #[(0, x0), (1, x1), (2, x2), (3, x3)], type := ty, pos := pos, after := after, guard := g })
    (hg : Region.wanted { dst := some d, op := .buildSlice 23 4 #[(0, x0), (1, x1), (2, x2), (3, x3)], type := ty, pos := pos, after := after, guard := g } (yielded ops a.tmps) = true) (h0 : (Fx.tree t0).holds (PB r bs a w) w (a.eval x0)) (h1 : (Fx.tree t1).holds (PB r bs a w) w (a.eval x1)) (h2 : (Fx.tree t2).holds (PB r bs a w) w (a.eval x2)) (h3 : (Fx.tree t3).holds (PB r bs a w) w (a.eval x3)) (hU : F.filter (fun f => f.1 == some i) = [(some i, d, .rows [t0, t1, t2, t3])]) (hA : (F.all fun f => f.1 == some i || f.2.1 != d) = true) (hd : d < n) (hbs : d ≠ bs) : wpOp Tryz.prog ops Q i (Reg r w0 bs n F (listed.setIfInBounds i true)) a w := by
  obtain ⟨u0, e0, s0⟩ := h0
  obtain ⟨u1, e1, s1⟩ := h1
  obtain ⟨u2, e2, s2⟩ := h2
  obtain ⟨u3, e3, s3⟩ := h3
  refine wpOp_slice4 hi hg e0 e1 e2 e3 ?_
  have hb := below_own (w := w) (.cells (cellsN [(t0, u0), (t1, u1), (t2, u2), (t3, u3)]).toArray 25)
  refine h.one hb _ hU hA hd (fun e => absurd e hbs) ?_
  refine stood_new (.mk 0 ⟨#[]⟩ 0 0 [t0, t1, t2, t3]) [(t0, u0), (t1, u1), (t2, u2), (t3, u3)] w.heap.size 25 rfl (heap_alloc_new w _) ⟨by simp, h.low, ?_⟩ (by simp [T.kids]) ?_
  · rw [eval_put_ne _ _ _ _ (Ne.symm hbs)]
    exact h.fresh _ (Nat.le_refl _)
  · intro p hp
    have keep : ∀ t u, Stood True (PB r bs a w) w t u → Stood True (PB r bs (a.put (some d) (.slice (some ⟨w.heap.size, 0, none⟩) 4 4)) (w.alloc (.cells (cellsN [(t0, u0), (t1, u1), (t2, u2), (t3, u3)]).toArray 25))) (w.alloc (.cells (cellsN [(t0, u0), (t1, u1), (t2, u2), (t3, u3)]).toArray 25)) t u := fun t u hs => hs.keep (fun k hk => hb.block k hk.1) (pb_put hbs hb)
    simp only [List.mem_cons, List.not_mem_nil, or_false] at hp
    rcases hp with rfl | rfl | rfl | rfl
    · exact keep _ _ s0
    · exact keep _ _ s1
    · exact keep _ _ s2
    · exact keep _ _ s3
theorem Reg.slice7 (h : Reg r w0 bs n F listed a w) {x0 x1 x2 x3 x4 x5 x6 : Operand} {t0 t1 t2 t3 t4 t5 t6 : T} (hi : ops[i]? = some { dst := some d, op := .buildSlice 23 7 #[(0, x0), (1, x1), (2, x2), (3, x3), (4, x4), (5, x5), (6, x6)], type := ty, pos := pos, after := after, guard := g })
    (hg : Region.wanted { dst := some d, op := .buildSlice 23 7 #[(0, x0), (1, x1), (2, x2), (3, x3), (4, x4), (5, x5), (6, x6)], type := ty, pos := pos, after := after, guard := g } (yielded ops a.tmps) = true) (h0 : (Fx.tree t0).holds (PB r bs a w) w (a.eval x0)) (h1 : (Fx.tree t1).holds (PB r bs a w) w (a.eval x1)) (h2 : (Fx.tree t2).holds (PB r bs a w) w (a.eval x2)) (h3 : (Fx.tree t3).holds (PB r bs a w) w (a.eval x3)) (h4 : (Fx.tree t4).holds (PB r bs a w) w (a.eval x4)) (h5 : (Fx.tree t5).holds (PB r bs a w) w (a.eval x5)) (h6 : (Fx.tree t6).holds (PB r bs a w) w (a.eval x6)) (hU : F.filter (fun f => f.1 == some i) = [(some i, d, .rows [t0, t1, t2, t3, t4, t5, t6])]) (hA : (F.all fun f => f.1 == some i || f.2.1 != d) = true) (hd : d < n) (hbs : d ≠ bs) : wpOp Tryz.prog ops Q i (Reg r w0 bs n F (listed.setIfInBounds i true)) a w := by
  obtain ⟨u0, e0, s0⟩ := h0
  obtain ⟨u1, e1, s1⟩ := h1
  obtain ⟨u2, e2, s2⟩ := h2
  obtain ⟨u3, e3, s3⟩ := h3
  obtain ⟨u4, e4, s4⟩ := h4
  obtain ⟨u5, e5, s5⟩ := h5
  obtain ⟨u6, e6, s6⟩ := h6
  refine wpOp_slice7 hi hg e0 e1 e2 e3 e4 e5 e6 ?_
  have hb := below_own (w := w) (.cells (cellsN [(t0, u0), (t1, u1), (t2, u2), (t3, u3), (t4, u4), (t5, u5), (t6, u6)]).toArray 25)
  refine h.one hb _ hU hA hd (fun e => absurd e hbs) ?_
  refine stood_new (.mk 0 ⟨#[]⟩ 0 0 [t0, t1, t2, t3, t4, t5, t6]) [(t0, u0), (t1, u1), (t2, u2), (t3, u3), (t4, u4), (t5, u5), (t6, u6)] w.heap.size 25 rfl (heap_alloc_new w _) ⟨by simp, h.low, ?_⟩ (by simp [T.kids]) ?_
  · rw [eval_put_ne _ _ _ _ (Ne.symm hbs)]
    exact h.fresh _ (Nat.le_refl _)
  · intro p hp
    have keep : ∀ t u, Stood True (PB r bs a w) w t u → Stood True (PB r bs (a.put (some d) (.slice (some ⟨w.heap.size, 0, none⟩) 7 7)) (w.alloc (.cells (cellsN [(t0, u0), (t1, u1), (t2, u2), (t3, u3), (t4, u4), (t5, u5), (t6, u6)]).toArray 25))) (w.alloc (.cells (cellsN [(t0, u0), (t1, u1), (t2, u2), (t3, u3), (t4, u4), (t5, u5), (t6, u6)]).toArray 25)) t u := fun t u hs => hs.keep (fun k hk => hb.block k hk.1) (pb_put hbs hb)
    simp only [List.mem_cons, List.not_mem_nil, or_false] at hp
    rcases hp with rfl | rfl | rfl | rfl | rfl | rfl | rfl
    · exact keep _ _ s0
    · exact keep _ _ s1
    · exact keep _ _ s2
    · exact keep _ _ s3
    · exact keep _ _ s4
    · exact keep _ _ s5
    · exact keep _ _ s6
end
end Go.Proofs.YtmjblkcbkekcbaaGreatDoor

namespace Go.Proofs.YtmjblkcbkekcbaaGreatDoor
open Go.RowKit

section
variable {ops : Array Oper} {Q : Exit → Act → World → Prop} {K : Act → World → Prop} {a : Act} {w : World} {i d : Nat} {ty : TypeId} {pos : String} {after : Array Edge} {g : Option (Nat × Bool)} {r : Nat} {w0 : World} {bs n : Nat} {F : List (Option Nat × Nat × Fx)} {listed : Array Bool}

/-- Whether an operation waits for another. -/
def waitsFor (ops : Array Oper) (i j : Nat) : Bool := ((ops[i]?).map fun o => o.after.any fun e => Region.binds .any e && e.on == j).getD false
theorem waits_done {j : Nat} (hr : i ∈ Region.ready .any ops listed) (h : waitsFor ops i j = true) : listed.getD j false = true := by
  obtain ⟨-, o, ho, hall⟩ := mem_ready.1 hr
  unfold waitsFor at h
  rw [ho] at h
  obtain ⟨k, hk, h1⟩ := Array.any_eq_true.1 (show (o.after.any fun e => Region.binds .any e && e.on == j) = true from h)
  rw [Bool.and_eq_true, beq_iff_eq] at h1
  rw [← h1.2]
  exact hall _ (Array.getElem_mem hk) h1.1
theorem Reg.got (h : Reg r w0 bs n F listed a w) (hr : i ∈ Region.ready .any ops listed) (q : Nat) {c : Option Nat} {t : Nat} {fx : Fx} (hq : F[q]? = some (c, t, fx)) (hd : ((c.map fun j => waitsFor ops i j).getD true) = true) : fx.holds (PB r bs a w) w (a.eval (.tmp t)) := by
  refine h.facts (c, t, fx) (List.mem_of_getElem? hq) fun j hj => ?_
  have hj' : c = some j := hj
  subst hj'
  exact waits_done hr hd
theorem Reg.alloc (h : Reg r w0 bs n F listed a w) (hi : ops[i]? = some { dst := some bs, op := .alloc 25, type := ty, pos := pos, after := after, guard := g })
    (hg : Region.wanted { dst := some bs, op := .alloc 25, type := ty, pos := pos, after := after, guard := g } (yielded ops a.tmps) = true) (hU : F.filter (fun f => f.1 == some i) = [(some i, bs, .box w0.heap.size)]) (hA : (F.all fun f => f.1 == some i || f.2.1 != bs) = true) (hd : bs < n) : wpOp Tryz.prog ops Q i (Reg r w0 bs n F (listed.setIfInBounds i true)) a w := by
  refine wpOp_alloc hi hg ?_
  refine h.one (below_own _) _ hU hA hd (fun _ k hk e => ?_) ⟨w.heap.size, rfl, h.bel.size, by simp, heap_alloc_new w _⟩
  injection e with e
  injection e with e
  injection e with e
  simp at hk
  omega
theorem wpOp_store {x y : Operand} {b : Nat} {t : T} {ao : Option Addr} {m c : Nat} (hi : ops[i]? = some { dst := none, op := .store 25 x y, type := ty, pos := pos, after := after, guard := g })
    (hg : Region.wanted { dst := none, op := .store 25 x y, type := ty, pos := pos, after := after, guard := g } (yielded ops a.tmps) = true) (hx : a.eval x = .pointer (some ⟨b, 0, none⟩)) (hy : a.eval y = agg t (.slice ao m c)) (hb : w.heap[b]? = some zeroN)
    (hK : ∀ w', w'.heap[b]? = some (boxN t (.slice ao m c)) → Fr b w w' → K a w') : wpOp Tryz.prog ops Q i K a w := by
  refine wpOp_go hi hg ?_
  unfold Oper.wp
  have KK := Lib.hid hK
  have c0 : ∀ j, w.cell? ⟨b, j, none⟩ = _ := Lib.cell_of_heap hb
  have f0 : ∀ j, w.frozen? ⟨b, j, none⟩ = false := Lib.frozen_of_heap hb
  have HBb := Lib.hid hb
  clear hK hg hi hb
  unfold agg at *
  generalize a.eval = ρ at *
  go_simp
  refine KK.out _ ?_ ((((((Fr.refl b w).set 0 _).set 1 _).set 2 _).set 3 _).set 4 _)
  exact Lib.heap_setCell_same (i := 4) (Lib.heap_setCell_same (i := 3) (Lib.heap_setCell_same (i := 2) (Lib.heap_setCell_same (i := 1) (Lib.heap_setCell_same (i := 0) HBb.out _) _) _) _) _

theorem wp_region_reg {id last : Nat} {P : Program} (hm : P.follows .mixedOrders = true) (he : earlier ops = true) (hl : last < ops.size) (hlast : ((List.range ops.size).all fun j => j == last || waitsFor ops last j) = true)
    (start : Reg r w0 bs n F (Array.replicate ops.size false) a w.drew)
    (step : ∀ (listed : Array Bool) (a : Act) (w : World) (i : Nat), Reg r w0 bs n F listed a w → i ∈ Region.ready .any ops listed → i < ops.size → i ≠ last → wpOp P ops Q i (Reg r w0 bs n F (listed.setIfInBounds i true)) a w)
    (fin : ∀ (listed : Array Bool) (a : Act) (w : World), Reg r w0 bs n F listed a w → last ∈ Region.ready .any ops listed → wpOp P ops Q last (Q .normal) a w) : (Code.region id ops true).wp P Q a w := by
  refine wp_region_inv (fun listed a w => (listed.getD last false = false ∧ Reg r w0 bs n F listed a w) ∨ ((∀ j, j < ops.size → listed.getD j false = true) ∧ Q .normal a w)) hm he (Or.inl ⟨by simp [hl], start⟩) (fun l a w i hs h hi => ?_) (fun l a w h hall => ?_)
  · have hlt : i < ops.size := by
      obtain ⟨-, o, ho, -⟩ := mem_ready.1 hi
      exact (Array.getElem?_eq_some_iff.1 ho).1
    rcases h with ⟨h0, h⟩ | ⟨h0, -⟩
    · by_cases hil : i = last
      · subst hil
        refine wpOp_mono (fun a' w' h' => Or.inr ⟨fun j hj => ?_, h'⟩) (fin l a w h hi)
        by_cases hji : j = i
        · subst hji
          have : j < l.size := by omega
          simp [this]
        · have h1 := List.all_eq_true.1 hlast j (List.mem_range.2 hj)
          rw [beq_eq_false_iff_ne.2 hji, Bool.false_or] at h1
          exact getD_set_true (waits_done hi h1)
      · refine wpOp_mono (fun a' w' h' => Or.inl ⟨?_, h'⟩) (step l a w i h hi hlt hil)
        rw [getD_set_ne false hil]
        exact h0
    · have h1 := (mem_ready.1 hi).1
      have h2 := h0 i hlt
      have : i < l.size := by omega
      simp [this] at h1 h2
      rw [h1] at h2
      cases h2
  · rcases h with ⟨h0, -⟩ | ⟨-, h⟩
    · rw [hall last hl] at h0
      cases h0
    · exact h

/-- Between two statements: what the slots hold. -/
structure Mid (r : Nat) (w0 : World) (n : Nat) (S : List (Nat × Fx)) (a : Act) (w : World) : Prop where
  size : a.tmps.size = n
  defers : a.defers = []
  bel : Below w0.heap.size w0 w
  low : r ≤ w.heap.size
  facts : ∀ f, f ∈ S → f.2.holds (fun k => k < w.heap.size ∧ r ≤ k) w (a.eval (.tmp f.1))
theorem Mid.start {S : List (Nat × Fx)} (h : Mid r w0 n S a w) (hbs : ∀ k, (w.heap.size ≤ k ∨ r ≤ k) → a.eval (.tmp bs) ≠ .pointer (some ⟨k, 0, none⟩)) (hF : ∀ f, f ∈ F → f.1 = none → f.2 ∈ S) (m : Nat) : Reg r w bs n F (Array.replicate m false) a w.drew where
  size := h.size
  defers := h.defers
  bel := RowKit_drewN (Below.refl _ _) 1
  low := h.low
  fresh := fun k hk => hbs k (Or.inl hk)
  facts := fun f hf hdone => by
    cases hc : f.1 with
    | none =>
      exact Fx.keep (h.facts f.2 (hF f hf hc)) (RowKit_drewN (Below.refl _ _) 1) (fun _ hk => hk.1) (fun k hk => ⟨hk.1, hk.2, hbs k (Or.inr hk.2)⟩)
    | some j =>
      have := hdone j hc
      simp [Array.getElem?_replicate] at this
      split at this <;> simp at this
theorem Reg.store {S : List (Nat × Fx)} {wS : World} {lo : Nat} {y : Operand} {t : T} (h : Reg r w0 bs n F listed a w) (hb0 : Below wS.heap.size wS w0) (hi : ops[i]? = some { dst := none, op := .store 25 (.tmp bs) y, type := ty, pos := pos, after := after, guard := g })
    (hg : Region.wanted { dst := none, op := .store 25 (.tmp bs) y, type := ty, pos := pos, after := after, guard := g } (yielded ops a.tmps) = true)
    (hx : (Fx.box lo).holds (PB r bs a w) w (a.eval (.tmp bs))) (hlo : wS.heap.size ≤ lo) (hrl : r ≤ lo) (hy : (Fx.tree t).holds (PB r bs a w) w (a.eval y))
    (hS : ∀ f, f ∈ S → f = (bs, .own lo t) ∨ f = (bs, .var t) ∨ ((none, f) ∈ F ∧ (f.2.isBox = false ∨ ∃ c, c < lo ∧ f.2 = .cell c))) (hK : ∀ w', Mid r wS n S a w' → K a w') : wpOp Tryz.prog ops Q i K a w := by
  obtain ⟨b, hv, hlb, hbl, hbz⟩ := hx
  obtain ⟨u, hyv, hys⟩ := hy
  obtain ⟨ao, c, ps, rfl, -⟩ := hys.out
  refine wpOp_store hi hg hv hyv hbz fun w' hb' hf => hK w' ⟨h.size, h.defers, (hb0.trans (h.bel.mono hb0.size)).trans (hf.below (by have := hb0.size; have := h.bel.size; omega) (by omega)), Nat.le_trans h.low hf.size, fun f hfS => ?_⟩
  have hne : ∀ k, PB r bs a w k → k ≠ b := fun k hk e => hk.2.2 (by rw [hv, e])
  have hk : ∀ k, PB r bs a w k → w'.heap[k]? = w.heap[k]? := fun k hk => hf.block k hk.1 (fun e => hne k hk (by cases e; rfl))
  have hP : ∀ k, PB r bs a w k → k < w'.heap.size ∧ r ≤ k := fun k hk => ⟨Nat.lt_of_lt_of_le hk.1 hf.size, hk.2.1⟩
  rcases hS f hfS with rfl | rfl | ⟨hfF, hn⟩
  · exact ⟨b, _, hv, hlb, ⟨Nat.lt_of_lt_of_le hbl hf.size, by omega⟩, hb', hys.keep hk (fun k hk' => ⟨hP k hk', hne k hk'⟩)⟩
  · exact ⟨b, _, hv, ⟨Nat.lt_of_lt_of_le hbl hf.size, by omega⟩, hb', hys.keep hk hP⟩
  · have hfact := h.facts (none, f) hfF (fun j hj => by cases hj)
    rcases hn with hn | ⟨c, hc, hfc⟩
    · exact Fx.keepP hfact hn hk hP
    · have h1 : (Fx.cell c).holds (PB r bs a w) w (a.eval (.tmp f.1)) := hfc ▸ hfact
      obtain ⟨h2, h3, h4⟩ := h1
      have : (Fx.cell c).holds (fun k => k < w'.heap.size ∧ r ≤ k) w' (a.eval (.tmp f.1)) := ⟨h2, Nat.lt_of_lt_of_le h3 hf.size, (hf.block c h3 (fun e => by cases e; omega)).trans h4⟩
      exact hfc ▸ this
theorem wpOp_field {x : Operand} {b : Nat} (hi : ops[i]? = some { dst := some d, op := .fieldAddr 25 x 2, type := ty, pos := pos, after := after, guard := g })
    (hg : Region.wanted { dst := some d, op := .fieldAddr 25 x 2, type := ty, pos := pos, after := after, guard := g } (yielded ops a.tmps) = true) (hx : a.eval x = .pointer (some ⟨b, 0, none⟩)) (hK : K (a.put (some d) (.pointer (some ⟨b, 2, none⟩))) w) : wpOp Tryz.prog ops Q i K a w := by
  refine wpOp_go hi hg ?_
  unfold Oper.wp
  have KK := Lib.hid hK
  clear hK hg hi
  generalize a.eval = ρ at *
  go_simp
  exact KK.out
theorem wpOp_storeNum {x : Operand} {b : Nat} {t : T} {u : Value} {m : Int} (hi : ops[i]? = some { dst := none, op := .store 3 x (.const (.int .i64 m)), type := ty, pos := pos, after := after, guard := g })
    (hg : Region.wanted { dst := none, op := .store 3 x (.const (.int .i64 m)), type := ty, pos := pos, after := after, guard := g } (yielded ops a.tmps) = true) (hx : a.eval x = .pointer (some ⟨b, 2, none⟩)) (hb : w.heap[b]? = some (boxN t u))
    (hK : ∀ w', w'.heap[b]? = some (boxN (.mk t.kind t.text m t.pos t.kids) u) → Fr b w w' → K a w') : wpOp Tryz.prog ops Q i K a w := by
  refine wpOp_go hi hg ?_
  unfold Oper.wp
  have KK := Lib.hid hK
  have c0 : ∀ j, w.cell? ⟨b, j, none⟩ = _ := Lib.cell_of_heap hb
  have f0 : ∀ j, w.frozen? ⟨b, j, none⟩ = false := Lib.frozen_of_heap hb
  have HBb := Lib.hid hb
  have em : a.eval (.const (.int .i64 m)) = .int .i64 m := rfl
  clear hK hg hi hb
  generalize a.eval = ρ at *
  go_simp
  refine KK.out _ ?_ ((Fr.refl b w).set 2 _)
  exact Lib.heap_setCell_same (i := 2) HBb.out _
theorem wp_region_two {P : Program} {id : Nat} {o1 o2 : Oper} (h : wpOp P #[o1, o2] Q 0 (wpOp P #[o1, o2] Q 1 (Q .normal)) a w) : (Code.region id #[o1, o2] false).wp P Q a w := by
  refine wp_region ?_
  show wpOps P #[o1, o2] Q [0, 1] a w
  rw [wpOps_cons]
  refine wpOp_mono (fun a' w' h' => ?_) h
  rw [wpOps_cons]
  exact wpOp_mono (fun a'' w'' h'' => h'') h'
/-- A statement that sets a tree's number, where it lies in a variable. -/
theorem Mid.setNum {S : List (Nat × Fx)} {wS : World} {id x lo : Nat} {t : T} {m : Int} {ty1 ty2 : TypeId} {p1 p2 : String} {f1 f2 : Array Edge} (h : Mid r wS n S a w) (hx : (x, Fx.own lo t) ∈ S) (hd : d < n) (S' : List (Nat × Fx)) (hS : ∀ f, f ∈ S' → f.1 ≠ d ∧ (f = (x, .var (.mk t.kind t.text m t.pos t.kids)) ∨ (f ∈ S ∧ ∃ c, c < lo ∧ f.2 = .cell c)))
    (hlo : wS.heap.size ≤ lo)
    (hQ : ∀ a' w', Mid r wS n S' a' w' → Q .normal a' w') :
    (Code.region id #[{ dst := some d, op := .fieldAddr 25 (.tmp x) 2, type := ty1, pos := p1, after := f1, guard := none }, { dst := none, op := .store 3 (.tmp d) (.const (.int .i64 m)), type := ty2, pos := p2, after := f2, guard := none }] false).wp Tryz.prog Q a w := by
  obtain ⟨b, u, hv, hlb, hbl, hb, hs⟩ := h.facts _ hx
  refine wp_region_two (wpOp_field rfl rfl hv (wpOp_storeNum rfl rfl (eval_put_same _ _ _ (by rw [h.size]; exact hd)) hb fun w' hb' hf => hQ _ _ ⟨?_, h.defers, h.bel.trans (hf.below h.bel.size (by omega)), Nat.le_trans h.low hf.size, fun f hfS => ?_⟩))
  · show (a.tmps.setIfInBounds d _).size = n
    rw [Array.size_setIfInBounds]
    exact h.size
  · obtain ⟨hfd, hff⟩ := hS f hfS
    rw [eval_put_ne _ _ _ _ hfd]
    rcases hff with rfl | ⟨hfF, c, hc, hfc⟩
    · exact ⟨b, u, hv, ⟨Nat.lt_of_lt_of_le hbl.1 hf.size, hbl.2⟩, hb', stood_rows (hs.keep (fun k hk => hf.block k hk.1.1 (fun e => hk.2 (by cases e; rfl))) (fun k hk => ⟨Nat.lt_of_lt_of_le hk.1.1 hf.size, hk.1.2⟩)) rfl⟩
    · have h1 : (Fx.cell c).holds (fun k => k < w.heap.size ∧ r ≤ k) w (a.eval (.tmp f.1)) := hfc ▸ h.facts f hfF
      obtain ⟨h2, h3, h4⟩ := h1
      have : (Fx.cell c).holds (fun k => k < w'.heap.size ∧ r ≤ k) w' (a.eval (.tmp f.1)) := ⟨h2, Nat.lt_of_lt_of_le h3 hf.size, (hf.block c h3 (fun e => by cases e; omega)).trans h4⟩
      exact hfc ▸ this
/-- The last store, into the result. -/
theorem Reg.result {wS : World} {c : Nat} {y : Operand} {t : T} (h : Reg r w0 bs n F listed a w) (hb0 : Below wS.heap.size wS w0) (hi : ops[i]? = some { dst := none, op := .store 25 (.tmp bs) y, type := ty, pos := pos, after := after, guard := g })
    (hg : Region.wanted { dst := none, op := .store 25 (.tmp bs) y, type := ty, pos := pos, after := after, guard := g } (yielded ops a.tmps) = true)
    (hx : (Fx.cell c).holds (PB r bs a w) w (a.eval (.tmp bs))) (hlo : wS.heap.size ≤ c) (hy : (Fx.tree t).holds (PB r bs a w) w (a.eval y))
    (hK : ∀ w' u, a.defers = [] → a.eval (.tmp bs) = .pointer (some ⟨c, 0, none⟩) → w'.heap[c]? = some (boxN t u) → Stood True (fun k => k < w'.heap.size ∧ r ≤ k) w' t u → Below wS.heap.size wS w' → K a w') : wpOp Tryz.prog ops Q i K a w := by
  obtain ⟨hv, hbl, hbz⟩ := hx
  obtain ⟨u, hyv, hys⟩ := hy
  obtain ⟨ao, c', ps, rfl, -⟩ := hys.out
  refine wpOp_store hi hg hv hyv hbz fun w' hb' hf => hK w' _ h.defers hv hb' ?_ ((hb0.trans (h.bel.mono hb0.size)).trans (hf.below (by have := hb0.size; have := h.bel.size; omega) hlo))
  exact hys.keep (fun k hk => hf.block k hk.1 (fun e => hk.2.2 (by rw [hv]; cases e; rfl))) (fun k hk => ⟨Nat.lt_of_lt_of_le hk.1 hf.size, hk.2.1⟩)
end
end Go.Proofs.YtmjblkcbkekcbaaGreatDoor

namespace Go.Proofs.YtmjblkcbkekcbaaGreatDoor
open Go.RowKit

abbrev xT : T := .mk 13 ⟨#[120]⟩ 0 0 []
abbrev ruleA : T := .mk 15 ⟨#[114, 117, 108, 101]⟩ 0 0 []
abbrev numT (s : List UInt8) : T := .mk 14 ⟨s.toArray⟩ 0 0 []
abbrev n07 : T := .mk 14 ⟨#[48, 55]⟩ 0 0 []
abbrev minusT : T := .mk 16 ⟨#[45]⟩ 0 0 [n07]
abbrev notX : T := .mk 16 ⟨#[110, 111, 116]⟩ 0 0 [xT]
abbrev sumT : T := .mk 16 ⟨#[43]⟩ 0 0 [minusT, notX]

abbrev anyT : T := .mk 12 ⟨#[]⟩ 0 0 []
abbrev n5 : T := .mk 14 ⟨#[45, 53]⟩ 0 0 []
abbrev factT : T := .mk 5 ⟨#[104, 105, 118, 101]⟩ 0 0 [anyT, xT, n5, ruleA]
abbrev nothT : T := .mk 6 ⟨#[104, 105, 118, 101]⟩ 0 0 []
abbrev leT : T := .mk 16 ⟨#[60, 61]⟩ 0 0 [xT, sumT]
abbrev testT : T := .mk 7 ⟨#[]⟩ 0 0 [leT]
abbrev asrtT : T := .mk 8 ⟨#[104, 105, 118, 101]⟩ 0 0 [sumT, ruleA]
abbrev retrT : T := .mk 9 ⟨#[]⟩ 0 0 []
abbrev nbig : T := .mk 14 ⟨#[57, 50, 50, 51, 51, 55, 50, 48, 51, 54, 56, 53, 52, 55, 55, 53, 56, 48, 55]⟩ 0 0 []
abbrev sayT : T := .mk 10 ⟨#[]⟩ 0 0 [nbig]
abbrev haltT : T := .mk 11 ⟨#[]⟩ 0 0 []
abbrev all0 : T := .mk 4 ⟨#[114]⟩ 0 0 [factT, nothT, testT, asrtT, retrT, sayT, haltT]
abbrev allT : T := .mk 4 ⟨#[114]⟩ (-7) 0 [factT, nothT, testT, asrtT, retrT, sayT, haltT]
abbrev fieldA : T := .mk 3 ⟨#[97]⟩ 0 0 []
abbrev fieldB : T := .mk 3 ⟨#[98]⟩ 0 0 []
abbrev hiveF : T := .mk 2 ⟨#[104, 105, 118, 101]⟩ 0 0 [fieldA, fieldB]
abbrev noneT : T := .mk 4 ⟨#[110, 111, 110, 101]⟩ 0 0 []
abbrev fullT : T := .mk 1 ⟨#[]⟩ 0 0 [hiveF, allT, noneT]

set_option maxRecDepth 100000 in
set_option maxHeartbeats 1000000 in
theorem full_any (w : World) (hL : Laid w) :
    Calls Tryz.prog 18 #[] w fun e w' => ∃ u, e = .returned (agg fullT u) ∧ Stood True (fun k => k < w'.heap.size ∧ w.heap.size + 1 ≤ k) w' fullT u ∧ Below w.heap.size w w' := by
  have HM0 : Hid (Mem w w []) := ⟨hL, Below.refl _ _, fun p hp => by cases hp⟩
  clear hL
  go_enter Tryz.func18, Tryz.ntmps18
  go_wp2_with (go_at_call 21; go_must (refine (of_mem w _ _ (HM0.out.up (below_own _)) 13 ⟨#[120]⟩ none 0 0).mono ?_; rintro e w1 ⟨rfl, hm1, hb1⟩; have HB1 := Lib.hid hb1; clear hb1 hm1; refine Hid.out ?_))
  refine Lib.hid ?_
  go_wp2_with (go_at_call 21; go_must (refine (of_any 15 ⟨#[114, 117, 108, 101]⟩ none 0 0 w1).mono ?_; rintro e w2 ⟨rfl, hb2⟩; have HB2 := Lib.hid hb2; clear hb2; refine Hid.out ?_))
  refine Lib.hid ?_
  go_upto_region 1 with fail
  have HLow : Hid (w.heap.size + 1 ≤ ((w2.alloc (boxN xT (.slice none 0 0))).alloc (boxN ruleA (.slice none 0 0))).heap.size) := by
    have h3 := HB1.out.size
    have h4 := HB2.out.size
    simp at h3
    unfold Hid
    simp
    omega
  have HB : Hid (Below w.heap.size w ((w2.alloc (boxN xT (.slice none 0 0))).alloc (boxN ruleA (.slice none 0 0)))) := below_new (below_new ((below_step (below_own _) HB1.out).trans (HB2.out.mono (by have := HB1.out.size; simp at this; omega))) _) _
  have HMid : Hid (∀ a : Act, a.tmps.size = 48 → a.defers = [] → a.eval (.tmp 0) = .pointer (some ⟨w.heap.size, 0, none⟩) → a.eval (.tmp 1) = .pointer (some ⟨w2.heap.size, 0, none⟩) → a.eval (.tmp 2) = .pointer (some ⟨w2.heap.size + 1, 0, none⟩) → a.eval (.tmp 3) = undef → a.eval (.tmp 4) = undef → Mid (w.heap.size + 1) w 48 [(0, .cell w.heap.size), (1, .var xT), (2, .var ruleA), (3, .no), (4, .no)] a ((w2.alloc (boxN xT (.slice none 0 0))).alloc (boxN ruleA (.slice none 0 0)))) := by
    intro a h1 h2 e0 e1 e2 e3 e4
    refine ⟨h1, h2, HB.out, ?_, fun f hf => ?_⟩
    · have h3 := HB1.out.size
      have h4 := HB2.out.size
      simp at h3 ⊢
      omega
    have hr : ((w2.alloc (boxN xT (.slice none 0 0))).alloc (boxN ruleA (.slice none 0 0))).heap[w.heap.size]? = some zeroN := by
      have h1 := HB1.out.size
      have h2 := HB2.out.size
      simp at h1
      rw [((below_own (w := w2) (boxN xT (.slice none 0 0))).trans ((below_own _).mono (by simp))).block w.heap.size (by omega), HB2.out.block w.heap.size (by omega), HB1.out.block w.heap.size (by simp)]
      exact heap_alloc_new w _
    have hx : ((w2.alloc (boxN xT (.slice none 0 0))).alloc (boxN ruleA (.slice none 0 0))).heap[w2.heap.size]? = some (boxN xT (.slice none 0 0)) := by
      rw [(below_own (w := w2.alloc (boxN xT (.slice none 0 0))) (boxN ruleA (.slice none 0 0))).block w2.heap.size (by simp)]
      exact heap_alloc_new w2 _
    have hr2 : ((w2.alloc (boxN xT (.slice none 0 0))).alloc (boxN ruleA (.slice none 0 0))).heap[w2.heap.size + 1]? = some (boxN ruleA (.slice none 0 0)) := by
      have := heap_alloc_new (w2.alloc (boxN xT (.slice none 0 0))) (boxN ruleA (.slice none 0 0))
      simpa using this
    have hs : ((w2.alloc (boxN xT (.slice none 0 0))).alloc (boxN ruleA (.slice none 0 0))).heap.size = w2.heap.size + 1 + 1 := by simp
    have hw : w.heap.size < w2.heap.size := by
      have h1 := HB1.out.size
      have h2 := HB2.out.size
      simp at h1
      omega
    simp only [List.mem_cons, List.not_mem_nil, or_false] at hf
    rcases hf with rfl | rfl | rfl | rfl | rfl
    · exact ⟨e0, by omega, hr⟩
    · exact ⟨_, _, e1, ⟨by omega, by omega⟩, hx, stood_nil _ rfl⟩
    · exact ⟨_, _, e2, ⟨by omega, by omega⟩, hr2, stood_nil _ rfl⟩
    · exact e3
    · exact e4
  refine wp_region_reg (r := w.heap.size + 1) (w0 := ((w2.alloc (boxN xT (.slice none 0 0))).alloc (boxN ruleA (.slice none 0 0)))) (bs := 3) (n := 48) (last := 9) (F := [(none, 0, .cell w.heap.size), (none, 1, .var xT), (none, 2, .var ruleA), (none, 4, .no), (some 0, 7, .tree n07), (some 1, 8, .rows [n07]), (some 2, 9, .tree minusT), (some 3, 10, .tree xT), (some 4, 11, .rows [xT]), (some 5, 12, .tree notX), (some 6, 13, .rows [minusT, notX]), (some 7, 14, .tree sumT), (some 8, 3, .box ((w2.alloc (boxN xT (.slice none 0 0))).alloc (boxN ruleA (.slice none 0 0))).heap.size)]) (by kernel_rfl) (by kernel_rfl) (by decide) (by kernel_rfl) (Mid.start (HMid.out _ rfl rfl rfl rfl rfl rfl rfl) (fun _ _ e => by cases e) (fun f hf hc => ?_) _) (fun listed a W i h hr hi hl => ?_) (fun listed a W h hr => ?_)
  · simp only [List.mem_cons, List.not_mem_nil, or_false] at hf
    rcases hf with rfl | rfl | rfl | rfl | rfl | rfl | rfl | rfl | rfl | rfl | rfl | rfl | rfl <;> first | (cases hc; done) | simp
  · have hi' : i < 10 := hi
    obtain rfl | rfl | rfl | rfl | rfl | rfl | rfl | rfl | rfl : i = 0 ∨ i = 1 ∨ i = 2 ∨ i = 3 ∨ i = 4 ∨ i = 5 ∨ i = 6 ∨ i = 7 ∨ i = 8 := by omega
    · exact h.num rfl rfl rfl rfl (by decide) (by decide)
    · exact h.slice1 rfl rfl (h.got hr 4 rfl (by kernel_rfl)) rfl rfl (by decide) (by decide)
    · exact h.of rfl rfl (h.got hr 5 rfl (by kernel_rfl)) rfl rfl (by decide) (by decide)
    · exact h.load rfl rfl (h.got hr 1 rfl (by kernel_rfl)) rfl rfl (by decide) (by decide)
    · exact h.slice1 rfl rfl (h.got hr 7 rfl (by kernel_rfl)) rfl rfl (by decide) (by decide)
    · exact h.of rfl rfl (h.got hr 8 rfl (by kernel_rfl)) rfl rfl (by decide) (by decide)
    · exact h.slice2 rfl rfl (h.got hr 6 rfl (by kernel_rfl)) (h.got hr 9 rfl (by kernel_rfl)) rfl rfl (by decide) (by decide)
    · exact h.of rfl rfl (h.got hr 10 rfl (by kernel_rfl)) rfl rfl (by decide) (by decide)
    · exact h.alloc rfl rfl rfl rfl (by decide)
  · refine Reg.store (wS := w) (S := [(0, .cell w.heap.size), (1, .var xT), (2, .var ruleA), (3, .var sumT), (4, .no)]) h HB.out rfl rfl (h.got hr 12 rfl (by kernel_rfl)) HB.out.size HLow.out (h.got hr 11 rfl (by kernel_rfl)) (fun f hf => ?_) (fun w' hm' => ?_)
    · simp only [List.mem_cons, List.not_mem_nil, or_false] at hf
      rcases hf with rfl | rfl | rfl | rfl | rfl
      · exact Or.inr (Or.inr ⟨by simp, Or.inr ⟨_, HLow.out, rfl⟩⟩)
      · exact Or.inr (Or.inr ⟨by simp, Or.inl rfl⟩)
      · exact Or.inr (Or.inr ⟨by simp, Or.inl rfl⟩)
      · simp
      · exact Or.inr (Or.inr ⟨by simp, Or.inl rfl⟩)
    · have HM3 := Lib.hid hm'
      clear hm' HMid hr h
      refine (by assumption : ∀ (a : Act) (w : World), Code.wp _ _ _ a w → _) a w' ?_
      go_wp2_with fail
      obtain ⟨w3, hw3⟩ : ∃ w3, w3 = w' := ⟨_, rfl⟩
      rw [← hw3] at HM3 ⊢
      clear hw3
      refine wp_region_reg (r := w.heap.size + 1) (w0 := w3) (bs := 4) (n := 48) (last := 25) (F := [(none, 0, .cell w.heap.size), (none, 1, .var xT), (none, 2, .var ruleA), (none, 3, .var sumT), (some 0, 15, .tree anyT), (some 1, 16, .tree xT), (some 2, 17, .tree n5), (some 3, 18, .tree ruleA), (some 4, 19, .rows [anyT, xT, n5, ruleA]), (some 5, 20, .tree factT), (some 6, 21, .tree nothT), (some 7, 22, .tree xT), (some 8, 23, .tree sumT), (some 9, 24, .rows [xT, sumT]), (some 10, 25, .tree leT), (some 11, 26, .rows [leT]), (some 12, 27, .tree testT), (some 13, 28, .tree sumT), (some 14, 29, .tree ruleA), (some 15, 30, .rows [sumT, ruleA]), (some 16, 31, .tree asrtT), (some 17, 32, .tree retrT), (some 18, 33, .tree nbig), (some 19, 34, .rows [nbig]), (some 20, 35, .tree sayT), (some 21, 36, .tree haltT), (some 22, 37, .rows [factT, nothT, testT, asrtT, retrT, sayT, haltT]), (some 23, 38, .tree all0), (some 24, 4, .box w3.heap.size)]) (by kernel_rfl) (by kernel_rfl) (by decide) (by kernel_rfl) (Mid.start HM3.out (fun _ _ e => by rw [show Act.eval _ (.tmp 4) = undef from HM3.out.facts (4, .no) (by simp)] at e; cases e) (fun f hf hc => ?_) _) (fun listed a W i h hr hi hl => ?_) (fun listed a W h hr => ?_)
      · simp only [List.mem_cons, List.not_mem_nil, or_false] at hf
        rcases hf with rfl | rfl | rfl | rfl | rfl | rfl | rfl | rfl | rfl | rfl | rfl | rfl | rfl | rfl | rfl | rfl | rfl | rfl | rfl | rfl | rfl | rfl | rfl | rfl | rfl | rfl | rfl | rfl | rfl <;> first | (cases hc; done) | simp
      · have hi' : i < 26 := hi
        obtain rfl | rfl | rfl | rfl | rfl | rfl | rfl | rfl | rfl | rfl | rfl | rfl | rfl | rfl | rfl | rfl | rfl | rfl | rfl | rfl | rfl | rfl | rfl | rfl | rfl : i = 0 ∨ i = 1 ∨ i = 2 ∨ i = 3 ∨ i = 4 ∨ i = 5 ∨ i = 6 ∨ i = 7 ∨ i = 8 ∨ i = 9 ∨ i = 10 ∨ i = 11 ∨ i = 12 ∨ i = 13 ∨ i = 14 ∨ i = 15 ∨ i = 16 ∨ i = 17 ∨ i = 18 ∨ i = 19 ∨ i = 20 ∨ i = 21 ∨ i = 22 ∨ i = 23 ∨ i = 24 := by omega
        · exact h.of rfl rfl (stood_nil (.mk 0 ⟨#[]⟩ 0 0 []) rfl) rfl rfl (by decide) (by decide)
        · exact h.load rfl rfl (h.got hr 1 rfl (by kernel_rfl)) rfl rfl (by decide) (by decide)
        · exact h.num rfl rfl rfl rfl (by decide) (by decide)
        · exact h.load rfl rfl (h.got hr 2 rfl (by kernel_rfl)) rfl rfl (by decide) (by decide)
        · exact h.slice4 rfl rfl (h.got hr 4 rfl (by kernel_rfl)) (h.got hr 5 rfl (by kernel_rfl)) (h.got hr 6 rfl (by kernel_rfl)) (h.got hr 7 rfl (by kernel_rfl)) rfl rfl (by decide) (by decide)
        · exact h.of rfl rfl (h.got hr 8 rfl (by kernel_rfl)) rfl rfl (by decide) (by decide)
        · exact h.of rfl rfl (stood_nil (.mk 0 ⟨#[]⟩ 0 0 []) rfl) rfl rfl (by decide) (by decide)
        · exact h.load rfl rfl (h.got hr 1 rfl (by kernel_rfl)) rfl rfl (by decide) (by decide)
        · exact h.load rfl rfl (h.got hr 3 rfl (by kernel_rfl)) rfl rfl (by decide) (by decide)
        · exact h.slice2 rfl rfl (h.got hr 11 rfl (by kernel_rfl)) (h.got hr 12 rfl (by kernel_rfl)) rfl rfl (by decide) (by decide)
        · exact h.of rfl rfl (h.got hr 13 rfl (by kernel_rfl)) rfl rfl (by decide) (by decide)
        · exact h.slice1 rfl rfl (h.got hr 14 rfl (by kernel_rfl)) rfl rfl (by decide) (by decide)
        · exact h.of rfl rfl (h.got hr 15 rfl (by kernel_rfl)) rfl rfl (by decide) (by decide)
        · exact h.load rfl rfl (h.got hr 3 rfl (by kernel_rfl)) rfl rfl (by decide) (by decide)
        · exact h.load rfl rfl (h.got hr 2 rfl (by kernel_rfl)) rfl rfl (by decide) (by decide)
        · exact h.slice2 rfl rfl (h.got hr 17 rfl (by kernel_rfl)) (h.got hr 18 rfl (by kernel_rfl)) rfl rfl (by decide) (by decide)
        · exact h.of rfl rfl (h.got hr 19 rfl (by kernel_rfl)) rfl rfl (by decide) (by decide)
        · exact h.of rfl rfl (stood_nil (.mk 0 ⟨#[]⟩ 0 0 []) rfl) rfl rfl (by decide) (by decide)
        · exact h.num rfl rfl rfl rfl (by decide) (by decide)
        · exact h.slice1 rfl rfl (h.got hr 22 rfl (by kernel_rfl)) rfl rfl (by decide) (by decide)
        · exact h.of rfl rfl (h.got hr 23 rfl (by kernel_rfl)) rfl rfl (by decide) (by decide)
        · exact h.of rfl rfl (stood_nil (.mk 0 ⟨#[]⟩ 0 0 []) rfl) rfl rfl (by decide) (by decide)
        · exact h.slice7 rfl rfl (h.got hr 9 rfl (by kernel_rfl)) (h.got hr 10 rfl (by kernel_rfl)) (h.got hr 16 rfl (by kernel_rfl)) (h.got hr 20 rfl (by kernel_rfl)) (h.got hr 21 rfl (by kernel_rfl)) (h.got hr 24 rfl (by kernel_rfl)) (h.got hr 25 rfl (by kernel_rfl)) rfl rfl (by decide) (by decide)
        · exact h.of rfl rfl (h.got hr 26 rfl (by kernel_rfl)) rfl rfl (by decide) (by decide)
        · exact h.alloc rfl rfl rfl rfl (by decide)
      · refine Reg.store (wS := w) (S := [(0, .cell w.heap.size), (4, .own w3.heap.size all0)]) h HM3.out.bel rfl rfl (h.got hr 28 rfl (by kernel_rfl)) HM3.out.bel.size HM3.out.low (h.got hr 27 rfl (by kernel_rfl)) (fun f hf => ?_) (fun w' hm' => ?_)
        · simp only [List.mem_cons, List.not_mem_nil, or_false] at hf
          rcases hf with rfl | rfl
          · exact Or.inr (Or.inr ⟨by simp, Or.inr ⟨_, HM3.out.low, rfl⟩⟩)
          · simp
        · have HM4 := Lib.hid hm'
          have HL3 := Lib.hid HM3.out.low
          have HB3 := Lib.hid HM3.out.bel.size
          clear hm' hr h
          refine (by assumption : ∀ (a : Act) (w : World), Code.wp _ _ _ a w → _) a w' ?_
          refine wp_seq_k (fun K4 hK4 => ?_)
          refine Mid.setNum HM4.out (x := 4) (lo := w3.heap.size) (t := all0) (m := -7) (by simp) (by decide) [(0, .cell w.heap.size), (4, .var allT)] (fun f hf => ?_) HB3.out (fun a4 w4 hm4 => hK4 a4 w4 ?_)
          · simp only [List.mem_cons, List.not_mem_nil, or_false] at hf
            rcases hf with rfl | rfl
            · exact ⟨by simp, Or.inr ⟨by simp, _, HL3.out, rfl⟩⟩
            · exact ⟨by decide, Or.inl rfl⟩
          have HM5 := Lib.hid hm4
          clear hm4 HM4
          refine wp_seq_k (fun K5 hK5 => ?_)
          have h0 : a4.eval (.tmp 0) = .pointer (some ⟨w.heap.size, 0, none⟩) := (HM5.out.facts (0, .cell w.heap.size) (by simp)).1
          refine wp_region_reg (r := w.heap.size + 1) (w0 := w4) (bs := 0) (n := 48) (last := 8) (F := [(none, 0, .cell w.heap.size), (none, 4, .var allT), (some 0, 40, .tree fieldA), (some 1, 41, .tree fieldB), (some 2, 42, .rows [fieldA, fieldB]), (some 3, 43, .tree hiveF), (some 4, 44, .tree allT), (some 5, 45, .tree noneT), (some 6, 46, .rows [hiveF, allT, noneT]), (some 7, 47, .tree fullT)]) (by kernel_rfl) (by kernel_rfl) (by decide) (by kernel_rfl) (Mid.start HM5.out (fun k hk e => by rw [h0] at e; cases e; have := HM5.out.low; omega) (fun f hf hc => ?_) _) (fun listed a W i h hr hi hl => ?_) (fun listed a W h hr => ?_)
          · simp only [List.mem_cons, List.not_mem_nil, or_false] at hf
            rcases hf with rfl | rfl | rfl | rfl | rfl | rfl | rfl | rfl | rfl | rfl <;> first | (cases hc; done) | simp
          · have hi' : i < 9 := hi
            obtain rfl | rfl | rfl | rfl | rfl | rfl | rfl | rfl : i = 0 ∨ i = 1 ∨ i = 2 ∨ i = 3 ∨ i = 4 ∨ i = 5 ∨ i = 6 ∨ i = 7 := by omega
            · exact h.of rfl rfl (stood_nil (.mk 0 ⟨#[]⟩ 0 0 []) rfl) rfl rfl (by decide) (by decide)
            · exact h.of rfl rfl (stood_nil (.mk 0 ⟨#[]⟩ 0 0 []) rfl) rfl rfl (by decide) (by decide)
            · exact h.slice2 rfl rfl (h.got hr 2 rfl (by kernel_rfl)) (h.got hr 3 rfl (by kernel_rfl)) rfl rfl (by decide) (by decide)
            · exact h.of rfl rfl (h.got hr 4 rfl (by kernel_rfl)) rfl rfl (by decide) (by decide)
            · exact h.load rfl rfl (h.got hr 1 rfl (by kernel_rfl)) rfl rfl (by decide) (by decide)
            · exact h.of rfl rfl (stood_nil (.mk 0 ⟨#[]⟩ 0 0 []) rfl) rfl rfl (by decide) (by decide)
            · exact h.slice3 rfl rfl (h.got hr 5 rfl (by kernel_rfl)) (h.got hr 6 rfl (by kernel_rfl)) (h.got hr 7 rfl (by kernel_rfl)) rfl rfl (by decide) (by decide)
            · exact h.program rfl rfl (h.got hr 8 rfl (by kernel_rfl)) rfl rfl (by decide) (by decide)
          · refine Reg.result (wS := w) (c := w.heap.size) h HM5.out.bel rfl rfl (h.got hr 0 rfl (by kernel_rfl)) (Nat.le_refl _) (h.got hr 9 rfl (by kernel_rfl)) (fun w' u hd hv hb' hs hbel => ?_)
            refine hK5 a w' (wp_ret ?_)
            have hb0 : ∀ j, w'.cell? ⟨w.heap.size, j, none⟩ = _ := Lib.cell_of_heap hb'
            have hv' : a.tmps.getD 0 undef = .pointer (some ⟨w.heap.size, 0, none⟩) := hv
            refine bodyPost_ret (v := agg fullT u) ?_ hd ⟨u, rfl, hs, hbel⟩
            rw [Array.getD_eq_getD_getElem?] at hv'
            simp [results, Tryz.results18, go_sem, hv', hb0]
end Go.Proofs.YtmjblkcbkekcbaaGreatDoor

namespace Go.Proofs.YtmjblkcbkekcbaaGreatDoor
open Go.RowKit

mutual
def shortB : T → Bool
  | .mk _ s _ _ l => decide (s.size ≤ 100000) && decide (l.length ≤ 100000) && shortL l
def shortL : List T → Bool
  | [] => true
  | k :: l => shortB k && shortL l
end
theorem short_of (t : T) : shortB t = true → Short t := by
  induction t using T.ind with
  | h t ih =>
    intro h
    have e : shortB t = (decide (t.text.size ≤ 100000) && decide (t.kids.length ≤ 100000) && shortL t.kids) := by cases t; rw [shortB]; rfl
    rw [e, Bool.and_eq_true, Bool.and_eq_true] at h
    have hl : ∀ l : List T, shortL l = true → ∀ k, k ∈ l → shortB k = true := by
      intro l
      induction l with
      | nil => intro _ k hk; cases hk
      | cons q l ihl =>
        intro hq k hk
        rw [shortL, Bool.and_eq_true] at hq
        rcases List.mem_cons.1 hk with rfl | hk
        · exact hq.1
        · exact ihl hq.2 k hk
    exact .mk t (of_decide_eq_true h.1.1) (of_decide_eq_true h.1.2) fun k hk => ih k hk (hl _ h.2 k hk)

section
variable {ops : Array Oper} {Q : Exit → Act → World → Prop} {K : Act → World → Prop} {a : Act} {w : World} {i d : Nat} {ty : TypeId} {pos : String} {after : Array Edge} {g : Option (Nat × Bool)} {ts : Array TypeId} {r : Nat} {w0 : World} {bs n : Nat} {F : List (Option Nat × Nat × Fx)} {listed : Array Bool}
theorem yields_of {j e : Nat} {b : Bool} {o : Oper} (ho : ops[j]? = some o) (hd : o.dst = some e) (h : a.eval (.tmp e) = .bool b) : yielded ops a.tmps j = some b := by
  have h' : a.tmps[e]?.getD undef = .bool b := by
    rw [← Array.getD_eq_getD_getElem?]
    exact h
  unfold yielded
  rw [ho]
  simp only [Option.bind_some, hd]
  cases hq : a.tmps[e]? with
  | none => rw [hq] at h'; cases h'
  | some v => rw [hq] at h'; simp only [Option.getD_some] at h'; rw [h']
theorem wanted_of {o : Oper} {j : Nat} (hg : o.guard = some (j, true)) (hy : yielded ops a.tmps j = some true) : Region.wanted o (yielded ops a.tmps) = true := by
  unfold Region.wanted
  rw [hg]
  simp [hy]
theorem Reg.right (h : Reg r w0 bs n F listed a w) {x : Operand} {t : T} {b : Bool} (hi : ops[i]? = some { dst := some d, op := .call { callee := .value (.func 10), args := #[x], argTypes := ts }, type := ty, pos := pos, after := after, guard := g })
    (hg : Region.wanted { dst := some d, op := .call { callee := .value (.func 10), args := #[x], argTypes := ts }, type := ty, pos := pos, after := after, guard := g } (yielded ops a.tmps) = true) (hx : (Fx.tree t).holds (PB r bs a w) w (a.eval x)) (hL : Laid w0) (hs : shortB t = true) (hb : rightT t = b) (hU : F.filter (fun f => f.1 == some i) = [(some i, d, .bool b)]) (hA : (F.all fun f => f.1 == some i || f.2.1 != d) = true) (hd : d < n) (hbs : d ≠ bs) : wpOp Tryz.prog ops Q i (Reg r w0 bs n F (listed.setIfInBounds i true)) a w := by
  obtain ⟨u, hv, hst⟩ := hx
  refine wpOp_call (vs := #[agg t u]) hi hg (enters_of Tryz.func10 (by kernel_rfl) rfl) (by simp [← hv]) ?_
  refine (progRight_any t u w (hst.lies fun k hk => hk.1) (hL.below h.bel) (short_of t hs)).mono ?_
  rintro e w' ⟨rfl, hb'⟩
  exact ⟨_, rfl, h.one hb' _ hU hA hd (fun e => absurd e hbs) (by rw [hb]; rfl)⟩
theorem Reg.deep (h : Reg r w0 bs n F listed a w) {x : Operand} {t : T} {m : Int} (hi : ops[i]? = some { dst := some d, op := .call { callee := .value (.func 12), args := #[x], argTypes := ts }, type := ty, pos := pos, after := after, guard := g })
    (hg : Region.wanted { dst := some d, op := .call { callee := .value (.func 12), args := #[x], argTypes := ts }, type := ty, pos := pos, after := after, guard := g } (yielded ops a.tmps) = true) (hx : (Fx.tree t).holds (PB r bs a w) w (a.eval x)) (hm : t.many ≤ 100000) (hb : ((t.deep : Nat) : Int) = m) (hU : F.filter (fun f => f.1 == some i) = [(some i, d, .num m)]) (hA : (F.all fun f => f.1 == some i || f.2.1 != d) = true) (hd : d < n) (hbs : d ≠ bs) : wpOp Tryz.prog ops Q i (Reg r w0 bs n F (listed.setIfInBounds i true)) a w := by
  obtain ⟨u, hv, hst⟩ := hx
  refine wpOp_call (vs := #[agg t u]) hi hg (enters_of Tryz.func12 (by kernel_rfl) rfl) (by simp [← hv]) ?_
  refine (progDeep_any t u w (hst.keep (fun _ _ => rfl) fun k hk => hk.1) hm).mono ?_
  rintro e w' ⟨rfl, hb'⟩
  exact ⟨_, rfl, h.one hb' _ hU hA hd (fun e => absurd e hbs) (by rw [hb]; rfl)⟩
theorem Reg.same (h : Reg r w0 bs n F listed a w) {x y : Operand} {t t' : T} {b : Bool} (hi : ops[i]? = some { dst := some d, op := .call { callee := .value (.func 15), args := #[x, y], argTypes := ts }, type := ty, pos := pos, after := after, guard := g })
    (hg : Region.wanted { dst := some d, op := .call { callee := .value (.func 15), args := #[x, y], argTypes := ts }, type := ty, pos := pos, after := after, guard := g } (yielded ops a.tmps) = true) (hx : (Fx.tree t).holds (PB r bs a w) w (a.eval x)) (hy : (Fx.tree t').holds (PB r bs a w) w (a.eval y)) (hm : t.many ≤ 100000) (hb : t.same t' = b) (hU : F.filter (fun f => f.1 == some i) = [(some i, d, .bool b)]) (hA : (F.all fun f => f.1 == some i || f.2.1 != d) = true) (hd : d < n) (hbs : d ≠ bs) : wpOp Tryz.prog ops Q i (Reg r w0 bs n F (listed.setIfInBounds i true)) a w := by
  obtain ⟨u, hv, hst⟩ := hx
  obtain ⟨u', hv', hst'⟩ := hy
  refine wpOp_call (vs := #[agg t u, agg t' u']) hi hg (enters_of Tryz.func15 (by kernel_rfl) rfl) (by simp [← hv, ← hv']) ?_
  refine (progSame_any True t t' u u' w (hst.keep (fun _ _ => rfl) fun k hk => hk.1) (hst'.keep (fun _ _ => rfl) fun k hk => hk.1) hm (fun hn => absurd trivial hn)).mono ?_
  rintro e w' ⟨rfl, hb'⟩
  exact ⟨_, rfl, h.one hb' _ hU hA hd (fun e => absurd e hbs) (by rw [hb]; rfl)⟩
theorem Reg.full (h : Reg r w0 bs n F listed a w) (hi : ops[i]? = some { dst := some d, op := .call { callee := .value (.func 18), args := #[], argTypes := ts }, type := ty, pos := pos, after := after, guard := g })
    (hg : Region.wanted { dst := some d, op := .call { callee := .value (.func 18), args := #[], argTypes := ts }, type := ty, pos := pos, after := after, guard := g } (yielded ops a.tmps) = true) (hL : Laid w0) (hU : F.filter (fun f => f.1 == some i) = [(some i, d, .tree fullT)]) (hA : (F.all fun f => f.1 == some i || f.2.1 != d) = true) (hd : d < n) (hbs : d ≠ bs) : wpOp Tryz.prog ops Q i (Reg r w0 bs n F (listed.setIfInBounds i true)) a w := by
  refine wpOp_call (vs := #[]) hi hg (enters_of Tryz.func18 (by kernel_rfl) rfl) (by simp) ?_
  refine (full_any w (hL.below h.bel)).mono ?_
  rintro e w' ⟨u, rfl, hs, hb'⟩
  refine ⟨_, rfl, h.one hb' _ hU hA hd (fun e => absurd e hbs) ⟨u, rfl, ?_⟩⟩
  refine hs.keep (fun _ _ => rfl) fun k hk => ⟨hk.1, by have := h.low; omega, ?_⟩
  rw [eval_put_ne _ _ _ _ (Ne.symm hbs)]
  exact h.fresh k (by omega)
theorem Reg.move (h : Reg r w0 bs n F listed a w) {x : Operand} {b : Bool} (hi : ops[i]? = some { dst := some d, op := .move x, type := ty, pos := pos, after := after, guard := g })
    (hg : Region.wanted { dst := some d, op := .move x, type := ty, pos := pos, after := after, guard := g } (yielded ops a.tmps) = true) (hx : (Fx.bool b).holds (PB r bs a w) w (a.eval x)) (hU : F.filter (fun f => f.1 == some i) = [(some i, d, .bool b)]) (hA : (F.all fun f => f.1 == some i || f.2.1 != d) = true) (hd : d < n) (hbs : d ≠ bs) : wpOp Tryz.prog ops Q i (Reg r w0 bs n F (listed.setIfInBounds i true)) a w := by
  have hK := h.one (i := i) (d := d) (Below.refl _ _) _ hU hA hd (fun e => absurd e hbs) rfl
  refine wpOp_go hi hg ?_
  unfold Oper.wp
  have KK := Lib.hid hK
  clear hK hg hi hU hA
  unfold Fx.holds at *
  generalize a.eval = ρ at *
  go_simp
  exact KK.out
theorem Reg.pick (h : Reg r w0 bs n F listed a w) {c x y : Operand} {b : Bool} (hi : ops[i]? = some { dst := some d, op := .pick c x y, type := ty, pos := pos, after := after, guard := g })
    (hg : Region.wanted { dst := some d, op := .pick c x y, type := ty, pos := pos, after := after, guard := g } (yielded ops a.tmps) = true) (hc : (Fx.bool true).holds (PB r bs a w) w (a.eval c)) (hx : (Fx.bool b).holds (PB r bs a w) w (a.eval x)) (hU : F.filter (fun f => f.1 == some i) = [(some i, d, .bool b)]) (hA : (F.all fun f => f.1 == some i || f.2.1 != d) = true) (hd : d < n) (hbs : d ≠ bs) : wpOp Tryz.prog ops Q i (Reg r w0 bs n F (listed.setIfInBounds i true)) a w := by
  have hK := h.one (i := i) (d := d) (Below.refl _ _) _ hU hA hd (fun e => absurd e hbs) rfl
  refine wpOp_go hi hg ?_
  unfold Oper.wp
  have KK := Lib.hid hK
  clear hK hg hi hU hA
  unfold Fx.holds at *
  generalize a.eval = ρ at *
  go_simp
  exact KK.out
theorem Reg.not (h : Reg r w0 bs n F listed a w) {x : Operand} (hi : ops[i]? = some { dst := some d, op := .unOp .not 4 x, type := ty, pos := pos, after := after, guard := g })
    (hg : Region.wanted { dst := some d, op := .unOp .not 4 x, type := ty, pos := pos, after := after, guard := g } (yielded ops a.tmps) = true) (hx : (Fx.bool false).holds (PB r bs a w) w (a.eval x)) (hU : F.filter (fun f => f.1 == some i) = [(some i, d, .bool true)]) (hA : (F.all fun f => f.1 == some i || f.2.1 != d) = true) (hd : d < n) (hbs : d ≠ bs) : wpOp Tryz.prog ops Q i (Reg r w0 bs n F (listed.setIfInBounds i true)) a w := by
  have hK := h.one (i := i) (d := d) (Below.refl _ _) _ hU hA hd (fun e => absurd e hbs) rfl
  refine wpOp_go hi hg ?_
  unfold Oper.wp
  have KK := Lib.hid hK
  clear hK hg hi hU hA
  unfold Fx.holds at *
  generalize a.eval = ρ at *
  go_simp
  exact KK.out
theorem Reg.eql (h : Reg r w0 bs n F listed a w) {x : Operand} (hi : ops[i]? = some { dst := some d, op := .binOp .eql 3 x (.const (.int .i64 3)) 3, type := ty, pos := pos, after := after, guard := g })
    (hg : Region.wanted { dst := some d, op := .binOp .eql 3 x (.const (.int .i64 3)) 3, type := ty, pos := pos, after := after, guard := g } (yielded ops a.tmps) = true) (hx : (Fx.num 3).holds (PB r bs a w) w (a.eval x)) (hU : F.filter (fun f => f.1 == some i) = [(some i, d, .bool true)]) (hA : (F.all fun f => f.1 == some i || f.2.1 != d) = true) (hd : d < n) (hbs : d ≠ bs) : wpOp Tryz.prog ops Q i (Reg r w0 bs n F (listed.setIfInBounds i true)) a w := by
  have hK := h.one (i := i) (d := d) (Below.refl _ _) _ hU hA hd (fun e => absurd e hbs) rfl
  refine wpOp_go hi hg ?_
  unfold Oper.wp
  have KK := Lib.hid hK
  have e1 : a.eval (.const (.int .i64 3)) = .int .i64 3 := rfl
  clear hK hg hi hU hA
  unfold Fx.holds at *
  generalize a.eval = ρ at *
  go_simp
  exact KK.out
theorem wpOp_assign {x : Operand} {v : Value} (hi : ops[i]? = some { dst := some d, op := .assign x, type := ty, pos := pos, after := after, guard := g })
    (hg : Region.wanted { dst := some d, op := .assign x, type := ty, pos := pos, after := after, guard := g } (yielded ops a.tmps) = true) (hx : a.eval x = v) (hK : K (a.put (some d) v) w) : wpOp Tryz.prog ops Q i K a w := by
  refine wpOp_go hi hg ?_
  unfold Oper.wp
  have KK := Lib.hid hK
  clear hK hg hi
  generalize a.eval = ρ at *
  go_simp
  subst hx
  exact KK.out
end
end Go.Proofs.YtmjblkcbkekcbaaGreatDoor

namespace Go.Proofs.YtmjblkcbkekcbaaGreatDoor
open Go.RowKit

abbrev fieldX : T := .mk 3 ⟨#[120]⟩ 0 0 []
abbrev hiveX : T := .mk 2 ⟨#[104, 105, 118, 101]⟩ 0 0 [fieldX]
abbrev haltL : T := .mk 11 ⟨#[]⟩ 0 0 []
abbrev factL : T := .mk 5 ⟨#[97]⟩ 0 0 []
abbrev lateT : T := .mk 4 ⟨#[114]⟩ 0 0 [haltL, factL]

abbrev prog0 : T := .mk 1 ⟨#[]⟩ 0 0 []
abbrev progH : T := .mk 1 ⟨#[]⟩ 0 0 [hiveX]
abbrev progL : T := .mk 1 ⟨#[]⟩ 0 0 [lateT]
abbrev say0 : T := .mk 10 ⟨#[]⟩ 0 0 []
abbrev ruleS : T := .mk 4 ⟨#[114]⟩ 0 0 [say0]
abbrev progS : T := .mk 1 ⟨#[]⟩ 0 0 [ruleS]
abbrev nm1 : T := .mk 14 ⟨#[45, 49]⟩ 0 0 []
abbrev testN : T := .mk 7 ⟨#[]⟩ 0 0 [nm1]
abbrev ruleN : T := .mk 4 ⟨#[114]⟩ 0 0 [testN]
abbrev progN : T := .mk 1 ⟨#[]⟩ 0 0 [ruleN]
theorem rt0 : rightT prog0 = true := by decide +kernel
theorem rtH : rightT progH = true := by decide +kernel
theorem rtF : rightT fullT = true := by decide +kernel
theorem rtX : rightT hiveX = false := by decide +kernel
theorem rtL : rightT progL = false := by decide +kernel
theorem rtS : rightT progS = false := by decide +kernel
theorem rtN : rightT progN = false := by decide +kernel

set_option maxRecDepth 100000 in
set_option maxHeartbeats 1000000 in
theorem awake_any (w : World) (hL : Laid w) :
    Calls Tryz.prog 8 #[] w fun e w' => e = .returned (.bool true) ∧ Below w.heap.size w w' := by
  have HM0 : Hid (Mem w w []) := ⟨hL, Below.refl _ _, fun p hp => by cases hp⟩
  clear hL
  go_enter Tryz.func8, Tryz.ntmps8
  go_wp2_with (go_at_call 21; go_must (refine (of_mem w _ _ HM0.out 3 ⟨#[120]⟩ none 0 0).mono ?_; rintro e w1 ⟨rfl, hm, hb⟩; have HM1 := Lib.hid ((hm.leaf fieldX rfl).row hiveX [(fieldX, .slice none 0 0)] rfl (by decide) (by simp)); clear hm hb; refine Hid.out ?_))
  refine Lib.hid ?_
  go_wp2_with (go_at_call 21; go_must (refine (of_mem w _ _ HM1.out 2 ⟨#[104, 105, 118, 101]⟩ (some ⟨w1.heap.size, 0, none⟩) 1 1).mono ?_; rintro e w2 ⟨rfl, hm, hb⟩; have HM2 := Lib.hid hm; clear hm hb; refine Hid.out ?_))
  refine Lib.hid ?_
  go_wp2_with (go_at_call 21; go_must (refine (of_mem w _ _ (HM2.out.up (below_own (boxN hiveX (.slice (some ⟨w1.heap.size, 0, none⟩) 1 1)))) 11 ⟨#[]⟩ none 0 0).mono ?_; rintro e w3 ⟨rfl, hm, hb⟩; have HM3 := Lib.hid hm; have HB3 := Lib.hid hb; clear hm hb; refine Hid.out ?_))
  refine Lib.hid ?_
  go_wp2_with (go_at_call 21; go_must (refine (of_mem w _ _ HM3.out 5 ⟨#[97]⟩ none 0 0).mono ?_; rintro e w4 ⟨rfl, hm, hb⟩; have HM4 := Lib.hid (((hm.leaf haltL rfl).leaf factL rfl).row lateT [(haltL, .slice none 0 0), (factL, .slice none 0 0)] rfl (by decide) (by simp)); have HB4 := Lib.hid hb; clear hm hb; refine Hid.out ?_))
  refine Lib.hid ?_
  go_wp2_with (go_at_call 21; go_must (refine (of_mem w _ _ HM4.out 4 ⟨#[114]⟩ (some ⟨w4.heap.size, 0, none⟩) 2 2).mono ?_; rintro e w5 ⟨rfl, hm, hb⟩; have HM5 := Lib.hid hm; have HB5 := Lib.hid hb; clear hm hb; refine Hid.out ?_))
  refine Lib.hid ?_
  go_upto_region 3 with fail
  have HL : Hid (Laid (w5.alloc (boxN lateT (.slice (some ⟨w4.heap.size, 0, none⟩) 2 2)))) := HM5.out.laid.below (below_own _)
  have HB : Hid (Below w.heap.size w (w5.alloc (boxN lateT (.slice (some ⟨w4.heap.size, 0, none⟩) 2 2)))) := (HM5.out.up (below_own _)).bel
  have HMid : Hid (∀ a : Act, a.tmps.size = 70 → a.defers = [] → a.eval (.tmp 1) = .pointer (some ⟨w2.heap.size, 0, none⟩) → a.eval (.tmp 2) = .pointer (some ⟨w5.heap.size, 0, none⟩) → Mid 0 w 70 [(1, .var hiveX), (2, .var lateT)] a (w5.alloc (boxN lateT (.slice (some ⟨w4.heap.size, 0, none⟩) 2 2)))) := by
    intro a h1 h2 e1 e2
    refine ⟨h1, h2, HB.out, Nat.zero_le _, fun f hf => ?_⟩
    have hm := HM5.out.up (below_own (boxN lateT (.slice (some ⟨w4.heap.size, 0, none⟩) 2 2)))
    have s3 := HB3.out.size
    have s4 := HB4.out.size
    have s5 := HB5.out.size
    simp at s3 s5
    have hx : (w5.alloc (boxN lateT (.slice (some ⟨w4.heap.size, 0, none⟩) 2 2))).heap[w2.heap.size]? = some (boxN hiveX (.slice (some ⟨w1.heap.size, 0, none⟩) 1 1)) := by
      rw [(below_own (w := w5) (boxN lateT (.slice (some ⟨w4.heap.size, 0, none⟩) 2 2))).block w2.heap.size (by omega), HB5.out.block w2.heap.size (by simp; omega), (below_own (w := w4) _).block w2.heap.size (by omega), HB4.out.block w2.heap.size (by omega), HB3.out.block w2.heap.size (by simp)]
      exact heap_alloc_new w2 _
    simp only [List.mem_cons, List.not_mem_nil, or_false] at hf
    rcases hf with rfl | rfl
    · exact ⟨_, _, e1, ⟨by simp; omega, Nat.zero_le _⟩, hx, (hm.each (hiveX, _) (by simp [T.kids])).keep (fun _ _ => rfl) (fun k hk => ⟨hk, Nat.zero_le _⟩)⟩
    · exact ⟨_, _, e2, ⟨by simp, Nat.zero_le _⟩, heap_alloc_new w5 _, (hm.each (lateT, _) (by simp [T.kids])).keep (fun _ _ => rfl) (fun k hk => ⟨hk, Nat.zero_le _⟩)⟩
  refine wp_region_reg (r := 0) (w0 := (w5.alloc (boxN lateT (.slice (some ⟨w4.heap.size, 0, none⟩) 2 2)))) (bs := 3) (n := 70) (last := 60) (F := [(none, 1, .var hiveX), (none, 2, .var lateT), (some 0, 10, .tree prog0), (some 1, 11, .bool true), (some 2, 12, .bool true), (some 3, 13, .tree hiveX), (some 4, 14, .rows [hiveX]), (some 5, 15, .tree progH), (some 6, 16, .bool true), (some 7, 17, .bool true), (some 8, 18, .bool true), (some 9, 19, .tree fullT), (some 10, 20, .bool true), (some 11, 21, .bool true), (some 12, 22, .bool true), (some 13, 23, .tree hiveX), (some 14, 24, .bool false), (some 15, 25, .bool true), (some 16, 26, .bool true), (some 17, 27, .bool true), (some 18, 28, .tree lateT), (some 19, 29, .rows [lateT]), (some 20, 30, .tree progL), (some 21, 31, .bool false), (some 22, 32, .bool true), (some 23, 33, .bool true), (some 24, 34, .bool true), (some 25, 35, .tree say0), (some 26, 36, .rows [say0]), (some 27, 37, .tree ruleS), (some 28, 38, .rows [ruleS]), (some 29, 39, .tree progS), (some 30, 40, .bool false), (some 31, 41, .bool true), (some 32, 42, .bool true), (some 33, 43, .bool true), (some 34, 44, .tree nm1), (some 35, 45, .rows [nm1]), (some 36, 46, .tree testN), (some 37, 47, .rows [testN]), (some 38, 48, .tree ruleN), (some 39, 49, .rows [ruleN]), (some 40, 50, .tree progN), (some 41, 51, .bool false), (some 42, 52, .bool true), (some 43, 53, .bool true), (some 44, 54, .bool true), (some 45, 55, .tree hiveX), (some 46, 56, .rows [hiveX]), (some 47, 57, .tree progH), (some 48, 58, .num 3), (some 49, 59, .bool true), (some 50, 60, .bool true), (some 51, 61, .bool true), (some 52, 62, .tree hiveX), (some 53, 63, .rows [hiveX]), (some 54, 64, .tree progH), (some 55, 65, .tree hiveX), (some 56, 66, .rows [hiveX]), (some 57, 67, .tree progH), (some 58, 68, .bool true), (some 59, 69, .bool true)]) (by kernel_rfl) (by kernel_rfl) (by decide) (by kernel_rfl) (Mid.start (HMid.out _ rfl rfl rfl rfl) (fun _ _ e => by cases e) (fun f hf hc => ?_) _) (fun listed a W i h hr hi hl => ?_) (fun listed a W h hr => ?_)
  · simp only [List.mem_cons, List.not_mem_nil, or_false] at hf
    rcases hf with rfl | rfl | rfl | rfl | rfl | rfl | rfl | rfl | rfl | rfl | rfl | rfl | rfl | rfl | rfl | rfl | rfl | rfl | rfl | rfl | rfl | rfl | rfl | rfl | rfl | rfl | rfl | rfl | rfl | rfl | rfl | rfl | rfl | rfl | rfl | rfl | rfl | rfl | rfl | rfl | rfl | rfl | rfl | rfl | rfl | rfl | rfl | rfl | rfl | rfl | rfl | rfl | rfl | rfl | rfl | rfl | rfl | rfl | rfl | rfl | rfl | rfl <;> first | (cases hc; done) | simp
  · have hi' : i < 61 := hi
    obtain rfl | rfl | rfl | rfl | rfl | rfl | rfl | rfl | rfl | rfl | rfl | rfl | rfl | rfl | rfl | rfl | rfl | rfl | rfl | rfl | rfl | rfl | rfl | rfl | rfl | rfl | rfl | rfl | rfl | rfl | rfl | rfl | rfl | rfl | rfl | rfl | rfl | rfl | rfl | rfl | rfl | rfl | rfl | rfl | rfl | rfl | rfl | rfl | rfl | rfl | rfl | rfl | rfl | rfl | rfl | rfl | rfl | rfl | rfl | rfl : i = 0 ∨ i = 1 ∨ i = 2 ∨ i = 3 ∨ i = 4 ∨ i = 5 ∨ i = 6 ∨ i = 7 ∨ i = 8 ∨ i = 9 ∨ i = 10 ∨ i = 11 ∨ i = 12 ∨ i = 13 ∨ i = 14 ∨ i = 15 ∨ i = 16 ∨ i = 17 ∨ i = 18 ∨ i = 19 ∨ i = 20 ∨ i = 21 ∨ i = 22 ∨ i = 23 ∨ i = 24 ∨ i = 25 ∨ i = 26 ∨ i = 27 ∨ i = 28 ∨ i = 29 ∨ i = 30 ∨ i = 31 ∨ i = 32 ∨ i = 33 ∨ i = 34 ∨ i = 35 ∨ i = 36 ∨ i = 37 ∨ i = 38 ∨ i = 39 ∨ i = 40 ∨ i = 41 ∨ i = 42 ∨ i = 43 ∨ i = 44 ∨ i = 45 ∨ i = 46 ∨ i = 47 ∨ i = 48 ∨ i = 49 ∨ i = 50 ∨ i = 51 ∨ i = 52 ∨ i = 53 ∨ i = 54 ∨ i = 55 ∨ i = 56 ∨ i = 57 ∨ i = 58 ∨ i = 59 := by omega
    · exact h.program rfl rfl (stood_nil (.mk 0 ⟨#[]⟩ 0 0 []) rfl) rfl rfl (by decide) (by decide)
    · exact h.right rfl rfl (h.got hr 2 rfl (by kernel_rfl)) HL.out (by decide +kernel) rt0 rfl rfl (by decide) (by decide)
    · exact h.move rfl rfl (h.got hr 3 rfl (by kernel_rfl)) rfl rfl (by decide) (by decide)
    · exact h.load rfl (wanted_of rfl (yields_of rfl rfl (h.got hr 4 rfl (by kernel_rfl)))) (h.got hr 0 rfl (by kernel_rfl)) rfl rfl (by decide) (by decide)
    · exact h.slice1 rfl (wanted_of rfl (yields_of rfl rfl (h.got hr 4 rfl (by kernel_rfl)))) (h.got hr 5 rfl (by kernel_rfl)) rfl rfl (by decide) (by decide)
    · exact h.program rfl (wanted_of rfl (yields_of rfl rfl (h.got hr 4 rfl (by kernel_rfl)))) (h.got hr 6 rfl (by kernel_rfl)) rfl rfl (by decide) (by decide)
    · exact h.right rfl (wanted_of rfl (yields_of rfl rfl (h.got hr 4 rfl (by kernel_rfl)))) (h.got hr 7 rfl (by kernel_rfl)) HL.out (by decide +kernel) rtH rfl rfl (by decide) (by decide)
    · exact h.pick rfl rfl (h.got hr 4 rfl (by kernel_rfl)) (h.got hr 8 rfl (by kernel_rfl)) rfl rfl (by decide) (by decide)
    · exact h.move rfl rfl (h.got hr 9 rfl (by kernel_rfl)) rfl rfl (by decide) (by decide)
    · exact h.full rfl (wanted_of rfl (yields_of rfl rfl (h.got hr 10 rfl (by kernel_rfl))))  HL.out rfl rfl (by decide) (by decide)
    · exact h.right rfl (wanted_of rfl (yields_of rfl rfl (h.got hr 10 rfl (by kernel_rfl)))) (h.got hr 11 rfl (by kernel_rfl)) HL.out (by decide +kernel) rtF rfl rfl (by decide) (by decide)
    · exact h.pick rfl rfl (h.got hr 10 rfl (by kernel_rfl)) (h.got hr 12 rfl (by kernel_rfl)) rfl rfl (by decide) (by decide)
    · exact h.move rfl rfl (h.got hr 13 rfl (by kernel_rfl)) rfl rfl (by decide) (by decide)
    · exact h.load rfl (wanted_of rfl (yields_of rfl rfl (h.got hr 14 rfl (by kernel_rfl)))) (h.got hr 0 rfl (by kernel_rfl)) rfl rfl (by decide) (by decide)
    · exact h.right rfl (wanted_of rfl (yields_of rfl rfl (h.got hr 14 rfl (by kernel_rfl)))) (h.got hr 15 rfl (by kernel_rfl)) HL.out (by decide +kernel) rtX rfl rfl (by decide) (by decide)
    · exact h.not rfl (wanted_of rfl (yields_of rfl rfl (h.got hr 14 rfl (by kernel_rfl)))) (h.got hr 16 rfl (by kernel_rfl)) rfl rfl (by decide) (by decide)
    · exact h.pick rfl rfl (h.got hr 14 rfl (by kernel_rfl)) (h.got hr 17 rfl (by kernel_rfl)) rfl rfl (by decide) (by decide)
    · exact h.move rfl rfl (h.got hr 18 rfl (by kernel_rfl)) rfl rfl (by decide) (by decide)
    · exact h.load rfl (wanted_of rfl (yields_of rfl rfl (h.got hr 19 rfl (by kernel_rfl)))) (h.got hr 1 rfl (by kernel_rfl)) rfl rfl (by decide) (by decide)
    · exact h.slice1 rfl (wanted_of rfl (yields_of rfl rfl (h.got hr 19 rfl (by kernel_rfl)))) (h.got hr 20 rfl (by kernel_rfl)) rfl rfl (by decide) (by decide)
    · exact h.program rfl (wanted_of rfl (yields_of rfl rfl (h.got hr 19 rfl (by kernel_rfl)))) (h.got hr 21 rfl (by kernel_rfl)) rfl rfl (by decide) (by decide)
    · exact h.right rfl (wanted_of rfl (yields_of rfl rfl (h.got hr 19 rfl (by kernel_rfl)))) (h.got hr 22 rfl (by kernel_rfl)) HL.out (by decide +kernel) rtL rfl rfl (by decide) (by decide)
    · exact h.not rfl (wanted_of rfl (yields_of rfl rfl (h.got hr 19 rfl (by kernel_rfl)))) (h.got hr 23 rfl (by kernel_rfl)) rfl rfl (by decide) (by decide)
    · exact h.pick rfl rfl (h.got hr 19 rfl (by kernel_rfl)) (h.got hr 24 rfl (by kernel_rfl)) rfl rfl (by decide) (by decide)
    · exact h.move rfl rfl (h.got hr 25 rfl (by kernel_rfl)) rfl rfl (by decide) (by decide)
    · exact h.of rfl (wanted_of rfl (yields_of rfl rfl (h.got hr 26 rfl (by kernel_rfl)))) (stood_nil (.mk 0 ⟨#[]⟩ 0 0 []) rfl) rfl rfl (by decide) (by decide)
    · exact h.slice1 rfl (wanted_of rfl (yields_of rfl rfl (h.got hr 26 rfl (by kernel_rfl)))) (h.got hr 27 rfl (by kernel_rfl)) rfl rfl (by decide) (by decide)
    · exact h.of rfl (wanted_of rfl (yields_of rfl rfl (h.got hr 26 rfl (by kernel_rfl)))) (h.got hr 28 rfl (by kernel_rfl)) rfl rfl (by decide) (by decide)
    · exact h.slice1 rfl (wanted_of rfl (yields_of rfl rfl (h.got hr 26 rfl (by kernel_rfl)))) (h.got hr 29 rfl (by kernel_rfl)) rfl rfl (by decide) (by decide)
    · exact h.program rfl (wanted_of rfl (yields_of rfl rfl (h.got hr 26 rfl (by kernel_rfl)))) (h.got hr 30 rfl (by kernel_rfl)) rfl rfl (by decide) (by decide)
    · exact h.right rfl (wanted_of rfl (yields_of rfl rfl (h.got hr 26 rfl (by kernel_rfl)))) (h.got hr 31 rfl (by kernel_rfl)) HL.out (by decide +kernel) rtS rfl rfl (by decide) (by decide)
    · exact h.not rfl (wanted_of rfl (yields_of rfl rfl (h.got hr 26 rfl (by kernel_rfl)))) (h.got hr 32 rfl (by kernel_rfl)) rfl rfl (by decide) (by decide)
    · exact h.pick rfl rfl (h.got hr 26 rfl (by kernel_rfl)) (h.got hr 33 rfl (by kernel_rfl)) rfl rfl (by decide) (by decide)
    · exact h.move rfl rfl (h.got hr 34 rfl (by kernel_rfl)) rfl rfl (by decide) (by decide)
    · exact h.num rfl (wanted_of rfl (yields_of rfl rfl (h.got hr 35 rfl (by kernel_rfl))))  rfl rfl (by decide) (by decide)
    · exact h.slice1 rfl (wanted_of rfl (yields_of rfl rfl (h.got hr 35 rfl (by kernel_rfl)))) (h.got hr 36 rfl (by kernel_rfl)) rfl rfl (by decide) (by decide)
    · exact h.of rfl (wanted_of rfl (yields_of rfl rfl (h.got hr 35 rfl (by kernel_rfl)))) (h.got hr 37 rfl (by kernel_rfl)) rfl rfl (by decide) (by decide)
    · exact h.slice1 rfl (wanted_of rfl (yields_of rfl rfl (h.got hr 35 rfl (by kernel_rfl)))) (h.got hr 38 rfl (by kernel_rfl)) rfl rfl (by decide) (by decide)
    · exact h.of rfl (wanted_of rfl (yields_of rfl rfl (h.got hr 35 rfl (by kernel_rfl)))) (h.got hr 39 rfl (by kernel_rfl)) rfl rfl (by decide) (by decide)
    · exact h.slice1 rfl (wanted_of rfl (yields_of rfl rfl (h.got hr 35 rfl (by kernel_rfl)))) (h.got hr 40 rfl (by kernel_rfl)) rfl rfl (by decide) (by decide)
    · exact h.program rfl (wanted_of rfl (yields_of rfl rfl (h.got hr 35 rfl (by kernel_rfl)))) (h.got hr 41 rfl (by kernel_rfl)) rfl rfl (by decide) (by decide)
    · exact h.right rfl (wanted_of rfl (yields_of rfl rfl (h.got hr 35 rfl (by kernel_rfl)))) (h.got hr 42 rfl (by kernel_rfl)) HL.out (by decide +kernel) rtN rfl rfl (by decide) (by decide)
    · exact h.not rfl (wanted_of rfl (yields_of rfl rfl (h.got hr 35 rfl (by kernel_rfl)))) (h.got hr 43 rfl (by kernel_rfl)) rfl rfl (by decide) (by decide)
    · exact h.pick rfl rfl (h.got hr 35 rfl (by kernel_rfl)) (h.got hr 44 rfl (by kernel_rfl)) rfl rfl (by decide) (by decide)
    · exact h.move rfl rfl (h.got hr 45 rfl (by kernel_rfl)) rfl rfl (by decide) (by decide)
    · exact h.load rfl (wanted_of rfl (yields_of rfl rfl (h.got hr 46 rfl (by kernel_rfl)))) (h.got hr 0 rfl (by kernel_rfl)) rfl rfl (by decide) (by decide)
    · exact h.slice1 rfl (wanted_of rfl (yields_of rfl rfl (h.got hr 46 rfl (by kernel_rfl)))) (h.got hr 47 rfl (by kernel_rfl)) rfl rfl (by decide) (by decide)
    · exact h.program rfl (wanted_of rfl (yields_of rfl rfl (h.got hr 46 rfl (by kernel_rfl)))) (h.got hr 48 rfl (by kernel_rfl)) rfl rfl (by decide) (by decide)
    · exact h.deep rfl (wanted_of rfl (yields_of rfl rfl (h.got hr 46 rfl (by kernel_rfl)))) (h.got hr 49 rfl (by kernel_rfl)) (by decide +kernel) (by decide +kernel) rfl rfl (by decide) (by decide)
    · exact h.eql rfl (wanted_of rfl (yields_of rfl rfl (h.got hr 46 rfl (by kernel_rfl)))) (h.got hr 50 rfl (by kernel_rfl)) rfl rfl (by decide) (by decide)
    · exact h.pick rfl rfl (h.got hr 46 rfl (by kernel_rfl)) (h.got hr 51 rfl (by kernel_rfl)) rfl rfl (by decide) (by decide)
    · exact h.move rfl rfl (h.got hr 52 rfl (by kernel_rfl)) rfl rfl (by decide) (by decide)
    · exact h.load rfl (wanted_of rfl (yields_of rfl rfl (h.got hr 53 rfl (by kernel_rfl)))) (h.got hr 0 rfl (by kernel_rfl)) rfl rfl (by decide) (by decide)
    · exact h.slice1 rfl (wanted_of rfl (yields_of rfl rfl (h.got hr 53 rfl (by kernel_rfl)))) (h.got hr 54 rfl (by kernel_rfl)) rfl rfl (by decide) (by decide)
    · exact h.program rfl (wanted_of rfl (yields_of rfl rfl (h.got hr 53 rfl (by kernel_rfl)))) (h.got hr 55 rfl (by kernel_rfl)) rfl rfl (by decide) (by decide)
    · exact h.load rfl (wanted_of rfl (yields_of rfl rfl (h.got hr 53 rfl (by kernel_rfl)))) (h.got hr 0 rfl (by kernel_rfl)) rfl rfl (by decide) (by decide)
    · exact h.slice1 rfl (wanted_of rfl (yields_of rfl rfl (h.got hr 53 rfl (by kernel_rfl)))) (h.got hr 57 rfl (by kernel_rfl)) rfl rfl (by decide) (by decide)
    · exact h.program rfl (wanted_of rfl (yields_of rfl rfl (h.got hr 53 rfl (by kernel_rfl)))) (h.got hr 58 rfl (by kernel_rfl)) rfl rfl (by decide) (by decide)
    · exact h.same rfl (wanted_of rfl (yields_of rfl rfl (h.got hr 53 rfl (by kernel_rfl)))) (h.got hr 56 rfl (by kernel_rfl)) (h.got hr 59 rfl (by kernel_rfl)) (by decide +kernel) (by decide +kernel) rfl rfl (by decide) (by decide)
    · exact h.pick rfl rfl (h.got hr 53 rfl (by kernel_rfl)) (h.got hr 60 rfl (by kernel_rfl)) rfl rfl (by decide) (by decide)
  · have h0 : a.eval (.tmp 69) = .bool true := h.got hr 61 rfl (by kernel_rfl)
    refine wpOp_assign rfl rfl h0 ?_
    refine (by assumption : ∀ (a : Act) (w : World), Code.wp _ _ _ a w → _) _ _ (wp_ret ?_)
    have hv : (a.put (some 0) (.bool true)).eval (.tmp 0) = .bool true := eval_put_same _ _ _ (by rw [h.size]; decide)
    refine bodyPost_ret (v := .bool true) ?_ h.defers ⟨rfl, HB.out.trans (h.bel.mono HB.out.size)⟩
    have hr := results_tmp (t := 0) Tryz.results8 (a.put (some 0) (.bool true)).tmps Tryz.prog W
    rw [show (a.put (some 0) (.bool true)).tmps.getD 0 undef = .bool true from hv] at hr
    exact hr
end Go.Proofs.YtmjblkcbkekcbaaGreatDoor

namespace Go.Proofs.YtmjblkcbkekcbaaGreatDoor
open Go.RowKit

theorem Small.short {M : Int} {t : T} (h : Small M t) (hM : M ≤ 9000) : Short t := by
  induction h with
  | mk t ht hl _ ih => exact .mk t (by omega) (by omega) ih

set_option maxRecDepth 100000 in
set_option maxHeartbeats 1000000 in
theorem nodeTells_any (t : T) (v : Value) (w : World) (hk : Lies w.heap.size w t v) (hx : Txt t) (hL : Laid w) :
    Calls Tryz.prog 3 #[agg t v] w fun e w' => e = .returned (.bool true) ∧ Below w.heap.size w w' := by
  have HK := Lib.hid hk
  have HL := Lib.hid hL
  have KA := Lib.hid (fun W (hb : Below w.heap.size w W) => awake_any W (hL.below hb))
  have KN := Lib.hid (fun W (hb : Below w.heap.size w W) => nodesOf_any t W v 9000 (hk.up hb hb.size) hx (by omega) (by omega))
  have KL := Lib.hid (fun W (hb : Below w.heap.size w W) (hS : Small 9000 t) => lent_any t W v (hk.up hb hb.size) (hS.fits (by omega)))
  obtain ⟨ao, c, ps, rfl, k1⟩ := hk.out
  have hmany := nodes_many t 9000
  have hsmall := nodes_small t 9000
  clear hk hx hL k1
  have HBx : Hid (Below w.heap.size w (w.alloc (.cells #[.int .u8 t.kind, .string t.text, .int .i64 t.num, .int .i64 t.pos, .slice ao t.kids.length c] 25))) := below_own _
  unfold agg at *
  go_enter Tryz.func3, Tryz.ntmps3
  generalize t.nodes 9000 = m at *
  by_cases hm : m ≤ 9000
  · have HSm := Lib.hid (hsmall hm)
    have HMy := Lib.hid (hmany hm)
    clear hmany hsmall
    have hm' : ¬ (9000 : Int) < m := by omega
    go_wp2_with (first
      | (go_at_call 7; go_must (refine (KN.out _ HBx.out).mono ?_; rintro e w1 ⟨rfl, hg⟩; obtain ⟨b1, f1⟩ := one_box hg.below; have HB1 := Lib.hid (HBx.out.trans (hg.below.mono HBx.out.size)); have HG1 := Lib.hid hg; clear hg))
      | (go_at_call 9; go_must (refine (KL.out _ HB1.out HSm.out).mono ?_; rintro e w2 ⟨v', rfl, hl, hb⟩; obtain ⟨g, rfl, hgb, hgl⟩ := hl.addr; obtain ⟨c1, f2⟩ := bone (g := w.heap.size) hb (by have := HG1.out.below.size; simp at this; omega); have HLt := Lib.hid hl; have HB2 := Lib.hid hb; clear hl hb; refine Hid.out ?_)))
    refine Lib.hid ?_
    go_wp2_with fail
    have hw1 : w.heap.size < w1.heap.size := by have := HG1.out.below.size; simp at this; omega
    have hw2 : w1.heap.size ≤ w2.heap.size := HB2.out.size
    have HX : Hid (Below w.heap.size w (w2.alloc (.cells #[.int .u8 t.kind, .string t.text, .int .i64 t.num, .int .i64 t.pos, .slice (some ⟨g, 0, none⟩) t.kids.length (t.kids.length + 12)] 25))) := below_new (HB1.out.trans (HB2.out.mono (by omega))) _
    have hX : Below w2.heap.size w2 (w2.alloc (.cells #[.int .u8 t.kind, .string t.text, .int .i64 t.num, .int .i64 t.pos, .slice (some ⟨g, 0, none⟩) t.kids.length (t.kids.length + 12)] 25)) := below_own _
    have n1 : ∀ p : BelW (w2.alloc (.cells #[.int .u8 t.kind, .string t.text, .int .i64 t.num, .int .i64 t.pos, .slice (some ⟨g, 0, none⟩) t.kids.length (t.kids.length + 12)] 25)), ∀ j, p.w.cell? ⟨w.heap.size, j, none⟩ = (#[.int .u8 t.kind, .string t.text, .int .i64 t.num, .int .i64 t.pos, .slice ao t.kids.length c] : Array Value)[j]? := fun p j => by
      rw [(bone p.h (by simp; omega)).1 j, (bone hX (by omega)).1 j, c1 j]
      exact b1 j
    have n2 : ∀ p : BelW (w2.alloc (.cells #[.int .u8 t.kind, .string t.text, .int .i64 t.num, .int .i64 t.pos, .slice (some ⟨g, 0, none⟩) t.kids.length (t.kids.length + 12)] 25)), ∀ j, p.w.cell? ⟨w2.heap.size, j, none⟩ = (#[.int .u8 t.kind, .string t.text, .int .i64 t.num, .int .i64 t.pos, .slice (some ⟨g, 0, none⟩) t.kids.length (t.kids.length + 12)] : Array Value)[j]? := fun p j => (one_box p.h).1 j
    have HSt : Hid (∀ p : BelW (w2.alloc (.cells #[.int .u8 t.kind, .string t.text, .int .i64 t.num, .int .i64 t.pos, .slice (some ⟨g, 0, none⟩) t.kids.length (t.kids.length + 12)] 25)), LentT w1.heap.size p.w t (.slice (some ⟨g, 0, none⟩) t.kids.length (t.kids.length + 12))) := fun p => (HLt.out.old hX).old p.h
    have HLi : Hid (∀ p : BelW (w2.alloc (.cells #[.int .u8 t.kind, .string t.text, .int .i64 t.num, .int .i64 t.pos, .slice (some ⟨g, 0, none⟩) t.kids.length (t.kids.length + 12)] 25)), Lies p.w.heap.size p.w t (.slice ao t.kids.length c)) := fun p => HK.out.up (HX.out.trans (p.h.mono HX.out.size)) (Nat.le_trans HX.out.size p.h.size)
    have HLd : Hid (∀ p : BelW (w2.alloc (.cells #[.int .u8 t.kind, .string t.text, .int .i64 t.num, .int .i64 t.pos, .slice (some ⟨g, 0, none⟩) t.kids.length (t.kids.length + 12)] 25)), Laid p.w) := fun p => HL.out.below (HX.out.trans (p.h.mono HX.out.size))
    have hmy : t.many ≤ 9000 := by have := HMy.out; omega
    have KR : Hid (∀ p : BelW (w2.alloc (.cells #[.int .u8 t.kind, .string t.text, .int .i64 t.num, .int .i64 t.pos, .slice (some ⟨g, 0, none⟩) t.kids.length (t.kids.length + 12)] 25)), Calls Tryz.prog 10 #[.agg #[.int .u8 t.kind, .string t.text, .int .i64 t.num, .int .i64 t.pos, .slice (some ⟨g, 0, none⟩) t.kids.length (t.kids.length + 12)]] p.w fun e w' => e = .returned (.bool (rightT t)) ∧ Below p.w.heap.size p.w w') := fun p => progRight_any t _ p.w (HSt.out p).lies (HLd.out p) (HSm.out.short (by omega))
    have KRr : Hid (∀ p : BelW (w2.alloc (.cells #[.int .u8 t.kind, .string t.text, .int .i64 t.num, .int .i64 t.pos, .slice (some ⟨g, 0, none⟩) t.kids.length (t.kids.length + 12)] 25)), Calls Tryz.prog 11 #[.agg #[.int .u8 t.kind, .string t.text, .int .i64 t.num, .int .i64 t.pos, .slice ao t.kids.length c]] p.w fun e w' => e = .returned (.bool (rightT t)) ∧ Below p.w.heap.size p.w w') := fun p => (refRight_any t p.w _ (HLi.out p) HSm.out (by omega)).mono fun _ _ h => ⟨h.1, h.2.below⟩
    have KD : Hid (∀ p : BelW (w2.alloc (.cells #[.int .u8 t.kind, .string t.text, .int .i64 t.num, .int .i64 t.pos, .slice (some ⟨g, 0, none⟩) t.kids.length (t.kids.length + 12)] 25)), Calls Tryz.prog 12 #[.agg #[.int .u8 t.kind, .string t.text, .int .i64 t.num, .int .i64 t.pos, .slice (some ⟨g, 0, none⟩) t.kids.length (t.kids.length + 12)]] p.w fun e w' => e = .returned (.int .i64 (t.deep : Nat)) ∧ Below p.w.heap.size p.w w') := fun p => progDeep_any t _ p.w ((HSt.out p).stood.keep (fun _ _ => rfl) fun k hk => hk.2) (by omega)
    have KDr : Hid (∀ p : BelW (w2.alloc (.cells #[.int .u8 t.kind, .string t.text, .int .i64 t.num, .int .i64 t.pos, .slice (some ⟨g, 0, none⟩) t.kids.length (t.kids.length + 12)] 25)), Calls Tryz.prog 13 #[.agg #[.int .u8 t.kind, .string t.text, .int .i64 t.num, .int .i64 t.pos, .slice ao t.kids.length c]] p.w fun e w' => e = .returned (.int .i64 (t.deep : Nat)) ∧ Below p.w.heap.size p.w w') := fun p => (refDeep_any t p.w _ (HLi.out p) (by omega)).mono fun _ _ h => ⟨h.1, h.2.below⟩
    have KK : Hid (∀ p : BelW (w2.alloc (.cells #[.int .u8 t.kind, .string t.text, .int .i64 t.num, .int .i64 t.pos, .slice (some ⟨g, 0, none⟩) t.kids.length (t.kids.length + 12)] 25)), Calls Tryz.prog 14 #[.agg #[.int .u8 t.kind, .string t.text, .int .i64 t.num, .int .i64 t.pos, .slice (some ⟨g, 0, none⟩) t.kids.length (t.kids.length + 12)], .agg #[.int .u8 t.kind, .string t.text, .int .i64 t.num, .int .i64 t.pos, .slice ao t.kids.length c]] p.w fun e w' => e = .returned (.bool true) ∧ Below p.w.heap.size p.w w') := fun p => (kept_any t p.w _ _ _ (HSt.out p) (HLi.out p)).mono fun _ _ h => ⟨h.1, h.2.below⟩
    have KW : Hid (∀ p : BelW (w2.alloc (.cells #[.int .u8 t.kind, .string t.text, .int .i64 t.num, .int .i64 t.pos, .slice (some ⟨g, 0, none⟩) t.kids.length (t.kids.length + 12)] 25)), Calls Tryz.prog 8 #[] p.w fun e w' => e = .returned (.bool true) ∧ Below p.w.heap.size p.w w') := fun p => awake_any p.w (HLd.out p)
    have mixed : Tryz.prog.follows .mixedOrders = true := by kernel_rfl
    clear HSt HLi HLd KN KL KA
    generalize rightT t = rt at KR KRr
    generalize (t.deep : Nat) = dp at KD KDr
    refine wp_region_quiet_bel (by assumption) (by kernel_rfl) ?_
    repeat (go_big_quiet_step (first
      | (go_at_call 10; go_must (exact (KR.out _).mono fun _ w' h => ⟨h.1, ⟨w', (BelW.h _).trans (h.2.mono (BelW.h _).size)⟩, rfl⟩))
      | (go_at_call 11; go_must (exact (KRr.out _).mono fun _ w' h => ⟨h.1, ⟨w', (BelW.h _).trans (h.2.mono (BelW.h _).size)⟩, rfl⟩))
      | (go_at_call 12; go_must (exact (KD.out _).mono fun _ w' h => ⟨h.1, ⟨w', (BelW.h _).trans (h.2.mono (BelW.h _).size)⟩, rfl⟩))
      | (go_at_call 13; go_must (exact (KDr.out _).mono fun _ w' h => ⟨h.1, ⟨w', (BelW.h _).trans (h.2.mono (BelW.h _).size)⟩, rfl⟩))
      | (go_at_call 14; go_must (exact (KK.out _).mono fun _ w' h => ⟨h.1, ⟨w', (BelW.h _).trans (h.2.mono (BelW.h _).size)⟩, rfl⟩))
      | (go_at_call 8; go_must (exact (KW.out _).mono fun _ w' h => ⟨h.1, ⟨w', (BelW.h _).trans (h.2.mono (BelW.h _).size)⟩, rfl⟩))))
    refine wpQuiet_nil ?_
    rintro _ ⟨p, rfl⟩
    go_wp2_with fail
    go_ret
    exact ⟨rfl, HX.out.trans (p.h.mono HX.out.size)⟩
  · clear hmany hsmall
    have hm' : (9000 : Int) < m := by omega
    go_wp2_with (first
      | (go_at_call 7; go_must (refine (KN.out _ HBx.out).mono ?_; rintro e w1 ⟨rfl, hg⟩; obtain ⟨b1, f1⟩ := one_box hg.below; have HB1 := Lib.hid (HBx.out.trans (hg.below.mono HBx.out.size)); clear hg))
      | (go_at_call 8; go_must (refine (KA.out _ HB1.out).mono ?_; rintro e w2 ⟨rfl, hb⟩; have HB2 := Lib.hid (HB1.out.trans (hb.mono HB1.out.size)); clear hb)))
    go_ret
    exact ⟨rfl, HB2.out⟩
end Go.Proofs.YtmjblkcbkekcbaaGreatDoor

namespace Go.Proofs.YtmjblkcbkekcbaaGreatDoor
open Go.ChangeShapes Go.WideShapes Go.ChangeAt Go.RowKit

instance : Inhabited T := ⟨.mk 0 ⟨#[]⟩ 0 0 []⟩
theorem cellsNode : Tryz.prog.cellsOf 25 = 5 := by kernel_rfl
set_option maxRecDepth 100000 in
theorem open_node {H : Type} {enc : TypeId × Value → H} {W : World} (fuel : Nat) : ∀ (cs : List Value) (x : DataW H × List MemPlace), DataW.trod enc Tryz.prog W 0 (fun _ => true) true fuel 25 cs = some x →
    ∃ t v, cs = [.int .u8 t.kind, .string t.text, .int .i64 t.num, .int .i64 t.pos, v] ∧ Lies W.heap.size W t v ∧ Txt t := by
  induction fuel using Nat.strongRecOn with
  | ind fuel ih =>
    intro cs x h
    obtain ⟨xs, n, rfl, rfl, hl, hlen, hf⟩ := DataW.trod_struct Tryz.underlying25 h
    rw [cellsNode] at hl
    have c0 : Tryz.prog.cellsOf 22 = 1 := by kernel_rfl
    have c1 : Tryz.prog.cellsOf 9 = 1 := by kernel_rfl
    have c2 : Tryz.prog.cellsOf 3 = 1 := by kernel_rfl
    have c4 : Tryz.prog.cellsOf 23 = 1 := by kernel_rfl
    match cs, hl, xs, hlen with
    | [v0, v1, v2, v3, v4], _, [y0, y1, y2, y3, y4], _ =>
      have g0 := hf 0 _ rfl
      have g1 := hf 1 _ rfl
      have g2 := hf 2 _ rfl
      have g3 := hf 3 _ rfl
      have g4 := hf 4 _ rfl
      simp [c0, c1, c2, c4] at g0 g1 g2 g3 g4
      obtain ⟨k0, e0, _, wk⟩ := DataW.trod_int Tryz.underlying22 g0
      obtain ⟨s0, e1, _, ws⟩ := DataW.trod_string Tryz.underlying9 g1
      obtain ⟨n0, e2, _, wn⟩ := DataW.trod_int Tryz.underlying3 g2
      obtain ⟨p0, e3, _, wp⟩ := DataW.trod_int Tryz.underlying3 g3
      simp at e0 e1 e2 e3
      subst e0 e1 e2 e3
      rcases DataW.trod_slice Tryz.underlying23 g4 with ⟨e4, _⟩ | ⟨a, len, cap, elems, rest, n', hn, e4, _, _, hlc, hcm, hel, hat, _, _⟩
      · simp at e4
        subst e4
        exact ⟨.mk k0 s0 n0 p0 [], .slice none 0 0, rfl, .mk (.mk k0 s0 n0 p0 []) none 0 [] rfl (fun e => absurd rfl e) (fun _ => rfl) (Nat.le_refl _) (by unfold maxLen; omega) (fun p hp => by cases hp), .mk (.mk k0 s0 n0 p0 []) ws fun k hk => by cases hk⟩
      · simp at e4
        subst e4 hn
        have each : ∀ i, i < len → ∃ q : T × Value, (Lies W.heap.size W q.1 q.2 ∧ Txt q.1) ∧ ∀ j, j < 5 → W.cell? ((a.add (i * 5)).add j) = [Value.int .u8 q.1.kind, .string q.1.text, .int .i64 q.1.num, .int .i64 q.1.pos, q.2][j]? := by
          intro i hi
          have h1 := hat i hi
          rw [cellsNode, List.getElem?_eq_getElem (by omega), Option.bind_eq_some_iff] at h1
          obtain ⟨cs', h2, h3⟩ := h1
          obtain ⟨t, v, rfl, h4, h5⟩ := ih n' (by omega) _ _ h3
          exact ⟨(t, v), ⟨h4, h5⟩, (World.cells?_some h2).2.2⟩
        obtain ⟨q, hq⟩ := Deep.choose_lt each
        have hps : ∀ p, p ∈ (List.range len).map q → Lies W.heap.size W p.1 p.2 ∧ Txt p.1 := by
          intro p hp
          simp only [List.mem_map, List.mem_range] at hp
          obtain ⟨i, hi, rfl⟩ := hp
          exact (hq i hi).1
        have hcell : ∀ (j : Nat) (u : Value), (cellsN ((List.range len).map q))[j]? = some u → W.cell? (a.add j) = some u := by
          intro j u hu
          have hj : j < len * 5 := by
            have := (List.getElem?_eq_some_iff.1 hu).1
            rw [cellsN_length] at this
            simpa using this
          have hi : j / 5 < len := by omega
          have hr : j % 5 < 5 := by omega
          have h1 := (hq (j / 5) hi).2 (j % 5) hr
          rw [Deep.add_add, show j / 5 * 5 + j % 5 = j by omega] at h1
          rw [h1, ← hu]
          obtain ⟨z0, z1, z2, z3, z4⟩ := cellsN_at ((List.range len).map q) (j / 5) (by simpa using hi)
          simp only [List.getElem_map, List.getElem_range] at z0 z1 z2 z3 z4
          have hjj : j = j / 5 * 5 + j % 5 := by omega
          generalize j / 5 = i at *
          generalize j % 5 = r at *
          subst hjj
          have hr' : r = 0 ∨ r = 1 ∨ r = 2 ∨ r = 3 ∨ r = 4 := by omega
          rcases hr' with rfl | rfl | rfl | rfl | rfl
          · exact z0.symm
          · exact z1.symm
          · exact z2.symm
          · exact z3.symm
          · exact z4.symm
        refine ⟨.mk k0 s0 n0 p0 (((List.range len).map q).map Prod.fst), .slice (some a) len cap, rfl, ?_, .mk (.mk k0 s0 n0 p0 (((List.range len).map q).map Prod.fst)) ws fun k hk => ?_⟩
        · have hlen2 : (T.mk k0 s0 n0 p0 (((List.range len).map q).map Prod.fst)).kids.length = len := by simp [T.kids]
          have := Lies.mk (B := W.heap.size) (w := W) (.mk k0 s0 n0 p0 (((List.range len).map q).map Prod.fst)) (some a) cap ((List.range len).map q) rfl ?_ (fun e => by cases e) (by rw [hlen2]; exact hlc) hcm (fun p hp => (hps p hp).1)
          · rw [hlen2] at this
            exact this
          · intro hne
            obtain ⟨b, off, path⟩ := a
            obtain ⟨u, hu⟩ : ∃ u, (cellsN ((List.range len).map q))[0]? = some u := by
              cases hz : cellsN ((List.range len).map q) with
              | nil => exact absurd hz hne
              | cons u l => exact ⟨u, rfl⟩
            have h0 := hcell 0 u hu
            have hp : path = none := by
              cases path with
              | none => rfl
              | some z => exfalso; revert h0; simp only [Addr.add, World.cell?]; split <;> simp
            subst hp
            refine ⟨b, off, rfl, ?_, fun j u hu => ?_⟩
            · apply Classical.byContradiction
              intro hn
              have hnone : W.heap[b]? = none := Array.getElem?_eq_none (by omega)
              revert h0
              simp [Addr.add, World.cell?, hnone]
            · have := hcell j u hu
              rwa [Addr.add_lit] at this
        · have hk' : k ∈ ((List.range len).map q).map Prod.fst := hk
          obtain ⟨p, hp, rfl⟩ := List.mem_map.1 hk'
          exact (hps p hp).2
end Go.Proofs.YtmjblkcbkekcbaaGreatDoor

namespace Go.Proofs.YtmjblkcbkekcbaaGreatDoor
open Go.ChangeShapes Go.WideShapes Go.ChangeAt Go.RowKit

theorem open_arg {H : Type} {enc : TypeId × Value → H} {W : World} {v : Value} {d : DataW H} {p : List MemPlace} (h : DataW.Trod enc Tryz.prog W 0 (fun _ => true) true 25 v d p) :
    ∃ t u, v = agg t u ∧ Lies W.heap.size W t u ∧ Txt t := by
  obtain ⟨fuel, hf⟩ := h
  obtain ⟨t, u, hcs, hl, hx⟩ := open_node fuel _ _ hf
  refine ⟨t, u, ?_, hl, hx⟩
  cases v with
  | agg cs =>
    have : cs.toList = [.int .u8 t.kind, .string t.text, .int .i64 t.num, .int .i64 t.pos, u] := hcs
    obtain ⟨l⟩ := cs
    simp only at this
    subst this
    rfl
  | _ => simp [Value.cells] at hcs

theorem cells_of_strs {H : Type} {enc : TypeId × Value → H} {P : Program} {w : World} {base : Nat} {sp : Nat → Bool} {held : Bool} {fuel : Nat} {t e : TypeId} {n : Nat} {cs : List Value} {zs : List ByteArray} {p : List MemPlace}
    (ht : P.underlying t = some (.array n e)) (he : P.underlying e = some .string) (hce : P.cellsOf e = 1) (hct : P.cellsOf t = n)
    (h : DataW.trod enc P w base sp held fuel t cs = some (.agg (zs.map fun z => .lit (.string z.data.toList)), p)) : cs = zs.map fun z => Value.string z := by
  cases fuel with
  | zero => simp [DataW.trod] at h
  | succ fuel =>
    simp only [DataW.trod, ht, hce, hct, Nat.mul_one] at h
    split at h
    · rename_i hl
      obtain ⟨xs, hm, hx⟩ := Option.map_eq_some_iff.1 h
      have hxs : xs.map (·.1) = zs.map fun z => (DataW.lit (.string z.data.toList) : DataW H) := by
        have := congrArg Prod.fst hx
        simpa using this
      have hxl : xs.length = n := by simpa using Lib.mapM_length hm
      have hzl : zs.length = n := by
        have := congrArg List.length hxs
        simp at this
        omega
      apply List.ext_getElem?
      intro i
      by_cases hi : i < n
      · obtain ⟨b, hb, hf⟩ := Lib.mapM_at hm i i (by simp [hi])
        obtain ⟨z, hc, rfl, _⟩ := DataW.trod_string he hf
        have h1 : cs[i]? = some (.string z) := by
          have := congrArg (·[0]?) hc
          simpa [List.getElem?_take, List.getElem?_drop] using this
        have h2 : (xs.map (·.1))[i]? = some (DataW.lit (.string z.data.toList) : DataW H) := by simp [hb]
        rw [hxs] at h2
        simp only [List.getElem?_map, Option.map_eq_some_iff, DataW.lit.injEq, Lit.string.injEq] at h2
        obtain ⟨z', hz', hzz⟩ := h2
        have : z' = z := by
          cases z'; cases z
          congr 1
          exact Array.toList_inj.1 hzz
        subst this
        simp [h1, hz']
      · rw [List.getElem?_eq_none (by omega), List.getElem?_eq_none (by simp; omega)]
    · cases h
theorem strs_of_head {P : Program} {W : World} {name : String} {zs : List ByteArray} {rest : List (String × DataW Unit)} {g : Nat} {t e : TypeId} {n : Nat}
    (hg : P.globalNamed name = some g) (hty : (P.globals[g]?).map (·.type) = some t) (ht : P.underlying t = some (.array n e)) (he : P.underlying e = some .string) (hce : P.cellsOf e = 1) (hct : P.cellsOf t = n)
    (h : laidMet P ((name, .agg (zs.map fun z => .lit (.string z.data.toList))) :: rest) W) : W.var? P name = some (zs.map fun z => Value.string z).toArray := by
  obtain ⟨ps, ⟨g', t', cs, fuel, p, q, hg', ht', hvar, hd, _, _⟩, _⟩ := h
  obtain rfl := Option.some.inj (hg.symm.trans hg')
  obtain rfl := Option.some.inj (hty.symm.trans ht')
  rw [hvar, ← cells_of_strs ht he hce hct hd]
end Go.Proofs.YtmjblkcbkekcbaaGreatDoor

namespace Go.Proofs.YtmjblkcbkekcbaaGreatDoor
open Go.RowKit

theorem LentT.keep2 {base : Nat} {w w' : World} {t : T} {v : Value} (h : LentT base w t v) (hb : ∀ k, base ≤ k → k < w.heap.size → w'.heap[k]? = w.heap[k]?) : LentT base w' t v := by
  induction h with
  | mk t g cur ps hk hl hbg hg hc _ ih => exact .mk t g cur ps hk hl hbg ((hb g hbg (lt_of_heap hg)).trans hg) hc ih

/-- Lent, beside boxes B that may be stored to. -/
def LF (lo : Nat) (t : T) (v : Value) (B : Nat → Prop) (w : World) : Prop := ∃ (base : Nat) (W : World), LentT base W t v ∧ lo ≤ base ∧ W.heap.size ≤ w.heap.size ∧ (∀ k, base ≤ k → k < W.heap.size → w.heap[k]? = W.heap[k]?) ∧ ∀ k, B k → k < base ∨ W.heap.size ≤ k
theorem LF.new {lo : Nat} {t : T} {v : Value} {B : Nat → Prop} {w w' : World} (h : LentT w.heap.size w' t v) (hl : lo ≤ w.heap.size) (hB : ∀ k, B k → k < w.heap.size) : LF lo t v B w' :=
  ⟨w.heap.size, w', h, hl, Nat.le_refl _, fun _ _ _ => rfl, fun k hk => Or.inl (hB k hk)⟩
theorem LF.up {lo : Nat} {t : T} {v : Value} {B B' : Nat → Prop} {w w' : World} (h : LF lo t v B w) (b : Below w.heap.size w w') (hB : ∀ k, B' k → B k ∨ w.heap.size ≤ k) : LF lo t v B' w' := by
  obtain ⟨base, W, h1, h2, h3, h4, h5⟩ := h
  refine ⟨base, W, h1, h2, Nat.le_trans h3 b.size, fun k hk hk2 => (b.block k (by omega)).trans (h4 k hk hk2), fun k hk => ?_⟩
  rcases hB k hk with hk | hk
  · exact h5 k hk
  · exact Or.inr (by omega)
theorem LF.store {lo c : Nat} {t : T} {v : Value} {B : Nat → Prop} {w w' : World} (h : LF lo t v B w) (b : Fr c w w') (hc : B c) : LF lo t v B w' := by
  obtain ⟨base, W, h1, h2, h3, h4, h5⟩ := h
  refine ⟨base, W, h1, h2, Nat.le_trans h3 b.size, fun k hk hk2 => (b.block k (by omega) (fun e => ?_)).trans (h4 k hk hk2), h5⟩
  have hcb := h5 c hc
  have := Option.some.inj e
  omega
theorem LF.out {lo : Nat} {t : T} {v : Value} {B : Nat → Prop} {w : World} (h : LF lo t v B w) : ∃ base, lo ≤ base ∧ LentT base w t v := by
  obtain ⟨base, W, h1, h2, h3, h4, -⟩ := h
  exact ⟨base, h2, h1.keep2 h4⟩
end Go.Proofs.YtmjblkcbkekcbaaGreatDoor

namespace Go.Proofs.YtmjblkcbkekcbaaGreatDoor
open Go.RowKit

/-- One of two variables on the way: the raw tree, the lent one, the box, and which of them are there. -/
def Side (lo : Nat) (B : Nat → Prop) (t : T) (v0 x y z : Value) (i0 i1 i4 i6 : Bool) (w : World) : Prop :=
  (i0 = true → x = agg t v0) ∧ (i1 = true → ∃ v, y = agg t v ∧ LF lo t v B w) ∧
  (i4 = true → ∃ b, z = .pointer (some ⟨b, 0, none⟩) ∧ lo ≤ b ∧ b < w.heap.size ∧ (i6 = false → w.heap[b]? = some zeroN) ∧ (i6 = true → ∃ v, w.heap[b]? = some (boxN t v) ∧ LF lo t v B w))
theorem Side.up {lo : Nat} {B B' : Nat → Prop} {t : T} {v0 x y z : Value} {i0 i1 i4 i6 : Bool} {w w' : World} (h : Side lo B t v0 x y z i0 i1 i4 i6 w) (b : Below w.heap.size w w') (hB : ∀ k, B' k → B k ∨ w.heap.size ≤ k) : Side lo B' t v0 x y z i0 i1 i4 i6 w' := by
  obtain ⟨h0, h1, h4⟩ := h
  refine ⟨h0, fun e => ?_, fun e => ?_⟩
  · obtain ⟨v, e1, e2⟩ := h1 e
    exact ⟨v, e1, e2.up b hB⟩
  · obtain ⟨c, e1, e2, e3, e4, e5⟩ := h4 e
    refine ⟨c, e1, e2, Nat.lt_of_lt_of_le e3 b.size, fun e => (b.block c e3).trans (e4 e), fun e => ?_⟩
    obtain ⟨v, f1, f2⟩ := e5 e
    exact ⟨v, (b.block c e3).trans f1, f2.up b hB⟩
/-- A store to another box. -/
theorem Side.other {lo c : Nat} {B : Nat → Prop} {t : T} {v0 x y z : Value} {i0 i1 i4 i6 : Bool} {w w' : World} (h : Side lo B t v0 x y z i0 i1 i4 i6 w) (f : Fr c w w') (hc : B c) (hn : z ≠ .pointer (some ⟨c, 0, none⟩)) : Side lo B t v0 x y z i0 i1 i4 i6 w' := by
  obtain ⟨h0, h1, h4⟩ := h
  refine ⟨h0, fun e => ?_, fun e => ?_⟩
  · obtain ⟨v, e1, e2⟩ := h1 e
    exact ⟨v, e1, e2.store f hc⟩
  · obtain ⟨d, e1, e2, e3, e4, e5⟩ := h4 e
    have hd : w'.heap[d]? = w.heap[d]? := f.block d e3 (fun e => hn (by rw [e1]; cases e; rfl))
    refine ⟨d, e1, e2, Nat.lt_of_lt_of_le e3 f.size, fun e => hd.trans (e4 e), fun e => ?_⟩
    obtain ⟨v, f1, f2⟩ := e5 e
    exact ⟨v, hd.trans f1, f2.store f hc⟩
/-- The store to its own box. -/
theorem Side.own {lo b : Nat} {B : Nat → Prop} {t : T} {v0 x y z v : Value} {i0 i1 i4 i6 : Bool} {w w' : World} (h : Side lo B t v0 x y z i0 i1 i4 i6 w) (f : Fr b w w') (hc : B b) (hz : z = .pointer (some ⟨b, 0, none⟩)) (hlo : lo ≤ b) (hb : w'.heap[b]? = some (boxN t v)) (hl : LF lo t v B w) (hbs : b < w.heap.size) : Side lo B t v0 x y z i0 i1 i4 true w' := by
  obtain ⟨h0, h1, h4⟩ := h
  refine ⟨h0, fun e => ?_, fun e => ⟨b, hz, hlo, Nat.lt_of_lt_of_le hbs f.size, (fun e => by cases e), fun _ => ⟨v, hb, hl.store f hc⟩⟩⟩
  obtain ⟨v, e1, e2⟩ := h1 e
  exact ⟨v, e1, e2.store f hc⟩

/-- The boxes that slots 5 and 6 point to. -/
def Bx (a : Act) (k : Nat) : Prop := a.eval (.tmp 5) = .pointer (some ⟨k, 0, none⟩) ∨ a.eval (.tmp 6) = .pointer (some ⟨k, 0, none⟩)
theorem bx_put {a : Act} {d : Nat} {v : Value} (h5 : 5 ≠ d) (h6 : 6 ≠ d) (k : Nat) : Bx (a.put (some d) v) k → Bx a k := fun h => by
  unfold Bx at h
  rw [eval_put_ne _ _ _ _ h5, eval_put_ne _ _ _ _ h6] at h
  exact h

structure NS (t u : T) (v1 v2 : Value) (g : Nat) (w0 : World) (listed : Array Bool) (a : Act) (w : World) : Prop where
  size : a.tmps.size = 45
  defers : a.defers = []
  bel : Below w0.heap.size w0 w
  s2 : a.eval (.tmp 2) = .pointer (some ⟨g, 0, none⟩)
  s3 : a.eval (.tmp 3) = .pointer (some ⟨g + 1, 0, none⟩)
  fresh : ∀ k, Bx a k → k < w.heap.size
  ne : ∀ k, a.eval (.tmp 5) = .pointer (some ⟨k, 0, none⟩) → a.eval (.tmp 6) ≠ .pointer (some ⟨k, 0, none⟩)
  one : Side w0.heap.size (Bx a) t v1 (a.eval (.tmp 16)) (a.eval (.tmp 17)) (a.eval (.tmp 5)) (listed.getD 0 false) (listed.getD 1 false) (listed.getD 4 false) (listed.getD 6 false) w
  two : Side w0.heap.size (Bx a) u v2 (a.eval (.tmp 18)) (a.eval (.tmp 19)) (a.eval (.tmp 6)) (listed.getD 2 false) (listed.getD 3 false) (listed.getD 5 false) (listed.getD 7 false) w

theorem own_listed {listed : Array Bool} {i : Nat} (h : i < listed.size) : (listed.setIfInBounds i true).getD i false = true := by
  simp [h]
/-- A slot that is none of the boxes gets its value; the world grows. -/
theorem NS.put {t u : T} {v1 v2 : Value} {g : Nat} {w0 : World} {listed : Array Bool} {a : Act} {w w' : World} (h : NS t u v1 v2 g w0 listed a w) (b : Below w.heap.size w w') (i d : Nat) (v : Value) (h2 : 2 ≠ d) (h3 : 3 ≠ d) (h5 : 5 ≠ d) (h6 : 6 ≠ d)
    (h1 : Side w0.heap.size (Bx (a.put (some d) v)) t v1 ((a.put (some d) v).eval (.tmp 16)) ((a.put (some d) v).eval (.tmp 17)) (a.eval (.tmp 5)) ((listed.setIfInBounds i true).getD 0 false) ((listed.setIfInBounds i true).getD 1 false) ((listed.setIfInBounds i true).getD 4 false) ((listed.setIfInBounds i true).getD 6 false) w')
    (h4 : Side w0.heap.size (Bx (a.put (some d) v)) u v2 ((a.put (some d) v).eval (.tmp 18)) ((a.put (some d) v).eval (.tmp 19)) (a.eval (.tmp 6)) ((listed.setIfInBounds i true).getD 2 false) ((listed.setIfInBounds i true).getD 3 false) ((listed.setIfInBounds i true).getD 5 false) ((listed.setIfInBounds i true).getD 7 false) w') : NS t u v1 v2 g w0 (listed.setIfInBounds i true) (a.put (some d) v) w' where
  size := by
    show (a.tmps.setIfInBounds d v).size = 45
    rw [Array.size_setIfInBounds]
    exact h.size
  defers := h.defers
  bel := h.bel.trans (b.mono h.bel.size)
  s2 := by rw [eval_put_ne _ _ _ _ h2]; exact h.s2
  s3 := by rw [eval_put_ne _ _ _ _ h3]; exact h.s3
  fresh := fun k hk => Nat.lt_of_lt_of_le (h.fresh k (bx_put h5 h6 k hk)) b.size
  ne := fun k => by
    rw [eval_put_ne _ _ _ _ h5, eval_put_ne _ _ _ _ h6]
    exact h.ne k
  one := by rw [eval_put_ne _ _ _ _ h5]; exact h1
  two := by rw [eval_put_ne _ _ _ _ h6]; exact h4

section
variable {ops : Array Oper} {Q : Exit → Act → World → Prop} {a : Act} {w : World} {i d : Nat} {ty : TypeId} {pos : String} {after : Array Edge} {ts : Array TypeId} {t u : T} {v1 v2 : Value} {g : Nat} {w0 : World} {listed : Array Bool}
theorem NS.load1 (h : NS t u v1 v2 g w0 listed a w) (hi : ops[0]? = some { dst := some 16, op := .load 25 (.tmp 2), type := ty, pos := pos, after := after, guard := none })
    (hg : g < w0.heap.size) (hc : ∀ j, w0.cell? ⟨g, j, none⟩ = (#[.int .u8 t.kind, .string t.text, .int .i64 t.num, .int .i64 t.pos, v1] : Array Value)[j]?) : wpOp Tryz.prog ops Q 0 (NS t u v1 v2 g w0 (listed.setIfInBounds 0 true)) a w := by
  refine wpOp_load hi rfl h.s2 (fun j => by rw [(bone h.bel hg).1 j]; exact hc j) ?_
  refine h.put (Below.refl _ _) 0 16 _ (by decide) (by decide) (by decide) (by decide) ?_ ?_
  · have := h.one.up (Below.refl _ _) (B' := Bx (a.put (some 16) (agg t v1))) (fun k hk => Or.inl (bx_put (by decide) (by decide) k hk))
    rw [getD_set_ne false (by decide : (0 : Nat) ≠ 1), getD_set_ne false (by decide : (0 : Nat) ≠ 4), getD_set_ne false (by decide : (0 : Nat) ≠ 6), eval_put_ne _ _ _ _ (by decide : (17 : Nat) ≠ 16)]
    exact ⟨fun _ => eval_put_same _ _ _ (by rw [h.size]; decide), this.2⟩
  · have := h.two.up (Below.refl _ _) (B' := Bx (a.put (some 16) (agg t v1))) (fun k hk => Or.inl (bx_put (by decide) (by decide) k hk))
    rw [getD_set_ne false (by decide : (0 : Nat) ≠ 2), getD_set_ne false (by decide : (0 : Nat) ≠ 3), getD_set_ne false (by decide : (0 : Nat) ≠ 5), getD_set_ne false (by decide : (0 : Nat) ≠ 7), eval_put_ne _ _ _ _ (by decide : (18 : Nat) ≠ 16), eval_put_ne _ _ _ _ (by decide : (19 : Nat) ≠ 16)]
    exact this
theorem NS.load2 (h : NS t u v1 v2 g w0 listed a w) (hi : ops[2]? = some { dst := some 18, op := .load 25 (.tmp 3), type := ty, pos := pos, after := after, guard := none })
    (hg : g + 1 < w0.heap.size) (hc : ∀ j, w0.cell? ⟨g + 1, j, none⟩ = (#[.int .u8 u.kind, .string u.text, .int .i64 u.num, .int .i64 u.pos, v2] : Array Value)[j]?) : wpOp Tryz.prog ops Q 2 (NS t u v1 v2 g w0 (listed.setIfInBounds 2 true)) a w := by
  refine wpOp_load hi rfl h.s3 (fun j => by rw [(bone h.bel hg).1 j]; exact hc j) ?_
  refine h.put (Below.refl _ _) 2 18 _ (by decide) (by decide) (by decide) (by decide) ?_ ?_
  · have := h.one.up (Below.refl _ _) (B' := Bx (a.put (some 18) (agg u v2))) (fun k hk => Or.inl (bx_put (by decide) (by decide) k hk))
    rw [getD_set_ne false (by decide : (2 : Nat) ≠ 0), getD_set_ne false (by decide : (2 : Nat) ≠ 1), getD_set_ne false (by decide : (2 : Nat) ≠ 4), getD_set_ne false (by decide : (2 : Nat) ≠ 6), eval_put_ne _ _ _ _ (by decide : (16 : Nat) ≠ 18), eval_put_ne _ _ _ _ (by decide : (17 : Nat) ≠ 18)]
    exact this
  · have := h.two.up (Below.refl _ _) (B' := Bx (a.put (some 18) (agg u v2))) (fun k hk => Or.inl (bx_put (by decide) (by decide) k hk))
    rw [getD_set_ne false (by decide : (2 : Nat) ≠ 3), getD_set_ne false (by decide : (2 : Nat) ≠ 5), getD_set_ne false (by decide : (2 : Nat) ≠ 7), eval_put_ne _ _ _ _ (by decide : (19 : Nat) ≠ 18)]
    exact ⟨fun _ => eval_put_same _ _ _ (by rw [h.size]; decide), this.2⟩
theorem NS.call1 (h : NS t u v1 v2 g w0 listed a w) (hi : ops[1]? = some { dst := some 17, op := .call { callee := .value (.func 9), args := #[.tmp 16], argTypes := ts }, type := ty, pos := pos, after := after, guard := none })
    (h0 : listed.getD 0 false = true) (hL : ∀ W, Below w0.heap.size w0 W → Lies W.heap.size W t v1) (hF : Fits t) : wpOp Tryz.prog ops Q 1 (NS t u v1 v2 g w0 (listed.setIfInBounds 1 true)) a w := by
  refine wpOp_call (vs := #[agg t v1]) hi rfl (enters_of Tryz.func9 (by kernel_rfl) rfl) (by simp [h.one.1 h0]) ?_
  refine (lent_any t w v1 (hL w h.bel) hF).mono ?_
  rintro e w' ⟨v', rfl, hl, hb⟩
  refine ⟨_, rfl, h.put hb 1 17 _ (by decide) (by decide) (by decide) (by decide) ?_ ?_⟩
  · have := h.one.up hb (B' := Bx (a.put (some 17) (agg t v'))) (fun k hk => Or.inl (bx_put (by decide) (by decide) k hk))
    rw [getD_set_ne false (by decide : (1 : Nat) ≠ 0), getD_set_ne false (by decide : (1 : Nat) ≠ 4), getD_set_ne false (by decide : (1 : Nat) ≠ 6), eval_put_ne _ _ _ _ (by decide : (16 : Nat) ≠ 17)]
    exact ⟨this.1, fun _ => ⟨v', eval_put_same _ _ _ (by rw [h.size]; decide), LF.new hl h.bel.size (fun k hk => h.fresh k (bx_put (by decide) (by decide) k hk))⟩, this.2.2⟩
  · have := h.two.up hb (B' := Bx (a.put (some 17) (agg t v'))) (fun k hk => Or.inl (bx_put (by decide) (by decide) k hk))
    rw [getD_set_ne false (by decide : (1 : Nat) ≠ 2), getD_set_ne false (by decide : (1 : Nat) ≠ 3), getD_set_ne false (by decide : (1 : Nat) ≠ 5), getD_set_ne false (by decide : (1 : Nat) ≠ 7), eval_put_ne _ _ _ _ (by decide : (18 : Nat) ≠ 17), eval_put_ne _ _ _ _ (by decide : (19 : Nat) ≠ 17)]
    exact this
theorem NS.call2 (h : NS t u v1 v2 g w0 listed a w) (hi : ops[3]? = some { dst := some 19, op := .call { callee := .value (.func 9), args := #[.tmp 18], argTypes := ts }, type := ty, pos := pos, after := after, guard := none })
    (h0 : listed.getD 2 false = true) (hL : ∀ W, Below w0.heap.size w0 W → Lies W.heap.size W u v2) (hF : Fits u) : wpOp Tryz.prog ops Q 3 (NS t u v1 v2 g w0 (listed.setIfInBounds 3 true)) a w := by
  refine wpOp_call (vs := #[agg u v2]) hi rfl (enters_of Tryz.func9 (by kernel_rfl) rfl) (by simp [h.two.1 h0]) ?_
  refine (lent_any u w v2 (hL w h.bel) hF).mono ?_
  rintro e w' ⟨v', rfl, hl, hb⟩
  refine ⟨_, rfl, h.put hb 3 19 _ (by decide) (by decide) (by decide) (by decide) ?_ ?_⟩
  · have := h.one.up hb (B' := Bx (a.put (some 19) (agg u v'))) (fun k hk => Or.inl (bx_put (by decide) (by decide) k hk))
    rw [getD_set_ne false (by decide : (3 : Nat) ≠ 0), getD_set_ne false (by decide : (3 : Nat) ≠ 1), getD_set_ne false (by decide : (3 : Nat) ≠ 4), getD_set_ne false (by decide : (3 : Nat) ≠ 6), eval_put_ne _ _ _ _ (by decide : (16 : Nat) ≠ 19), eval_put_ne _ _ _ _ (by decide : (17 : Nat) ≠ 19)]
    exact this
  · have := h.two.up hb (B' := Bx (a.put (some 19) (agg u v'))) (fun k hk => Or.inl (bx_put (by decide) (by decide) k hk))
    rw [getD_set_ne false (by decide : (3 : Nat) ≠ 2), getD_set_ne false (by decide : (3 : Nat) ≠ 5), getD_set_ne false (by decide : (3 : Nat) ≠ 7), eval_put_ne _ _ _ _ (by decide : (18 : Nat) ≠ 19)]
    exact ⟨this.1, fun _ => ⟨v', eval_put_same _ _ _ (by rw [h.size]; decide), LF.new hl h.bel.size (fun k hk => h.fresh k (bx_put (by decide) (by decide) k hk))⟩, this.2.2⟩
theorem ptr_inj {b c : Nat} (h : Value.pointer (some ⟨b, 0, none⟩) = .pointer (some ⟨c, 0, none⟩)) : b = c := by
  injection h with h
  injection h with h
  injection h with h
theorem NS.alloc1 (h : NS t u v1 v2 g w0 listed a w) (hi : ops[4]? = some { dst := some 5, op := .alloc 25, type := ty, pos := pos, after := after, guard := none }) (h6 : listed.getD 6 false = false) : wpOp Tryz.prog ops Q 4 (NS t u v1 v2 g w0 (listed.setIfInBounds 4 true)) a w := by
  refine wpOp_alloc hi rfl ?_
  have hb := below_own (w := w) zeroN
  have hB : ∀ k, Bx (a.put (some 5) (.pointer (some ⟨w.heap.size, 0, none⟩))) k → Bx a k ∨ w.heap.size ≤ k := fun k hk => by
    unfold Bx at hk
    rw [eval_put_same _ _ _ (by rw [h.size]; decide), eval_put_ne _ _ _ _ (by decide : (6 : Nat) ≠ 5)] at hk
    rcases hk with hk | hk
    · exact Or.inr (by rw [ptr_inj hk]; exact Nat.le_refl _)
    · exact Or.inl (Or.inr hk)
  have h1 := h.one.up hb hB
  have h2 := h.two.up hb hB
  refine ⟨?_, h.defers, h.bel.trans (hb.mono h.bel.size), ?_, ?_, fun k hk => ?_, fun k hk hk6 => ?_, ?_, ?_⟩
  · show (a.tmps.setIfInBounds 5 _).size = 45
    rw [Array.size_setIfInBounds]
    exact h.size
  · rw [eval_put_ne _ _ _ _ (by decide)]; exact h.s2
  · rw [eval_put_ne _ _ _ _ (by decide)]; exact h.s3
  · have hk' := hk
    unfold Bx at hk
    rw [eval_put_same _ _ _ (by rw [h.size]; decide), eval_put_ne _ _ _ _ (by decide : (6 : Nat) ≠ 5)] at hk
    rcases hk with hk | hk
    · rw [← ptr_inj hk]; simp
    · have := h.fresh k (Or.inr hk); simp; omega
  · rw [eval_put_same _ _ _ (by rw [h.size]; decide)] at hk
    rw [eval_put_ne _ _ _ _ (by decide : (6 : Nat) ≠ 5)] at hk6
    have := h.fresh k (Or.inr hk6)
    have := ptr_inj hk
    omega
  · rw [getD_set_ne false (by decide : (4 : Nat) ≠ 0), getD_set_ne false (by decide : (4 : Nat) ≠ 1), getD_set_ne false (by decide : (4 : Nat) ≠ 6), eval_put_ne _ _ _ _ (by decide : (16 : Nat) ≠ 5), eval_put_ne _ _ _ _ (by decide : (17 : Nat) ≠ 5)]
    exact ⟨h1.1, h1.2.1, fun _ => ⟨w.heap.size, eval_put_same _ _ _ (by rw [h.size]; decide), h.bel.size, by simp, fun _ => heap_alloc_new w _, fun e => by rw [h6] at e; cases e⟩⟩
  · rw [getD_set_ne false (by decide : (4 : Nat) ≠ 2), getD_set_ne false (by decide : (4 : Nat) ≠ 3), getD_set_ne false (by decide : (4 : Nat) ≠ 5), getD_set_ne false (by decide : (4 : Nat) ≠ 7), eval_put_ne _ _ _ _ (by decide : (18 : Nat) ≠ 5), eval_put_ne _ _ _ _ (by decide : (19 : Nat) ≠ 5), eval_put_ne _ _ _ _ (by decide : (6 : Nat) ≠ 5)]
    exact h2
theorem NS.alloc2 (h : NS t u v1 v2 g w0 listed a w) (hi : ops[5]? = some { dst := some 6, op := .alloc 25, type := ty, pos := pos, after := after, guard := none }) (h7 : listed.getD 7 false = false) : wpOp Tryz.prog ops Q 5 (NS t u v1 v2 g w0 (listed.setIfInBounds 5 true)) a w := by
  refine wpOp_alloc hi rfl ?_
  have hb := below_own (w := w) zeroN
  have hB : ∀ k, Bx (a.put (some 6) (.pointer (some ⟨w.heap.size, 0, none⟩))) k → Bx a k ∨ w.heap.size ≤ k := fun k hk => by
    unfold Bx at hk
    rw [eval_put_same _ _ _ (by rw [h.size]; decide), eval_put_ne _ _ _ _ (by decide : (5 : Nat) ≠ 6)] at hk
    rcases hk with hk | hk
    · exact Or.inl (Or.inl hk)
    · exact Or.inr (by rw [ptr_inj hk]; exact Nat.le_refl _)
  have h1 := h.one.up hb hB
  have h2 := h.two.up hb hB
  refine ⟨?_, h.defers, h.bel.trans (hb.mono h.bel.size), ?_, ?_, fun k hk => ?_, fun k hk hk6 => ?_, ?_, ?_⟩
  · show (a.tmps.setIfInBounds 6 _).size = 45
    rw [Array.size_setIfInBounds]
    exact h.size
  · rw [eval_put_ne _ _ _ _ (by decide)]; exact h.s2
  · rw [eval_put_ne _ _ _ _ (by decide)]; exact h.s3
  · unfold Bx at hk
    rw [eval_put_same _ _ _ (by rw [h.size]; decide), eval_put_ne _ _ _ _ (by decide : (5 : Nat) ≠ 6)] at hk
    rcases hk with hk | hk
    · have := h.fresh k (Or.inl hk); simp; omega
    · rw [← ptr_inj hk]; simp
  · rw [eval_put_same _ _ _ (by rw [h.size]; decide)] at hk6
    rw [eval_put_ne _ _ _ _ (by decide : (5 : Nat) ≠ 6)] at hk
    have := h.fresh k (Or.inl hk)
    have := ptr_inj hk6
    omega
  · rw [getD_set_ne false (by decide : (5 : Nat) ≠ 0), getD_set_ne false (by decide : (5 : Nat) ≠ 1), getD_set_ne false (by decide : (5 : Nat) ≠ 4), getD_set_ne false (by decide : (5 : Nat) ≠ 6), eval_put_ne _ _ _ _ (by decide : (16 : Nat) ≠ 6), eval_put_ne _ _ _ _ (by decide : (17 : Nat) ≠ 6), eval_put_ne _ _ _ _ (by decide : (5 : Nat) ≠ 6)]
    exact h1
  · rw [getD_set_ne false (by decide : (5 : Nat) ≠ 2), getD_set_ne false (by decide : (5 : Nat) ≠ 3), getD_set_ne false (by decide : (5 : Nat) ≠ 7), eval_put_ne _ _ _ _ (by decide : (18 : Nat) ≠ 6), eval_put_ne _ _ _ _ (by decide : (19 : Nat) ≠ 6)]
    exact ⟨h2.1, h2.2.1, fun _ => ⟨w.heap.size, eval_put_same _ _ _ (by rw [h.size]; decide), h.bel.size, by simp, fun _ => heap_alloc_new w _, fun e => by rw [h7] at e; cases e⟩⟩
theorem NS.store1 (h : NS t u v1 v2 g w0 listed a w) (hi : ops[6]? = some { dst := none, op := .store 25 (.tmp 5) (.tmp 17), type := ty, pos := pos, after := after, guard := none }) (hs : 6 < listed.size) (h1 : listed.getD 1 false = true) (h4 : listed.getD 4 false = true) (h6 : listed.getD 6 false = false) : wpOp Tryz.prog ops Q 6 (NS t u v1 v2 g w0 (listed.setIfInBounds 6 true)) a w := by
  obtain ⟨v, e1, hl⟩ := h.one.2.1 h1
  obtain ⟨b, e5, hlo, hbs, hz, -⟩ := h.one.2.2 h4
  obtain ⟨base, -, hl'⟩ := hl.out
  obtain ⟨g', rfl, -, -⟩ := hl'.addr
  refine wpOp_store hi rfl e5 e1 (hz h6) fun w' hb' hf => ?_
  have hbx : Bx a b := Or.inl e5
  refine ⟨h.size, h.defers, h.bel.trans (hf.below h.bel.size hlo), h.s2, h.s3, fun k hk => Nat.lt_of_lt_of_le (h.fresh k hk) hf.size, h.ne, ?_, ?_⟩
  · rw [getD_set_ne false (by decide : (6 : Nat) ≠ 0), getD_set_ne false (by decide : (6 : Nat) ≠ 1), getD_set_ne false (by decide : (6 : Nat) ≠ 4), own_listed hs]
    exact h.one.own hf hbx e5 hlo hb' hl hbs
  · rw [getD_set_ne false (by decide : (6 : Nat) ≠ 2), getD_set_ne false (by decide : (6 : Nat) ≠ 3), getD_set_ne false (by decide : (6 : Nat) ≠ 5), getD_set_ne false (by decide : (6 : Nat) ≠ 7)]
    exact h.two.other hf hbx (h.ne b e5)
theorem NS.store2 (h : NS t u v1 v2 g w0 listed a w) (hi : ops[7]? = some { dst := none, op := .store 25 (.tmp 6) (.tmp 19), type := ty, pos := pos, after := after, guard := none }) (hs : 7 < listed.size) (h1 : listed.getD 3 false = true) (h4 : listed.getD 5 false = true) (h6 : listed.getD 7 false = false) : wpOp Tryz.prog ops Q 7 (NS t u v1 v2 g w0 (listed.setIfInBounds 7 true)) a w := by
  obtain ⟨v, e1, hl⟩ := h.two.2.1 h1
  obtain ⟨b, e5, hlo, hbs, hz, -⟩ := h.two.2.2 h4
  obtain ⟨base, -, hl'⟩ := hl.out
  obtain ⟨g', rfl, -, -⟩ := hl'.addr
  refine wpOp_store hi rfl e5 e1 (hz h6) fun w' hb' hf => ?_
  have hbx : Bx a b := Or.inr e5
  refine ⟨h.size, h.defers, h.bel.trans (hf.below h.bel.size hlo), h.s2, h.s3, fun k hk => Nat.lt_of_lt_of_le (h.fresh k hk) hf.size, h.ne, ?_, ?_⟩
  · rw [getD_set_ne false (by decide : (7 : Nat) ≠ 0), getD_set_ne false (by decide : (7 : Nat) ≠ 1), getD_set_ne false (by decide : (7 : Nat) ≠ 4), getD_set_ne false (by decide : (7 : Nat) ≠ 6)]
    exact h.one.other hf hbx (fun e => h.ne b e e5)
  · rw [getD_set_ne false (by decide : (7 : Nat) ≠ 2), getD_set_ne false (by decide : (7 : Nat) ≠ 3), getD_set_ne false (by decide : (7 : Nat) ≠ 5), own_listed hs]
    exact h.two.own hf hbx e5 hlo hb' hl hbs
end
end Go.Proofs.YtmjblkcbkekcbaaGreatDoor

namespace Go.Proofs.YtmjblkcbkekcbaaGreatDoor
open Go.ChangeShapes Go.WideShapes Go.ChangeAt Go.RowKit

set_option maxRecDepth 100000 in
theorem open_stood {H : Type} {enc : TypeId × Value → H} {W : World} (fuel : Nat) : ∀ (cs : List Value) (x : DataW H × List MemPlace), DataW.trod enc Tryz.prog W 0 (fun _ => true) true fuel 25 cs = some x → (∀ b off, MemPlace.cell b off ∈ x.2 → W.frozen? ⟨b, off, none⟩ = false) →
    ∃ t v, cs = [.int .u8 t.kind, .string t.text, .int .i64 t.num, .int .i64 t.pos, v] ∧ Stood False (fun k => k < W.heap.size) W t v ∧ Txt t := by
  induction fuel using Nat.strongRecOn with
  | ind fuel ih =>
    intro cs x h hfz
    obtain ⟨xs, n, rfl, rfl, hl, hlen, hf⟩ := DataW.trod_struct Tryz.underlying25 h
    rw [cellsNode] at hl
    have c0 : Tryz.prog.cellsOf 22 = 1 := by kernel_rfl
    have c1 : Tryz.prog.cellsOf 9 = 1 := by kernel_rfl
    have c2 : Tryz.prog.cellsOf 3 = 1 := by kernel_rfl
    have c4 : Tryz.prog.cellsOf 23 = 1 := by kernel_rfl
    match cs, hl, xs, hlen with
    | [v0, v1, v2, v3, v4], _, [y0, y1, y2, y3, y4], _ =>
      have g0 := hf 0 _ rfl
      have g1 := hf 1 _ rfl
      have g2 := hf 2 _ rfl
      have g3 := hf 3 _ rfl
      have g4 := hf 4 _ rfl
      simp [c0, c1, c2, c4] at g0 g1 g2 g3 g4
      obtain ⟨k0, e0, _, wk⟩ := DataW.trod_int Tryz.underlying22 g0
      obtain ⟨s0, e1, _, ws⟩ := DataW.trod_string Tryz.underlying9 g1
      obtain ⟨n0, e2, _, wn⟩ := DataW.trod_int Tryz.underlying3 g2
      obtain ⟨p0, e3, _, wp⟩ := DataW.trod_int Tryz.underlying3 g3
      simp at e0 e1 e2 e3
      subst e0 e1 e2 e3
      rcases DataW.trod_slice Tryz.underlying23 g4 with ⟨e4, _⟩ | ⟨a, len, cap, elems, rest, n', hn, e4, e5, _, hlc, hcm, hel, hat, _, _⟩
      · simp at e4
        subst e4
        exact ⟨.mk k0 s0 n0 p0 [], .slice none 0 0, rfl, stood_nil _ rfl, .mk (.mk k0 s0 n0 p0 []) ws fun k hk => by cases hk⟩
      · simp at e4
        subst e4 hn
        have hfz4 : ∀ b off, MemPlace.cell b off ∈ y4.2 → W.frozen? ⟨b, off, none⟩ = false := fun b off hm => hfz b off (by simp [hm])
        rw [e5] at hfz4
        have each : ∀ i, i < len → ∃ q : T × Value, (Stood False (fun k => k < W.heap.size) W q.1 q.2 ∧ Txt q.1) ∧ ∀ j, j < 5 → W.cell? ((a.add (i * 5)).add j) = [Value.int .u8 q.1.kind, .string q.1.text, .int .i64 q.1.num, .int .i64 q.1.pos, q.2][j]? := by
          intro i hi
          have h1 := hat i hi
          rw [cellsNode, List.getElem?_eq_getElem (by omega), Option.bind_eq_some_iff] at h1
          obtain ⟨cs', h2, h3⟩ := h1
          obtain ⟨t, v, rfl, h4, h5⟩ := ih n' (by omega) _ _ h3 fun b off hm => hfz4 b off (List.mem_append_right _ (List.mem_flatMap.2 ⟨elems[i], List.mem_append_left _ (List.getElem_mem _), hm⟩))
          exact ⟨(t, v), ⟨h4, h5⟩, (World.cells?_some h2).2.2⟩
        obtain ⟨q, hq⟩ := Deep.choose_lt each
        have hps : ∀ p, p ∈ (List.range len).map q → Stood False (fun k => k < W.heap.size) W p.1 p.2 ∧ Txt p.1 := by
          intro p hp
          simp only [List.mem_map, List.mem_range] at hp
          obtain ⟨i, hi, rfl⟩ := hp
          exact (hq i hi).1
        have hcell : ∀ (j : Nat) (u : Value), (cellsN ((List.range len).map q))[j]? = some u → W.cell? (a.add j) = some u := by
          intro j u hu
          have hj : j < len * 5 := by
            have := (List.getElem?_eq_some_iff.1 hu).1
            rw [cellsN_length] at this
            simpa using this
          have hi : j / 5 < len := by omega
          have hr : j % 5 < 5 := by omega
          have h1 := (hq (j / 5) hi).2 (j % 5) hr
          rw [Deep.add_add, show j / 5 * 5 + j % 5 = j by omega] at h1
          rw [h1, ← hu]
          obtain ⟨z0, z1, z2, z3, z4⟩ := cellsN_at ((List.range len).map q) (j / 5) (by simpa using hi)
          simp only [List.getElem_map, List.getElem_range] at z0 z1 z2 z3 z4
          have hjj : j = j / 5 * 5 + j % 5 := by omega
          generalize j / 5 = i at *
          generalize j % 5 = r at *
          subst hjj
          have hr' : r = 0 ∨ r = 1 ∨ r = 2 ∨ r = 3 ∨ r = 4 := by omega
          rcases hr' with rfl | rfl | rfl | rfl | rfl
          · exact z0.symm
          · exact z1.symm
          · exact z2.symm
          · exact z3.symm
          · exact z4.symm
        refine ⟨.mk k0 s0 n0 p0 (((List.range len).map q).map Prod.fst), .slice (some a) len cap, rfl, ?_, .mk (.mk k0 s0 n0 p0 (((List.range len).map q).map Prod.fst)) ws fun k hk => ?_⟩
        · have hlen2 : (T.mk k0 s0 n0 p0 (((List.range len).map q).map Prod.fst)).kids.length = len := by simp [T.kids]
          have := Stood.mk (s := False) (P := fun k => k < W.heap.size) (w := W) (.mk k0 s0 n0 p0 (((List.range len).map q).map Prod.fst)) (some a) cap ((List.range len).map q) rfl ?_ (fun e => by cases e) (by rw [hlen2]; exact hlc) hcm ?_ (fun p hp => (hps p hp).1)
          · rw [hlen2] at this
            exact this
          · intro hne
            obtain ⟨b, off, path⟩ := a
            obtain ⟨u, hu⟩ : ∃ u, (cellsN ((List.range len).map q))[0]? = some u := by
              cases hz : cellsN ((List.range len).map q) with
              | nil => exact absurd hz hne
              | cons u l => exact ⟨u, rfl⟩
            have h0 := hcell 0 u hu
            have hp : path = none := by
              cases path with
              | none => rfl
              | some z => exfalso; revert h0; simp only [Addr.add, World.cell?]; split <;> simp
            subst hp
            refine ⟨b, off, rfl, ?_, fun j u hu => ?_⟩
            · apply Classical.byContradiction
              intro hn
              have hnone : W.heap[b]? = none := Array.getElem?_eq_none (by omega)
              revert h0
              simp [Addr.add, World.cell?, hnone]
            · have := hcell j u hu
              rwa [Addr.add_lit] at this
          · intro hpos ad had
            obtain rfl := Option.some.inj had
            rw [hlen2] at hpos
            obtain ⟨b, off, path⟩ := a
            have h0 := (hq 0 hpos).2 0 (by omega)
            rw [Deep.add_add] at h0
            simp only [Nat.zero_mul, Nat.add_zero, List.getElem?_cons_zero] at h0
            have hp : path = none := by
              cases path with
              | none => rfl
              | some z => exfalso; revert h0; simp only [Addr.add, World.cell?]; split <;> simp
            subst hp
            refine ⟨hfz4 b off (List.mem_append_left _ ?_), ?_⟩
            · unfold MemPlace.row
              refine List.mem_map.2 ⟨0, List.mem_range.2 ?_, rfl⟩
              rw [cellsNode]
              omega
            · simp only [Addr.add, World.cell?] at h0
              split at h0
              · rename_i cs t fr hcs
                exact ⟨cs, t, fr, by simpa using hcs, fun e => e.elim⟩
              · cases h0
        · have hk' : k ∈ ((List.range len).map q).map Prod.fst := hk
          obtain ⟨p, hp, rfl⟩ := List.mem_map.1 hk'
          exact (hps p hp).2
end Go.Proofs.YtmjblkcbkekcbaaGreatDoor

namespace Go.Proofs.YtmjblkcbkekcbaaGreatDoor
open Go.ChangeShapes Go.WideShapes Go.ChangeAt Go.RowKit

theorem open_argS {H : Type} {enc : TypeId × Value → H} {W : World} {v : Value} {d : DataW H} {p : List MemPlace} (h : DataW.Trod enc Tryz.prog W 0 (fun _ => true) true 25 v d p) (hfz : ∀ b off, MemPlace.cell b off ∈ p → W.frozen? ⟨b, off, none⟩ = false) :
    ∃ t u, v = agg t u ∧ Stood False (fun k => k < W.heap.size) W t u ∧ Txt t := by
  obtain ⟨fuel, hf⟩ := h
  obtain ⟨t, u, hcs, hl, hx⟩ := open_stood fuel _ _ hf hfz
  refine ⟨t, u, ?_, hl, hx⟩
  cases v with
  | agg cs =>
    have : cs.toList = [.int .u8 t.kind, .string t.text, .int .i64 t.num, .int .i64 t.pos, u] := hcs
    obtain ⟨l⟩ := cs
    simp only at this
    subst this
    rfl
  | _ => simp [Value.cells] at hcs
end Go.Proofs.YtmjblkcbkekcbaaGreatDoor

namespace Go.Proofs.YtmjblkcbkekcbaaGreatDoor
open Go.RowKit

/-- An activation of 45 slots, slot by slot. -/
theorem act45 (a : Act) (hs : a.tmps.size = 45) (hd : a.defers = []) : ∃ f : Nat → Value, a = ⟨#[f 0, f 1, f 2, f 3, f 4, f 5, f 6, f 7, f 8, f 9, f 10, f 11, f 12, f 13, f 14, f 15, f 16, f 17, f 18, f 19, f 20, f 21, f 22, f 23, f 24, f 25, f 26, f 27, f 28, f 29, f 30, f 31, f 32, f 33, f 34, f 35, f 36, f 37, f 38, f 39, f 40, f 41, f 42, f 43, f 44], []⟩ ∧ ∀ i, f i = a.eval (.tmp i) := by
  refine ⟨fun i => a.eval (.tmp i), ?_, fun _ => rfl⟩
  obtain ⟨tm, df⟩ := a
  have hd' : df = [] := hd
  subst hd'
  have hs' : tm.size = 45 := hs
  have e : tm = ((List.range 45).map fun i => tm.getD i undef).toArray := Array.ext (by simp [hs']) (fun i h1 h2 => by simp [Array.getD, h1])
  have e2 : (⟨tm, []⟩ : Act) = ⟨((List.range 45).map fun i => tm.getD i undef).toArray, []⟩ := by rw [← e]
  exact e2
/-- Stores come behind their boxes. -/
def Ord5 (listed : Array Bool) : Prop := (listed.getD 6 false = true → listed.getD 4 false = true) ∧ (listed.getD 7 false = true → listed.getD 5 false = true)
theorem Ord5.put {listed : Array Bool} (h : Ord5 listed) (hs : listed.size = 8) (i : Nat) (h6 : i = 6 → listed.getD 4 false = true) (h7 : i = 7 → listed.getD 5 false = true) : Ord5 (listed.setIfInBounds i true) := by
  have gen : ∀ j, listed.getD j false = true → (listed.setIfInBounds i true).getD j false = true := fun j hj => by
    by_cases e : i = j
    · subst e
      by_cases hi : i < listed.size
      · exact own_listed hi
      · rw [Array.getD_eq_getD_getElem?, Array.getElem?_eq_none (by omega)] at hj
        cases hj
    · rw [getD_set_ne false e]
      exact hj
  refine ⟨fun e => ?_, fun e => ?_⟩
  · by_cases e6 : i = 6
    · exact gen 4 (h6 e6)
    · rw [getD_set_ne false e6] at e
      exact gen 4 (h.1 e)
  · by_cases e7 : i = 7
    · exact gen 5 (h7 e7)
    · rw [getD_set_ne false e7] at e
      exact gen 5 (h.2 e)
theorem not_listed {listed : Array Bool} {i : Nat} (hs : i < listed.size) (h : listed.getD i true = false) : listed.getD i false = false := by
  simp [hs] at h ⊢
  exact h
theorem ready_not {ops : Array Oper} {listed : Array Bool} {i : Nat} (hi : i ∈ Region.ready .any ops listed) : listed.getD i true = false := (mem_ready.1 hi).1

set_option maxRecDepth 100000 in
set_option maxHeartbeats 2000000 in
theorem nodeSame_any (t u : T) (v1 v2 : Value) (w : World) (h1 : Stood False (fun k => k < w.heap.size) w t v1) (h2 : Stood False (fun k => k < w.heap.size) w u v2) (x1 : Txt t) (x2 : Txt u) (hL : Laid w) :
    Calls Tryz.prog 4 #[agg t v1, agg u v2] w fun e w' => e = .returned (.bool true) ∧ Below w.heap.size w w' := by
  have HS1 := Lib.hid h1
  have l1 := h1.lies fun _ h => h
  have l2 := h2.lies fun _ h => h
  have KA := Lib.hid (fun W (hb : Below w.heap.size w W) => awake_any W (hL.below hb))
  have KN1 := Lib.hid (fun W (hb : Below w.heap.size w W) => nodesOf_any t W v1 9000 (l1.up hb hb.size) x1 (by omega) (by omega))
  have KN2 := Lib.hid (fun W (hb : Below w.heap.size w W) => nodesOf_any u W v2 9000 (l2.up hb hb.size) x2 (by omega) (by omega))
  have KL1 := Lib.hid (fun W (hb : Below w.heap.size w W) (hS : Small 9000 t) => lent_any t W v1 (l1.up hb hb.size) (hS.fits (by omega)))
  have KL2 := Lib.hid (fun W (hb : Below w.heap.size w W) (hS : Small 9000 u) => lent_any u W v2 (l2.up hb hb.size) (hS.fits (by omega)))
  have L1 := Lib.hid l1
  have L2 := Lib.hid l2
  have HL := Lib.hid hL
  obtain ⟨ao, c, ps, rfl, -⟩ := l1.out
  obtain ⟨bo, d, qs, rfl, -⟩ := l2.out
  have many1 := nodes_many t 9000
  have many2 := nodes_many u 9000
  have small1 := nodes_small t 9000
  have small2 := nodes_small u 9000
  clear h1 h2 l1 l2 x1 x2 hL
  unfold agg at *
  generalize t.nodes 9000 = m1 at *
  generalize u.nodes 9000 = m2 at *
  go_enter Tryz.func4, Tryz.ntmps4
  have HB0 : Hid (Below w.heap.size w ((w.alloc (.cells #[.int .u8 t.kind, .string t.text, .int .i64 t.num, .int .i64 t.pos, .slice ao t.kids.length c] 25)).alloc (.cells #[.int .u8 u.kind, .string u.text, .int .i64 u.num, .int .i64 u.pos, .slice bo u.kids.length d] 25))) := below_two _ _ _
  by_cases hm1 : m1 ≤ 9000
  · have hm1' : ¬ (9000 : Int) < m1 := by omega
    by_cases hm2 : m2 ≤ 9000
    · have hm2' : ¬ (9000 : Int) < m2 := by omega
      have HT := Lib.hid (small1 hm1)
      have HU := Lib.hid (small2 hm2)
      have HMt := Lib.hid (many1 hm1)
      clear many1 many2 small1 small2
      go_wp2_with (go_at_call 7; go_must (refine (KN1.out _ HB0.out).mono ?_; rintro e w1 ⟨rfl, hg⟩; obtain ⟨a1, b1⟩ := two_boxes hg.below; obtain ⟨a2, b2⟩ := two_frozen hg.below; have HB1 := Lib.hid (HB0.out.trans (hg.below.mono HB0.out.size)); have HG1 := Lib.hid hg.below; clear hg; refine Hid.out ?_))
      refine Lib.hid ?_
      have hw1 : w.heap.size + 1 < w1.heap.size := by have := HG1.out.size; simp at this; omega
      go_wp2_with (go_at_call 7; go_must (refine (KN2.out _ HB1.out).mono ?_; rintro e w2 ⟨rfl, hg⟩; obtain ⟨p2, q2⟩ := bone (g := w.heap.size) hg.below (by omega); obtain ⟨p2', q2'⟩ := bone (g := w.heap.size + 1) hg.below (by omega); have hw2 : w1.heap.size ≤ w2.heap.size := hg.below.size; have HB2 := Lib.hid (HB1.out.trans (hg.below.mono HB1.out.size)); clear hg; refine Hid.out ?_))
      refine Lib.hid ?_
      go_upto_region 3 with fail
      have C1 : Hid (∀ j, w2.cell? ⟨w.heap.size, j, none⟩ = (#[.int .u8 t.kind, .string t.text, .int .i64 t.num, .int .i64 t.pos, .slice ao t.kids.length c] : Array Value)[j]?) := fun j => (p2 j).trans (a1 j)
      have C2 : Hid (∀ j, w2.cell? ⟨w.heap.size + 1, j, none⟩ = (#[.int .u8 u.kind, .string u.text, .int .i64 u.num, .int .i64 u.pos, .slice bo u.kids.length d] : Array Value)[j]?) := fun j => (p2' j).trans (b1 j)
      clear p2 q2 p2' q2' a1 a2 b1 b2
      have hwl : w.heap.size + 1 < w2.heap.size := by omega
      refine wp_region_inv (fun listed a W => NS t u (.slice ao t.kids.length c) (.slice bo u.kids.length d) w.heap.size w2 listed a W ∧ Ord5 listed) (by kernel_rfl) (by kernel_rfl) ⟨⟨rfl, rfl, RowKit_drewN (Below.refl _ _) 1, rfl, rfl, (fun k hk => by rcases hk with e | e <;> cases e), (fun k e => by cases e), ⟨fun e => by simp at e, fun e => by simp at e, fun e => by simp at e⟩, ⟨fun e => by simp at e, fun e => by simp at e, fun e => by simp at e⟩⟩, ⟨fun e => by simp at e, fun e => by simp at e⟩⟩ (fun listed a W i hs h hi => ?_) (fun listed a W h hall => ?_)
      · obtain ⟨hN, hO⟩ := h
        have hs8 : listed.size = 8 := hs
        have hi8 : i < 8 := by
          obtain ⟨-, o, ho, -⟩ := mem_ready.1 hi
          exact (Array.getElem?_eq_some_iff.1 ho).1
        have h0 := not_listed (by omega) (ready_not hi)
        refine wpOp_mono (fun a' w' h' => ⟨h', hO.put hs8 i (fun e => ?_) (fun e => ?_)⟩) (K := NS t u (.slice ao t.kids.length c) (.slice bo u.kids.length d) w.heap.size w2 (listed.setIfInBounds i true)) ?_
        · subst e
          exact waits_done hi (by kernel_rfl)
        · subst e
          exact waits_done hi (by kernel_rfl)
        · obtain rfl | rfl | rfl | rfl | rfl | rfl | rfl | rfl : i = 0 ∨ i = 1 ∨ i = 2 ∨ i = 3 ∨ i = 4 ∨ i = 5 ∨ i = 6 ∨ i = 7 := by omega
          · exact hN.load1 rfl (by omega) C1.out
          · exact hN.call1 rfl (waits_done hi (by kernel_rfl)) (fun W' hb => L1.out.up (HB2.out.trans (hb.mono HB2.out.size)) (by have h1 := HB2.out.size; have h2 := hb.size; omega)) (HT.out.fits (by omega))
          · exact hN.load2 rfl (by omega) C2.out
          · exact hN.call2 rfl (waits_done hi (by kernel_rfl)) (fun W' hb => L2.out.up (HB2.out.trans (hb.mono HB2.out.size)) (by have h1 := HB2.out.size; have h2 := hb.size; omega)) (HU.out.fits (by omega))
          · exact hN.alloc1 rfl (Bool.eq_false_iff.2 fun e => by rw [hO.1 e] at h0; cases h0)
          · exact hN.alloc2 rfl (Bool.eq_false_iff.2 fun e => by rw [hO.2 e] at h0; cases h0)
          · exact hN.store1 rfl (by omega) (waits_done hi (by kernel_rfl)) (waits_done hi (by kernel_rfl)) h0
          · exact hN.store2 rfl (by omega) (waits_done hi (by kernel_rfl)) (waits_done hi (by kernel_rfl)) h0
      · obtain ⟨hN, -⟩ := h
        obtain ⟨b5, e5, l5, k5, -, r5⟩ := hN.one.2.2 (hall 4 (by decide))
        obtain ⟨v5, z5, lf5⟩ := r5 (hall 6 (by decide))
        obtain ⟨base5, hle5, lt5⟩ := lf5.out
        obtain ⟨g5, rfl, -, -⟩ := lt5.addr
        obtain ⟨b6, e6, l6, k6, -, r6⟩ := hN.two.2.2 (hall 5 (by decide))
        obtain ⟨v6, z6, lf6⟩ := r6 (hall 7 (by decide))
        obtain ⟨base6, hle6, lt6⟩ := lf6.out
        obtain ⟨g6, rfl, -, -⟩ := lt6.addr
        have HW := Lib.hid hN.bel
        obtain ⟨f, ea, hf⟩ := act45 a hN.size hN.defers
        have f2 := (hf 2).trans hN.s2
        have f3 := (hf 3).trans hN.s3
        have f5 := (hf 5).trans e5
        have f6 := (hf 6).trans e6
        rw [f2, f3, f5, f6] at ea
        refine (by assumption : ∀ (a : Act) (w : World), Code.wp _ _ _ a w → _) a W ?_
        clear hN lf5 lf6 r5 r6 e5 e6 f2 f3 f5 f6 hf hall
        subst ea
        have hX : Below w.heap.size w W := HB2.out.trans (HW.out.mono HB2.out.size)
        have HX := Lib.hid hX
        have n1 : ∀ p : BelW W, ∀ j, p.w.cell? ⟨w.heap.size, j, none⟩ = (#[.int .u8 t.kind, .string t.text, .int .i64 t.num, .int .i64 t.pos, .slice ao t.kids.length c] : Array Value)[j]? := fun p j => by
          rw [(bone p.h (by have := HW.out.size; omega)).1 j, (bone HW.out (by omega)).1 j]
          exact C1.out j
        have n2 : ∀ p : BelW W, ∀ j, p.w.cell? ⟨w.heap.size + 1, j, none⟩ = (#[.int .u8 u.kind, .string u.text, .int .i64 u.num, .int .i64 u.pos, .slice bo u.kids.length d] : Array Value)[j]? := fun p j => by
          rw [(bone p.h (by have := HW.out.size; omega)).1 j, (bone HW.out (by omega)).1 j]
          exact C2.out j
        have n3 : ∀ p : BelW W, ∀ j, p.w.cell? ⟨b5, j, none⟩ = (#[.int .u8 t.kind, .string t.text, .int .i64 t.num, .int .i64 t.pos, .slice (some ⟨g5, 0, none⟩) t.kids.length (t.kids.length + 12)] : Array Value)[j]? := fun p j => by
          rw [(bone p.h k5).1 j]
          exact Lib.cell_of_heap z5 j
        have n4 : ∀ p : BelW W, ∀ j, p.w.cell? ⟨b6, j, none⟩ = (#[.int .u8 u.kind, .string u.text, .int .i64 u.num, .int .i64 u.pos, .slice (some ⟨g6, 0, none⟩) u.kids.length (u.kids.length + 12)] : Array Value)[j]? := fun p j => by
          rw [(bone p.h k6).1 j]
          exact Lib.cell_of_heap z6 j
        have HS5 : Hid (∀ p : BelW W, LentT base5 p.w t (.slice (some ⟨g5, 0, none⟩) t.kids.length (t.kids.length + 12))) := fun p => lt5.old p.h
        have HS6 : Hid (∀ p : BelW W, LentT base6 p.w u (.slice (some ⟨g6, 0, none⟩) u.kids.length (u.kids.length + 12))) := fun p => lt6.old p.h
        have HXp : Hid (∀ p : BelW W, Below w.heap.size w p.w) := fun p => HX.out.trans (p.h.mono HX.out.size)
        have HLi : Hid (∀ p : BelW W, Lies p.w.heap.size p.w t (.slice ao t.kids.length c)) := fun p => L1.out.up (HXp.out p) (HXp.out p).size
        have HLj : Hid (∀ p : BelW W, Lies p.w.heap.size p.w u (.slice bo u.kids.length d)) := fun p => L2.out.up (HXp.out p) (HXp.out p).size
        have HSt : Hid (∀ p : BelW W, Stood False (fun k => k < p.w.heap.size) p.w t (.slice ao t.kids.length c)) := fun p => HS1.out.keep (fun k hk => (HXp.out p).block k hk) (fun k hk => Nat.lt_of_lt_of_le hk (HXp.out p).size)
        have hmy : t.many ≤ 100000 := by have := HMt.out; omega
        have KS : Hid (∀ p : BelW W, Calls Tryz.prog 15 #[.agg #[.int .u8 t.kind, .string t.text, .int .i64 t.num, .int .i64 t.pos, .slice (some ⟨g5, 0, none⟩) t.kids.length (t.kids.length + 12)], .agg #[.int .u8 u.kind, .string u.text, .int .i64 u.num, .int .i64 u.pos, .slice (some ⟨g6, 0, none⟩) u.kids.length (u.kids.length + 12)]] p.w fun e w' => e = .returned (.bool (t.same u)) ∧ Below p.w.heap.size p.w w') := fun p => progSame_any True t u _ _ p.w ((HS5.out p).stood.keep (fun _ _ => rfl) fun k hk => hk.2) ((HS6.out p).stood.keep (fun _ _ => rfl) fun k hk => hk.2) hmy (fun hn => absurd trivial hn)
        have KSr : Hid (∀ p : BelW W, Calls Tryz.prog 16 #[.agg #[.int .u8 t.kind, .string t.text, .int .i64 t.num, .int .i64 t.pos, .slice ao t.kids.length c], .agg #[.int .u8 u.kind, .string u.text, .int .i64 u.num, .int .i64 u.pos, .slice bo u.kids.length d]] p.w fun e w' => e = .returned (.bool (t.same u)) ∧ Below p.w.heap.size p.w w') := fun p => (refSame_any t u p.w _ _ (HLi.out p) (HLj.out p)).mono fun _ _ h => ⟨h.1, h.2.below⟩
        have KK1 : Hid (∀ p : BelW W, Calls Tryz.prog 14 #[.agg #[.int .u8 t.kind, .string t.text, .int .i64 t.num, .int .i64 t.pos, .slice (some ⟨g5, 0, none⟩) t.kids.length (t.kids.length + 12)], .agg #[.int .u8 t.kind, .string t.text, .int .i64 t.num, .int .i64 t.pos, .slice ao t.kids.length c]] p.w fun e w' => e = .returned (.bool true) ∧ Below p.w.heap.size p.w w') := fun p => (kept_any t p.w _ _ _ (HS5.out p) (HLi.out p)).mono fun _ _ h => ⟨h.1, h.2.below⟩
        have KK2 : Hid (∀ p : BelW W, Calls Tryz.prog 14 #[.agg #[.int .u8 u.kind, .string u.text, .int .i64 u.num, .int .i64 u.pos, .slice (some ⟨g6, 0, none⟩) u.kids.length (u.kids.length + 12)], .agg #[.int .u8 u.kind, .string u.text, .int .i64 u.num, .int .i64 u.pos, .slice bo u.kids.length d]] p.w fun e w' => e = .returned (.bool true) ∧ Below p.w.heap.size p.w w') := fun p => (kept_any u p.w _ _ _ (HS6.out p) (HLj.out p)).mono fun _ _ h => ⟨h.1, h.2.below⟩
        have KS1 : Hid (∀ p : BelW W, Calls Tryz.prog 15 #[.agg #[.int .u8 t.kind, .string t.text, .int .i64 t.num, .int .i64 t.pos, .slice ao t.kids.length c], .agg #[.int .u8 t.kind, .string t.text, .int .i64 t.num, .int .i64 t.pos, .slice ao t.kids.length c]] p.w fun e w' => e = .returned (.bool true) ∧ Below p.w.heap.size p.w w') := fun p => by
          have := progSame_any False t t _ _ p.w (HSt.out p) (HSt.out p) hmy (fun _ => rfl)
          rw [same_self] at this
          exact this
        have KW : Hid (∀ p : BelW W, Calls Tryz.prog 8 #[] p.w fun e w' => e = .returned (.bool true) ∧ Below p.w.heap.size p.w w') := fun p => KA.out p.w (HXp.out p)
        have KSS : Hid (∀ (p : BelW W) (x y : Value) (r : Bool) (Q : Ending → World → Prop), ((x = .agg #[.int .u8 t.kind, .string t.text, .int .i64 t.num, .int .i64 t.pos, .slice (some ⟨g5, 0, none⟩) t.kids.length (t.kids.length + 12)] ∧ y = .agg #[.int .u8 u.kind, .string u.text, .int .i64 u.num, .int .i64 u.pos, .slice (some ⟨g6, 0, none⟩) u.kids.length (u.kids.length + 12)] ∧ r = t.same u) ∨ (x = .agg #[.int .u8 t.kind, .string t.text, .int .i64 t.num, .int .i64 t.pos, .slice ao t.kids.length c] ∧ y = .agg #[.int .u8 t.kind, .string t.text, .int .i64 t.num, .int .i64 t.pos, .slice ao t.kids.length c] ∧ r = true)) → (∀ e w', e = .returned (.bool r) ∧ Below p.w.heap.size p.w w' → Q e w') → Calls Tryz.prog 15 #[x, y] p.w Q) := fun p x y r Q h hq => by
          rcases h with ⟨rfl, rfl, rfl⟩ | ⟨rfl, rfl, rfl⟩
          · exact (KS.out p).mono hq
          · exact (KS1.out p).mono hq
        have KKK : Hid (∀ (p : BelW W) (x y : Value) (Q : Ending → World → Prop), ((x = .agg #[.int .u8 t.kind, .string t.text, .int .i64 t.num, .int .i64 t.pos, .slice (some ⟨g5, 0, none⟩) t.kids.length (t.kids.length + 12)] ∧ y = .agg #[.int .u8 t.kind, .string t.text, .int .i64 t.num, .int .i64 t.pos, .slice ao t.kids.length c]) ∨ (x = .agg #[.int .u8 u.kind, .string u.text, .int .i64 u.num, .int .i64 u.pos, .slice (some ⟨g6, 0, none⟩) u.kids.length (u.kids.length + 12)] ∧ y = .agg #[.int .u8 u.kind, .string u.text, .int .i64 u.num, .int .i64 u.pos, .slice bo u.kids.length d])) → (∀ e w', e = .returned (.bool true) ∧ Below p.w.heap.size p.w w' → Q e w') → Calls Tryz.prog 14 #[x, y] p.w Q) := fun p x y Q h hq => by
          rcases h with ⟨rfl, rfl⟩ | ⟨rfl, rfl⟩
          · exact (KK1.out p).mono hq
          · exact (KK2.out p).mono hq
        have mixed : Tryz.prog.follows .mixedOrders = true := by kernel_rfl
        clear KS KS1 KK1 KK2
        generalize t.same u = rt at KSS KSr
        clear HS5 HS6 HXp HLi HLj HSt KN1 KN2 KL1 KL2 KA HW HS1 L1 L2 HL HT HU HMt C1 C2 HB0 HB1 HG1 HB2 lt5 lt6 z5 z6 l5 l6 hle5 hle6 hX hwl
        go_wp2_with fail
        refine wp_region_quiet_bel (by assumption) (by kernel_rfl) ?_
        repeat (go_big_quiet_step (first
          | (go_at_call 15; go_must (first | exact KSS.out _ _ _ _ _ (Or.inl ⟨rfl, rfl, rfl⟩) (fun _ w' h => ⟨h.1, ⟨w', (BelW.h _).trans (h.2.mono (BelW.h _).size)⟩, rfl⟩) | exact KSS.out _ _ _ _ _ (Or.inr ⟨rfl, rfl, rfl⟩) (fun _ w' h => ⟨h.1, ⟨w', (BelW.h _).trans (h.2.mono (BelW.h _).size)⟩, rfl⟩)))
          | (go_at_call 16; go_must (exact (KSr.out _).mono fun _ w' h => ⟨h.1, ⟨w', (BelW.h _).trans (h.2.mono (BelW.h _).size)⟩, rfl⟩))
          | (go_at_call 14; go_must (first | exact KKK.out _ _ _ _ (Or.inl ⟨rfl, rfl⟩) (fun _ w' h => ⟨h.1, ⟨w', (BelW.h _).trans (h.2.mono (BelW.h _).size)⟩, rfl⟩) | exact KKK.out _ _ _ _ (Or.inr ⟨rfl, rfl⟩) (fun _ w' h => ⟨h.1, ⟨w', (BelW.h _).trans (h.2.mono (BelW.h _).size)⟩, rfl⟩)))
          | (go_at_call 8; go_must (exact (KW.out _).mono fun _ w' h => ⟨h.1, ⟨w', (BelW.h _).trans (h.2.mono (BelW.h _).size)⟩, rfl⟩))))
        refine wpQuiet_nil ?_
        rintro _ ⟨p, rfl⟩
        go_wp2_with fail
        go_ret
        exact ⟨rfl, HX.out.trans (p.h.mono HX.out.size)⟩
    · have hm2' : (9000 : Int) < m2 := by omega
      clear many1 many2 small1 small2
      go_wp2_with (go_at_call 7; go_must (refine (KN1.out _ HB0.out).mono ?_; rintro e w1 ⟨rfl, hg⟩; obtain ⟨a1, b1⟩ := two_boxes hg.below; obtain ⟨a2, b2⟩ := two_frozen hg.below; have HB1 := Lib.hid (HB0.out.trans (hg.below.mono HB0.out.size)); clear hg; refine Hid.out ?_))
      refine Lib.hid ?_
      go_wp2_with (first
        | (go_at_call 7; go_must (refine (KN2.out _ HB1.out).mono ?_; rintro e w2 ⟨rfl, hg⟩; have HB2 := Lib.hid (HB1.out.trans (hg.below.mono HB1.out.size)); clear hg))
        | (go_at_call 8; go_must (refine (KA.out _ HB2.out).mono ?_; rintro e w3 ⟨rfl, hb⟩; have HB3 := Lib.hid (HB2.out.trans (hb.mono HB2.out.size)); clear hb)))
      go_ret
      exact ⟨rfl, HB3.out⟩
  · have hm1' : (9000 : Int) < m1 := by omega
    clear many1 many2 small1 small2
    go_wp2_with (first
      | (go_at_call 7; go_must (refine (KN1.out _ HB0.out).mono ?_; rintro e w1 ⟨rfl, hg⟩; have HB1 := Lib.hid (HB0.out.trans (hg.below.mono HB0.out.size)); clear hg))
      | (go_at_call 8; go_must (refine (KA.out _ HB1.out).mono ?_; rintro e w2 ⟨rfl, hb⟩; have HB2 := Lib.hid (HB1.out.trans (hb.mono HB1.out.size)); clear hb)))
    go_ret
    exact ⟨rfl, HB2.out⟩
end Go.Proofs.YtmjblkcbkekcbaaGreatDoor

namespace Go.Proofs.YtmjblkcbkekcbaaGreatDoor.nodeSame
open Go.ChangeShapes Go.WideShapes Go.ChangeAt Go.RowKit Go.Joins

theorem own : ownKnob Tryz.prog.godebug = none := by kernel_rfl

theorem laidOut : laidOutB Tryz.prog = true := by kernel_rfl

/-- The two errors of the library, as the row's condition gives them. -/
theorem errs {W : World} (h : laidMetH Tryz.prog Rows.nodeSameRow.laid W) : Errs W := by
  rw [MakeChecks.laidMetH_plain _ _ _ (by kernel_rfl)] at h
  have hr : laidMet Tryz.prog [("strconv.ErrRange", Rows.laid_strconv_ErrRange), ("strconv.ErrSyntax", Rows.laid_strconv_ErrSyntax), ("ropewalk/node.ofOne", Rows.laid_ropewalk_node_ofOne), ("ropewalk/node.ofTwo", Rows.laid_ropewalk_node_ofTwo), ("unicode/utf8.first", Rows.laid_unicode_utf8_first)] W := laidMet.tail (laidMet.tail (laidMet.tail (laidMet.tail h)))
  have star : "*" ++ "errors.errorString" = "*errors.errorString" := by decide
  have row : ∀ u, Tryz.prog.typeName? 3 u = some "*errors.errorString" → u = 192 := fun u hu =>
    typeName_ptr_named (nm := "errors.errorString") (by rw [star]; kernel_rfl) (by kernel_rfl) (by decide) u (by rw [star]; exact hu)
  obtain ⟨a1, s1, hv1, _⟩ := laid_sentinel hr (g := 4) (by kernel_rfl) (by kernel_rfl) Tryz.underlying100 row Tryz.underlying192 Tryz.underlying194 rfl rfl Tryz.underlying9 (by kernel_rfl) (by kernel_rfl)
  obtain ⟨a2, s2, hv2, _⟩ := laid_sentinel (laidMet.tail hr) (g := 3) (by kernel_rfl) (by kernel_rfl) Tryz.underlying100 row Tryz.underlying192 Tryz.underlying194 rfl rfl Tryz.underlying9 (by kernel_rfl) (by kernel_rfl)
  have c1 := World.var?_cell (show Tryz.prog.globalNamed "strconv.ErrRange" = some 4 by kernel_rfl) hv1 0
  have c2 := World.var?_cell (show Tryz.prog.globalNamed "strconv.ErrSyntax" = some 3 by kernel_rfl) hv2 0
  refine ⟨?_, ⟨_, _, c2⟩, ⟨_, _, c1⟩⟩
  apply Classical.byContradiction
  intro hn
  have hnone : W.heap[4]? = none := Array.getElem?_eq_none (by omega)
  simp [World.cell?, hnone] at c1

/-- What is laid, as the row's condition gives it. -/
theorem laidOf {W : World} (h : laidMetH Tryz.prog Rows.nodeSameRow.laid W) : Laid W := by
  have he := errs h
  rw [MakeChecks.laidMetH_plain _ _ _ (by kernel_rfl)] at h
  have h2 : laidMet Tryz.prog [("ropewalk/node.ofOne", Rows.laid_ropewalk_node_ofOne), ("ropewalk/node.ofTwo", Rows.laid_ropewalk_node_ofTwo), ("unicode/utf8.first", Rows.laid_unicode_utf8_first)] W := laidMet.tail (laidMet.tail (laidMet.tail (laidMet.tail (laidMet.tail (laidMet.tail h)))))
  have v1 := strs_of_head (zs := oneZ) (g := 0) (by kernel_rfl) (by kernel_rfl) Tryz.underlying111 Tryz.underlying9 (by kernel_rfl) (by kernel_rfl) h2
  have v2 := strs_of_head (zs := opsZ) (g := 1) (by kernel_rfl) (by kernel_rfl) Tryz.underlying112 Tryz.underlying9 (by kernel_rfl) (by kernel_rfl) (laidMet.tail h2)
  refine ⟨he, fun i s hs => ?_, fun i s hs => ?_⟩
  · have := World.var?_cell (show Tryz.prog.globalNamed "ropewalk/node.ofOne" = some 0 by kernel_rfl) v1 i
    rw [this]
    simp [hs]
  · have := World.var?_cell (show Tryz.prog.globalNamed "ropewalk/node.ofTwo" = some 1 by kernel_rfl) v2 i
    rw [this]
    simp [hs]

set_option maxRecDepth 100000 in
theorem lifted (os : Os) (started : os.Started) (H : Type) (enc : TypeId × Value → H) :
    ReturnsInHanded {} Tryz.checked os 4 .any (fun w args => (Rows.nodeSameSpec.pre enc Tryz.prog Tryz.f4 Rows.nodeSameRow.domain false w args ∧ laidMetH Tryz.prog Rows.nodeSameRow.laid w) ∧ sizedMet enc Tryz.prog Tryz.f4 (OpenSpec.ofChange Rows.nodeSameSpec) false w args)
      (Rows.nodeSameSpec.post enc Tryz.prog Tryz.f4 false true false false) := by
  refine returnsInHanded_of_change_and (C := Tryz.checked) (X := fun w _ => laidMetH Tryz.prog Rows.nodeSameRow.laid w) (fun _ _ _ hh h => h.of_heap hh) own started (by kernel_rfl) Tryz.func4
    (ChangeSpec.witness_shaped (enc := enc) (C := Tryz.checked) (os := os) (X := fun w _ => laidMetH Tryz.prog Rows.nodeSameRow.laid w) false (World.laidAll Tryz.prog os Rows.nodeSameRow.laid) #[.agg #[.int .u8 0, .string ⟨#[]⟩, .int .i64 0, .int .i64 0, .slice none 0 0], .agg #[.int .u8 0, .string ⟨#[]⟩, .int .i64 0, .int .i64 0, .slice none 0 0]] 8 (World.laidAll_os _ _ _)
      (World.shaped_of_ZipB (by kernel_rfl) (by kernel_rfl)) (by kernel_rfl) (by kernel_rfl) (by kernel_rfl)
      (by rw [MakeChecks.laidMetH_plain _ _ _ (by kernel_rfl)]; exact laidMet_laidAll _ (by kernel_rfl) (by kernel_rfl))) ?_
  intro W base args ds gs before hval0 hW _ _ hL _
  have hval : ∀ (j : Nat) t v, Tryz.f4.params[j]? = some t → args[j]? = some v → Value.okWide Tryz.prog W .any base t v := hval0
  have hW' := hW
  obtain ⟨p, q, hA0, hV, rfl, hfz, _⟩ := hW
  have hA : DataW.TrodAll enc Tryz.prog W 0 (fun _ => true) true Tryz.f4.params.toList args.toList ds p := hA0
  rw [Tryz.params4] at hA hval
  obtain ⟨v0, vs0, d0, ds0, p0, q0, hargs, rfl, rfl, h0, r0⟩ := trodAll_cons hA
  obtain ⟨v1, vs1, d1, ds1, p1, q1, rfl, rfl, rfl, h1, r1⟩ := trodAll_cons r0
  obtain ⟨rfl, rfl, rfl⟩ := trodAll_nil r1
  obtain rfl : args = #[v0, v1] := by cases args; simp_all
  obtain ⟨rfl, rfl⟩ := trodVars_none hV
  have h0k := h0
  obtain ⟨t0, u0, rfl, k0, x0⟩ := open_argS h0 (fun b off hm => hfz b off (by simp [hm]))
  have h1k := h1
  obtain ⟨t1, u1, rfl, k1, x1⟩ := open_argS h1 (fun b off hm => hfz b off (by simp [hm]))
  have hlt0 : ∀ x ∈ p0, x.block < W.heap.size := fun x hx => hW'.lt x (by simp [hx])
  have hlt1 : ∀ x ∈ p1, x.block < W.heap.size := fun x hx => hW'.lt x (by simp [hx])
  clear hA0 hval0
  refine (nodeSame_any t0 t1 u0 u1 W k0 k1 x0 x1 (laidOf hL)).mono fun e W' ⟨he, hg⟩ => ?_
  subst he
  refine ⟨_, rfl, _, _, _, [], p0 ++ (p1 ++ ([])), [], hW', (trodAll_cons_mk (shut_bool Tryz.underlying4 _) trodAll_mk0), ?_, rfl, hg.frame _, fun h => by cases h⟩
  exact (trodAll_cons_mk (Below.trod laidOut (by kernel_rfl) (of_decide_eq_true (by kernel_rfl)) h0k hg hlt0) (trodAll_cons_mk (Below.trod laidOut (by kernel_rfl) (of_decide_eq_true (by kernel_rfl)) h1k hg hlt1) trodAll_mk0))

theorem over : Rows.nodeSameRow.holds Tryz.pinned (OpenSpec.ofChange Rows.nodeSameSpec) :=
  OpenClaim.holds_of_wide 4 Tryz.f4 rfl rfl rfl rfl rfl rfl rfl ⟨rfl, rfl, rfl, rfl, rfl⟩ rfl rfl rfl rfl rfl (by kernel_rfl) Tryz.func4 (by kernel_rfl)
    (of_decide_eq_true (by kernel_rfl)) (by unfold Func.isWrapper; first | (rw [if_pos (by decide +kernel)]; kernel_rfl) | (rw [if_neg (by decide +kernel)]; exact ⟨rfl, rfl⟩))
    (fun os started H enc _ => lifted os started H enc)

/-- THE STATEMENT. -/
theorem proved : Rows.NodeSameCardSaid :=
  Claim7.holds_tied_plain_at .later [] [.data, .data, .data, .data, .sentinel, .sentinel, .data, .data, .pinned] true Rows.nodeSameCard.stood.harness true over (fun _ h => by cases h) (by kernel_rfl) (fun _ h => by cases h) nodeSame_row_tie rfl ⟨rfl, rfl⟩ (by kernel_rfl) rfl
    (fun f fn hf hfn => by
      obtain rfl : f = 4 := Option.some.inj ((show Tryz.prog.funcNamed Rows.nodeSameRow.func = some 4 by kernel_rfl).symm.trans hf) |>.symm
      obtain rfl : fn = Tryz.f4 := (Option.some.inj (Tryz.func4.symm.trans hfn)).symm
      exact ⟨by kernel_rfl, fun j t ht => by
        rw [Tryz.params4] at ht
        have hm : t ∈ [25, 25] := by simpa using Array.mem_of_getElem? ht
        have hall : ([25, 25].all fun u => !Tryz.prog.wantsStandIn u) = true := by kernel_rfl
        exact (show Tryz.prog.wantsStandIn t = false by simpa using List.all_eq_true.1 hall t hm)⟩)
    (by kernel_rfl)
#print axioms proved
end Go.Proofs.YtmjblkcbkekcbaaGreatDoor.nodeSame
