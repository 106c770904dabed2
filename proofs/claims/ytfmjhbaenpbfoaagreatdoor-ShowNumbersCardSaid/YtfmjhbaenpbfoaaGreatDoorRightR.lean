/- The program's Right. -/
import Derived.Test.YtfmjhbaenpbfoaaGreatDoorRightQ
namespace Go.Proofs.YtfmjhbaenpbfoaaGreatDoor
open Go.RowKit

theorem one_is (s : ByteArray) : (oneZ.any fun z => s.toList == z.toList) = (s.toList == [45] || s.toList == [110, 111, 116]) := by
  have e1 : (⟨#[45]⟩ : ByteArray).toList = [45] := by rw [ByteArray.toList_eq]
  have e2 : (⟨#[110, 111, 116]⟩ : ByteArray).toList = [110, 111, 116] := by rw [ByteArray.toList_eq]
  simp only [oneZ, List.any_cons, List.any_nil, Bool.or_false, e1, e2]
theorem ops_is (s : ByteArray) : (opsZ.any fun z => s.toList == z.toList) = twoT s := by
  unfold twoT
  show (twoZ.any fun z => s.toList == z.toList) = _
  congr 1
  funext z
  rw [Bool.eq_iff_iff, beq_iff_eq, beq_iff_eq]
  exact ⟨fun h => h.symm, fun h => h.symm⟩
theorem num_head (s : ByteArray) : numB s.data.toList = (numsT s && !(s.data.toList.head? == some 45)) := by
  rw [← cutS_num]
  show _ = (numB (cutT s) && _)
  unfold cutT
  cases h : s.data.toList with
  | nil => simp [numB]
  | cons c r =>
    by_cases hc : c = 45
    · subst hc
      have hz : numB (45 :: r) = false := by
        have hd : digB 45 = false := by decide
        unfold numB
        simp [hd]
      simp [hz]
    · have hn : ¬ ((c :: r).head? = some 45) := fun e => hc (by simpa using e)
      have hn' : ((c :: r).head? == some 45) = false := beq_eq_false_iff_ne.2 hn
      rw [if_neg hn, hn']
      simp
/-- Whether a - ahead may stand there. -/
def dashOK (pk : Int) (t : T) : Bool := pk == 5 || pk == 6 || !dashT t
theorem seen_text (pk : Int) (t : T) (h : t.kind ≠ 14) : seenT pk t = t.text := by
  unfold seenT
  rw [if_neg (fun e => h e.1)]
theorem dash_no (pk : Int) (t : T) (h : t.kind ≠ 14) : dashOK pk t = true := by
  unfold dashOK dashT
  rw [beq_eq_false_iff_ne.2 h]
  simp
theorem kids_gen (pk : Int) (ks : List Int) (hk : ks.contains 1 = false) : ∀ l : List T, (∀ q, q ∈ l → q.kind ≠ 1 → q.ok (seenT pk q) = (q.right && dashOK pk q)) → ((l.all fun q => ks.contains q.kind) && okL pk l) = ((l.all fun q => dashOK pk q) && allK ks l)
  | [], _ => by rw [okL, allK]; rfl
  | q :: r, h => by
    have ih := kids_gen pk ks hk r fun q hq => h q (List.mem_cons_of_mem _ hq)
    rw [List.all_cons, List.all_cons, okL, allK, among_is]
    cases hc : ks.contains q.kind with
    | false => simp
    | true =>
      have hq : q.kind ≠ 1 := fun e => by rw [e, hk] at hc; cases hc
      rw [h q (List.mem_cons_self ..) hq]
      simp only [Bool.true_and]
      cases hr : q.right with
      | false => simp
      | true =>
        cases hd : dashOK pk q with
        | false => simp
        | true => simpa using ih
theorem all_dash (pk : Int) (ks : List Int) (hk : ks.contains 14 = false) : ∀ l : List T, ((l.all fun q => dashOK pk q) && allK ks l) = allK ks l
  | [] => by rw [allK]; rfl
  | q :: r => by
    have ih := all_dash pk ks hk r
    rw [List.all_cons, allK, among_is]
    cases hc : ks.contains q.kind with
    | false => simp
    | true =>
      have hq : q.kind ≠ 14 := fun e => by rw [e, hk] at hc; cases hc
      rw [dash_no pk q hq, ← ih]
      cases q.right <;> cases (r.all fun q => dashOK pk q) <;> simp
theorem all_dash5 (pk : Int) (h : pk = 5 ∨ pk = 6) (l : List T) : (l.all fun q => dashOK pk q) = true := by
  rw [List.all_eq_true]
  intro q _
  unfold dashOK
  rcases h with rfl | rfl <;> rfl
theorem all_dashE (pk : Int) (h5 : pk ≠ 5) (h6 : pk ≠ 6) (l : List T) : ((l.all fun q => dashOK pk q) && allK [13, 14, 15, 16] l) = exprsK l := by
  rw [exprsK_eq]
  congr 2
  funext q
  unfold dashOK
  rw [beq_eq_false_iff_ne.2 h5, beq_eq_false_iff_ne.2 h6]
  rfl
theorem rule_gen : ∀ l : List T, (∀ q, q ∈ l → q.kind ≠ 1 → q.ok (seenT 4 q) = (q.right && dashOK 4 q)) → ((stripK [[5, 6, 7], [8, 9, 10, 11]] l).isEmpty && okL 4 l) = ruleK l
  | [], _ => by rw [okL, ruleK]; rfl
  | q :: r, h => by
    have ih := rule_gen r fun q hq => h q (List.mem_cons_of_mem _ hq)
    by_cases hc : condK q.kind = true
    · have hc' : ([5, 6, 7] : List Int).contains q.kind = true := by
        unfold condK at hc
        simp only [Bool.or_eq_true, beq_iff_eq] at hc
        rcases hc with (hc | hc) | hc <;> rw [hc] <;> rfl
      have hk1 : q.kind ≠ 1 := fun e => by rw [e] at hc'; cases hc'
      have hk14 : q.kind ≠ 14 := fun e => by rw [e] at hc'; cases hc'
      have hs : stripK [[5, 6, 7], [8, 9, 10, 11]] (q :: r) = stripK [[5, 6, 7], [8, 9, 10, 11]] r := by
        conv => lhs; rw [stripK, List.dropWhile_cons, if_pos hc']
        conv => rhs; rw [stripK]
      rw [hs, okL, ruleK, if_pos hc, h q (List.mem_cons_self ..) hk1, dash_no 4 q hk14, Bool.and_true, ← ih, among_is, hc']
      cases q.right <;> simp
    · have hc' : ([5, 6, 7] : List Int).contains q.kind = false := by
        rw [Bool.eq_false_iff]
        intro e
        apply hc
        rw [List.contains_iff_mem] at e
        simp only [List.mem_cons, List.not_mem_nil, or_false] at e
        unfold condK
        rcases e with e | e | e <;> rw [e] <;> rfl
      have hs : stripK [[5, 6, 7], [8, 9, 10, 11]] (q :: r) = stripK [[8, 9, 10, 11]] (q :: r) := by
        rw [stripK, List.dropWhile_cons, if_neg (by rw [hc']; simp)]
      rw [hs, ruleK, if_neg hc, strip_one, kids_gen 4 [8, 9, 10, 11] rfl (q :: r) h, all_dash 4 [8, 9, 10, 11] rfl, allK_cons, actsK_eq]

theorem len_many (t : T) : t.kids.length < t.many := by
  have e : ∀ l : List T, l.length ≤ manyL l := by
    intro l
    induction l with
    | nil => simp
    | cons k l ih =>
      rw [List.length_cons, manyL]
      have : 1 ≤ k.many := by rw [T.many_eq]; omega
      omega
  have := e t.kids
  rw [T.many_eq]
  omega
theorem T.right_if (t : T) : t.right = (decide (0 ≤ t.pos) && (t.num == 0 || t.kind == 4 || t.kind == 9) &&
    (if t.kind == 2 then nameT t.text && allK [3] t.kids
    else if t.kind == 3 then nameT t.text && t.kids.length == 0
    else if t.kind == 4 then nameT t.text && decide (-2147483647 ≤ t.num) && decide (t.num ≤ 2147483647) && ruleK t.kids
    else if t.kind == 5 || t.kind == 6 then nameT t.text && allK [12, 13, 14, 15] t.kids
    else if t.kind == 7 then t.text.toList.isEmpty && t.kids.length == 1 && exprsK t.kids
    else if t.kind == 8 then nameT t.text && exprsK t.kids
    else if t.kind == 9 then t.text.toList.isEmpty && decide (0 ≤ t.num) && decide (t.num ≤ 2147483647) && t.kids.length == 0
    else if t.kind == 10 then t.text.toList.isEmpty && decide (1 ≤ t.kids.length) && exprsK t.kids
    else if t.kind == 11 || t.kind == 12 then t.text.toList.isEmpty && t.kids.length == 0
    else if t.kind == 13 || t.kind == 15 then Nm.namedB t.text.data.toList && t.kids.length == 0
    else if t.kind == 14 then numsT t.text && t.kids.length == 0
    else if t.kind == 16 then (t.kids.length == 1 && (t.text.toList == [45] || t.text.toList == [110, 111, 116]) || t.kids.length == 2 && twoT t.text) && exprsK t.kids
    else false)) := by cases t; rw [T.right]; rfl
theorem okL_nil (k : Int) (l : List T) (h : (l.length == 0) = true) : okL k l = true := by
  have hl : l = [] := List.eq_nil_of_length_eq_zero (by simpa using h)
  rw [hl, okL]

theorem ok_right (t : T) : t.many ≤ 4096 → t.kind ≠ 1 → ∀ pk, t.ok (seenT pk t) = (t.right && dashOK pk t) := by
  induction t using T.ind with
  | h t ih =>
    intro hm h1 pk
    have hlen : t.kids.length ≤ 4096 := by have := len_many t; omega
    have ihk : ∀ q, q ∈ t.kids → q.kind ≠ 1 → q.ok (seenT t.kind q) = (q.right && dashOK t.kind q) := fun q hq h => ih q hq (by have := many_kid hq; omega) h t.kind
    by_cases h14 : t.kind = 14
    · rw [T.ok_eq, T.right_if, h14, tab14, turn_none]
      have e : (numB (seenT pk t).data.toList) = (numsT t.text && dashOK pk t) := by
        unfold seenT dashOK dashT
        by_cases h5 : pk = 5 ∨ pk = 6
        · rw [if_pos ⟨h14, h5⟩, cutS_num]
          rcases h5 with rfl | rfl <;> simp
        · rw [if_neg (fun e => h5 e.2), num_head, h14, beq_eq_false_iff_ne.2 (fun e => h5 (Or.inl e)), beq_eq_false_iff_ne.2 (fun e => h5 (Or.inr e))]
          simp
      rw [e]
      cases hz : (t.kids.length == 0) with
      | false => simp
      | true =>
        rw [okL_nil _ _ hz]
        cases decide (0 ≤ t.pos) <;> cases (t.num == 0) <;> cases numsT t.text <;> cases dashOK pk t <;> rfl
    · rw [seen_text pk t h14, dash_no pk t h14, Bool.and_true, T.ok_eq, T.right_if]
      by_cases hk : t.kind < 1 ∨ 16 < t.kind
      · rw [tabX _ _ _ _ hk]
        have e : ∀ z : Int, 1 ≤ z → z ≤ 16 → (t.kind == z) = false := fun z h1 h2 => beq_eq_false_iff_ne.2 (by omega)
        simp [e]
      · have hcase : t.kind = 2 ∨ t.kind = 3 ∨ t.kind = 4 ∨ t.kind = 5 ∨ t.kind = 6 ∨ t.kind = 7 ∨ t.kind = 8 ∨ t.kind = 9 ∨ t.kind = 10 ∨ t.kind = 11 ∨ t.kind = 12 ∨ t.kind = 13 ∨ t.kind = 15 ∨ t.kind = 16 := by omega
        have hnone : ∀ (k : Int) (x : Bool), (decide (0 ≤ t.pos) && (x && turnK 0 0 [] t.kids) && okL k t.kids) = (decide (0 ≤ t.pos) && (x && (t.kids.length == 0))) := by
          intro k x
          rw [turn_none]
          cases hz : (t.kids.length == 0) with
          | false => simp
          | true => rw [okL_nil _ _ hz, Bool.and_true]
        rcases hcase with h | h | h | h | h | h | h | h | h | h | h | h | h | h
        · rw [h] at ihk ⊢
          have g := kids_gen 2 [3] rfl t.kids ihk
          rw [all_dash 2 [3] rfl] at g
          rw [tab2, turn_many _ _ hlen, strip_one, ← g]
          cases decide (0 ≤ t.pos) <;> cases (t.num == 0) <;> cases nameT t.text <;> simp
        · rw [h, tab3, hnone]
          cases decide (0 ≤ t.pos) <;> cases (t.num == 0) <;> cases nameT t.text <;> simp
        · rw [h] at ihk ⊢
          have g := rule_gen t.kids ihk
          rw [tab4, turn_many _ _ hlen, ← g]
          cases decide (0 ≤ t.pos) <;> cases nameT t.text <;> cases decide (-2147483647 ≤ t.num) <;> cases decide (t.num ≤ 2147483647) <;> simp
        · rw [h] at ihk ⊢
          have g := kids_gen 5 [12, 13, 14, 15] rfl t.kids ihk
          rw [all_dash5 5 (Or.inl rfl), Bool.true_and] at g
          rw [tab5, turn_many _ _ hlen, strip_one, ← g]
          cases decide (0 ≤ t.pos) <;> cases (t.num == 0) <;> cases nameT t.text <;> simp
        · rw [h] at ihk ⊢
          have g := kids_gen 6 [12, 13, 14, 15] rfl t.kids ihk
          rw [all_dash5 6 (Or.inr rfl), Bool.true_and] at g
          rw [tab6, turn_many _ _ hlen, strip_one, ← g]
          cases decide (0 ≤ t.pos) <;> cases (t.num == 0) <;> cases nameT t.text <;> simp
        · rw [h] at ihk ⊢
          have g := kids_gen 7 [13, 14, 15, 16] rfl t.kids ihk
          rw [all_dashE 7 (by decide) (by decide)] at g
          have ht := turn_just 1 [13, 14, 15, 16] t.kids
          rw [tab7, show turnK 1 1 [[13, 14, 15, 16]] t.kids = _ from ht, ← g]
          cases decide (0 ≤ t.pos) <;> cases (t.num == 0) <;> cases t.text.toList.isEmpty <;> cases (t.kids.length == 1) <;> simp
        · rw [h] at ihk ⊢
          have g := kids_gen 8 [13, 14, 15, 16] rfl t.kids ihk
          rw [all_dashE 8 (by decide) (by decide)] at g
          rw [tab8, turn_many _ _ hlen, strip_one, ← g]
          cases decide (0 ≤ t.pos) <;> cases (t.num == 0) <;> cases nameT t.text <;> simp
        · rw [h, tab9, hnone]
          cases decide (0 ≤ t.pos) <;> cases t.text.toList.isEmpty <;> simp
        · rw [h] at ihk ⊢
          have g := kids_gen 10 [13, 14, 15, 16] rfl t.kids ihk
          rw [all_dashE 10 (by decide) (by decide)] at g
          rw [tab10, turn_least _ _ hlen, ← g]
          cases decide (0 ≤ t.pos) <;> cases (t.num == 0) <;> cases t.text.toList.isEmpty <;> cases decide (1 ≤ t.kids.length) <;> simp
        · rw [h, tab11, hnone]
          cases decide (0 ≤ t.pos) <;> cases (t.num == 0) <;> cases t.text.toList.isEmpty <;> simp
        · rw [h, tab12, hnone]
          cases decide (0 ≤ t.pos) <;> cases (t.num == 0) <;> cases t.text.toList.isEmpty <;> simp
        · rw [h, tab13, hnone]
          cases decide (0 ≤ t.pos) <;> cases (t.num == 0) <;> cases Nm.namedB t.text.data.toList <;> simp
        · rw [h, tab15, hnone]
          cases decide (0 ≤ t.pos) <;> cases (t.num == 0) <;> cases Nm.namedB t.text.data.toList <;> simp
        · rw [h] at ihk ⊢
          have g := kids_gen 16 [13, 14, 15, 16] rfl t.kids ihk
          rw [all_dashE 16 (by decide) (by decide)] at g
          have ht1 := turn_just 1 [13, 14, 15, 16] t.kids
          have ht2 := turn_just 2 [13, 14, 15, 16] t.kids
          rw [tab16, show turnK 1 1 [[13, 14, 15, 16]] t.kids = _ from ht1, show turnK 2 2 [[13, 14, 15, 16]] t.kids = _ from ht2, one_is, ops_is, ← g]
          cases decide (0 ≤ t.pos) <;> cases (t.num == 0) <;> cases (t.text.toList == [45] || t.text.toList == [110, 111, 116]) <;> cases twoT t.text <;> cases (t.kids.length == 1) <;> cases (t.kids.length == 2) <;> cases (t.kids.all fun q => ([13, 14, 15, 16] : List Int).contains q.kind) <;> simp
/-- The whole. -/
theorem right_is (t : T) : (t.kind == 1 && (walkR tabQ t t.text 0 4096).1) = rightT t := by
  rw [walk_says t t.text 0 4096 (by omega)]
  unfold rightT
  by_cases hk : t.kind = 1
  · by_cases hm : t.many ≤ 4096
    · have hlen : t.kids.length ≤ 4096 := by have := len_many t; omega
      have g := kids_gen 1 [2, 4] rfl t.kids (fun q hq h => ok_right q (by have := many_kid hq; omega) h 1)
      rw [all_dash 1 [2, 4] rfl] at g
      have e : t.ok t.text = (decide (0 ≤ t.pos) && (t.text.toList.isEmpty && (t.num == 0)) && allK [2, 4] t.kids) := by
        rw [T.ok_eq, hk, tab1, turn_many _ _ hlen, strip_one, ← g]
        cases decide (0 ≤ t.pos) <;> cases (t.num == 0) <;> cases t.text.toList.isEmpty <;> simp
      rw [hk, e, decide_eq_true (show (t.many : Int) ≤ 4096 by omega), decide_eq_true hm, Nat.zero_add]
      cases decide (0 ≤ t.pos) <;> cases (t.num == 0) <;> cases t.text.toList.isEmpty <;> cases allK [2, 4] t.kids <;> cases decide (t.deep ≤ 30) <;> simp
    · rw [decide_eq_false hm, decide_eq_false (show ¬ (t.many : Int) ≤ 4096 by omega)]
      simp
  · rw [beq_eq_false_iff_ne.2 hk]
    simp

theorem lines_any (us : List Value) (h : us.length = 17) : hasQ (linesOf us) = tabQ := hasQ_lines us h

set_option maxRecDepth 100000 in
set_option maxHeartbeats 1000000 in
theorem progRight_any (t : T) (v : Value) (w : World) (hk : Lies w.heap.size w t v) (hL : Laid w) (hs : Short t) :
    Calls Tryz.prog 16 #[agg t v] w fun e w' => e = .returned (.bool (rightT t)) ∧ Below w.heap.size w w' := by
  have HL := Lib.hid hL
  have HS := Lib.hid hs
  have HK := Lib.hid hk
  obtain ⟨ao, c, ps, rfl, k1⟩ := hk.out
  have HR := Lib.hid (right_is t)
  have KH := Lib.hid (fun W => shapes_any W)
  clear hL hs hk k1
  unfold agg
  go_enter Tryz.func16, Tryz.ntmps16
  go_wp2_with (go_at_call 28; go_must (refine (KH.out _).mono ?_; rintro e w1 ⟨us, sv, hul, rfl, hln, hb1⟩; have HLn := Lib.hid (And.intro hul hln); obtain ⟨⟨sao, sc, rfl, -⟩, -, -⟩ := hln; have HB1 := Lib.hid (below_step (below_own _) hb1); have HB1' := Lib.hid hb1; clear hul hb1; refine Hid.out ?_))
  have HW : Hid (WalkAt w1.heap.size w1.heap.size (w1.alloc (.cells #[.slice sao (linesOf us).length sc, .int .i64 4096] 59)) (.slice sao (linesOf us).length sc) (linesOf us) 4096) := by
    have hh := heap_alloc_new w1 (.cells #[.slice sao (linesOf us).length sc, .int .i64 4096] 59)
    have h5 := HL.out.errs.two
    have h6 := HB1.out.size
    exact ⟨Lib.cell_of_heap hh 0, Lib.cell_of_heap hh 1, fun j => Lib.frozen_of_heap hh j, HLn.out.2.up (below_own _) (Nat.le_refl _), (HL.out.below HB1.out).below (below_own _), by omega, Nat.le_refl _, by simp⟩
  have KW : Hid (∀ W, Below (w1.alloc (.cells #[.slice sao (linesOf us).length sc, .int .i64 4096] 59)).heap.size (w1.alloc (.cells #[.slice sao (linesOf us).length sc, .int .i64 4096] 59)) W → Calls Tryz.prog 29 #[.pointer (some ⟨w1.heap.size, 0, none⟩), .agg #[.int .u8 t.kind, .string t.text, .int .i64 t.num, .int .i64 t.pos, .slice ao t.kids.length c, .int .i64 0]] W fun e w' => e = .returned (.bool (walkR tabQ t t.text 0 4096).1) ∧ Below w.heap.size w w') := fun W hb => by
    have hbw : Below w.heap.size w (w1.alloc (.cells #[.slice sao (linesOf us).length sc, .int .i64 4096] 59)) := below_new HB1.out _
    have := progRight_walk t t.text 0 4096 (.slice ao t.kids.length c) (.slice sao (linesOf us).length sc) (linesOf us) w1.heap.size w1.heap.size W (HW.out.below hb) (by omega) (by omega) (by omega) HS.out.size HS.out ((HK.out.up (hbw.trans (hb.mono hbw.size)) (show w.heap.size ≤ w1.heap.size from HB1.out.size)))
    rw [lines_any us HLn.out.1] at this
    refine this.mono ?_
    rintro e w' ⟨he, -, hf⟩
    have h1 := HB1.out.size
    have h2 := hb.size
    exact ⟨he, (hbw.trans (hb.mono hbw.size)).trans (hf.below (by simp at h2; omega) h1)⟩
  have hsz : w.heap.size < w1.heap.size := by
    have := HB1'.out.size
    simp at this
    omega
  have nb0 : w1.cell? ⟨w.heap.size, 0, none⟩ = some (.int .u8 t.kind) := by
    have h := (bret HB1'.out).1 0
    rw [h]
    exact cells_made w _ _ 0 _ rfl
  have nb1 : w1.cell? ⟨w.heap.size, 1, none⟩ = some (.string t.text) := by
    have h := (bret HB1'.out).1 1
    rw [h]
    exact cells_made w _ _ 1 _ rfl
  have nb2 : w1.cell? ⟨w.heap.size, 2, none⟩ = some (.int .i64 t.num) := by
    have h := (bret HB1'.out).1 2
    rw [h]
    exact cells_made w _ _ 2 _ rfl
  have nb3 : w1.cell? ⟨w.heap.size, 3, none⟩ = some (.int .i64 t.pos) := by
    have h := (bret HB1'.out).1 3
    rw [h]
    exact cells_made w _ _ 3 _ rfl
  have nb4 : w1.cell? ⟨w.heap.size, 4, none⟩ = some (.slice ao t.kids.length c) := by
    have h := (bret HB1'.out).1 4
    rw [h]
    exact cells_made w _ _ 4 _ rfl
  have HBW : Hid (Below w.heap.size w (w1.alloc (.cells #[.slice sao (linesOf us).length sc, .int .i64 4096] 59))) := below_new HB1.out _
  by_cases hk1 : t.kind = 1
  · have hk1' : (t.kind == 1) = true := beq_iff_eq.2 hk1
    have HK1 := Lib.hid hk1'
    clear hk1'
    rw [hk1] at KW
    refine Lib.hid ?_
    go_wp2_with (go_at_call 29; go_must (refine (KW.out _ (Below.refl _ _)).mono ?_; rintro e w2 ⟨rfl, hb2⟩; have HB2 := Lib.hid hb2; clear hb2; refine Hid.out ?_))
    refine Lib.hid ?_
    go_wp2_with fail
    go_ret
    have h := HR.out
    rw [HK1.out] at h
    exact ⟨by rw [← h]; rfl, HB2.out⟩
  · have hk1' : (t.kind == 1) = false := beq_eq_false_iff_ne.2 hk1
    have HK1 := Lib.hid hk1'
    clear hk1'
    refine Lib.hid ?_
    go_wp2_with fail
    go_ret
    have h := HR.out
    rw [HK1.out] at h
    exact ⟨by rw [← h]; rfl, HBW.out⟩
end Go.Proofs.YtfmjhbaenpbfoaaGreatDoor
