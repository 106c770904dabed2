/- The text of a tree: the document's table, plainly. -/
import Derived.Test.YtfmjhbaenpbfoaaGreatDoorNodeP
import Derived.Test.YtfmjhbaenpbfoaaGreatDoorCountW
import Derived.Test.YtfmjhbaenpbfoaaGreatDoorRightR
import Derived.Test.YtfmjhbaenpbfoaaGreatDoorStood
import Derived.Test.YtfmjhbaenpbfoaaGreatDoorInv
import Derived.Lib.ItoaLen
import Derived.Lib.OthersKept
import Derived.Lib.FrozenHead2
import Derived.Lib.UnsafeStr
import Derived.Deep.DeepCutAuto
import Derived.IntWalk
namespace Go.Proofs.YtfmjhbaenpbfoaaGreatDoor
open Go.RowKit

abbrev L8 := List UInt8
abbrev T.tx (t : T) : L8 := t.text.data.toList
/-- How strongly an operator of two binds. -/
def opB (s : ByteArray) : Nat :=
  if (s.toList == [111, 114]) = true then 1 else if (s.toList == [97, 110, 100]) = true then 2 else if (s.toList == [43]) = true then 4 else if (s.toList == [45]) = true then 4 else if (s.toList == [42]) = true then 5 else 3
theorem opB_range (s : ByteArray) : 1 ≤ opB s ∧ opB s ≤ 5 := by
  unfold opB
  repeat' split
  all_goals exact ⟨by decide, by decide⟩
/-- How strongly an expression binds. -/
def bindsT (t : T) : Nat := if t.kind = 16 then (if t.kids.length = 1 then 6 else opB t.text) else 7
theorem binds_range (t : T) : 1 ≤ bindsT t ∧ bindsT t ≤ 7 := by
  have := opB_range t.text
  unfold bindsT
  split
  · split
    · exact ⟨by decide, by decide⟩
    · omega
  · exact ⟨by decide, by decide⟩
/-- In brackets, where it binds less than is asked for. -/
def inB (b least : Nat) (x : L8) : L8 := if b < least then [40] ++ x ++ [41] else x
def leftB (k : Nat) : Nat := if k = 3 then 4 else k
def opTx (s : L8) (k : Nat) : List (Nat × L8) → L8
  | [] => []
  | [a] => (if s = [110, 111, 116] then [110, 111, 116, 32] else [45]) ++ inB a.1 6 a.2
  | a :: b :: _ => inB a.1 (leftB k) a.2 ++ [32] ++ s ++ [32] ++ inB b.1 (k + 1) b.2
mutual
/-- An expression's text, an argument's. -/
def T.expr : T → L8
  | .mk k s n p l => if k = 12 then [95] else if k = 13 then [63] ++ s.data.toList else if k = 15 then [39] ++ s.data.toList else if k = 14 then s.data.toList else opTx s.data.toList (bindsT (.mk k s n p l)) (exprL l)
def exprL : List T → List (Nat × L8)
  | [] => []
  | k :: l => (bindsT k, k.expr) :: exprL l
end
theorem exprL_nil : exprL [] = [] := by rw [exprL]
theorem exprL_cons (k : T) (l : List T) : exprL (k :: l) = (bindsT k, k.expr) :: exprL l := by rw [exprL]
theorem T.expr_eq (t : T) : t.expr = if t.kind = 12 then [95] else if t.kind = 13 then [63] ++ t.tx else if t.kind = 15 then [39] ++ t.tx else if t.kind = 14 then t.tx else opTx t.tx (bindsT t) (exprL t.kids) := by
  cases t
  rw [T.expr]
  rfl

/-- An expression as it may be, or an argument. -/
inductive IsX : T → Prop
  | leaf (t : T) (h : t.kind = 12 ∨ t.kind = 13 ∨ t.kind = 14 ∨ t.kind = 15) : IsX t
  | one (t x : T) (h : t.kind = 16) (hk : t.kids = [x]) (hs : t.text.toList = [45] ∨ t.text.toList = [110, 111, 116]) (hx : IsX x) : IsX t
  | two (t x y : T) (h : t.kind = 16) (hk : t.kids = [x, y]) (hx : IsX x) (hy : IsX y) : IsX t

theorem bt_toList (s : ByteArray) : s.toList = s.data.toList := ByteArray.toList_eq s
theorem allK_mem {ks : List Int} : ∀ {l : List T}, allK ks l = true → ∀ k, k ∈ l → among ks k.kind = true ∧ k.right = true
  | [], _, k, hk => by cases hk
  | a :: l, h, k, hk => by
    rw [allK_cons, Bool.and_eq_true, Bool.and_eq_true] at h
    rcases List.mem_cons.1 hk with rfl | hk
    · exact h.1
    · exact allK_mem h.2 k hk
theorem exprsK_mem {l : List T} (h : exprsK l = true) : ∀ k, k ∈ l → among [13, 14, 15, 16] k.kind = true ∧ k.right = true := by
  rw [exprsK_eq, Bool.and_eq_true] at h
  exact allK_mem h.2
theorem among_cons (z : Int) (ks : List Int) (k : Int) : among (z :: ks) k = (k == z || among ks k) := by unfold among; rw [List.any_cons]
theorem among_nil (k : Int) : among [] k = false := rfl
theorem among_mem {ks : List Int} {k : Int} (h : among ks k = true) : k ∈ ks := by
  induction ks with
  | nil => cases h
  | cons z ks ih =>
    rw [among_cons, Bool.or_eq_true] at h
    rcases h with h | h
    · rw [beq_iff_eq.1 h]; exact List.mem_cons_self ..
    · exact List.mem_cons_of_mem _ (ih h)
theorem T.right_tab (t : T) : t.right = (decide (0 ≤ t.pos) && (t.num == 0 || t.kind == 4 || t.kind == 9) &&
    (if t.kind == 2 then nameT t.text && allK [3] t.kids
    else if t.kind == 3 then nameT t.text && t.kids.length == 0
    else if t.kind == 4 then nameT t.text && decide (-2147483647 ≤ t.num) && decide (t.num ≤ 2147483647) && ruleK t.kids
    else if t.kind == 5 || t.kind == 6 then nameT t.text && allK [12, 13, 14, 15] t.kids
    else if t.kind == 7 then t.text.toList.isEmpty && t.kids.length == 1 && exprsK t.kids
    else if t.kind == 8 then nameT t.text && exprsK t.kids
    else if t.kind == 9 then t.text.toList.isEmpty && decide (0 ≤ t.num) && decide (t.num ≤ 2147483647) && t.kids.length == 0
    else if t.kind == 10 then t.text.toList.isEmpty && decide (1 ≤ t.kids.length) && exprsK t.kids
    else if t.kind == 11 || t.kind == 12 then t.text.toList.isEmpty && t.kids.length == 0
    else if t.kind == 13 || t.kind == 15 then Nm.namedB t.text.data.toList && t.kids.length == 0
    else if t.kind == 14 then numsT t.text && t.kids.length == 0
    else if t.kind == 16 then (t.kids.length == 1 && (t.text.toList == [45] || t.text.toList == [110, 111, 116]) || t.kids.length == 2 && twoT t.text) && exprsK t.kids
    else false)) := by
  cases t
  rw [T.right]
  rfl
theorem isX_of (t : T) : t.right = true → among [12, 13, 14, 15, 16] t.kind = true → IsX t := by
  induction t using T.ind with
  | h t ih =>
    intro hr hk
    have hm := among_mem hk
    simp only [List.mem_cons, List.not_mem_nil, or_false] at hm
    rcases hm with h | h | h | h | h
    · exact .leaf t (Or.inl h)
    · exact .leaf t (Or.inr (Or.inl h))
    · exact .leaf t (Or.inr (Or.inr (Or.inl h)))
    · exact .leaf t (Or.inr (Or.inr (Or.inr h)))
    · rw [T.right_tab, h, Bool.and_eq_true] at hr
      have h2 := hr.2
      simp only [show ((16 : Int) == 2) = false by decide, show ((16 : Int) == 3) = false by decide, show ((16 : Int) == 4) = false by decide, show ((16 : Int) == 5) = false by decide, show ((16 : Int) == 6) = false by decide, show ((16 : Int) == 7) = false by decide, show ((16 : Int) == 8) = false by decide, show ((16 : Int) == 9) = false by decide, show ((16 : Int) == 10) = false by decide, show ((16 : Int) == 11) = false by decide, show ((16 : Int) == 12) = false by decide, show ((16 : Int) == 13) = false by decide, show ((16 : Int) == 14) = false by decide, show ((16 : Int) == 15) = false by decide, show ((16 : Int) == 16) = true by decide, Bool.or_false, if_true, Bool.false_eq_true, if_false, Bool.and_eq_true, Bool.or_eq_true] at h2
      have hx := exprsK_mem h2.2
      have gen : ∀ k, k ∈ t.kids → IsX k := fun k hk => by
        obtain ⟨a1, a2⟩ := hx k hk
        refine ih k hk a2 ?_
        rw [among_cons, a1, Bool.or_true]
      rcases h2.1 with ⟨e1, e2⟩ | ⟨e1, -⟩
      · have e1' : t.kids.length = 1 := by simpa using e1
        obtain ⟨x, hx1⟩ := List.length_eq_one_iff.1 e1'
        exact .one t x h hx1 (Or.elim e2 (fun e => Or.inl (by simpa using e)) (fun e => Or.inr (by simpa using e))) (gen x (by rw [hx1]; exact List.mem_singleton.2 rfl))
      · have e1' : t.kids.length = 2 := by simpa using e1
        obtain ⟨x, y, hxy⟩ : ∃ x y, t.kids = [x, y] := by
          cases hq : t.kids with
          | nil => rw [hq] at e1'; cases e1'
          | cons x l =>
            cases l with
            | nil => rw [hq] at e1'; cases e1'
            | cons y m =>
              cases m with
              | nil => exact ⟨x, y, rfl⟩
              | cons z m => rw [hq] at e1'; simp at e1'
        exact .two t x y h hxy (gen x (by rw [hxy]; simp)) (gen y (by rw [hxy]; simp))

/-- Kids with commas between. -/
def commaL (f : T → L8) : List T → L8
  | [] => []
  | k :: l => f k ++ (if l = [] then [] else [44, 32] ++ commaL f l)
def rowX (l : List T) : L8 := commaL T.expr l
def partT (t : T) : L8 :=
  if t.kind = 6 then [110, 111, 116, 32] ++ t.tx ++ [40] ++ rowX t.kids ++ [41, 59]
  else if t.kind = 7 then [116, 101, 115, 116, 32] ++ rowX t.kids ++ [59]
  else if t.kind = 8 then [97, 115, 115, 101, 114, 116, 32] ++ t.tx ++ [40] ++ rowX t.kids ++ [41, 59]
  else if t.kind = 9 then [114, 101, 116, 114, 97, 99, 116, 32] ++ Lib.itoa t.num ++ [59]
  else if t.kind = 10 then [115, 97, 121, 32] ++ rowX t.kids ++ [59]
  else if t.kind = 11 then [104, 97, 108, 116, 59]
  else t.tx ++ [40] ++ rowX t.kids ++ [41, 59]
def eachT (f : T → L8) (e : L8) (l : List T) : L8 := l.flatMap fun k => f k ++ e
def declT (t : T) : L8 :=
  if t.kind = 2 then [102, 97, 99, 116, 32] ++ t.tx ++ [40] ++ commaL T.tx t.kids ++ [41, 59]
  else [114, 117, 108, 101, 32] ++ t.tx ++ (if t.num = 0 then [] else [32, 115, 97, 108, 105, 101, 110, 99, 101, 32] ++ Lib.itoa t.num) ++ [32, 123, 32] ++ eachT partT [32] (t.kids.take (condsN t.kids)) ++ [61, 62, 32] ++ eachT partT [32] (t.kids.drop (condsN t.kids)) ++ [125]
/-- The whole: P7.1. -/
def showT (t : T) : L8 := eachT declT [10] t.kids

/-- A condition, an action, as it may be. -/
structure IsPart (t : T) : Prop where
  kind : t.kind = 5 ∨ t.kind = 6 ∨ t.kind = 7 ∨ t.kind = 8 ∨ t.kind = 9 ∨ t.kind = 10 ∨ t.kind = 11
  kids : ∀ k, k ∈ t.kids → IsX k
  args : t.kind = 5 ∨ t.kind = 6 → ∀ k, k ∈ t.kids → k.kind = 12 ∨ k.kind = 13 ∨ k.kind = 14 ∨ k.kind = 15
  num : t.kind = 9 → 0 ≤ t.num ∧ t.num ≤ 2147483647
theorem isPart_of (t : T) (hr : t.right = true) (h : t.kind = 5 ∨ t.kind = 6 ∨ t.kind = 7 ∨ t.kind = 8 ∨ t.kind = 9 ∨ t.kind = 10 ∨ t.kind = 11) : IsPart t := by
  rw [T.right_tab, Bool.and_eq_true] at hr
  have h2 := hr.2
  clear hr
  have argsX : ∀ k, among [12, 13, 14, 15] k = true → k = 12 ∨ k = 13 ∨ k = 14 ∨ k = 15 := fun k hk => by
    have := among_mem hk
    simpa using this
  have xs : exprsK t.kids = true → ∀ k, k ∈ t.kids → IsX k := fun hx k hk => by
    obtain ⟨a1, a2⟩ := exprsK_mem hx k hk
    exact isX_of k a2 (by rw [among_cons, a1, Bool.or_true])
  have none0 : t.kids.length = 0 → ∀ k, k ∈ t.kids → IsX k := fun hx k hk => by
    rw [List.length_eq_zero_iff.1 hx] at hk
    cases hk
  rcases h with h | h | h | h | h | h | h <;> rw [h] at h2 <;> simp at h2
  · have h3 := allK_mem h2.2
    exact ⟨Or.inl h, fun k hk => .leaf k (argsX _ (h3 k hk).1), fun _ k hk => argsX _ (h3 k hk).1, fun e => by omega⟩
  · have h3 := allK_mem h2.2
    exact ⟨Or.inr (Or.inl h), fun k hk => .leaf k (argsX _ (h3 k hk).1), fun _ k hk => argsX _ (h3 k hk).1, fun e => by omega⟩
  · exact ⟨by omega, xs h2.2, fun e => by omega, fun e => by omega⟩
  · exact ⟨by omega, xs h2.2, fun e => by omega, fun e => by omega⟩
  · exact ⟨by omega, none0 (by simp [h2.2]), fun e => by omega, fun _ => ⟨h2.1.1.2, h2.1.2⟩⟩
  · exact ⟨by omega, xs h2.2, fun e => by omega, fun e => by omega⟩
  · exact ⟨by omega, none0 (by simp [h2.2]), fun e => by omega, fun e => by omega⟩
/-- A type, a rule, as it may be. -/
structure IsDecl (t : T) : Prop where
  kind : t.kind = 2 ∨ t.kind = 4
  num : t.kind = 4 → -2147483647 ≤ t.num ∧ t.num ≤ 2147483647
  conds : t.kind = 4 → ∀ k, k ∈ t.kids.take (condsN t.kids) → IsPart k ∧ condK k.kind = true
  acts : t.kind = 4 → ∀ k, k ∈ t.kids.drop (condsN t.kids) → IsPart k ∧ condK k.kind = false
theorem isDecl_of (t : T) (hr : t.right = true) (h : t.kind = 2 ∨ t.kind = 4) : IsDecl t := by
  rw [T.right_tab, Bool.and_eq_true] at hr
  have h2 := hr.2
  clear hr
  rcases h with h | h <;> rw [h] at h2 <;> simp at h2
  · exact ⟨Or.inl h, fun e => by omega, fun e => by omega, fun e => by omega⟩
  · rw [ruleK_eq, Bool.and_eq_true] at h2
    refine ⟨Or.inr h, fun _ => ⟨h2.1.1.2, h2.1.2⟩, fun _ k hk => ?_, fun _ k hk => ?_⟩
    · obtain ⟨a1, a2⟩ := allK_mem h2.2.1 k hk
      have := among_mem a1
      simp only [List.mem_cons, List.not_mem_nil, or_false] at this
      exact ⟨isPart_of k a2 (by omega), by unfold condK; rcases this with e | e | e <;> rw [e] <;> rfl⟩
    · obtain ⟨a1, a2⟩ := allK_mem h2.2.2 k hk
      have := among_mem a1
      simp only [List.mem_cons, List.not_mem_nil, or_false] at this
      exact ⟨isPart_of k a2 (by omega), by unfold condK; rcases this with e | e | e | e <;> rw [e] <;> rfl⟩
theorem decls_of {t : T} (h : rightT t = true) : ∀ k, k ∈ t.kids → IsDecl k := by
  unfold rightT at h
  simp only [Bool.and_eq_true] at h
  intro k hk
  obtain ⟨a1, a2⟩ := allK_mem h.1.1.2 k hk
  have := among_mem a1
  simp only [List.mem_cons, List.not_mem_nil, or_false] at this
  exact isDecl_of k a2 this

/-! ### How long a text is -/
theorem manyL_nil : manyL [] = 0 := by rw [manyL]
theorem manyL_cons (k : T) (l : List T) : manyL (k :: l) = k.many + manyL l := by rw [manyL]
/-- Texts that are short. -/
inductive Sml : T → Prop
  | mk (t : T) (ht : t.text.size ≤ 80000) (hp : ∀ k, k ∈ t.kids → Sml k) : Sml t
theorem Small.sml {t : T} (h : Small 9000 t) : Sml t := by
  induction h with
  | mk t ht hl _ ih => exact .mk t (by omega) ih
theorem Sml.text {t : T} (h : Sml t) : t.tx.length ≤ 80000 := by
  cases h with
  | mk _ ht _ => simpa using ht
theorem Sml.kid {t k : T} (h : Sml t) (hk : k ∈ t.kids) : Sml k := by
  cases h with
  | mk _ _ hp => exact hp k hk
theorem inB_len (b l : Nat) (x : L8) : (inB b l x).length ≤ x.length + 2 := by
  unfold inB
  split <;> simp
theorem expr_len (t : T) : Sml t → t.expr.length + 100 ≤ t.many * 80200 := by
  induction t using T.ind with
  | h t ih =>
    intro hS
    have h1 := hS.text
    have hm := T.many_eq t
    have hz : ∀ l : List T, (∀ k, k ∈ l → k ∈ t.kids) → ∀ k, k ∈ l → k.expr.length + 100 ≤ k.many * 80200 := fun l hl k hk => ih k (hl k hk) (hS.kid (hl k hk))
    rw [T.expr_eq]
    have big : 80200 ≤ t.many * 80200 := by rw [hm, Nat.add_mul]; omega
    split
    · simp; omega
    · split
      · simp only [List.length_append, List.length_cons, List.length_nil]; omega
      · split
        · simp only [List.length_append, List.length_cons, List.length_nil]; omega
        · split
          · omega
          · cases hk : t.kids with
            | nil => rw [exprL_nil, opTx]; simp; omega
            | cons x l =>
              have hx := ih x (by rw [hk]; exact List.mem_cons_self ..) (hS.kid (by rw [hk]; exact List.mem_cons_self ..))
              have ix := inB_len (bindsT x)
              cases l with
              | nil =>
                rw [hk, manyL_cons, manyL_nil] at hm
                rw [exprL_cons, exprL_nil, opTx, hm, Nat.add_mul]
                have := ix 6 x.expr
                rw [List.length_append]
                split <;> simp <;> omega
              | cons y l =>
                have hy := ih y (by rw [hk]; simp) (hS.kid (by rw [hk]; simp))
                have iy := inB_len (bindsT y)
                rw [hk, manyL_cons, manyL_cons] at hm
                rw [exprL_cons, exprL_cons, opTx, hm, Nat.add_mul, Nat.add_mul, Nat.add_mul]
                have e1 := ix (leftB (bindsT t)) x.expr
                have e2 := iy (bindsT t + 1) y.expr
                simp only [List.length_append, List.length_cons, List.length_nil]
                omega
theorem commaL_len (f : T → L8) (C : Nat) : ∀ l : List T, (∀ k, k ∈ l → (f k).length + 2 ≤ k.many * C) → (commaL f l).length ≤ manyL l * C
  | [], _ => by rw [commaL]; simp
  | k :: l, h => by
    have h1 := h k (List.mem_cons_self ..)
    have h2 := commaL_len f C l fun q hq => h q (List.mem_cons_of_mem _ hq)
    rw [commaL, manyL_cons, Nat.add_mul, List.length_append]
    split
    · simp; omega
    · simp only [List.length_append, List.length_cons, List.length_nil]; omega
theorem eachT_len (f : T → L8) (e : L8) (C : Nat) : ∀ l : List T, (∀ k, k ∈ l → (f k).length + e.length ≤ k.many * C) → (eachT f e l).length ≤ manyL l * C
  | [], _ => by simp [eachT]
  | k :: l, h => by
    have h1 := h k (List.mem_cons_self ..)
    have h2 := eachT_len f e C l fun q hq => h q (List.mem_cons_of_mem _ hq)
    unfold eachT at h2 ⊢
    rw [manyL_cons, Nat.add_mul, List.flatMap_cons, List.length_append, List.length_append]
    omega
theorem manyL_mono (C D : Nat) (h : C ≤ D) (m : Nat) : m * C ≤ m * D := Nat.mul_le_mul_left m h
theorem rowX_len {l : List T} (h : ∀ k, k ∈ l → Sml k) : (rowX l).length ≤ manyL l * 80200 :=
  commaL_len _ _ _ fun k hk => by have := expr_len k (h k hk); omega
theorem many_pos (t : T) : 1 ≤ t.many := by rw [T.many_eq]; omega
theorem part_len (t : T) (h : Sml t) (hn : t.kind = 9 → 0 ≤ t.num ∧ t.num ≤ 2147483647) : (partT t).length + 10 ≤ t.many * 80400 := by
  have h1 := h.text
  have h2 := rowX_len fun k hk => h.kid (k := k) hk
  have hm := T.many_eq t
  have h3 := manyL_mono 80200 80400 (by decide) (manyL t.kids)
  rw [hm, Nat.add_mul]
  unfold partT
  split
  · simp only [List.length_append, List.length_cons, List.length_nil]; omega
  · split
    · simp only [List.length_append, List.length_cons, List.length_nil]; omega
    · split
      · simp only [List.length_append, List.length_cons, List.length_nil]; omega
      · split
        · rename_i h9
          have := Lib.itoa_length_le t.num (by have := hn h9; omega) (by have := hn h9; omega)
          simp only [List.length_append, List.length_cons, List.length_nil]; omega
        · split
          · simp only [List.length_append, List.length_cons, List.length_nil]; omega
          · split
            · simp only [List.length_cons, List.length_nil]; omega
            · simp only [List.length_append, List.length_cons, List.length_nil]; omega
theorem manyL_append : ∀ l m : List T, manyL (l ++ m) = manyL l + manyL m
  | [], m => by rw [List.nil_append, manyL_nil]; omega
  | k :: l, m => by rw [List.cons_append, manyL_cons, manyL_cons, manyL_append l m]; omega
theorem decl_len (t : T) (h : Sml t) (hd : IsDecl t) : (declT t).length + 10 ≤ t.many * 80600 := by
  have h1 := h.text
  have hm := T.many_eq t
  rw [hm, Nat.add_mul]
  unfold declT
  split
  · have h2 := commaL_len T.tx 80200 t.kids fun k hk => by
      have := (h.kid hk).text
      have := many_pos k
      have := manyL_mono 1 k.many (by omega) 80200
      rw [Nat.mul_comm k.many]
      omega
    have h3 := manyL_mono 80200 80600 (by decide) (manyL t.kids)
    simp only [List.length_append, List.length_cons, List.length_nil]
    omega
  · rename_i hk2
    have hk4 : t.kind = 4 := by have := hd.kind; omega
    have hs := manyL_append (t.kids.take (condsN t.kids)) (t.kids.drop (condsN t.kids))
    rw [List.take_append_drop] at hs
    have e1 := eachT_len partT [32] 80600 (t.kids.take (condsN t.kids)) fun k hk => by
      have := part_len k (h.kid (List.mem_of_mem_take hk)) (hd.conds hk4 k hk).1.num
      have := manyL_mono 80400 80600 (by decide) k.many
      simp only [List.length_cons, List.length_nil]
      omega
    have e2 := eachT_len partT [32] 80600 (t.kids.drop (condsN t.kids)) fun k hk => by
      have := part_len k (h.kid (List.mem_of_mem_drop hk)) (hd.acts hk4 k hk).1.num
      have := manyL_mono 80400 80600 (by decide) k.many
      simp only [List.length_cons, List.length_nil]
      omega
    rw [hs, Nat.add_mul]
    have e3 := Lib.itoa_length_le t.num (by have := hd.num hk4; omega) (by have := hd.num hk4; omega)
    have e4 : (if t.num = 0 then ([] : L8) else [32, 115, 97, 108, 105, 101, 110, 99, 101, 32] ++ Lib.itoa t.num).length ≤ 40 := by
      split
      · simp
      · simp only [List.length_append, List.length_cons, List.length_nil]; omega
    simp only [List.length_append, List.length_cons, List.length_nil] at e4 ⊢
    omega
theorem show_len (t : T) (h : Sml t) (hr : rightT t = true) : (showT t).length ≤ 400000000 := by
  have hd := decls_of hr
  have h1 := eachT_len declT [10] 80600 t.kids fun k hk => by
    have := decl_len k (h.kid hk) (hd k hk)
    simp only [List.length_cons, List.length_nil]
    omega
  have hm : t.many ≤ 4096 := by
    unfold rightT at hr
    rw [Bool.and_eq_true] at hr
    exact of_decide_eq_true hr.2
  rw [T.many_eq] at hm
  have := Nat.mul_le_mul_right 80600 (show manyL t.kids ≤ 4096 by omega)
  unfold showT
  omega
end Go.Proofs.YtfmjhbaenpbfoaaGreatDoor

namespace Go.Proofs.YtfmjhbaenpbfoaaGreatDoor
open Go.RowKit

/-- The text of these bytes. -/
abbrev BA (l : L8) : ByteArray := ⟨l.toArray⟩
theorem ba_tx (s : ByteArray) : BA s.data.toList = s := by
  apply ByteArray.ext
  simp
theorem ba_cat (a b : L8) : BA a ++ BA b = BA (a ++ b) := by
  apply ByteArray.ext
  simp [ByteArray.data_append]
theorem ba_size (l : L8) : (BA l).size = l.length := by simp [ByteArray.size]
theorem tx_size (s : ByteArray) : s.size = s.data.toList.length := by rw [Array.length_toList]; rfl
theorem ba_inj {a b : L8} (h : BA a = BA b) : a = b := by
  have := congrArg (fun s : ByteArray => s.data.toList) h
  simpa using this
end Go.Proofs.YtfmjhbaenpbfoaaGreatDoor

namespace Go.Proofs.YtfmjhbaenpbfoaaGreatDoor
open Go.RowKit

theorem infoU : (Tryz.prog.info? 5).map (fun i => (i.zero, i.size, i.bytes)) = some (some (.int .u8 0), 1, 1) := by kernel_rfl
theorem infoBld : (Tryz.prog.info? 48).map (·.size) = some 2 := by kernel_rfl
theorem liesBld : liesAt Tryz.prog Tryz.prog.depth 50 (2 / Tryz.prog.cellsOf 50) 0 48 1 = true := by kernel_rfl

/-- A writer in block b that holds these bytes. -/
def Wrt (B b : Nat) (bs : L8) (w : World) : Prop := Lib.IsBuilderF 50 5 B b (Lib.byteCells bs) w
/-- What a writing call keeps. -/
structure Kp (B b : Nat) (w w' : World) : Prop where
  bel : Below B w w'
  oth : Lib.OthersKept 5 (some b) w w'
theorem Kp.refl (B b : Nat) (w : World) : Kp B b w w := ⟨Below.refl _ _, Lib.OthersKept.refl _ _ _⟩
theorem Kp.trans {B b : Nat} {w w1 w2 : World} (h : Kp B b w w1) (k : Kp B b w1 w2) : Kp B b w w2 := ⟨h.bel.trans k.bel, h.oth.trans k.oth⟩
theorem Kp.below {B b : Nat} {w w1 w2 : World} (h : Kp B b w w1) (hB : B ≤ w1.heap.size) (k : Below w1.heap.size w1 w2) : Kp B b w w2 :=
  ⟨h.bel.trans (k.mono hB), h.oth.trans fun i _ hi _ _ => (k.block i (Array.getElem?_eq_some_iff.1 hi).1).trans hi⟩
theorem Wrt.le {B b : Nat} {bs : L8} {w : World} (h : Wrt B b bs w) : B ≤ b := by
  rcases h with h | h <;> exact h.1
theorem Wrt.lt {B b : Nat} {bs : L8} {w : World} (h : Wrt B b bs w) : b < w.heap.size := by
  rcases h with h | h <;> exact h.lt
theorem Wrt.base {B b : Nat} {bs : L8} {w : World} (h : Wrt B b bs w) : B ≤ w.heap.size := Nat.le_trans h.le (Nat.le_of_lt h.lt)
theorem grown_below {w w' : World} (h : Below w.heap.size w w') : w.grownBy w' none := ⟨h.os, h.tape, h.output, h.size, fun k hk _ => h.block k hk⟩
theorem bat_below {T e : TypeId} {B b : Nat} {p : Value} {bs : List Value} {w w' : World} (h : Lib.BuilderAtF T e B b p bs w) (k : Below w.heap.size w w') : Lib.BuilderAtF T e B b p bs w' := by
  have hlt := h.lt
  obtain ⟨hB, v, hb, hown, hne⟩ := h
  refine ⟨hB, v, (k.block b hlt).trans hb, hown.kept (grown_below k) ?_, hne⟩
  cases hv : v.ownBlock with
  | none => exact Or.inl rfl
  | some g => exact Or.inr (by simp)
theorem Wrt.below {B b : Nat} {bs : L8} {w w' : World} (h : Wrt B b bs w) (k : Below w.heap.size w w') : Wrt B b bs w' := by
  rcases h with h | h
  · exact Or.inl (bat_below h k)
  · exact Or.inr (bat_below h k)
theorem Kp.alloc {B b : Nat} {w w' : World} (h : Kp B b w w') (hB : B ≤ w'.heap.size) (o : Obj) : Kp B b w (w'.alloc o) := h.below hB (below_own o)
/-- A block of another kind stands. -/
theorem Kp.box {B b g : Nat} {w w' : World} {cs : Array Value} {t : TypeId} {fz : Nat × Nat} (h : Kp B b w w') (hg : w.heap[g]? = some (.cells cs t fz)) (hn : g ≠ b) (ht : t ≠ 5) : w'.heap[g]? = some (.cells cs t fz) :=
  h.oth g _ hg (fun e => hn (Option.some.inj e)) fun c f e => by
    injection e with e1 e2 e3
    exact ht e2

set_option maxRecDepth 100000 in
theorem copy_fresh (b : Nat) (w : World) (h0 : w.cell? ⟨b, 0, none⟩ = some (.pointer none)) (hsh : w.shape? b = some (50, 2)) (hfz : w.frozen? ⟨b, 0, none⟩ = false) :
    Calls Tryz.prog 93 #[.pointer (some ⟨b, 0, none⟩)] w fun e w' => e = .returned (.tuple #[]) ∧ w' = w.setCell ⟨b, 0, none⟩ (.pointer (some ⟨b, 0, none⟩)) := by
  obtain ⟨j, hj, hjs⟩ := Option.map_eq_some_iff.1 infoBld
  go_enter Tryz.func93, Tryz.ntmps93
  go_wp2
  rw [Lib.run_to_unsafe w ⟨b, 0, none⟩ Tryz.underlying45 Tryz.underlying164 hj (by rw [hjs]; decide) hsh (Nat.zero_lt_succ 1)]
  simp only [Result.andThen]
  rw [Oper.upon_value]
  go_wp2
  rw [run_callFunc_extern Tryz.func124 (by kernel_rfl) (by kernel_rfl) (by kernel_rfl) (e := Extern.AbiNoEscape.same) (by kernel_rfl)]
  rw [Lib.run_noEscape]
  simp only [Result.andThen]
  rw [Oper.upon_value]
  go_wp2
  rw [Lib.run_from_unsafe w ⟨b, 0, none⟩ Tryz.underlying164 Tryz.underlying45 hj hsh liesBld]
  simp only [Result.andThen]
  rw [Oper.upon_value]
  go_wp2
  go_end0
  exact ⟨rfl, rfl⟩
set_option maxRecDepth 100000 in
theorem copy_used (b : Nat) (w : World) (h0 : w.cell? ⟨b, 0, none⟩ = some (.pointer (some ⟨b, 0, none⟩))) :
    Calls Tryz.prog 93 #[.pointer (some ⟨b, 0, none⟩)] w fun e w' => e = .returned (.tuple #[]) ∧ w' = w := by
  obtain ⟨j, hj, hjs⟩ := Option.map_eq_some_iff.1 infoBld
  go_enter Tryz.func93, Tryz.ntmps93
  go_wp2
  rw [Lib.run_neq_ptr_same w _ Tryz.underlying45 hj]
  go_wp2
  go_end0
  exact ⟨rfl, rfl⟩
theorem copy_any (B b : Nat) (bs : L8) (w : World) (h : Wrt B b bs w) :
    Calls Tryz.prog 93 #[.pointer (some ⟨b, 0, none⟩)] w fun e w' => e = .returned (.tuple #[]) ∧ Lib.BuilderAtF 50 5 B b (.pointer (some ⟨b, 0, none⟩)) (Lib.byteCells bs) w' ∧ Kp B b w w' := by
  rcases h with h | h
  · refine (copy_fresh b w h.cell0 h.shape h.frozen0).mono ?_
    rintro e w' ⟨rfl, rfl⟩
    exact ⟨rfl, h.used _, (Below.refl B w).setCell (p := ⟨b, 0, none⟩) h.1 _, (Lib.OthersKept.refl _ _ w).setCell ⟨b, 0, none⟩ rfl _⟩
  · refine (copy_used b w h.cell0).mono ?_
    rintro e w' ⟨rfl, rfl⟩
    exact ⟨rfl, h, Kp.refl _ _ _⟩

theorem neWU : 50 ≠ 5 := by decide
theorem cells_str (s : ByteArray) : Lib.strCells s = Lib.byteCells s.data.toList := rfl
theorem cells_add (a b : L8) : Lib.byteCells a ++ Lib.byteCells b = Lib.byteCells (a ++ b) := by simp [Lib.byteCells]

set_option maxHeartbeats 2000000 in
set_option maxRecDepth 100000 in
theorem writeS_any (B b : Nat) (bs : L8) (s : ByteArray) (w : World) (h : Wrt B b bs w) (hlen : bs.length + s.size ≤ 140737488355328) :
    Calls Tryz.prog 67 #[.pointer (some ⟨b, 0, none⟩), .string s] w fun e w' => (∃ v, e = .returned v) ∧ Wrt B b (bs ++ s.data.toList) w' ∧ Kp B b w w' := by
  obtain ⟨i0, hi, hz0, hz1, hz2⟩ := info_parts infoU
  have hBw := h.base
  go_enter Tryz.func67, Tryz.ntmps67
  go_wp2_with (go_at_call 93; refine (copy_any B b bs _ h).mono ?_)
  rintro e w1 ⟨rfl, h1, hk1⟩
  obtain ⟨hB, v, hbk, hown, hne⟩ := h1
  have c0 : w1.cell? ⟨b, 0, none⟩ = some (.pointer (some ⟨b, 0, none⟩)) := by rw [Lib.cell_of_heap hbk]; rfl
  have c1 : w1.cell? ⟨b, 1, none⟩ = some v := by rw [Lib.cell_of_heap hbk]; rfl
  rw [Lib.byteCells_length] at hown
  go_wp2_with (at_builtin; refine Lib.wpList_append_own_stringF _ rfl _ _ 46 9 rfl B 5 i0 Tryz.underlying46 Tryz.underlying9 hi hz0 hz1 hz2 _ _ _ rfl hown s rfl ?c3 ?c4 ?c5 ?_)
  case c3 => unfold maxLen; omega
  case c4 => omega
  case c5 => have := hk1.bel.size; omega
  intro v' w2 hown' hgrow _
  have hlt : b < w1.heap.size := lt_of_heap hbk
  have hb2 : w2.heap[b]? = some (.cells #[.pointer (some ⟨b, 0, none⟩), v] 50 (0, 0)) := by
    rw [hgrow.block b hlt (fun e => hne e.symm)]
    exact hbk
  have d0 : w2.cell? ⟨b, 0, none⟩ = some (.pointer (some ⟨b, 0, none⟩)) := by rw [Lib.cell_of_heap hb2]; rfl
  have d1 : w2.cell? ⟨b, 1, none⟩ = some v := by rw [Lib.cell_of_heap hb2]; rfl
  have f1 : w2.frozen? ⟨b, 1, none⟩ = false := Lib.frozen_of_heap hb2 1
  obtain ⟨ao, n', cap, rfl⟩ : ∃ ao n' cap, v' = .slice ao n' cap := by
    rcases hown'.2 with ⟨hv, _⟩ | ⟨g, cap, cur, fz, hv, _⟩
    · exact ⟨_, _, _, hv⟩
    · exact ⟨_, _, _, hv⟩
  go_wp2
  go_ret2
  refine ⟨⟨_, rfl⟩, Or.inr ?_, ⟨?_, (hk1.oth.grown hgrow (Lib.ownsRowF_kind hown)).setCell ⟨b, 1, none⟩ rfl _⟩⟩
  · rw [← cells_add]
    exact Lib.BuilderAtF.put (T := 50) (e := 5) hB hb2 (bs' := Lib.byteCells bs ++ Lib.byteCells s.data.toList) (by rw [List.length_append, Lib.byteCells_length, Lib.byteCells_length, ← tx_size, ← cells_str]; exact hown') neWU
  · exact (hk1.bel.grown hgrow (by have := hk1.bel.size; omega) (fun k hk => (hown.lt k hk).1)).setCell (p := ⟨b, 1, none⟩) hB _
end Go.Proofs.YtfmjhbaenpbfoaaGreatDoor

namespace Go.Proofs.YtfmjhbaenpbfoaaGreatDoor
open Go.RowKit

/-- Texts, one behind the other. -/
def flatS (l : List ByteArray) : L8 := l.flatMap fun s => s.data.toList
theorem flatS_nil : flatS [] = [] := rfl
theorem flatS_cons (s : ByteArray) (l : List ByteArray) : flatS (s :: l) = s.data.toList ++ flatS l := rfl
theorem flatS_take (l : List ByteArray) (j : Nat) (h : j < l.length) : flatS (l.take (j + 1)) = flatS (l.take j) ++ (l[j]).data.toList := by
  unfold flatS
  rw [List.take_add_one, List.getElem?_eq_getElem h, Option.toList_some, List.flatMap_append, List.flatMap_cons, List.flatMap_nil, List.append_nil]
theorem flatS_le (l : List ByteArray) (j : Nat) : (flatS (l.take j)).length ≤ (flatS l).length := by
  have : flatS l = flatS (l.take j) ++ flatS (l.drop j) := by
    unfold flatS
    rw [← List.flatMap_append, List.take_append_drop]
  rw [this, List.length_append]
  omega
theorem strs_get (l : List ByteArray) (j : Nat) (h : j < l.length) : (strs l).toArray[j]? = some (.string l[j]) := by
  unfold strs
  simp [h]

set_option maxHeartbeats 2000000 in
set_option maxRecDepth 100000 in
theorem write_any (B b : Nat) (bs : L8) (l : List ByteArray) (g n : Nat) (w : World) (h : Wrt B b bs w) (hn : n = l.length) (hm : n ≤ 100) (hg : w.heap[g]? = some (.cells (strs l).toArray 9 (0, 0))) (hgb : g ≠ b) (hlen : bs.length + (flatS l).length ≤ 140737488355328) :
    Calls Tryz.prog 36 #[.pointer (some ⟨b, 0, none⟩), .slice (some ⟨g, 0, none⟩) n n] w fun e w' => e = .returned (.tuple #[]) ∧ Wrt B b (bs ++ flatS l) w' ∧ Kp B b w w' := by
  have HG := Lib.hid hg
  have HN := Lib.hid hn
  have HL := Lib.hid hlen
  have H0 : Hid (Wrt B b (bs ++ flatS (l.take 0)) w) := by
    unfold Hid
    rw [List.take_zero, flatS_nil, List.append_nil]
    exact h
  have HC : Hid (Wrt B b bs w) := h
  clear hg hn hlen h
  go_enter Tryz.func36, Tryz.ntmps36
  go_wp2_with fail
  go_loopw [8] (fun i wr => ∃ j : Nat, j ≤ n ∧ i = .int .i64 j ∧ Hid (Wrt B b (bs ++ flatS (l.take j)) wr) ∧ Hid (Kp B b w wr)) (fun i _ => n - (intOf i).toNat)
  case atStart => exact ⟨0, by omega, rfl, H0, Kp.refl _ _ _⟩
  case round =>
    clear H0
    obtain ⟨j, hj, rfl, HW, HK⟩ := hrel
    by_cases hlt : j < n
    · have hjn : (j : Int) < (n : Int) := by omega
      have hjl : j < l.length := by rw [← HN.out]; exact hlt
      have d0 : wr.cell? ⟨g, j, none⟩ = some (.string l[j]) := by
        rw [Lib.cell_of_heap (HK.out.box HG.out hgb (by decide)) j, strs_get l j hjl]
      have KS : Hid (Calls Tryz.prog 67 #[.pointer (some ⟨b, 0, none⟩), .string l[j]] wr fun e w' => (∃ v, e = .returned v) ∧ Wrt B b (bs ++ flatS (l.take (j + 1))) w' ∧ Kp B b wr w') := by
        unfold Hid
        rw [flatS_take l j hjl, ← List.append_assoc]
        refine writeS_any B b _ _ wr HW.out ?_
        have h1 := flatS_le l (j + 1)
        have h2 := HL.out
        rw [flatS_take l j hjl, List.length_append] at h1
        rw [List.length_append, tx_size]
        omega
      clear HW
      generalize l[j] = z at d0 KS
      go_wp2_with (go_at_call 67; go_must (refine (KS.out).mono ?_; rintro e w1 ⟨⟨v, rfl⟩, hw, hk⟩; have HW1 := Lib.hid hw; have HK1 := Lib.hid (HK.out.trans hk); clear hw hk))
      clear KS d0
      go_roundw
      case rel => exact ⟨j + 1, by omega, by go_num, HW1, HK1⟩
      case measure => simp [intOf]; omega
    · obtain rfl : j = n := by omega
      have HR : Hid (Wrt B b (bs ++ flatS l) wr) := by
        have := HW.out
        rw [HN.out, List.take_length] at this
        exact this
      clear HW
      go_wp2_with fail
      go_end0
      exact ⟨rfl, HR.out, HK.out⟩

/-- A row of texts that was just made. -/
theorem lit_any (B b : Nat) (bs : L8) (l : List ByteArray) (n : Nat) (w : World) (h : Wrt B b bs w) (hn : n = l.length) (hm : n ≤ 100) (hlen : bs.length + (flatS l).length ≤ 140737488355328) :
    Calls Tryz.prog 36 #[.pointer (some ⟨b, 0, none⟩), .slice (some ⟨w.heap.size, 0, none⟩) n n] (w.alloc (.cells (strs l).toArray 9)) fun e w' => e = .returned (.tuple #[]) ∧ Wrt B b (bs ++ flatS l) w' ∧ Kp B b w w' := by
  have hb := below_own (w := w) (.cells (strs l).toArray 9)
  refine (write_any B b bs l w.heap.size n _ (h.below hb) hn hm (heap_alloc_new w _) (by have := h.lt; omega) hlen).mono fun e w' hh => ⟨hh.1, hh.2.1, ?_⟩
  exact ((Kp.refl B b w).below h.base hb).trans hh.2.2
end Go.Proofs.YtfmjhbaenpbfoaaGreatDoor

namespace Go.Proofs.YtfmjhbaenpbfoaaGreatDoor
open Go.RowKit

/-- What a writing call comes to. -/
def Wd (B b : Nat) (bs s : L8) (w : World) (e : Ending) (w' : World) : Prop := e = .returned (.tuple #[]) ∧ Wrt B b (bs ++ s) w' ∧ Kp B b w w'
theorem lit1 (B b : Nat) (bs : L8) (s0 : ByteArray) (w : World) (h : Wrt B b bs w) (hlen : bs.length + (s0.data.toList.length) ≤ 140737488355328) (g : Nat) (hg : g = w.heap.size) :
    Calls Tryz.prog 36 #[.pointer (some ⟨b, 0, none⟩), .slice (some ⟨g, 0, none⟩) 1 1] (w.alloc (.cells #[.string s0] 9)) (Wd B b bs (s0.data.toList) w) := by
  subst hg
  have e : flatS [s0] = s0.data.toList := by simp [flatS]
  have := lit_any B b bs [s0] 1 w h rfl (by decide) (by rw [e]; first | omega | (simp only [List.length_append]; omega))
  rw [e] at this
  exact this
theorem lit2 (B b : Nat) (bs : L8) (s0 s1 : ByteArray) (w : World) (h : Wrt B b bs w) (hlen : bs.length + (s0.data.toList.length + s1.data.toList.length) ≤ 140737488355328) (g : Nat) (hg : g = w.heap.size) :
    Calls Tryz.prog 36 #[.pointer (some ⟨b, 0, none⟩), .slice (some ⟨g, 0, none⟩) 2 2] (w.alloc (.cells #[.string s0, .string s1] 9)) (Wd B b bs (s0.data.toList ++ s1.data.toList) w) := by
  subst hg
  have e : flatS [s0, s1] = s0.data.toList ++ s1.data.toList := by simp [flatS]
  have := lit_any B b bs [s0, s1] 2 w h rfl (by decide) (by rw [e]; first | omega | (simp only [List.length_append]; omega))
  rw [e] at this
  exact this
theorem lit3 (B b : Nat) (bs : L8) (s0 s1 s2 : ByteArray) (w : World) (h : Wrt B b bs w) (hlen : bs.length + (s0.data.toList.length + s1.data.toList.length + s2.data.toList.length) ≤ 140737488355328) (g : Nat) (hg : g = w.heap.size) :
    Calls Tryz.prog 36 #[.pointer (some ⟨b, 0, none⟩), .slice (some ⟨g, 0, none⟩) 3 3] (w.alloc (.cells #[.string s0, .string s1, .string s2] 9)) (Wd B b bs (s0.data.toList ++ s1.data.toList ++ s2.data.toList) w) := by
  subst hg
  have e : flatS [s0, s1, s2] = s0.data.toList ++ s1.data.toList ++ s2.data.toList := by simp [flatS]
  have := lit_any B b bs [s0, s1, s2] 3 w h rfl (by decide) (by rw [e]; first | omega | (simp only [List.length_append]; omega))
  rw [e] at this
  exact this

set_option maxHeartbeats 600000 in
set_option maxRecDepth 100000 in
theorem binds_any (t : T) (ao : Option Addr) (c : Nat) (w : World) (hl : t.kids.length ≤ 9223372036854775807) : Calls Tryz.prog 158 #[agg t (.slice ao t.kids.length c)] w fun e w' => e = .returned (.int .i64 (bindsT t : Nat)) ∧ Gr w w' := by
  obtain ⟨r, hr⟩ : ∃ r, r = bindsT t := ⟨_, rfl⟩
  rw [← hr]
  have HG : Hid (Gr w (w.alloc (.cells #[.int .u8 t.kind, .string t.text, .int .i64 t.num, .int .i64 t.pos, .slice ao t.kids.length c] 25))) := box_gr _ _
  unfold agg
  unfold bindsT opB at hr
  generalize t.kids.length = n at *
  generalize t.kind = k at *
  generalize t.text = s at *
  by_cases hk : k = 16
  · subst hk
    by_cases hn : n = 1
    · subst hn
      have HR : Hid (r = 6) := by
        unfold Hid
        simpa using hr
      clear hr
      go_enter Tryz.func158, Tryz.ntmps158
      go_wp2_with fail
      go_ret
      rw [HR.out]
      exact ⟨rfl, HG.out⟩
    · have hn' : ¬ (n : Int) = 1 := by omega
      cases h0 : (s.toList == [111, 114]) with
      | true =>
        have HR : Hid (r = 1) := by
          unfold Hid
          rw [hr]
          simp [hn, h0]
        clear hr
        go_enter Tryz.func158, Tryz.ntmps158
        go_wp2_with fail
        go_ret
        rw [HR.out]
        exact ⟨rfl, HG.out⟩
      | false =>
        cases h1 : (s.toList == [97, 110, 100]) with
        | true =>
          have HR : Hid (r = 2) := by
            unfold Hid
            rw [hr]
            simp [hn, h0, h1]
          clear hr
          go_enter Tryz.func158, Tryz.ntmps158
          go_wp2_with fail
          go_ret
          rw [HR.out]
          exact ⟨rfl, HG.out⟩
        | false =>
          cases h2 : (s.toList == [43]) with
          | true =>
            have HR : Hid (r = 4) := by
              unfold Hid
              rw [hr]
              simp [hn, h0, h1, h2]
            clear hr
            go_enter Tryz.func158, Tryz.ntmps158
            go_wp2_with fail
            go_ret
            rw [HR.out]
            exact ⟨rfl, HG.out⟩
          | false =>
            cases h3 : (s.toList == [45]) with
            | true =>
              have HR : Hid (r = 4) := by
                unfold Hid
                rw [hr]
                simp [hn, h0, h1, h2, h3]
              clear hr
              go_enter Tryz.func158, Tryz.ntmps158
              go_wp2_with fail
              go_ret
              rw [HR.out]
              exact ⟨rfl, HG.out⟩
            | false =>
              cases h4 : (s.toList == [42]) with
              | true =>
                have HR : Hid (r = 5) := by
                  unfold Hid
                  rw [hr]
                  simp [hn, h0, h1, h2, h3, h4]
                clear hr
                go_enter Tryz.func158, Tryz.ntmps158
                go_wp2_with fail
                go_ret
                rw [HR.out]
                exact ⟨rfl, HG.out⟩
              | false =>
                have HR : Hid (r = 3) := by
                  unfold Hid
                  rw [hr]
                  simp [hn, h0, h1, h2, h3, h4]
                clear hr
                go_enter Tryz.func158, Tryz.ntmps158
                go_wp2_with fail
                go_ret
                rw [HR.out]
                exact ⟨rfl, HG.out⟩
  · have HR : Hid (r = 7) := by
      unfold Hid
      rw [hr, if_neg hk]
    clear hr
    go_enter Tryz.func158, Tryz.ntmps158
    go_wp2_with fail
    go_ret
    rw [HR.out]
    exact ⟨rfl, HG.out⟩

set_option maxHeartbeats 600000 in
set_option maxRecDepth 100000 in
theorem refBinds_any (t : T) (ao : Option Addr) (c : Nat) (w : World) (hl : t.kids.length ≤ 9223372036854775807) : Calls Tryz.prog 134 #[agg t (.slice ao t.kids.length c)] w fun e w' => e = .returned (.int .i64 (bindsT t : Nat)) ∧ Gr w w' := by
  obtain ⟨r, hr⟩ : ∃ r, r = bindsT t := ⟨_, rfl⟩
  rw [← hr]
  have HG : Hid (Gr w (w.alloc (.cells #[.int .u8 t.kind, .string t.text, .int .i64 t.num, .int .i64 t.pos, .slice ao t.kids.length c] 25))) := box_gr _ _
  unfold agg
  unfold bindsT opB at hr
  generalize t.kids.length = n at *
  generalize t.kind = k at *
  generalize t.text = s at *
  by_cases hk : k = 16
  · subst hk
    by_cases hn : n = 1
    · subst hn
      have HR : Hid (r = 6) := by
        unfold Hid
        simpa using hr
      clear hr
      go_enter Tryz.func134, Tryz.ntmps134
      go_wp2_with fail
      go_ret
      rw [HR.out]
      exact ⟨rfl, HG.out⟩
    · have hn' : ¬ (n : Int) = 1 := by omega
      cases h0 : (s.toList == [111, 114]) with
      | true =>
        have HR : Hid (r = 1) := by
          unfold Hid
          rw [hr]
          simp [hn, h0]
        clear hr
        go_enter Tryz.func134, Tryz.ntmps134
        go_wp2_with fail
        go_ret
        rw [HR.out]
        exact ⟨rfl, HG.out⟩
      | false =>
        cases h1 : (s.toList == [97, 110, 100]) with
        | true =>
          have HR : Hid (r = 2) := by
            unfold Hid
            rw [hr]
            simp [hn, h0, h1]
          clear hr
          go_enter Tryz.func134, Tryz.ntmps134
          go_wp2_with fail
          go_ret
          rw [HR.out]
          exact ⟨rfl, HG.out⟩
        | false =>
          cases h2 : (s.toList == [43]) with
          | true =>
            have HR : Hid (r = 4) := by
              unfold Hid
              rw [hr]
              simp [hn, h0, h1, h2]
            clear hr
            go_enter Tryz.func134, Tryz.ntmps134
            go_wp2_with fail
            go_ret
            rw [HR.out]
            exact ⟨rfl, HG.out⟩
          | false =>
            cases h3 : (s.toList == [45]) with
            | true =>
              have HR : Hid (r = 4) := by
                unfold Hid
                rw [hr]
                simp [hn, h0, h1, h2, h3]
              clear hr
              go_enter Tryz.func134, Tryz.ntmps134
              go_wp2_with fail
              go_ret
              rw [HR.out]
              exact ⟨rfl, HG.out⟩
            | false =>
              cases h4 : (s.toList == [42]) with
              | true =>
                have HR : Hid (r = 5) := by
                  unfold Hid
                  rw [hr]
                  simp [hn, h0, h1, h2, h3, h4]
                clear hr
                go_enter Tryz.func134, Tryz.ntmps134
                go_wp2_with fail
                go_ret
                rw [HR.out]
                exact ⟨rfl, HG.out⟩
              | false =>
                have HR : Hid (r = 3) := by
                  unfold Hid
                  rw [hr]
                  simp [hn, h0, h1, h2, h3, h4]
                clear hr
                go_enter Tryz.func134, Tryz.ntmps134
                go_wp2_with fail
                go_ret
                rw [HR.out]
                exact ⟨rfl, HG.out⟩
  · have HR : Hid (r = 7) := by
      unfold Hid
      rw [hr, if_neg hk]
    clear hr
    go_enter Tryz.func134, Tryz.ntmps134
    go_wp2_with fail
    go_ret
    rw [HR.out]
    exact ⟨rfl, HG.out⟩

set_option maxHeartbeats 600000 in
set_option maxRecDepth 100000 in
theorem single_any (t : T) (ao : Option Addr) (n c B b : Nat) (bs : L8) (w : World) (h : Wrt B b bs w) (hk : t.kind = 12 ∨ t.kind = 13 ∨ t.kind = 14 ∨ t.kind = 15) (hlen : bs.length + t.expr.length ≤ 140737488355328) :
    Calls Tryz.prog 96 #[.pointer (some ⟨b, 0, none⟩), .agg #[.int .u8 t.kind, .string t.text, .int .i64 t.num, .int .i64 t.pos, .slice ao n c]] w (Wd B b bs t.expr w) := by
  have hb := below_own (w := w) (.cells #[.int .u8 t.kind, .string t.text, .int .i64 t.num, .int .i64 t.pos, .slice ao n c] 25)
  have HW : Hid (Wrt B b bs (w.alloc (.cells #[.int .u8 t.kind, .string t.text, .int .i64 t.num, .int .i64 t.pos, .slice ao n c] 25))) := h.below hb
  have HK : Hid (Kp B b w (w.alloc (.cells #[.int .u8 t.kind, .string t.text, .int .i64 t.num, .int .i64 t.pos, .slice ao n c] 25))) := (Kp.refl B b w).below h.base hb
  clear h hb
  have hx := t.expr_eq
  generalize t.expr = x at hx hlen ⊢
  generalize t.kind = k at *
  rcases hk with rfl | rfl | rfl | rfl
  · have HX : Hid (x = [95]) := by
      unfold Hid
      rw [hx]
      simp
    have HL : Hid (bs.length + 1 ≤ 140737488355328) := by
      have := HX.out
      rw [this] at hlen
      simp only [List.length_cons, List.length_nil] at hlen
      unfold Hid
      omega
    clear hx hlen
    go_enter Tryz.func96, Tryz.ntmps96
    go_wp2_with (go_at_call 36; go_must (refine (lit1 B b bs (⟨#[95]⟩) _ HW.out HL.out _ (by first | rfl | simp)).mono ?_; rintro e w1 ⟨rfl, hw, hk⟩; have HW1 := Lib.hid hw; have HK1 := Lib.hid (HK.out.trans hk); clear hw hk))
    go_end0
    rw [HX.out]
    exact ⟨rfl, HW1.out, HK1.out⟩
  · have HX : Hid (x = [63] ++ t.tx) := by
      unfold Hid
      rw [hx]
      simp
    have HL : Hid (bs.length + (1 + t.tx.length) ≤ 140737488355328) := by
      have := HX.out
      rw [this] at hlen
      simp only [List.length_append, List.length_cons, List.length_nil] at hlen
      unfold Hid
      omega
    clear hx hlen
    go_enter Tryz.func96, Tryz.ntmps96
    go_wp2_with (go_at_call 36; go_must (refine (lit2 B b bs (⟨#[63]⟩) t.text _ HW.out HL.out _ (by first | rfl | simp)).mono ?_; rintro e w1 ⟨rfl, hw, hk⟩; have HW1 := Lib.hid hw; have HK1 := Lib.hid (HK.out.trans hk); clear hw hk))
    go_end0
    rw [HX.out]
    exact ⟨rfl, HW1.out, HK1.out⟩
  · have HX : Hid (x = t.tx) := by
      unfold Hid
      rw [hx]
      simp
    have HL : Hid (bs.length + t.tx.length ≤ 140737488355328) := by
      have := HX.out
      rw [this] at hlen
      skip
      unfold Hid
      omega
    clear hx hlen
    go_enter Tryz.func96, Tryz.ntmps96
    go_wp2_with (go_at_call 36; go_must (refine (lit1 B b bs t.text _ HW.out HL.out _ (by first | rfl | simp)).mono ?_; rintro e w1 ⟨rfl, hw, hk⟩; have HW1 := Lib.hid hw; have HK1 := Lib.hid (HK.out.trans hk); clear hw hk))
    go_end0
    rw [HX.out]
    exact ⟨rfl, HW1.out, HK1.out⟩
  · have HX : Hid (x = [39] ++ t.tx) := by
      unfold Hid
      rw [hx]
      simp
    have HL : Hid (bs.length + (1 + t.tx.length) ≤ 140737488355328) := by
      have := HX.out
      rw [this] at hlen
      simp only [List.length_append, List.length_cons, List.length_nil] at hlen
      unfold Hid
      omega
    clear hx hlen
    go_enter Tryz.func96, Tryz.ntmps96
    go_wp2_with (go_at_call 36; go_must (refine (lit2 B b bs (⟨#[39]⟩) t.text _ HW.out HL.out _ (by first | rfl | simp)).mono ?_; rintro e w1 ⟨rfl, hw, hk⟩; have HW1 := Lib.hid hw; have HK1 := Lib.hid (HK.out.trans hk); clear hw hk))
    go_end0
    rw [HX.out]
    exact ⟨rfl, HW1.out, HK1.out⟩

set_option maxHeartbeats 600000 in
set_option maxRecDepth 100000 in
theorem field_any (t : T) (ao : Option Addr) (n c B b : Nat) (bs : L8) (w : World) (h : Wrt B b bs w) (hlen : bs.length + t.tx.length ≤ 140737488355328) :
    Calls Tryz.prog 38 #[.pointer (some ⟨b, 0, none⟩), .agg #[.int .u8 t.kind, .string t.text, .int .i64 t.num, .int .i64 t.pos, .slice ao n c]] w (Wd B b bs t.tx w) := by
  have hb := below_own (w := w) (.cells #[.int .u8 t.kind, .string t.text, .int .i64 t.num, .int .i64 t.pos, .slice ao n c] 25)
  have HW : Hid (Wrt B b bs (w.alloc (.cells #[.int .u8 t.kind, .string t.text, .int .i64 t.num, .int .i64 t.pos, .slice ao n c] 25))) := h.below hb
  have HK : Hid (Kp B b w (w.alloc (.cells #[.int .u8 t.kind, .string t.text, .int .i64 t.num, .int .i64 t.pos, .slice ao n c] 25))) := (Kp.refl B b w).below h.base hb
  have HL := Lib.hid hlen
  clear h hb hlen
  go_enter Tryz.func38, Tryz.ntmps38
  go_wp2_with (go_at_call 36; go_must (refine (lit1 B b bs t.text _ HW.out HL.out _ (by first | rfl | simp)).mono ?_; rintro e w1 ⟨rfl, hw, hk⟩; have HW1 := Lib.hid hw; have HK1 := Lib.hid (HK.out.trans hk); clear hw hk))
  go_end0
  exact ⟨rfl, HW1.out, HK1.out⟩
end Go.Proofs.YtfmjhbaenpbfoaaGreatDoor

namespace Go.Proofs.YtfmjhbaenpbfoaaGreatDoor
open Go.RowKit

theorem box_at {B b g : Nat} {W w2 : World} {cs : Array Value} {ty : TypeId} (hg : W.heap[g]? = some (.cells cs ty (0, 0))) (hk : Kp B b W w2) (hn : g ≠ b) (ht : ty ≠ 5 := by decide) : ∀ j, w2.cell? ⟨g, j, none⟩ = cs[j]? := Lib.cell_of_heap (hk.box hg hn ht)

def BareOK (t : T) : Prop := ∀ (B b : Nat) (bs : L8) (w : World) (v : Value), Lies B w t v → Wrt B b bs w → bs.length + t.expr.length ≤ 140737488355328 → Calls Tryz.prog 159 #[.pointer (some ⟨b, 0, none⟩), agg t v] w (Wd B b bs t.expr w)
def BindOK (t : T) : Prop := ∀ (least : Nat) (B b : Nat) (bs : L8) (w : World) (v : Value), Lies B w t v → Wrt B b bs w → bs.length + (inB (bindsT t) least t.expr).length ≤ 140737488355328 → Calls Tryz.prog 125 #[.pointer (some ⟨b, 0, none⟩), agg t v, .int .i64 least] w (Wd B b bs (inB (bindsT t) least t.expr) w)

set_option maxRecDepth 100000 in
set_option maxHeartbeats 1000000 in
theorem bind_of (t : T) (hB : BareOK t) : BindOK t := by
  intro least B b bs w v hl hw hlen
  obtain ⟨ao, c, ps, rfl, k1⟩ := hl.out
  have hlm := k1.len64
  have HLi := Lib.hid hl
  have HA := Lib.hid k1
  have hb0 := below_own (w := w) (.cells #[.int .u8 t.kind, .string t.text, .int .i64 t.num, .int .i64 t.pos, .slice ao t.kids.length c] 25)
  have HW0 : Hid (Wrt B b bs (w.alloc (.cells #[.int .u8 t.kind, .string t.text, .int .i64 t.num, .int .i64 t.pos, .slice ao t.kids.length c] 25))) := hw.below hb0
  have HK0 : Hid (Kp B b w (w.alloc (.cells #[.int .u8 t.kind, .string t.text, .int .i64 t.num, .int .i64 t.pos, .slice ao t.kids.length c] 25))) := (Kp.refl B b w).below hw.base hb0
  have HG0 : Hid ((w.alloc (.cells #[.int .u8 t.kind, .string t.text, .int .i64 t.num, .int .i64 t.pos, .slice ao t.kids.length c] 25)).heap[w.heap.size]? = some (.cells #[.int .u8 t.kind, .string t.text, .int .i64 t.num, .int .i64 t.pos, .slice ao t.kids.length c] 25 (0, 0))) := heap_alloc_new w _
  have hgb : w.heap.size ≠ b := by have := hw.lt; omega
  have HR0 : Hid (Kp B b (w.alloc (.cells #[.int .u8 t.kind, .string t.text, .int .i64 t.num, .int .i64 t.pos, .slice ao t.kids.length c] 25)) (w.alloc (.cells #[.int .u8 t.kind, .string t.text, .int .i64 t.num, .int .i64 t.pos, .slice ao t.kids.length c] 25))) := Kp.refl _ _ _
  have hbw : B ≤ w.heap.size := hw.base
  clear hl hw k1 hb0
  have KB := Lib.hid (binds_any t ao c (w.alloc (.cells #[.int .u8 t.kind, .string t.text, .int .i64 t.num, .int .i64 t.pos, .slice ao t.kids.length c] 25)) hlm)
  have KX := Lib.hid (fun W bs' (hk : Kp B b (w.alloc (.cells #[.int .u8 t.kind, .string t.text, .int .i64 t.num, .int .i64 t.pos, .slice ao t.kids.length c] 25)) W) (hw : Wrt B b bs' W) hlen => hB B b bs' W _ (HLi.out.keep (HK0.out.trans hk).bel) hw hlen)
  by_cases hge : least ≤ bindsT t
  · have hx : inB (bindsT t) least t.expr = t.expr := by
      unfold inB
      rw [if_neg (by omega)]
    rw [hx] at hlen ⊢
    have HL := Lib.hid hlen
    clear hB hx hlen
    unfold agg at *
    generalize bindsT t = r at *
    generalize t.expr = x at *
    have hge' : (least : Int) ≤ (r : Int) := by omega
    go_enter Tryz.func125, Tryz.ntmps125
    go_wp2_with (go_at_call 158; go_must (refine (KB.out).mono ?_; rintro e w1 ⟨rfl, hg⟩; have HR1 : Hid (Kp B b (w.alloc (.cells #[.int .u8 t.kind, .string t.text, .int .i64 t.num, .int .i64 t.pos, .slice ao t.kids.length c] 25)) w1) := (Kp.refl _ _ _).below HW0.out.base hg.below; have HW1 : Hid (Wrt B b bs w1) := HW0.out.below hg.below; have c1 := box_at HG0.out HR1.out hgb; clear hg; refine Hid.out ?_))
    refine Lib.hid ?_
    go_wp2_with (go_at_call 159; go_must (refine (KX.out _ _ HR1.out HW1.out HL.out).mono ?_; rintro e w2 ⟨rfl, hw, hk⟩; have HW2 : Hid (Wrt B b (bs ++ (x)) w2) := hw; have HR2 : Hid (Kp B b (w.alloc (.cells #[.int .u8 t.kind, .string t.text, .int .i64 t.num, .int .i64 t.pos, .slice ao t.kids.length c] 25)) w2) := HR1.out.trans hk; have c2 := box_at HG0.out HR2.out hgb; clear hw hk; refine Hid.out ?_))
    refine Lib.hid ?_
    clear c1
    go_wp2_with fail
    go_end0
    refine ⟨rfl, ?_, HK0.out.trans HR2.out⟩
    have hfin := HW2.out
    first | exact hfin | simpa [List.append_assoc] using hfin
  · have hx : inB (bindsT t) least t.expr = [40] ++ t.expr ++ [41] := by
      unfold inB
      rw [if_pos (by omega)]
    rw [hx] at hlen ⊢
    simp only [List.length_append, List.length_cons, List.length_nil] at hlen
    have HL1 : Hid (bs.length + 1 ≤ 140737488355328) := by unfold Hid; omega
    have HL2 : Hid ((bs ++ [40]).length + t.expr.length ≤ 140737488355328) := by unfold Hid; simp only [List.length_append, List.length_cons, List.length_nil]; omega
    have HL3 : Hid (((bs ++ [40]) ++ t.expr).length + 1 ≤ 140737488355328) := by unfold Hid; simp only [List.length_append, List.length_cons, List.length_nil]; omega
    clear hB hx hlen
    unfold agg at *
    generalize bindsT t = r at *
    generalize t.expr = x at *
    have hge' : ¬ (least : Int) ≤ (r : Int) := by omega
    go_enter Tryz.func125, Tryz.ntmps125
    go_wp2_with (go_at_call 158; go_must (refine (KB.out).mono ?_; rintro e w1 ⟨rfl, hg⟩; have HR1 : Hid (Kp B b (w.alloc (.cells #[.int .u8 t.kind, .string t.text, .int .i64 t.num, .int .i64 t.pos, .slice ao t.kids.length c] 25)) w1) := (Kp.refl _ _ _).below HW0.out.base hg.below; have HW1 : Hid (Wrt B b bs w1) := HW0.out.below hg.below; have c1 := box_at HG0.out HR1.out hgb; clear hg; refine Hid.out ?_))
    refine Lib.hid ?_
    go_wp2_with (go_at_call 36; go_must (refine (lit1 B b _ (⟨#[40]⟩) _ HW1.out (HL1.out) _ (by first | rfl | simp)).mono ?_; rintro e w2 ⟨rfl, hw, hk⟩; have HW2 : Hid (Wrt B b (bs ++ ([40])) w2) := hw; have HR2 : Hid (Kp B b (w.alloc (.cells #[.int .u8 t.kind, .string t.text, .int .i64 t.num, .int .i64 t.pos, .slice ao t.kids.length c] 25)) w2) := HR1.out.trans hk; have c2 := box_at HG0.out HR2.out hgb; clear hw hk; refine Hid.out ?_))
    refine Lib.hid ?_
    clear c1
    go_wp2_with (go_at_call 159; go_must (refine (KX.out _ _ HR2.out HW2.out HL2.out).mono ?_; rintro e w3 ⟨rfl, hw, hk⟩; have HW3 : Hid (Wrt B b ((bs ++ ([40])) ++ (x)) w3) := hw; have HR3 : Hid (Kp B b (w.alloc (.cells #[.int .u8 t.kind, .string t.text, .int .i64 t.num, .int .i64 t.pos, .slice ao t.kids.length c] 25)) w3) := HR2.out.trans hk; have c3 := box_at HG0.out HR3.out hgb; clear hw hk; refine Hid.out ?_))
    refine Lib.hid ?_
    clear c2
    go_wp2_with (go_at_call 36; go_must (refine (lit1 B b _ (⟨#[41]⟩) _ HW3.out (HL3.out) _ (by first | rfl | simp)).mono ?_; rintro e w4 ⟨rfl, hw, hk⟩; have HW4 : Hid (Wrt B b (((bs ++ ([40])) ++ (x)) ++ ([41])) w4) := hw; have HR4 : Hid (Kp B b (w.alloc (.cells #[.int .u8 t.kind, .string t.text, .int .i64 t.num, .int .i64 t.pos, .slice ao t.kids.length c] 25)) w4) := HR3.out.trans hk; have c4 := box_at HG0.out HR4.out hgb; clear hw hk; refine Hid.out ?_))
    refine Lib.hid ?_
    clear c3
    go_wp2_with fail
    go_end0
    refine ⟨rfl, ?_, HK0.out.trans HR4.out⟩
    have hfin := HW4.out
    first | exact hfin | simpa [List.append_assoc] using hfin

end Go.Proofs.YtfmjhbaenpbfoaaGreatDoor

namespace Go.Proofs.YtfmjhbaenpbfoaaGreatDoor
open Go.RowKit

/-- A kid's cells. -/
structure KidC (w : World) (sb o : Nat) (x : T) (v : Value) : Prop where
  c0 : w.cell? ⟨sb, o, none⟩ = some (.int .u8 x.kind)
  c1 : w.cell? ⟨sb, o + 1, none⟩ = some (.string x.text)
  c2 : w.cell? ⟨sb, o + 2, none⟩ = some (.int .i64 x.num)
  c3 : w.cell? ⟨sb, o + 3, none⟩ = some (.int .i64 x.pos)
  c4 : w.cell? ⟨sb, o + 4, none⟩ = some v
theorem KidC.below {B sb o : Nat} {w w' : World} {x : T} {v : Value} (h : KidC w sb o x v) (hs : sb < B) (hb : Below B w w') : KidC w' sb o x v :=
  ⟨(hb.cell (p := ⟨sb, _, none⟩) hs).trans h.c0, (hb.cell (p := ⟨sb, _, none⟩) hs).trans h.c1, (hb.cell (p := ⟨sb, _, none⟩) hs).trans h.c2, (hb.cell (p := ⟨sb, _, none⟩) hs).trans h.c3, (hb.cell (p := ⟨sb, _, none⟩) hs).trans h.c4⟩
theorem KidsAt.kid {B : Nat} {w : World} {t : T} {ao : Option Addr} {c : Nat} {ps : List (T × Value)} (h : KidsAt B w t ao c ps) (hl : 0 < t.kids.length) :
    ∃ sb off, ao = some ⟨sb, off, none⟩ ∧ sb < B ∧ ∀ i x, t.kids[i]? = some x → ∃ v, KidC w sb (off + i * 5) x v ∧ Lies B w x v := by
  obtain ⟨sb, off, h1, h2, h3⟩ := h.at hl
  refine ⟨sb, off, h1, h2, fun i x hx => ?_⟩
  obtain ⟨hi, rfl⟩ := List.getElem?_eq_some_iff.1 hx
  obtain ⟨v, d0, d1, d2, d3, d4, hL⟩ := h3 i hi
  exact ⟨v, ⟨d0, d1, d2, d3, d4⟩, hL⟩
theorem expr_leaf7 {t : T} (h : t.kind = 12 ∨ t.kind = 13 ∨ t.kind = 14 ∨ t.kind = 15) : bindsT t = 7 := by
  unfold bindsT
  rw [if_neg (by omega)]
theorem expr_one {t x : T} (h : t.kind = 16) (hk : t.kids = [x]) : t.expr = (if t.tx = [110, 111, 116] then [110, 111, 116, 32] else [45]) ++ inB (bindsT x) 6 x.expr := by
  rw [t.expr_eq, if_neg (by omega), if_neg (by omega), if_neg (by omega), if_neg (by omega), hk, exprL_cons, exprL_nil, opTx]
theorem expr_two {t x y : T} (h : t.kind = 16) (hk : t.kids = [x, y]) : t.expr = inB (bindsT x) (leftB (opB t.text)) x.expr ++ [32] ++ t.tx ++ [32] ++ inB (bindsT y) (opB t.text + 1) y.expr := by
  rw [t.expr_eq, if_neg (by omega), if_neg (by omega), if_neg (by omega), if_neg (by omega), hk, exprL_cons, exprL_cons, exprL_nil, opTx]
  have : bindsT t = opB t.text := by
    unfold bindsT
    rw [if_pos h, hk]
    rfl
  rw [this]

set_option maxRecDepth 100000 in
set_option maxHeartbeats 400000 in
theorem opOne_any (t x : T) (h16 : t.kind = 16) (hk : t.kids = [x]) (hs : t.text.toList = [45] ∨ t.text.toList = [110, 111, 116]) (hX : BindOK x) (B b : Nat) (bs : L8) (w : World) (v : Value) (hl : Lies B w t v) (hw : Wrt B b bs w) (hlen : bs.length + t.expr.length ≤ 140737488355328) :
    Calls Tryz.prog 179 #[.pointer (some ⟨b, 0, none⟩), agg t v] w (Wd B b bs t.expr w) := by
  rw [expr_one h16 hk] at hlen ⊢
  obtain ⟨ao, c, ps, rfl, k1⟩ := hl.out
  have hlm := k1.len64
  have HLi := Lib.hid hl
  have HA := Lib.hid k1
  have hb0 := below_own (w := w) (.cells #[.int .u8 t.kind, .string t.text, .int .i64 t.num, .int .i64 t.pos, .slice ao t.kids.length c] 25)
  have HW0 : Hid (Wrt B b bs (w.alloc (.cells #[.int .u8 t.kind, .string t.text, .int .i64 t.num, .int .i64 t.pos, .slice ao t.kids.length c] 25))) := hw.below hb0
  have HK0 : Hid (Kp B b w (w.alloc (.cells #[.int .u8 t.kind, .string t.text, .int .i64 t.num, .int .i64 t.pos, .slice ao t.kids.length c] 25))) := (Kp.refl B b w).below hw.base hb0
  have HG0 : Hid ((w.alloc (.cells #[.int .u8 t.kind, .string t.text, .int .i64 t.num, .int .i64 t.pos, .slice ao t.kids.length c] 25)).heap[w.heap.size]? = some (.cells #[.int .u8 t.kind, .string t.text, .int .i64 t.num, .int .i64 t.pos, .slice ao t.kids.length c] 25 (0, 0))) := heap_alloc_new w _
  have hgb : w.heap.size ≠ b := by have := hw.lt; omega
  have HR0 : Hid (Kp B b (w.alloc (.cells #[.int .u8 t.kind, .string t.text, .int .i64 t.num, .int .i64 t.pos, .slice ao t.kids.length c] 25)) (w.alloc (.cells #[.int .u8 t.kind, .string t.text, .int .i64 t.num, .int .i64 t.pos, .slice ao t.kids.length c] 25))) := Kp.refl _ _ _
  have hbw : B ≤ w.heap.size := hw.base
  clear hl hw k1 hb0
  obtain ⟨sb, off, rfl, hsb, hc⟩ := HA.out.kid (by simp [hk])
  obtain ⟨u0, kc0, kl0⟩ := hc 0 x (by rw [hk]; rfl)
  simp only [Nat.zero_mul, Nat.add_zero] at kc0
  have HC := Lib.hid kc0
  have HI := Lib.hid kl0
  have KX : Hid (∀ W bs', Kp B b (w.alloc (.cells #[.int .u8 t.kind, .string t.text, .int .i64 t.num, .int .i64 t.pos, .slice (some ⟨sb, off, none⟩) t.kids.length c] 25)) W → Wrt B b bs' W → bs'.length + (inB (bindsT x) 6 x.expr).length ≤ 140737488355328 → Calls Tryz.prog 125 #[.pointer (some ⟨b, 0, none⟩), agg x u0, .int .i64 6] W (Wd B b bs' (inB (bindsT x) 6 x.expr) W)) := fun W bs' hk hw hlen => hX 6 B b bs' W _ (HI.out.keep (HK0.out.trans hk).bel) hw hlen
  have hkl : t.kids.length = 1 := by rw [hk]; rfl
  have HT : Hid (t.text.toList = t.text.data.toList) := bt_toList _
  generalize inB (bindsT x) 6 x.expr = y at *
  clear HLi HA
  generalize t.kids.length = n at *
  subst hkl
  unfold agg at *
  clear hc kc0 kl0 hX hk h16
  rcases hs with hs | hs
  · have htx : t.tx = [45] := HT.out.symm.trans hs
    rw [if_neg (by rw [htx]; decide)] at hlen ⊢
    have HE := Lib.hid htx
    have hn : (t.text.toList == [110, 111, 116]) = false := by rw [hs]; rfl
    simp only [List.length_append, List.length_cons, List.length_nil] at hlen
    have HL1 : Hid (bs.length + t.tx.length ≤ 140737488355328) := by unfold Hid; rw [htx]; simp only [List.length_cons, List.length_nil]; omega
    have HL2 : Hid ((bs ++ t.tx).length + y.length ≤ 140737488355328) := by unfold Hid; rw [htx]; simp only [List.length_append, List.length_cons, List.length_nil]; omega
    clear hs htx hlen
    go_enter Tryz.func179, Tryz.ntmps179
    go_wp2_with (go_at_call 36; go_must (refine (lit1 B b _ (t.text) _ HW0.out (HL1.out) _ (by first | rfl | simp)).mono ?_; rintro e w1 ⟨rfl, hw, hk⟩; have HW1 : Hid (Wrt B b (bs ++ (t.tx)) w1) := hw; have HR1 : Hid (Kp B b (w.alloc (.cells #[.int .u8 t.kind, .string t.text, .int .i64 t.num, .int .i64 t.pos, .slice (some ⟨sb, off, none⟩) 1 c] 25)) w1) := HR0.out.trans hk; have c1 := box_at HG0.out HR1.out hgb; obtain ⟨q0, q1, q2, q3, q4⟩ := HC.out.below hsb (HK0.out.trans HR1.out).bel; clear hw hk; refine Hid.out ?_))
    refine Lib.hid ?_
    go_wp2_with (go_at_call 125; go_must (refine (KX.out _ _ HR1.out HW1.out HL2.out).mono ?_; rintro e w2 ⟨rfl, hw, hk⟩; have HW2 : Hid (Wrt B b ((bs ++ (t.tx)) ++ (y)) w2) := hw; have HR2 : Hid (Kp B b (w.alloc (.cells #[.int .u8 t.kind, .string t.text, .int .i64 t.num, .int .i64 t.pos, .slice (some ⟨sb, off, none⟩) 1 c] 25)) w2) := HR1.out.trans hk; have c2 := box_at HG0.out HR2.out hgb; clear hw hk; refine Hid.out ?_))
    refine Lib.hid ?_
    clear c1 q0 q1 q2 q3 q4
    go_wp2_with fail
    go_end0
    refine ⟨rfl, ?_, HK0.out.trans HR2.out⟩
    have hfin := HW2.out
    rw [HE.out] at hfin
    simpa using hfin
  · have htx : t.tx = [110, 111, 116] := HT.out.symm.trans hs
    rw [if_pos htx] at hlen ⊢
    have HE := Lib.hid htx
    have hn : (t.text.toList == [110, 111, 116]) = true := by rw [hs]; rfl
    simp only [List.length_append, List.length_cons, List.length_nil] at hlen
    have HL1 : Hid (bs.length + t.tx.length ≤ 140737488355328) := by unfold Hid; rw [htx]; simp only [List.length_cons, List.length_nil]; omega
    have HL2 : Hid ((bs ++ t.tx).length + 1 ≤ 140737488355328) := by unfold Hid; rw [htx]; simp only [List.length_append, List.length_cons, List.length_nil]; omega
    have HL3 : Hid (((bs ++ t.tx) ++ [32]).length + y.length ≤ 140737488355328) := by unfold Hid; rw [htx]; simp only [List.length_append, List.length_cons, List.length_nil]; omega
    clear hs htx hlen
    go_enter Tryz.func179, Tryz.ntmps179
    go_wp2_with (go_at_call 36; go_must (refine (lit1 B b _ (t.text) _ HW0.out (HL1.out) _ (by first | rfl | simp)).mono ?_; rintro e w1 ⟨rfl, hw, hk⟩; have HW1 : Hid (Wrt B b (bs ++ (t.tx)) w1) := hw; have HR1 : Hid (Kp B b (w.alloc (.cells #[.int .u8 t.kind, .string t.text, .int .i64 t.num, .int .i64 t.pos, .slice (some ⟨sb, off, none⟩) 1 c] 25)) w1) := HR0.out.trans hk; have c1 := box_at HG0.out HR1.out hgb; clear hw hk; refine Hid.out ?_))
    refine Lib.hid ?_
    go_wp2_with (go_at_call 36; go_must (refine (lit1 B b _ (⟨#[32]⟩) _ HW1.out (HL2.out) _ (by first | rfl | simp)).mono ?_; rintro e w2 ⟨rfl, hw, hk⟩; have HW2 : Hid (Wrt B b ((bs ++ (t.tx)) ++ ([32])) w2) := hw; have HR2 : Hid (Kp B b (w.alloc (.cells #[.int .u8 t.kind, .string t.text, .int .i64 t.num, .int .i64 t.pos, .slice (some ⟨sb, off, none⟩) 1 c] 25)) w2) := HR1.out.trans hk; have c2 := box_at HG0.out HR2.out hgb; obtain ⟨q0, q1, q2, q3, q4⟩ := HC.out.below hsb (HK0.out.trans HR2.out).bel; clear hw hk; refine Hid.out ?_))
    refine Lib.hid ?_
    clear c1
    go_wp2_with (go_at_call 125; go_must (refine (KX.out _ _ HR2.out HW2.out HL3.out).mono ?_; rintro e w3 ⟨rfl, hw, hk⟩; have HW3 : Hid (Wrt B b (((bs ++ (t.tx)) ++ ([32])) ++ (y)) w3) := hw; have HR3 : Hid (Kp B b (w.alloc (.cells #[.int .u8 t.kind, .string t.text, .int .i64 t.num, .int .i64 t.pos, .slice (some ⟨sb, off, none⟩) 1 c] 25)) w3) := HR2.out.trans hk; have c3 := box_at HG0.out HR3.out hgb; clear hw hk; refine Hid.out ?_))
    refine Lib.hid ?_
    clear c2 q0 q1 q2 q3 q4
    go_wp2_with fail
    go_end0
    refine ⟨rfl, ?_, HK0.out.trans HR3.out⟩
    have hfin := HW3.out
    rw [HE.out] at hfin
    simpa using hfin
end Go.Proofs.YtfmjhbaenpbfoaaGreatDoor

namespace Go.Proofs.YtfmjhbaenpbfoaaGreatDoor
open Go.RowKit

abbrev boxN (t : T) (v : Value) : Obj := .cells #[.int .u8 t.kind, .string t.text, .int .i64 t.num, .int .i64 t.pos, v] 25
theorem one_box {w w1 : World} {cs : Array Value} {t : TypeId} (h : Below (w.alloc (.cells cs t)).heap.size (w.alloc (.cells cs t)) w1) :
    (∀ j, w1.cell? ⟨w.heap.size, j, none⟩ = cs[j]?) ∧ (∀ j, w1.frozen? ⟨w.heap.size, j, none⟩ = false) :=
  ⟨fun j => ((bret h).1 j).trans (Lib.cell_of_heap (heap_alloc_new w (.cells cs t)) j), fun j => ((bret h).2 j).trans (Lib.frozen_of_heap (heap_alloc_new w (.cells cs t)) j)⟩
theorem of_any (k : Int) (s : ByteArray) (ao : Option Addr) (n c : Nat) (w : World) : Calls Tryz.prog 13 #[.int .u8 k, .string s, .slice ao n c] w fun e w' => e = .returned (.agg #[.int .u8 k, .string s, .int .i64 0, .int .i64 0, .slice ao n c]) ∧ Below w.heap.size w w' := by
  go_enter Tryz.func13, Tryz.ntmps13
  go_wp2_with fail
  exact bodyPost_ret (v := .agg #[.int .u8 k, .string s, .int .i64 0, .int .i64 0, .slice ao n c]) (by simp [results, Tryz.results13, go_sem]) rfl ⟨rfl, below_own _⟩
/-- Kids that stand in a block of their own. -/
theorem stood_new {s : Prop} {P : Nat → Prop} {w : World} (t : T) (ps : List (T × Value)) (b : Nat) (ty : TypeId) (hk : ps.map Prod.fst = t.kids) (hb : w.heap[b]? = some (.cells (cellsN ps).toArray ty (0, 0))) (hP : P b) (hl : t.kids.length ≤ 100000) (each : ∀ p, p ∈ ps → Stood s P w p.1 p.2) : Stood s P w t (.slice (some ⟨b, 0, none⟩) t.kids.length t.kids.length) :=
  .mk t (some ⟨b, 0, none⟩) t.kids.length ps hk (fun _ => ⟨b, 0, rfl, hP, fun j u hu => by
    rw [Nat.zero_add, Lib.cell_of_heap hb, ← Array.getElem?_toList]
    exact hu⟩) (fun h => by cases h) (Nat.le_refl _) (by unfold maxLen; omega) (fun _ ad had => by
    obtain rfl := Option.some.inj had
    exact ⟨Lib.frozen_of_heap hb 0, _, _, (0, 0), hb, fun _ => rfl⟩) each
theorem stood_nil {s : Prop} {P : Nat → Prop} {w : World} (t : T) (h : t.kids = []) : Stood s P w t (.slice none 0 0) := by
  have := Stood.mk (s := s) (P := P) (w := w) t none 0 [] h.symm (fun e => absurd rfl e) (fun _ => rfl) (by rw [h]; exact Nat.le_refl _) (by unfold maxLen; omega) (fun hn => by rw [h] at hn; cases hn) (fun p hp => by cases hp)
  rwa [h] at this

/-- What has been made so far. -/
structure Mem (w0 W : World) (L : List (T × Value)) : Prop where
  laid : Laid W
  bel : Below w0.heap.size w0 W
  each : ∀ p, p ∈ L → Stood True (fun k => k < W.heap.size) W p.1 p.2
theorem Mem.up {w0 W W' : World} {L : List (T × Value)} (h : Mem w0 W L) (b : Below W.heap.size W W') : Mem w0 W' L :=
  ⟨h.laid.below b, h.bel.trans (b.mono h.bel.size), fun p hp => (h.each p hp).keep (fun k hk => b.block k hk) (fun _ hk => Nat.lt_of_lt_of_le hk b.size)⟩
theorem Mem.leaf {w0 W : World} {L : List (T × Value)} (h : Mem w0 W L) (t : T) (ht : t.kids = []) : Mem w0 W ((t, .slice none 0 0) :: L) :=
  ⟨h.laid, h.bel, fun p hp => by
    rcases List.mem_cons.1 hp with rfl | hp
    · exact stood_nil t ht
    · exact h.each p hp⟩
theorem Mem.row {w0 W : World} {L : List (T × Value)} (h : Mem w0 W L) (t : T) (ps : List (T × Value)) (hk : ps.map Prod.fst = t.kids) (hl : t.kids.length ≤ 100000) (hp : ∀ p, p ∈ ps → p ∈ L) :
    Mem w0 (W.alloc (.cells (cellsN ps).toArray 25)) ((t, .slice (some ⟨W.heap.size, 0, none⟩) t.kids.length t.kids.length) :: L) := by
  have h2 := h.up (below_own (.cells (cellsN ps).toArray 25))
  refine ⟨h2.laid, h2.bel, fun p hp' => ?_⟩
  rcases List.mem_cons.1 hp' with rfl | hp'
  · exact stood_new t ps W.heap.size _ hk (heap_alloc_new W _) (by simp) hl fun p hp'' => h2.each p (hp p hp'')
  · exact h2.each p hp'
theorem Mem.drop {w0 W : World} {L L' : List (T × Value)} (h : Mem w0 W L) (hl : ∀ p, p ∈ L' → p ∈ L) : Mem w0 W L' := ⟨h.laid, h.bel, fun p hp => h.each p (hl p hp)⟩
theorem of_mem (w0 W : World) (L : List (T × Value)) (h : Mem w0 W L) (k : Int) (s : ByteArray) (ao : Option Addr) (n c : Nat) : Calls Tryz.prog 13 #[.int .u8 k, .string s, .slice ao n c] W fun e w' => e = .returned (.agg #[.int .u8 k, .string s, .int .i64 0, .int .i64 0, .slice ao n c]) ∧ Mem w0 w' L ∧ Below W.heap.size W w' :=
  (of_any k s ao n c W).mono fun _ _ h' => ⟨h'.1, h.up h'.2, h'.2⟩
end Go.Proofs.YtfmjhbaenpbfoaaGreatDoor

namespace Go.Proofs.YtfmjhbaenpbfoaaGreatDoor
open Go.RowKit

section
variable {ops : Array Oper} {Q : Exit → Act → World → Prop} {K : Act → World → Prop} {a : Act} {w : World} {i d : Nat} {ty : TypeId} {pos : String} {after : Array Edge} {g : Option (Nat × Bool)}

theorem wpOp_go {o : Oper} (hi : ops[i]? = some o) (hg : Region.wanted o (yielded ops a.tmps) = true) (h : o.wp Tryz.prog a w K Q) : wpOp Tryz.prog ops Q i K a w := by
  unfold wpOp
  rw [hi]
  simp only [hg, if_true]
  exact Or.inl h
theorem wpOp_call {f : FuncId} {xs : Array Operand} {vs : Array Value} {ts : Array TypeId} (hi : ops[i]? = some { dst := some d, op := .call { callee := .value (.func f), args := xs, argTypes := ts }, type := ty, pos := pos, after := after, guard := g })
    (hg : Region.wanted { dst := some d, op := .call { callee := .value (.func f), args := xs, argTypes := ts }, type := ty, pos := pos, after := after, guard := g } (yielded ops a.tmps) = true) (he : Enters Tryz.prog f) (hv : xs.map a.eval = vs) (hc : Calls Tryz.prog f vs w fun e w' => ∃ v, e = .returned v ∧ K (a.put (some d) v) w') : wpOp Tryz.prog ops Q i K a w := by
  refine wpOp_go hi hg ?_
  unfold Oper.wp
  have e3 : a.eval (.func f) = .func (.func f) #[] #[] := rfl
  have KC := Lib.hid hc
  clear hc hg hi
  generalize a.eval = ρ at *
  go_simp
  rw [he]
  refine KC.out.mono ?_
  rintro e w' ⟨v, rfl, h⟩
  exact h
theorem wpOp_load {x : Operand} {b : Nat} {v0 v1 v2 v3 v4 : Value} (hi : ops[i]? = some { dst := some d, op := .load 25 x, type := ty, pos := pos, after := after, guard := g })
    (hg : Region.wanted { dst := some d, op := .load 25 x, type := ty, pos := pos, after := after, guard := g } (yielded ops a.tmps) = true) (hx : a.eval x = .pointer (some ⟨b, 0, none⟩)) (hb : ∀ j, w.cell? ⟨b, j, none⟩ = #[v0, v1, v2, v3, v4][j]?) (hK : K (a.put (some d) (.agg #[v0, v1, v2, v3, v4])) w) : wpOp Tryz.prog ops Q i K a w := by
  refine wpOp_go hi hg ?_
  unfold Oper.wp
  have KK := Lib.hid hK
  clear hK hg hi
  generalize a.eval = ρ at *
  go_simp
  exact KK.out
theorem wpOp_slice1 {x0 : Operand} {t0 : T} {v0 : Value} (hi : ops[i]? = some { dst := some d, op := .buildSlice 23 1 #[(0, x0)], type := ty, pos := pos, after := after, guard := g })
    (hg : Region.wanted { dst := some d, op := .buildSlice 23 1 #[(0, x0)], type := ty, pos := pos, after := after, guard := g } (yielded ops a.tmps) = true) (h0 : a.eval x0 = agg t0 v0) (hK : K (a.put (some d) (.slice (some ⟨w.heap.size, 0, none⟩) 1 1)) (w.alloc (.cells (cellsN [(t0, v0)]).toArray 25))) : wpOp Tryz.prog ops Q i K a w := by
  refine wpOp_go hi hg ?_
  unfold Oper.wp
  have KK := Lib.hid hK
  clear hK hg hi
  unfold agg at *
  generalize a.eval = ρ at *
  go_simp
  exact KK.out
theorem wpOp_slice2 {x0 x1 : Operand} {t0 t1 : T} {v0 v1 : Value} (hi : ops[i]? = some { dst := some d, op := .buildSlice 23 2 #[(0, x0), (1, x1)], type := ty, pos := pos, after := after, guard := g })
    (hg : Region.wanted { dst := some d, op := .buildSlice 23 2 #[(0, x0), (1, x1)], type := ty, pos := pos, after := after, guard := g } (yielded ops a.tmps) = true) (h0 : a.eval x0 = agg t0 v0) (h1 : a.eval x1 = agg t1 v1) (hK : K (a.put (some d) (.slice (some ⟨w.heap.size, 0, none⟩) 2 2)) (w.alloc (.cells (cellsN [(t0, v0), (t1, v1)]).toArray 25))) : wpOp Tryz.prog ops Q i K a w := by
  refine wpOp_go hi hg ?_
  unfold Oper.wp
  have KK := Lib.hid hK
  clear hK hg hi
  unfold agg at *
  generalize a.eval = ρ at *
  go_simp
  exact KK.out
theorem wpOp_slice3 {x0 x1 x2 : Operand} {t0 t1 t2 : T} {v0 v1 v2 : Value} (hi : ops[i]? = some { dst := some d, op := .buildSlice 23 3 #[(0, x0), (1, x1), (2, x2)], type := ty, pos := pos, after := after, guard := g })
    (hg : Region.wanted { dst := some d, op := .buildSlice 23 3 #[(0, x0), (1, x1), (2, x2)], type := ty, pos := pos, after := after, guard := g } (yielded ops a.tmps) = true) (h0 : a.eval x0 = agg t0 v0) (h1 : a.eval x1 = agg t1 v1) (h2 : a.eval x2 = agg t2 v2) (hK : K (a.put (some d) (.slice (some ⟨w.heap.size, 0, none⟩) 3 3)) (w.alloc (.cells (cellsN [(t0, v0), (t1, v1), (t2, v2)]).toArray 25))) : wpOp Tryz.prog ops Q i K a w := by
  refine wpOp_go hi hg ?_
  unfold Oper.wp
  have KK := Lib.hid hK
  clear hK hg hi
  unfold agg at *
  generalize a.eval = ρ at *
  go_simp
  exact KK.out
theorem wpOp_slice4 {x0 x1 x2 x3 : Operand} {t0 t1 t2 t3 : T} {v0 v1 v2 v3 : Value} (hi : ops[i]? = some { dst := some d, op := .buildSlice 23 4 #[(0, x0), (1, x1), (2, x2), (3, x3)], type := ty, pos := pos, after := after, guard := g })
    (hg : Region.wanted { dst := some d, op := .buildSlice 23 4 #[(0, x0), (1, x1), (2, x2), (3, x3)], type := ty, pos := pos, after := after, guard := g } (yielded ops a.tmps) = true) (h0 : a.eval x0 = agg t0 v0) (h1 : a.eval x1 = agg t1 v1) (h2 : a.eval x2 = agg t2 v2) (h3 : a.eval x3 = agg t3 v3) (hK : K (a.put (some d) (.slice (some ⟨w.heap.size, 0, none⟩) 4 4)) (w.alloc (.cells (cellsN [(t0, v0), (t1, v1), (t2, v2), (t3, v3)]).toArray 25))) : wpOp Tryz.prog ops Q i K a w := by
  refine wpOp_go hi hg ?_
  unfold Oper.wp
  have KK := Lib.hid hK
  clear hK hg hi
  unfold agg at *
  generalize a.eval = ρ at *
  go_simp
  exact KK.out
theorem wpOp_slice7 {x0 x1 x2 x3 x4 x5 x6 : Operand} {t0 t1 t2 t3 t4 t5 t6 : T} {v0 v1 v2 v3 v4 v5 v6 : Value} (hi : ops[i]? = some { dst := some d, op := .buildSlice 23 7 #[(0, x0), (1, x1), (2, x2), (3, x3), (4, x4), (5, x5), (6, x6)], type := ty, pos := pos, after := after, guard := g })
    (hg : Region.wanted { dst := some d, op := .buildSlice 23 7 #[(0, x0), (1, x1), (2, x2), (3, x3), (4, x4), (5, x5), (6, x6)], type := ty, pos := pos, after := after, guard := g } (yielded ops a.tmps) = true) (h0 : a.eval x0 = agg t0 v0) (h1 : a.eval x1 = agg t1 v1) (h2 : a.eval x2 = agg t2 v2) (h3 : a.eval x3 = agg t3 v3) (h4 : a.eval x4 = agg t4 v4) (h5 : a.eval x5 = agg t5 v5) (h6 : a.eval x6 = agg t6 v6) (hK : K (a.put (some d) (.slice (some ⟨w.heap.size, 0, none⟩) 7 7)) (w.alloc (.cells (cellsN [(t0, v0), (t1, v1), (t2, v2), (t3, v3), (t4, v4), (t5, v5), (t6, v6)]).toArray 25))) : wpOp Tryz.prog ops Q i K a w := by
  refine wpOp_go hi hg ?_
  unfold Oper.wp
  have KK := Lib.hid hK
  clear hK hg hi
  unfold agg at *
  generalize a.eval = ρ at *
  go_simp
  exact KK.out
theorem wpOp_alloc (hi : ops[i]? = some { dst := some d, op := .alloc 25, type := ty, pos := pos, after := after, guard := g })
    (hg : Region.wanted { dst := some d, op := .alloc 25, type := ty, pos := pos, after := after, guard := g } (yielded ops a.tmps) = true) (hK : K (a.put (some d) (.pointer (some ⟨w.heap.size, 0, none⟩))) (w.alloc (.cells #[.int .u8 0, .string ⟨#[]⟩, .int .i64 0, .int .i64 0, .slice none 0 0] 25))) : wpOp Tryz.prog ops Q i K a w := by
  refine wpOp_go hi hg ?_
  unfold Oper.wp
  have KK := Lib.hid hK
  clear hK hg hi
  generalize a.eval = ρ at *
  go_simp
  exact KK.out
end

/-- What a slot may hold: a tree, the kids of one, a variable that holds a tree, a box that is new. -/
inductive Fx where
  | tree (t : T)
  | rows (l : List T)
  | var (t : T)
  | box (lo : Nat)
  | cell (b : Nat)
  | own (lo : Nat) (t : T)
  | no
  | bool (b : Bool)
  | num (m : Int)
  | val (v : Value)
def zeroN : Obj := .cells #[.int .u8 0, .string ⟨#[]⟩, .int .i64 0, .int .i64 0, .slice none 0 0] 25
def Fx.holds (P : Nat → Prop) (w : World) (v : Value) : Fx → Prop
  | .tree t => ∃ u, v = agg t u ∧ Stood True P w t u
  | .rows l => Stood True P w (.mk 0 ⟨#[]⟩ 0 0 l) v
  | .var t => ∃ b u, v = .pointer (some ⟨b, 0, none⟩) ∧ P b ∧ w.heap[b]? = some (boxN t u) ∧ Stood True P w t u
  | .box lo => ∃ b, v = .pointer (some ⟨b, 0, none⟩) ∧ lo ≤ b ∧ b < w.heap.size ∧ w.heap[b]? = some zeroN
  | .cell b => v = .pointer (some ⟨b, 0, none⟩) ∧ b < w.heap.size ∧ w.heap[b]? = some zeroN
  | .own lo t => ∃ b u, v = .pointer (some ⟨b, 0, none⟩) ∧ lo ≤ b ∧ P b ∧ w.heap[b]? = some (boxN t u) ∧ Stood True (fun k => P k ∧ k ≠ b) w t u
  | .no => v = undef
  | .bool b => v = .bool b
  | .num m => v = .int .i64 m
  | .val u => v = u
def Fx.isBox : Fx → Bool
  | .box _ => true
  | .cell _ => true
  | _ => false
theorem Fx.keepP {P P' : Nat → Prop} {w w' : World} {v : Value} {f : Fx} (h : f.holds P w v) (hn : f.isBox = false) (hb : ∀ k, P k → w'.heap[k]? = w.heap[k]?) (hP : ∀ k, P k → P' k) : f.holds P' w' v := by
  cases f with
  | tree t => obtain ⟨u, h1, h2⟩ := h; exact ⟨u, h1, h2.keep hb hP⟩
  | rows l => exact Stood.keep h hb hP
  | var t => obtain ⟨c, u, h1, h2, h3, h4⟩ := h; exact ⟨c, u, h1, hP c h2, (hb c h2).trans h3, h4.keep hb hP⟩
  | box lo => cases hn
  | cell b => cases hn
  | own lo t => obtain ⟨c, u, h1, h0, h2, h3, h4⟩ := h; exact ⟨c, u, h1, h0, hP c h2, (hb c h2).trans h3, h4.keep (fun k hk => hb k hk.1) (fun k hk => ⟨hP k hk.1, hk.2⟩)⟩
  | no => exact h
  | bool b => exact h
  | num m => exact h
  | val u => exact h
theorem Fx.keep {P P' : Nat → Prop} {w w' : World} {v : Value} {f : Fx} (h : f.holds P w v) (b' : Below w.heap.size w w') (hs : ∀ k, P k → k < w.heap.size) (hP : ∀ k, P k → P' k) : f.holds P' w' v := by
  have hb : ∀ k, P k → w'.heap[k]? = w.heap[k]? := fun k hk => b'.block k (hs k hk)
  cases hf : f.isBox with
  | false => exact Fx.keepP h hf hb hP
  | true =>
    cases f with
    | box lo => obtain ⟨c, h1, h0, h2, h3⟩ := h; exact ⟨c, h1, h0, Nat.lt_of_lt_of_le h2 b'.size, (b'.block c h2).trans h3⟩
    | tree t => cases hf
    | rows l => cases hf
    | var t => cases hf
    | cell b => obtain ⟨h1, h2, h3⟩ := h; exact ⟨h1, Nat.lt_of_lt_of_le h2 b'.size, (b'.block b h2).trans h3⟩
    | own lo t => cases hf
    | no => cases hf
    | bool b => cases hf
    | num m => cases hf
    | val u => cases hf

/-- The blocks from r on that are not the box in slot bs. -/
def PB (r bs : Nat) (a : Act) (w : World) : Nat → Prop := fun k => k < w.heap.size ∧ r ≤ k ∧ a.eval (.tmp bs) ≠ .pointer (some ⟨k, 0, none⟩)
/-- On the way through a region: what the slots hold that are done. -/
structure Reg (r : Nat) (w0 : World) (bs n : Nat) (F : List (Option Nat × Nat × Fx)) (listed : Array Bool) (a : Act) (w : World) : Prop where
  size : a.tmps.size = n
  defers : a.defers = []
  bel : Below w0.heap.size w0 w
  low : r ≤ w.heap.size
  fresh : ∀ k, w.heap.size ≤ k → a.eval (.tmp bs) ≠ .pointer (some ⟨k, 0, none⟩)
  facts : ∀ f, f ∈ F → (∀ j, f.1 = some j → listed.getD j false = true) → f.2.2.holds (PB r bs a w) w (a.eval (.tmp f.2.1))
theorem eval_put_ne (a : Act) (d t : Nat) (v : Value) (h : t ≠ d) : (a.put (some d) v).eval (.tmp t) = a.eval (.tmp t) := by
  simp [Act.put, Act.eval, Array.getElem?_setIfInBounds_ne (Ne.symm h)]
theorem eval_put_same (a : Act) (d : Nat) (v : Value) (h : d < a.tmps.size) : (a.put (some d) v).eval (.tmp d) = v := by
  simp [Act.put, Act.eval, h]
theorem Reg.put {r : Nat} {w0 : World} {bs n : Nat} {F : List (Option Nat × Nat × Fx)} {listed : Array Bool} {a : Act} {w w' : World} (h : Reg r w0 bs n F listed a w) (b : Below w.heap.size w w') (i d : Nat) (v : Value) (hd : d < n)
    (hF : (F.all fun f => f.1 == some i || f.2.1 != d) = true) (hO : (F.all fun f => f.1 != some i || f.2.1 == d) = true) (hbs : d = bs → ∀ k, (k < w.heap.size ∨ w'.heap.size ≤ k) → v ≠ .pointer (some ⟨k, 0, none⟩))
    (hnew : ∀ f, f ∈ F → f.1 = some i → f.2.2.holds (PB r bs (a.put (some d) v) w') w' v) : Reg r w0 bs n F (listed.setIfInBounds i true) (a.put (some d) v) w' where
  size := by
    show (a.tmps.setIfInBounds d v).size = n
    rw [Array.size_setIfInBounds]
    exact h.size
  defers := h.defers
  bel := h.bel.trans (b.mono h.bel.size)
  low := Nat.le_trans h.low b.size
  fresh := fun k hk => by
    by_cases hb : d = bs
    · subst hb
      rw [eval_put_same _ _ _ (by rw [h.size]; exact hd)]
      exact hbs rfl k (Or.inr hk)
    · rw [eval_put_ne _ _ _ _ (Ne.symm hb)]
      exact h.fresh k (Nat.le_trans b.size hk)
  facts := fun f hf hdone => by
    have h1 := List.all_eq_true.1 hF f hf
    have h2 := List.all_eq_true.1 hO f hf
    by_cases hi : f.1 = some i
    · have hd2 : f.2.1 = d := by simpa [hi] using h2
      rw [hd2, eval_put_same _ _ _ (by rw [h.size]; exact hd)]
      exact hnew f hf hi
    · have hd2 : f.2.1 ≠ d := by simpa [hi] using h1
      rw [eval_put_ne _ _ _ _ hd2]
      refine Fx.keep (h.facts f hf fun j hj => ?_) b (fun k hk => hk.1) (fun k hk => ⟨Nat.lt_of_lt_of_le hk.1 b.size, hk.2.1, ?_⟩)
      · have := hdone j hj
        rwa [getD_set_ne false (fun e => hi (by rw [hj, e]))] at this
      · by_cases hb : d = bs
        · subst hb
          rw [eval_put_same _ _ _ (by rw [h.size]; exact hd)]
          exact hbs rfl k (Or.inl hk.1)
        · rw [eval_put_ne _ _ _ _ (Ne.symm hb)]
          exact hk.2.2

section
variable {ops : Array Oper} {Q : Exit → Act → World → Prop} {a : Act} {w : World} {i d : Nat} {ty : TypeId} {pos : String} {after : Array Edge} {g : Option (Nat × Bool)} {ts : Array TypeId} {r : Nat} {w0 : World} {bs n : Nat} {F : List (Option Nat × Nat × Fx)} {listed : Array Bool}
theorem Reg.one (h : Reg r w0 bs n F listed a w) {w' : World} {fx : Fx} (b : Below w.heap.size w w') (v : Value) (hU : F.filter (fun f => f.1 == some i) = [(some i, d, fx)]) (hA : (F.all fun f => f.1 == some i || f.2.1 != d) = true) (hd : d < n) (hbs : d = bs → ∀ k, (k < w.heap.size ∨ w'.heap.size ≤ k) → v ≠ .pointer (some ⟨k, 0, none⟩)) (hnew : fx.holds (PB r bs (a.put (some d) v) w') w' v) : Reg r w0 bs n F (listed.setIfInBounds i true) (a.put (some d) v) w' := by
  have hall : ∀ f, f ∈ F → f.1 = some i → f = (some i, d, fx) := fun f hf hi => by
    have : f ∈ F.filter (fun f => f.1 == some i) := List.mem_filter.2 ⟨hf, by rw [hi]; exact beq_self_eq_true _⟩
    rw [hU] at this
    exact List.mem_singleton.1 this
  refine h.put b i d v hd hA (List.all_eq_true.2 fun f hf => ?_) hbs fun f hf hi => ?_
  · by_cases hi : f.1 = some i
    · rw [hall f hf hi]
      simp
    · simp [hi]
  · rw [hall f hf hi]
    exact hnew
theorem pb_put {r : Nat} {a : Act} {w w' : World} {bs d : Nat} {v : Value} (hne : d ≠ bs) (b : Below w.heap.size w w') : ∀ k, PB r bs a w k → PB r bs (a.put (some d) v) w' k := fun k hk => ⟨Nat.lt_of_lt_of_le hk.1 b.size, hk.2.1, by rw [eval_put_ne _ _ _ _ (Ne.symm hne)]; exact hk.2.2⟩
theorem rows_out {P : Nat → Prop} {w : World} {l : List T} {v : Value} (h : (Fx.rows l).holds P w v) : ∃ ao c, v = .slice ao l.length c := by
  obtain ⟨ao, c, ps, hv, -⟩ := Stood.out h
  exact ⟨ao, c, hv⟩
theorem stood_rows {P : Nat → Prop} {w : World} {t t' : T} {v : Value} (h : Stood True P w t v) (e : t.kids = t'.kids) : Stood True P w t' v := by
  cases h with
  | mk _ ao c ps hk hs hc hl hm hg hp => rw [e] at hk hl hg ⊢; exact .mk t' ao c ps hk hs hc hl hm hg hp
theorem Reg.of (h : Reg r w0 bs n F listed a w) {k : Int} {s : ByteArray} {x : Operand} {l : List T} (hi : ops[i]? = some { dst := some d, op := .call { callee := .value (.func 13), args := #[.const (.int .u8 k), .const (.string s), x], argTypes := ts }, type := ty, pos := pos, after := after, guard := g })
    (hg : Region.wanted { dst := some d, op := .call { callee := .value (.func 13), args := #[.const (.int .u8 k), .const (.string s), x], argTypes := ts }, type := ty, pos := pos, after := after, guard := g } (yielded ops a.tmps) = true) (hx : (Fx.rows l).holds (PB r bs a w) w (a.eval x)) (hU : F.filter (fun f => f.1 == some i) = [(some i, d, .tree (.mk k s 0 0 l))]) (hA : (F.all fun f => f.1 == some i || f.2.1 != d) = true) (hd : d < n) (hbs : d ≠ bs) : wpOp Tryz.prog ops Q i (Reg r w0 bs n F (listed.setIfInBounds i true)) a w := by
  obtain ⟨ao, c, hv⟩ := rows_out hx
  refine wpOp_call (vs := #[.int .u8 k, .string s, .slice ao l.length c]) hi hg (enters_of Tryz.func13 (by kernel_rfl) rfl) (by simp [← hv, Act.eval]) ?_
  refine (of_any k s ao l.length c w).mono ?_
  rintro e w' ⟨rfl, hb⟩
  refine ⟨_, rfl, h.one hb _ hU hA hd (fun e => absurd e hbs) ?_⟩
  refine ⟨.slice ao l.length c, rfl, ?_⟩
  rw [hv] at hx
  exact stood_rows (Stood.keep hx (fun k hk => hb.block k hk.1) (pb_put hbs hb)) rfl
theorem Reg.load (h : Reg r w0 bs n F listed a w) {x : Operand} {t : T} (hi : ops[i]? = some { dst := some d, op := .load 25 x, type := ty, pos := pos, after := after, guard := g })
    (hg : Region.wanted { dst := some d, op := .load 25 x, type := ty, pos := pos, after := after, guard := g } (yielded ops a.tmps) = true) (hx : (Fx.var t).holds (PB r bs a w) w (a.eval x)) (hU : F.filter (fun f => f.1 == some i) = [(some i, d, .tree t)]) (hA : (F.all fun f => f.1 == some i || f.2.1 != d) = true) (hd : d < n) (hbs : d ≠ bs) : wpOp Tryz.prog ops Q i (Reg r w0 bs n F (listed.setIfInBounds i true)) a w := by
  obtain ⟨b, u, hv, -, hb, hs⟩ := hx
  refine wpOp_load hi hg hv (Lib.cell_of_heap hb) ?_
  exact h.one (Below.refl _ _) _ hU hA hd (fun e => absurd e hbs) ⟨u, rfl, hs.keep (fun _ _ => rfl) (pb_put hbs (Below.refl _ _))⟩
theorem Reg.slice1 (h : Reg r w0 bs n F listed a w) {x0 : Operand} {t0 : T} (hi : ops[i]? = some { dst := some d, op := .buildSlice 23 1 #[(0, x0)], type := ty, pos := pos, after := after, guard := g })
    (hg : Region.wanted { dst := some d, op := .buildSlice 23 1 #[(0, x0)], type := ty, pos := pos, after := after, guard := g } (yielded ops a.tmps) = true) (h0 : (Fx.tree t0).holds (PB r bs a w) w (a.eval x0)) (hU : F.filter (fun f => f.1 == some i) = [(some i, d, .rows [t0])]) (hA : (F.all fun f => f.1 == some i || f.2.1 != d) = true) (hd : d < n) (hbs : d ≠ bs) : wpOp Tryz.prog ops Q i (Reg r w0 bs n F (listed.setIfInBounds i true)) a w := by
  obtain ⟨u0, e0, s0⟩ := h0
  refine wpOp_slice1 hi hg e0 ?_
  have hb := below_own (w := w) (.cells (cellsN [(t0, u0)]).toArray 25)
  refine h.one hb _ hU hA hd (fun e => absurd e hbs) ?_
  refine stood_new (.mk 0 ⟨#[]⟩ 0 0 [t0]) [(t0, u0)] w.heap.size 25 rfl (heap_alloc_new w _) ⟨by simp, h.low, ?_⟩ (by simp [T.kids]) ?_
  · rw [eval_put_ne _ _ _ _ (Ne.symm hbs)]
    exact h.fresh _ (Nat.le_refl _)
  · intro p hp
    have keep : ∀ t u, Stood True (PB r bs a w) w t u → Stood True (PB r bs (a.put (some d) (.slice (some ⟨w.heap.size, 0, none⟩) 1 1)) (w.alloc (.cells (cellsN [(t0, u0)]).toArray 25))) (w.alloc (.cells (cellsN [(t0, u0)]).toArray 25)) t u := fun t u hs => hs.keep (fun k hk => hb.block k hk.1) (pb_put hbs hb)
    simp only [List.mem_cons, List.not_mem_nil, or_false] at hp
    obtain rfl := hp
    · exact keep _ _ s0
theorem Reg.slice2 (h : Reg r w0 bs n F listed a w) {x0 x1 : Operand} {t0 t1 : T} (hi : ops[i]? = some { dst := some d, op := .buildSlice 23 2 #[(0, x0), (1, x1)], type := ty, pos := pos, after := after, guard := g })
    (hg : Region.wanted { dst := some d, op := .buildSlice 23 2 #[(0, x0), (1, x1)], type := ty, pos := pos, after := after, guard := g } (yielded ops a.tmps) = true) (h0 : (Fx.tree t0).holds (PB r bs a w) w (a.eval x0)) (h1 : (Fx.tree t1).holds (PB r bs a w) w (a.eval x1)) (hU : F.filter (fun f => f.1 == some i) = [(some i, d, .rows [t0, t1])]) (hA : (F.all fun f => f.1 == some i || f.2.1 != d) = true) (hd : d < n) (hbs : d ≠ bs) : wpOp Tryz.prog ops Q i (Reg r w0 bs n F (listed.setIfInBounds i true)) a w := by
  obtain ⟨u0, e0, s0⟩ := h0
  obtain ⟨u1, e1, s1⟩ := h1
  refine wpOp_slice2 hi hg e0 e1 ?_
  have hb := below_own (w := w) (.cells (cellsN [(t0, u0), (t1, u1)]).toArray 25)
  refine h.one hb _ hU hA hd (fun e => absurd e hbs) ?_
  refine stood_new (.mk 0 ⟨#[]⟩ 0 0 [t0, t1]) [(t0, u0), (t1, u1)] w.heap.size 25 rfl (heap_alloc_new w _) ⟨by simp, h.low, ?_⟩ (by simp [T.kids]) ?_
  · rw [eval_put_ne _ _ _ _ (Ne.symm hbs)]
    exact h.fresh _ (Nat.le_refl _)
  · intro p hp
    have keep : ∀ t u, Stood True (PB r bs a w) w t u → Stood True (PB r bs (a.put (some d) (.slice (some ⟨w.heap.size, 0, none⟩) 2 2)) (w.alloc (.cells (cellsN [(t0, u0), (t1, u1)]).toArray 25))) (w.alloc (.cells (cellsN [(t0, u0), (t1, u1)]).toArray 25)) t u := fun t u hs => hs.keep (fun k hk => hb.block k hk.1) (pb_put hbs hb)
    simp only [List.mem_cons, List.not_mem_nil, or_false] at hp
    rcases hp with rfl | rfl
    · exact keep _ _ s0
    · exact keep _ _ s1
theorem Reg.slice3 (h : Reg r w0 bs n F listed a w) {x0 x1 x2 : Operand} {t0 t1 t2 : T} (hi : ops[i]? = some { dst := some d, op := .buildSlice 23 3 #[(0, x0), (1, x1), (2, x2)], type := ty, pos := pos, after := after, guard := g })
    (hg : Region.wanted { dst := some d, op := .buildSlice 23 3 #[(0, x0), (1, x1), (2, x2)], type := ty, pos := pos, after := after, guard := g } (yielded ops a.tmps) = true) (h0 : (Fx.tree t0).holds (PB r bs a w) w (a.eval x0)) (h1 : (Fx.tree t1).holds (PB r bs a w) w (a.eval x1)) (h2 : (Fx.tree t2).holds (PB r bs a w) w (a.eval x2)) (hU : F.filter (fun f => f.1 == some i) = [(some i, d, .rows [t0, t1, t2])]) (hA : (F.all fun f => f.1 == some i || f.2.1 != d) = true) (hd : d < n) (hbs : d ≠ bs) : wpOp Tryz.prog ops Q i (Reg r w0 bs n F (listed.setIfInBounds i true)) a w := by
  obtain ⟨u0, e0, s0⟩ := h0
  obtain ⟨u1, e1, s1⟩ := h1
  obtain ⟨u2, e2, s2⟩ := h2
  refine wpOp_slice3 hi hg e0 e1 e2 ?_
  have hb := below_own (w := w) (.cells (cellsN [(t0, u0), (t1, u1), (t2, u2)]).toArray 25)
  refine h.one hb _ hU hA hd (fun e => absurd e hbs) ?_
  refine stood_new (.mk 0 ⟨#[]⟩ 0 0 [t0, t1, t2]) [(t0, u0), (t1, u1), (t2, u2)] w.heap.size 25 rfl (heap_alloc_new w _) ⟨by simp, h.low, ?_⟩ (by simp [T.kids]) ?_
  · rw [eval_put_ne _ _ _ _ (Ne.symm hbs)]
    exact h.fresh _ (Nat.le_refl _)
  · intro p hp
    have keep : ∀ t u, Stood True (PB r bs a w) w t u → Stood True (PB r bs (a.put (some d) (.slice (some ⟨w.heap.size, 0, none⟩) 3 3)) (w.alloc (.cells (cellsN [(t0, u0), (t1, u1), (t2, u2)]).toArray 25))) (w.alloc (.cells (cellsN [(t0, u0), (t1, u1), (t2, u2)]).toArray 25)) t u := fun t u hs => hs.keep (fun k hk => hb.block k hk.1) (pb_put hbs hb)
    simp only [List.mem_cons, List.not_mem_nil, or_false] at hp
    rcases hp with rfl | rfl | rfl
    · exact keep _ _ s0
    · exact keep _ _ s1
    · exact keep _ _ s2
theorem Reg.slice4 (h : Reg r w0 bs n F listed a w) {x0 x1 x2 x3 : Operand} {t0 t1 t2 t3 : T} (hi : ops[i]? = some { dst := some d, op := .buildSlice 23 4 #[(0, x0), (1, x1), (2, x2), (3, x3)], type := ty, pos := pos, after := after, guard := g })
    (hg : Region.wanted { dst := some d, op := .buildSlice 23 4 #[(0, x0), (1, x1), (2, x2), (3, x3)], type := ty, pos := pos, after := after, guard := g } (yielded ops a.tmps) = true) (h0 : (Fx.tree t0).holds (PB r bs a w) w (a.eval x0)) (h1 : (Fx.tree t1).holds (PB r bs a w) w (a.eval x1)) (h2 : (Fx.tree t2).holds (PB r bs a w) w (a.eval x2)) (h3 : (Fx.tree t3).holds (PB r bs a w) w (a.eval x3)) (hU : F.filter (fun f => f.1 == some i) = [(some i, d, .rows [t0, t1, t2, t3])]) (hA : (F.all fun f => f.1 == some i || f.2.1 != d) = true) (hd : d < n) (hbs : d ≠ bs) : wpOp Tryz.prog ops Q i (Reg r w0 bs n F (listed.setIfInBounds i true)) a w := by
  obtain ⟨u0, e0, s0⟩ := h0
  obtain ⟨u1, e1, s1⟩ := h1
  obtain ⟨u2, e2, s2⟩ := h2
  obtain ⟨u3, e3, s3⟩ := h3
  refine wpOp_slice4 hi hg e0 e1 e2 e3 ?_
  have hb := below_own (w := w) (.cells (cellsN [(t0, u0), (t1, u1), (t2, u2), (t3, u3)]).toArray 25)
  refine h.one hb _ hU hA hd (fun e => absurd e hbs) ?_
  refine stood_new (.mk 0 ⟨#[]⟩ 0 0 [t0, t1, t2, t3]) [(t0, u0), (t1, u1), (t2, u2), (t3, u3)] w.heap.size 25 rfl (heap_alloc_new w _) ⟨by simp, h.low, ?_⟩ (by simp [T.kids]) ?_
  · rw [eval_put_ne _ _ _ _ (Ne.symm hbs)]
    exact h.fresh _ (Nat.le_refl _)
  · intro p hp
    have keep : ∀ t u, Stood True (PB r bs a w) w t u → Stood True (PB r bs (a.put (some d) (.slice (some ⟨w.heap.size, 0, none⟩) 4 4)) (w.alloc (.cells (cellsN [(t0, u0), (t1, u1), (t2, u2), (t3, u3)]).toArray 25))) (w.alloc (.cells (cellsN [(t0, u0), (t1, u1), (t2, u2), (t3, u3)]).toArray 25)) t u := fun t u hs => hs.keep (fun k hk => hb.block k hk.1) (pb_put hbs hb)
    simp only [List.mem_cons, List.not_mem_nil, or_false] at hp
    rcases hp with rfl | rfl | rfl | rfl
    · exact keep _ _ s0
    · exact keep _ _ s1
    · exact keep _ _ s2
    · exact keep _ _ s3
theorem Reg.slice7 (h : Reg r w0 bs n F listed a w) {x0 x1 x2 x3 x4 x5 x6 : Operand} {t0 t1 t2 t3 t4 t5 t6 : T} (hi : ops[i]? = some { dst := some d, op := .buildSlice 23 7 #[(0, x0), (1, x1), (2, x2), (3, x3), (4, x4), (5, x5), (6, x6)], type := ty, pos := pos, after := after, guard := g })
    (hg : Region.wanted { dst := some d, op := .buildSlice 23 7 #[(0, x0), (1, x1), (2, x2), (3, x3), (4, x4), (5, x5), (6, x6)], type := ty, pos := pos, after := after, guard := g } (yielded ops a.tmps) = true) (h0 : (Fx.tree t0).holds (PB r bs a w) w (a.eval x0)) (h1 : (Fx.tree t1).holds (PB r bs a w) w (a.eval x1)) (h2 : (Fx.tree t2).holds (PB r bs a w) w (a.eval x2)) (h3 : (Fx.tree t3).holds (PB r bs a w) w (a.eval x3)) (h4 : (Fx.tree t4).holds (PB r bs a w) w (a.eval x4)) (h5 : (Fx.tree t5).holds (PB r bs a w) w (a.eval x5)) (h6 : (Fx.tree t6).holds (PB r bs a w) w (a.eval x6)) (hU : F.filter (fun f => f.1 == some i) = [(some i, d, .rows [t0, t1, t2, t3, t4, t5, t6])]) (hA : (F.all fun f => f.1 == some i || f.2.1 != d) = true) (hd : d < n) (hbs : d ≠ bs) : wpOp Tryz.prog ops Q i (Reg r w0 bs n F (listed.setIfInBounds i true)) a w := by
  obtain ⟨u0, e0, s0⟩ := h0
  obtain ⟨u1, e1, s1⟩ := h1
  obtain ⟨u2, e2, s2⟩ := h2
  obtain ⟨u3, e3, s3⟩ := h3
  obtain ⟨u4, e4, s4⟩ := h4
  obtain ⟨u5, e5, s5⟩ := h5
  obtain ⟨u6, e6, s6⟩ := h6
  refine wpOp_slice7 hi hg e0 e1 e2 e3 e4 e5 e6 ?_
  have hb := below_own (w := w) (.cells (cellsN [(t0, u0), (t1, u1), (t2, u2), (t3, u3), (t4, u4), (t5, u5), (t6, u6)]).toArray 25)
  refine h.one hb _ hU hA hd (fun e => absurd e hbs) ?_
  refine stood_new (.mk 0 ⟨#[]⟩ 0 0 [t0, t1, t2, t3, t4, t5, t6]) [(t0, u0), (t1, u1), (t2, u2), (t3, u3), (t4, u4), (t5, u5), (t6, u6)] w.heap.size 25 rfl (heap_alloc_new w _) ⟨by simp, h.low, ?_⟩ (by simp [T.kids]) ?_
  · rw [eval_put_ne _ _ _ _ (Ne.symm hbs)]
    exact h.fresh _ (Nat.le_refl _)
  · intro p hp
    have keep : ∀ t u, Stood True (PB r bs a w) w t u → Stood True (PB r bs (a.put (some d) (.slice (some ⟨w.heap.size, 0, none⟩) 7 7)) (w.alloc (.cells (cellsN [(t0, u0), (t1, u1), (t2, u2), (t3, u3), (t4, u4), (t5, u5), (t6, u6)]).toArray 25))) (w.alloc (.cells (cellsN [(t0, u0), (t1, u1), (t2, u2), (t3, u3), (t4, u4), (t5, u5), (t6, u6)]).toArray 25)) t u := fun t u hs => hs.keep (fun k hk => hb.block k hk.1) (pb_put hbs hb)
    simp only [List.mem_cons, List.not_mem_nil, or_false] at hp
    rcases hp with rfl | rfl | rfl | rfl | rfl | rfl | rfl
    · exact keep _ _ s0
    · exact keep _ _ s1
    · exact keep _ _ s2
    · exact keep _ _ s3
    · exact keep _ _ s4
    · exact keep _ _ s5
    · exact keep _ _ s6
end
end Go.Proofs.YtfmjhbaenpbfoaaGreatDoor

namespace Go.Proofs.YtfmjhbaenpbfoaaGreatDoor
open Go.RowKit

section
variable {ops : Array Oper} {Q : Exit → Act → World → Prop} {K : Act → World → Prop} {a : Act} {w : World} {i d : Nat} {ty : TypeId} {pos : String} {after : Array Edge} {g : Option (Nat × Bool)} {r : Nat} {w0 : World} {bs n : Nat} {F : List (Option Nat × Nat × Fx)} {listed : Array Bool}

/-- Whether an operation waits for another. -/
def waitsFor (ops : Array Oper) (i j : Nat) : Bool := ((ops[i]?).map fun o => o.after.any fun e => Region.binds .any e && e.on == j).getD false
theorem waits_done {j : Nat} (hr : i ∈ Region.ready .any ops listed) (h : waitsFor ops i j = true) : listed.getD j false = true := by
  obtain ⟨-, o, ho, hall⟩ := mem_ready.1 hr
  unfold waitsFor at h
  rw [ho] at h
  obtain ⟨k, hk, h1⟩ := Array.any_eq_true.1 (show (o.after.any fun e => Region.binds .any e && e.on == j) = true from h)
  rw [Bool.and_eq_true, beq_iff_eq] at h1
  rw [← h1.2]
  exact hall _ (Array.getElem_mem hk) h1.1
theorem Reg.got (h : Reg r w0 bs n F listed a w) (hr : i ∈ Region.ready .any ops listed) (q : Nat) {c : Option Nat} {t : Nat} {fx : Fx} (hq : F[q]? = some (c, t, fx)) (hd : ((c.map fun j => waitsFor ops i j).getD true) = true) : fx.holds (PB r bs a w) w (a.eval (.tmp t)) := by
  refine h.facts (c, t, fx) (List.mem_of_getElem? hq) fun j hj => ?_
  have hj' : c = some j := hj
  subst hj'
  exact waits_done hr hd
theorem Reg.alloc (h : Reg r w0 bs n F listed a w) (hi : ops[i]? = some { dst := some bs, op := .alloc 25, type := ty, pos := pos, after := after, guard := g })
    (hg : Region.wanted { dst := some bs, op := .alloc 25, type := ty, pos := pos, after := after, guard := g } (yielded ops a.tmps) = true) (hU : F.filter (fun f => f.1 == some i) = [(some i, bs, .box w0.heap.size)]) (hA : (F.all fun f => f.1 == some i || f.2.1 != bs) = true) (hd : bs < n) : wpOp Tryz.prog ops Q i (Reg r w0 bs n F (listed.setIfInBounds i true)) a w := by
  refine wpOp_alloc hi hg ?_
  refine h.one (below_own _) _ hU hA hd (fun _ k hk e => ?_) ⟨w.heap.size, rfl, h.bel.size, by simp, heap_alloc_new w _⟩
  injection e with e
  injection e with e
  injection e with e
  simp at hk
  omega
theorem wpOp_store {x y : Operand} {b : Nat} {t : T} {ao : Option Addr} {m c : Nat} (hi : ops[i]? = some { dst := none, op := .store 25 x y, type := ty, pos := pos, after := after, guard := g })
    (hg : Region.wanted { dst := none, op := .store 25 x y, type := ty, pos := pos, after := after, guard := g } (yielded ops a.tmps) = true) (hx : a.eval x = .pointer (some ⟨b, 0, none⟩)) (hy : a.eval y = agg t (.slice ao m c)) (hb : w.heap[b]? = some zeroN)
    (hK : ∀ w', w'.heap[b]? = some (boxN t (.slice ao m c)) → Fr b w w' → K a w') : wpOp Tryz.prog ops Q i K a w := by
  refine wpOp_go hi hg ?_
  unfold Oper.wp
  have KK := Lib.hid hK
  have c0 : ∀ j, w.cell? ⟨b, j, none⟩ = _ := Lib.cell_of_heap hb
  have f0 : ∀ j, w.frozen? ⟨b, j, none⟩ = false := Lib.frozen_of_heap hb
  have HBb := Lib.hid hb
  clear hK hg hi hb
  unfold agg at *
  generalize a.eval = ρ at *
  go_simp
  refine KK.out _ ?_ ((((((Fr.refl b w).set 0 _).set 1 _).set 2 _).set 3 _).set 4 _)
  exact Lib.heap_setCell_same (i := 4) (Lib.heap_setCell_same (i := 3) (Lib.heap_setCell_same (i := 2) (Lib.heap_setCell_same (i := 1) (Lib.heap_setCell_same (i := 0) HBb.out _) _) _) _) _

theorem wp_region_reg {id last : Nat} {P : Program} (hm : P.follows .mixedOrders = true) (he : earlier ops = true) (hl : last < ops.size) (hlast : ((List.range ops.size).all fun j => j == last || waitsFor ops last j) = true)
    (start : Reg r w0 bs n F (Array.replicate ops.size false) a w.drew)
    (step : ∀ (listed : Array Bool) (a : Act) (w : World) (i : Nat), Reg r w0 bs n F listed a w → i ∈ Region.ready .any ops listed → i < ops.size → i ≠ last → wpOp P ops Q i (Reg r w0 bs n F (listed.setIfInBounds i true)) a w)
    (fin : ∀ (listed : Array Bool) (a : Act) (w : World), Reg r w0 bs n F listed a w → last ∈ Region.ready .any ops listed → wpOp P ops Q last (Q .normal) a w) : (Code.region id ops true).wp P Q a w := by
  refine wp_region_inv (fun listed a w => (listed.getD last false = false ∧ Reg r w0 bs n F listed a w) ∨ ((∀ j, j < ops.size → listed.getD j false = true) ∧ Q .normal a w)) hm he (Or.inl ⟨by simp [hl], start⟩) (fun l a w i hs h hi => ?_) (fun l a w h hall => ?_)
  · have hlt : i < ops.size := by
      obtain ⟨-, o, ho, -⟩ := mem_ready.1 hi
      exact (Array.getElem?_eq_some_iff.1 ho).1
    rcases h with ⟨h0, h⟩ | ⟨h0, -⟩
    · by_cases hil : i = last
      · subst hil
        refine wpOp_mono (fun a' w' h' => Or.inr ⟨fun j hj => ?_, h'⟩) (fin l a w h hi)
        by_cases hji : j = i
        · subst hji
          have : j < l.size := by omega
          simp [this]
        · have h1 := List.all_eq_true.1 hlast j (List.mem_range.2 hj)
          rw [beq_eq_false_iff_ne.2 hji, Bool.false_or] at h1
          exact getD_set_true (waits_done hi h1)
      · refine wpOp_mono (fun a' w' h' => Or.inl ⟨?_, h'⟩) (step l a w i h hi hlt hil)
        rw [getD_set_ne false hil]
        exact h0
    · have h1 := (mem_ready.1 hi).1
      have h2 := h0 i hlt
      have : i < l.size := by omega
      simp [this] at h1 h2
      rw [h1] at h2
      cases h2
  · rcases h with ⟨h0, -⟩ | ⟨-, h⟩
    · rw [hall last hl] at h0
      cases h0
    · exact h

/-- Between two statements: what the slots hold. -/
structure Mid (r : Nat) (w0 : World) (n : Nat) (S : List (Nat × Fx)) (a : Act) (w : World) : Prop where
  size : a.tmps.size = n
  defers : a.defers = []
  bel : Below w0.heap.size w0 w
  low : r ≤ w.heap.size
  facts : ∀ f, f ∈ S → f.2.holds (fun k => k < w.heap.size ∧ r ≤ k) w (a.eval (.tmp f.1))
theorem Mid.start {S : List (Nat × Fx)} (h : Mid r w0 n S a w) (hbs : ∀ k, (w.heap.size ≤ k ∨ r ≤ k) → a.eval (.tmp bs) ≠ .pointer (some ⟨k, 0, none⟩)) (hF : ∀ f, f ∈ F → f.1 = none → f.2 ∈ S) (m : Nat) : Reg r w bs n F (Array.replicate m false) a w.drew where
  size := h.size
  defers := h.defers
  bel := RowKit_drewN (Below.refl _ _) 1
  low := h.low
  fresh := fun k hk => hbs k (Or.inl hk)
  facts := fun f hf hdone => by
    cases hc : f.1 with
    | none =>
      exact Fx.keep (h.facts f.2 (hF f hf hc)) (RowKit_drewN (Below.refl _ _) 1) (fun _ hk => hk.1) (fun k hk => ⟨hk.1, hk.2, hbs k (Or.inr hk.2)⟩)
    | some j =>
      have := hdone j hc
      simp [Array.getElem?_replicate] at this
      split at this <;> simp at this
theorem Reg.store {S : List (Nat × Fx)} {wS : World} {lo : Nat} {y : Operand} {t : T} (h : Reg r w0 bs n F listed a w) (hb0 : Below wS.heap.size wS w0) (hi : ops[i]? = some { dst := none, op := .store 25 (.tmp bs) y, type := ty, pos := pos, after := after, guard := g })
    (hg : Region.wanted { dst := none, op := .store 25 (.tmp bs) y, type := ty, pos := pos, after := after, guard := g } (yielded ops a.tmps) = true)
    (hx : (Fx.box lo).holds (PB r bs a w) w (a.eval (.tmp bs))) (hlo : wS.heap.size ≤ lo) (hrl : r ≤ lo) (hy : (Fx.tree t).holds (PB r bs a w) w (a.eval y))
    (hS : ∀ f, f ∈ S → f = (bs, .own lo t) ∨ f = (bs, .var t) ∨ ((none, f) ∈ F ∧ (f.2.isBox = false ∨ ∃ c, c < lo ∧ f.2 = .cell c))) (hK : ∀ w', Mid r wS n S a w' → K a w') : wpOp Tryz.prog ops Q i K a w := by
  obtain ⟨b, hv, hlb, hbl, hbz⟩ := hx
  obtain ⟨u, hyv, hys⟩ := hy
  obtain ⟨ao, c, ps, rfl, -⟩ := hys.out
  refine wpOp_store hi hg hv hyv hbz fun w' hb' hf => hK w' ⟨h.size, h.defers, (hb0.trans (h.bel.mono hb0.size)).trans (hf.below (by have := hb0.size; have := h.bel.size; omega) (by omega)), Nat.le_trans h.low hf.size, fun f hfS => ?_⟩
  have hne : ∀ k, PB r bs a w k → k ≠ b := fun k hk e => hk.2.2 (by rw [hv, e])
  have hk : ∀ k, PB r bs a w k → w'.heap[k]? = w.heap[k]? := fun k hk => hf.block k hk.1 (fun e => hne k hk (by cases e; rfl))
  have hP : ∀ k, PB r bs a w k → k < w'.heap.size ∧ r ≤ k := fun k hk => ⟨Nat.lt_of_lt_of_le hk.1 hf.size, hk.2.1⟩
  rcases hS f hfS with rfl | rfl | ⟨hfF, hn⟩
  · exact ⟨b, _, hv, hlb, ⟨Nat.lt_of_lt_of_le hbl hf.size, by omega⟩, hb', hys.keep hk (fun k hk' => ⟨hP k hk', hne k hk'⟩)⟩
  · exact ⟨b, _, hv, ⟨Nat.lt_of_lt_of_le hbl hf.size, by omega⟩, hb', hys.keep hk hP⟩
  · have hfact := h.facts (none, f) hfF (fun j hj => by cases hj)
    rcases hn with hn | ⟨c, hc, hfc⟩
    · exact Fx.keepP hfact hn hk hP
    · have h1 : (Fx.cell c).holds (PB r bs a w) w (a.eval (.tmp f.1)) := hfc ▸ hfact
      obtain ⟨h2, h3, h4⟩ := h1
      have : (Fx.cell c).holds (fun k => k < w'.heap.size ∧ r ≤ k) w' (a.eval (.tmp f.1)) := ⟨h2, Nat.lt_of_lt_of_le h3 hf.size, (hf.block c h3 (fun e => by cases e; omega)).trans h4⟩
      exact hfc ▸ this
theorem wpOp_field {x : Operand} {b : Nat} (hi : ops[i]? = some { dst := some d, op := .fieldAddr 25 x 2, type := ty, pos := pos, after := after, guard := g })
    (hg : Region.wanted { dst := some d, op := .fieldAddr 25 x 2, type := ty, pos := pos, after := after, guard := g } (yielded ops a.tmps) = true) (hx : a.eval x = .pointer (some ⟨b, 0, none⟩)) (hK : K (a.put (some d) (.pointer (some ⟨b, 2, none⟩))) w) : wpOp Tryz.prog ops Q i K a w := by
  refine wpOp_go hi hg ?_
  unfold Oper.wp
  have KK := Lib.hid hK
  clear hK hg hi
  generalize a.eval = ρ at *
  go_simp
  exact KK.out
theorem wpOp_storeNum {x : Operand} {b : Nat} {t : T} {u : Value} {m : Int} (hi : ops[i]? = some { dst := none, op := .store 3 x (.const (.int .i64 m)), type := ty, pos := pos, after := after, guard := g })
    (hg : Region.wanted { dst := none, op := .store 3 x (.const (.int .i64 m)), type := ty, pos := pos, after := after, guard := g } (yielded ops a.tmps) = true) (hx : a.eval x = .pointer (some ⟨b, 2, none⟩)) (hb : w.heap[b]? = some (boxN t u))
    (hK : ∀ w', w'.heap[b]? = some (boxN (.mk t.kind t.text m t.pos t.kids) u) → Fr b w w' → K a w') : wpOp Tryz.prog ops Q i K a w := by
  refine wpOp_go hi hg ?_
  unfold Oper.wp
  have KK := Lib.hid hK
  have c0 : ∀ j, w.cell? ⟨b, j, none⟩ = _ := Lib.cell_of_heap hb
  have f0 : ∀ j, w.frozen? ⟨b, j, none⟩ = false := Lib.frozen_of_heap hb
  have HBb := Lib.hid hb
  have em : a.eval (.const (.int .i64 m)) = .int .i64 m := rfl
  clear hK hg hi hb
  generalize a.eval = ρ at *
  go_simp
  refine KK.out _ ?_ ((Fr.refl b w).set 2 _)
  exact Lib.heap_setCell_same (i := 2) HBb.out _
theorem wp_region_two {P : Program} {id : Nat} {o1 o2 : Oper} (h : wpOp P #[o1, o2] Q 0 (wpOp P #[o1, o2] Q 1 (Q .normal)) a w) : (Code.region id #[o1, o2] false).wp P Q a w := by
  refine wp_region ?_
  show wpOps P #[o1, o2] Q [0, 1] a w
  rw [wpOps_cons]
  refine wpOp_mono (fun a' w' h' => ?_) h
  rw [wpOps_cons]
  exact wpOp_mono (fun a'' w'' h'' => h'') h'
/-- A statement that sets a tree's number, where it lies in a variable. -/
theorem Mid.setNum {S : List (Nat × Fx)} {wS : World} {id x lo : Nat} {t : T} {m : Int} {ty1 ty2 : TypeId} {p1 p2 : String} {f1 f2 : Array Edge} (h : Mid r wS n S a w) (hx : (x, Fx.own lo t) ∈ S) (hd : d < n) (S' : List (Nat × Fx)) (hS : ∀ f, f ∈ S' → f.1 ≠ d ∧ (f = (x, .var (.mk t.kind t.text m t.pos t.kids)) ∨ (f ∈ S ∧ ∃ c, c < lo ∧ f.2 = .cell c)))
    (hlo : wS.heap.size ≤ lo)
    (hQ : ∀ a' w', Mid r wS n S' a' w' → Q .normal a' w') :
    (Code.region id #[{ dst := some d, op := .fieldAddr 25 (.tmp x) 2, type := ty1, pos := p1, after := f1, guard := none }, { dst := none, op := .store 3 (.tmp d) (.const (.int .i64 m)), type := ty2, pos := p2, after := f2, guard := none }] false).wp Tryz.prog Q a w := by
  obtain ⟨b, u, hv, hlb, hbl, hb, hs⟩ := h.facts _ hx
  refine wp_region_two (wpOp_field rfl rfl hv (wpOp_storeNum rfl rfl (eval_put_same _ _ _ (by rw [h.size]; exact hd)) hb fun w' hb' hf => hQ _ _ ⟨?_, h.defers, h.bel.trans (hf.below h.bel.size (by omega)), Nat.le_trans h.low hf.size, fun f hfS => ?_⟩))
  · show (a.tmps.setIfInBounds d _).size = n
    rw [Array.size_setIfInBounds]
    exact h.size
  · obtain ⟨hfd, hff⟩ := hS f hfS
    rw [eval_put_ne _ _ _ _ hfd]
    rcases hff with rfl | ⟨hfF, c, hc, hfc⟩
    · exact ⟨b, u, hv, ⟨Nat.lt_of_lt_of_le hbl.1 hf.size, hbl.2⟩, hb', stood_rows (hs.keep (fun k hk => hf.block k hk.1.1 (fun e => hk.2 (by cases e; rfl))) (fun k hk => ⟨Nat.lt_of_lt_of_le hk.1.1 hf.size, hk.1.2⟩)) rfl⟩
    · have h1 : (Fx.cell c).holds (fun k => k < w.heap.size ∧ r ≤ k) w (a.eval (.tmp f.1)) := hfc ▸ h.facts f hfF
      obtain ⟨h2, h3, h4⟩ := h1
      have : (Fx.cell c).holds (fun k => k < w'.heap.size ∧ r ≤ k) w' (a.eval (.tmp f.1)) := ⟨h2, Nat.lt_of_lt_of_le h3 hf.size, (hf.block c h3 (fun e => by cases e; omega)).trans h4⟩
      exact hfc ▸ this
/-- The last store, into the result. -/
theorem Reg.result {wS : World} {c : Nat} {y : Operand} {t : T} (h : Reg r w0 bs n F listed a w) (hb0 : Below wS.heap.size wS w0) (hi : ops[i]? = some { dst := none, op := .store 25 (.tmp bs) y, type := ty, pos := pos, after := after, guard := g })
    (hg : Region.wanted { dst := none, op := .store 25 (.tmp bs) y, type := ty, pos := pos, after := after, guard := g } (yielded ops a.tmps) = true)
    (hx : (Fx.cell c).holds (PB r bs a w) w (a.eval (.tmp bs))) (hlo : wS.heap.size ≤ c) (hy : (Fx.tree t).holds (PB r bs a w) w (a.eval y))
    (hK : ∀ w' u, a.defers = [] → a.eval (.tmp bs) = .pointer (some ⟨c, 0, none⟩) → w'.heap[c]? = some (boxN t u) → Stood True (fun k => k < w'.heap.size ∧ r ≤ k) w' t u → Below wS.heap.size wS w' → K a w') : wpOp Tryz.prog ops Q i K a w := by
  obtain ⟨hv, hbl, hbz⟩ := hx
  obtain ⟨u, hyv, hys⟩ := hy
  obtain ⟨ao, c', ps, rfl, -⟩ := hys.out
  refine wpOp_store hi hg hv hyv hbz fun w' hb' hf => hK w' _ h.defers hv hb' ?_ ((hb0.trans (h.bel.mono hb0.size)).trans (hf.below (by have := hb0.size; have := h.bel.size; omega) hlo))
  exact hys.keep (fun k hk => hf.block k hk.1 (fun e => hk.2.2 (by rw [hv]; cases e; rfl))) (fun k hk => ⟨Nat.lt_of_lt_of_le hk.1 hf.size, hk.2.1⟩)
end
end Go.Proofs.YtfmjhbaenpbfoaaGreatDoor

namespace Go.Proofs.YtfmjhbaenpbfoaaGreatDoor
open Go.RowKit

section
variable {ops : Array Oper} {Q : Exit → Act → World → Prop} {a : Act} {w : World} {i d : Nat} {n : Nat} {w0 : World} {F : List (Option Nat × Nat × Value)} {listed : Array Bool}
/-- On the way through a region whose values are known: the slots of operations that are done hold them; what was laid before stands. -/
structure Vals (n : Nat) (w0 : World) (F : List (Option Nat × Nat × Value)) (listed : Array Bool) (a : Act) (w : World) : Prop where
  size : a.tmps.size = n
  defers : a.defers = []
  bel : Below w0.heap.size w0 w
  facts : ∀ f, f ∈ F → (∀ j, f.1 = some j → listed.getD j false = true) → a.eval (.tmp f.2.1) = f.2.2
theorem Vals.got (h : Vals n w0 F listed a w) (hr : i ∈ Region.ready .any ops listed) (q : Nat) {c : Option Nat} {t : Nat} {v : Value} (hq : F[q]? = some (c, t, v)) (hd : ((c.map fun j => waitsFor ops i j).getD true) = true) : a.eval (.tmp t) = v := by
  refine h.facts (c, t, v) (List.mem_of_getElem? hq) fun j hj => ?_
  have hj' : c = some j := hj
  subst hj'
  exact waits_done hr hd
theorem Vals.put (h : Vals n w0 F listed a w) {w' : World} (b : Below w.heap.size w w') (v : Value) (hU : F.filter (fun f => f.1 == some i) = [(some i, d, v)]) (hA : (F.all fun f => f.1 == some i || f.2.1 != d) = true) (hd : d < n) : Vals n w0 F (listed.setIfInBounds i true) (a.put (some d) v) w' where
  size := by
    show (a.tmps.setIfInBounds d v).size = n
    rw [Array.size_setIfInBounds]
    exact h.size
  defers := h.defers
  bel := h.bel.trans (b.mono h.bel.size)
  facts := fun f hf hdone => by
    by_cases hi : f.1 = some i
    · have hm : f ∈ F.filter (fun f => f.1 == some i) := List.mem_filter.2 ⟨hf, by rw [hi]; exact beq_self_eq_true _⟩
      rw [hU] at hm
      obtain rfl := List.mem_singleton.1 hm
      exact eval_put_same _ _ _ (by rw [h.size]; exact hd)
    · have h1 := List.all_eq_true.1 hA f hf
      have hd2 : f.2.1 ≠ d := by simpa [hi] using h1
      rw [eval_put_ne _ _ _ _ hd2]
      refine h.facts f hf fun j hj => ?_
      have := hdone j hj
      rwa [getD_set_ne false (fun e => hi (by rw [hj, e]))] at this
theorem Vals.start {S : Act} (hs : S.tmps.size = n) (hd : S.defers = []) (hF : ∀ f, f ∈ F → f.1 = none → S.eval (.tmp f.2.1) = f.2.2) (m : Nat) : Vals n w0 F (Array.replicate m false) S w0.drew where
  size := hs
  defers := hd
  bel := RowKit_drewN (Below.refl _ _) 1
  facts := fun f hf hdone => by
    cases hc : f.1 with
    | none => exact hF f hf hc
    | some j =>
      have := hdone j hc
      simp [Array.getElem?_replicate] at this
      split at this <;> simp at this
/-- What an operation waits for is done where it is. -/
def Closed (ops : Array Oper) (l : Array Bool) : Prop := ∀ i j, l.getD i false = true → waitsFor ops i j = true → l.getD j false = true
theorem Closed.put {l : Array Bool} (h : Closed ops l) (hi : i ∈ Region.ready .any ops l) : Closed ops (l.setIfInBounds i true) := by
  intro p q hp hq
  refine getD_set_true ?_
  by_cases e : i = p
  · subst e
    exact waits_done hi hq
  · rw [getD_set_ne false e] at hp
    exact h p q hp hq
theorem Closed.all {l : Array Bool} {last : Nat} (h : Closed ops l) (hl : l.getD last false = true) (hst : ((List.range ops.size).all fun j => j == last || (List.range ops.size).any fun k => decide (j < k) && waitsFor ops k j) = true) : ∀ m j, j < ops.size → ops.size - j ≤ m → l.getD j false = true := by
  intro m
  induction m with
  | zero => intro j hj hm; omega
  | succ m ih =>
    intro j hj hm
    have h1 := List.all_eq_true.1 hst j (List.mem_range.2 hj)
    rw [Bool.or_eq_true] at h1
    rcases h1 with h1 | h1
    · rw [beq_iff_eq.1 h1]
      exact hl
    · obtain ⟨k, hk, h2⟩ := List.any_eq_true.1 h1
      rw [Bool.and_eq_true] at h2
      have h3 := of_decide_eq_true h2.1
      have hk' := List.mem_range.1 hk
      exact h k j (ih k hk' (by omega)) h2.2
/-- A region of which one operation comes behind all others. -/
theorem wp_region_last {id last : Nat} {P : Program} (I : Array Bool → Act → World → Prop) (hm : P.follows .mixedOrders = true) (he : earlier ops = true) (hl : last < ops.size) (hlast : ((List.range ops.size).all fun j => j == last || (List.range ops.size).any fun k => decide (j < k) && waitsFor ops k j) = true)
    (start : I (Array.replicate ops.size false) a w.drew)
    (step : ∀ (listed : Array Bool) (a : Act) (w : World) (i : Nat), I listed a w → i ∈ Region.ready .any ops listed → i < ops.size → i ≠ last → wpOp P ops Q i (I (listed.setIfInBounds i true)) a w)
    (fin : ∀ (listed : Array Bool) (a : Act) (w : World), I listed a w → last ∈ Region.ready .any ops listed → wpOp P ops Q last (Q .normal) a w) : (Code.region id ops true).wp P Q a w := by
  refine wp_region_inv (fun listed a w => Closed ops listed ∧ ((listed.getD last false = false ∧ I listed a w) ∨ (listed.getD last false = true ∧ Q .normal a w))) hm he ⟨fun p q hp _ => ?_, Or.inl ⟨by simp [hl], start⟩⟩ (fun l a w i hs h hi => ?_) (fun l a w h hall => ?_)
  · simp [Array.getElem?_replicate] at hp
    split at hp <;> simp at hp
  · have hlt : i < ops.size := by
      obtain ⟨-, o, ho, -⟩ := mem_ready.1 hi
      exact (Array.getElem?_eq_some_iff.1 ho).1
    have hil' := (mem_ready.1 hi).1
    have hil2 : l.getD i false = false := by
      have : i < l.size := by omega
      simp [this] at hil' ⊢
      exact hil'
    obtain ⟨hc, h⟩ := h
    rcases h with ⟨h0, h⟩ | ⟨h0, -⟩
    · by_cases hil : i = last
      · subst hil
        refine wpOp_mono (fun a' w' h' => ⟨hc.put hi, Or.inr ⟨?_, h'⟩⟩) (fin l a w h hi)
        have : i < l.size := by omega
        simp [this]
      · refine wpOp_mono (fun a' w' h' => ⟨hc.put hi, Or.inl ⟨?_, h'⟩⟩) (step l a w i h hi hlt hil)
        rw [getD_set_ne false hil]
        exact h0
    · rw [hc.all h0 hlast _ i hlt (Nat.le_refl _)] at hil2
      cases hil2
  · rcases h.2 with ⟨h0, -⟩ | ⟨-, h⟩
    · rw [hall last hl] at h0
      cases h0
    · exact h
end

set_option maxRecDepth 100000 in
set_option maxHeartbeats 1000000 in
theorem opTwo_any (t x y : T) (h16 : t.kind = 16) (hk : t.kids = [x, y]) (hX : BindOK x) (hY : BindOK y) (B b : Nat) (bs : L8) (w : World) (v : Value) (hl : Lies B w t v) (hw : Wrt B b bs w) (hlen : bs.length + t.expr.length ≤ 140737488355328) :
    Calls Tryz.prog 180 #[.pointer (some ⟨b, 0, none⟩), agg t v, .int .i64 (leftB (opB t.text))] w (Wd B b bs t.expr w) := by
  rw [expr_two h16 hk] at hlen ⊢
  simp only [List.length_append, List.length_cons, List.length_nil] at hlen
  obtain ⟨ao, c, ps, rfl, k1⟩ := hl.out
  have hlm := k1.len64
  have HLi := Lib.hid hl
  have HA := Lib.hid k1
  have hb0 := below_own (w := w) (.cells #[.int .u8 t.kind, .string t.text, .int .i64 t.num, .int .i64 t.pos, .slice ao t.kids.length c] 25)
  have HW0 : Hid (Wrt B b bs (w.alloc (.cells #[.int .u8 t.kind, .string t.text, .int .i64 t.num, .int .i64 t.pos, .slice ao t.kids.length c] 25))) := hw.below hb0
  have HK0 : Hid (Kp B b w (w.alloc (.cells #[.int .u8 t.kind, .string t.text, .int .i64 t.num, .int .i64 t.pos, .slice ao t.kids.length c] 25))) := (Kp.refl B b w).below hw.base hb0
  have HG0 : Hid ((w.alloc (.cells #[.int .u8 t.kind, .string t.text, .int .i64 t.num, .int .i64 t.pos, .slice ao t.kids.length c] 25)).heap[w.heap.size]? = some (.cells #[.int .u8 t.kind, .string t.text, .int .i64 t.num, .int .i64 t.pos, .slice ao t.kids.length c] 25 (0, 0))) := heap_alloc_new w _
  have hgb : w.heap.size ≠ b := by have := hw.lt; omega
  have HR0 : Hid (Kp B b (w.alloc (.cells #[.int .u8 t.kind, .string t.text, .int .i64 t.num, .int .i64 t.pos, .slice ao t.kids.length c] 25)) (w.alloc (.cells #[.int .u8 t.kind, .string t.text, .int .i64 t.num, .int .i64 t.pos, .slice ao t.kids.length c] 25))) := Kp.refl _ _ _
  have hbw : B ≤ w.heap.size := hw.base
  clear hl hw k1 hb0
  have KB0 := Lib.hid (fun W => binds_any t ao c W hlm)
  have hbt : bindsT t = opB t.text := by
    unfold bindsT
    rw [if_pos h16, hk]
    rfl
  rw [hbt] at KB0
  obtain ⟨sb, off, rfl, hsb, hc⟩ := HA.out.kid (by simp [hk])
  obtain ⟨u0, kc0, kl0⟩ := hc 0 x (by rw [hk]; rfl)
  obtain ⟨u1, kc1, kl1⟩ := hc 1 y (by rw [hk]; rfl)
  simp only [Nat.zero_mul, Nat.add_zero] at kc0
  simp only [Nat.one_mul] at kc1
  have HC1 := Lib.hid kc1
  have HI0 := Lib.hid kl0
  have HI1 := Lib.hid kl1
  have hkl : t.kids.length = 2 := by rw [hk]; rfl
  have hor := opB_range t.text
  have KX : Hid (Calls Tryz.prog 125 #[.pointer (some ⟨b, 0, none⟩), agg x u0, .int .i64 (leftB (opB t.text))] (w.alloc (.cells #[.int .u8 t.kind, .string t.text, .int .i64 t.num, .int .i64 t.pos, .slice (some ⟨sb, off, none⟩) t.kids.length c] 25)) (Wd B b bs (inB (bindsT x) (leftB (opB t.text)) x.expr) (w.alloc (.cells #[.int .u8 t.kind, .string t.text, .int .i64 t.num, .int .i64 t.pos, .slice (some ⟨sb, off, none⟩) t.kids.length c] 25)))) := hX (leftB (opB t.text)) B b bs _ _ (HI0.out.keep HK0.out.bel) HW0.out (by omega)
  have KY : Hid (∀ W bs', Kp B b (w.alloc (.cells #[.int .u8 t.kind, .string t.text, .int .i64 t.num, .int .i64 t.pos, .slice (some ⟨sb, off, none⟩) t.kids.length c] 25)) W → Wrt B b bs' W → bs'.length + (inB (bindsT y) (opB t.text + 1) y.expr).length ≤ 140737488355328 → Calls Tryz.prog 125 #[.pointer (some ⟨b, 0, none⟩), agg y u1, .int .i64 ((opB t.text : Nat) + 1)] W (Wd B b bs' (inB (bindsT y) (opB t.text + 1) y.expr) W)) := fun W bs' hk hw hlen => hY (opB t.text + 1) B b bs' W _ (HI1.out.keep (HK0.out.trans hk).bel) hw hlen
  obtain ⟨d0, d1, d2, d3, d4⟩ := kc0
  have hs1 : sb < w.heap.size := by omega
  have hs2 : sb ≠ w.heap.size := by omega
  clear hc kc1 kl0 kl1 hX hY hk h16 hbt HLi HA
  generalize opB t.text = r at *
  generalize inB (bindsT x) (leftB r) x.expr = ex at *
  generalize inB (bindsT y) (r + 1) y.expr = ey at *
  generalize leftB r = lf at *
  generalize t.kids.length = m at *
  subst hkl
  have HL2 : Hid ((bs ++ ex).length + (1 + (t.tx.length + 1)) ≤ 140737488355328) := by unfold Hid; simp only [List.length_append]; omega
  have HL3 : Hid (((bs ++ ex) ++ ([32] ++ t.tx ++ [32])).length + ey.length ≤ 140737488355328) := by unfold Hid; simp only [List.length_append, List.length_cons, List.length_nil]; omega
  have hr1 : wrap64 ((r : Int) + 1) = (r : Int) + 1 := by unfold wrap64; omega
  have hwr : IntKind.i64.wrap ((r : Int) + 1) = (r : Int) + 1 := (IntWalk.i64_left _).trans hr1
  unfold agg at *
  clear hlen
  go_enter Tryz.func180, Tryz.ntmps180
  go_wp2_with (go_at_call 125; go_must (refine (KX.out).mono ?_; rintro e w1 ⟨rfl, hw, hk⟩; have HW1 : Hid (Wrt B b (bs ++ (ex)) w1) := hw; have HR1 : Hid (Kp B b (w.alloc (.cells #[.int .u8 t.kind, .string t.text, .int .i64 t.num, .int .i64 t.pos, .slice (some ⟨sb, off, none⟩) 2 c] 25)) w1) := HR0.out.trans hk; have c1 := box_at HG0.out HR1.out hgb; clear hw hk; refine Hid.out ?_))
  refine Lib.hid ?_
  go_wp2_with (go_at_call 36; go_must (refine (lit3 B b _ (⟨#[32]⟩) (t.text) (⟨#[32]⟩) _ HW1.out (by exact HL2.out) _ (by first | rfl | simp)).mono ?_; rintro e w2 ⟨rfl, hw, hk⟩; have HW2 : Hid (Wrt B b ((bs ++ (ex)) ++ ([32] ++ t.tx ++ [32])) w2) := hw; have HR2 : Hid (Kp B b (w.alloc (.cells #[.int .u8 t.kind, .string t.text, .int .i64 t.num, .int .i64 t.pos, .slice (some ⟨sb, off, none⟩) 2 c] 25)) w2) := HR1.out.trans hk; have c2 := box_at HG0.out HR2.out hgb; clear hw hk; refine Hid.out ?_))
  refine Lib.hid ?_
  clear c1 d0 d1 d2 d3 d4
  go_upto_region 3 with fail
  have C2 := Lib.hid c2
  have hgw : w.heap.size < w2.heap.size := by have := HR2.out.bel.size; simp at this; omega
  refine wp_region_last (Vals 27 w2 [(none, 0, .pointer (some ⟨b, 0, none⟩)), (none, 4, .pointer (some ⟨w.heap.size, 0, none⟩)), (some 0, 18, .pointer (some ⟨b, 0, none⟩)), (some 1, 19, .pointer (some ⟨w.heap.size, 4, none⟩)), (some 2, 20, .slice (some ⟨sb, off, none⟩) 2 c), (some 3, 21, .pointer (some ⟨sb, off + 5, none⟩)), (some 4, 22, agg y u1), (some 5, 23, agg t (.slice (some ⟨sb, off, none⟩) 2 c)), (some 6, 24, .int .i64 r), (some 7, 25, .int .i64 ((r : Nat) + 1))]) (last := 8) (by kernel_rfl) (by kernel_rfl) (by decide) (by kernel_rfl) ?_ (fun listed a W i h hr hi hl => ?_) (fun listed a W h hr => ?_)
  · refine Vals.start ?_ ?_ (fun f hf hc => ?_) _
    · rfl
    · rfl
    simp only [List.mem_cons, List.not_mem_nil, or_false] at hf
    rcases hf with rfl | rfl | rfl | rfl | rfl | rfl | rfl | rfl | rfl | rfl <;> first | rfl | cases hc
  · have hi' : i < 9 := hi
    have hbx : ∀ j, W.cell? ⟨w.heap.size, j, none⟩ = (#[.int .u8 t.kind, .string t.text, .int .i64 t.num, .int .i64 t.pos, .slice (some ⟨sb, off, none⟩) 2 c] : Array Value)[j]? := fun j => by
      rw [(bone h.bel hgw).1 j]
      exact C2.out j
    obtain ⟨q0, q1, q2, q3, q4⟩ := (HC1.out.below hsb (HK0.out.trans HR2.out).bel).below (B := w2.heap.size) (by have := HW2.out.base; omega) h.bel
    obtain rfl | rfl | rfl | rfl | rfl | rfl | rfl | rfl : i = 0 ∨ i = 1 ∨ i = 2 ∨ i = 3 ∨ i = 4 ∨ i = 5 ∨ i = 6 ∨ i = 7 := by omega
    · have e0 := h.got hr 0 rfl (by kernel_rfl)
      have KK := Lib.hid (h.put (i := 0) (d := 18) (Below.refl _ _) (.pointer (some ⟨b, 0, none⟩)) rfl rfl (by decide))
      refine wpOp_go rfl rfl ?_
      unfold Oper.wp
      clear h hr
      generalize a.eval = ρ at *
      go_simp
      exact KK.out
    · have e4 := h.got hr 1 rfl (by kernel_rfl)
      have KK := Lib.hid (h.put (i := 1) (d := 19) (Below.refl _ _) (.pointer (some ⟨w.heap.size, 4, none⟩)) rfl rfl (by decide))
      refine wpOp_go rfl rfl ?_
      unfold Oper.wp
      clear h hr
      generalize a.eval = ρ at *
      go_simp
      exact KK.out
    · have e19 := h.got hr 3 rfl (by kernel_rfl)
      have KK := Lib.hid (h.put (i := 2) (d := 20) (Below.refl _ _) (.slice (some ⟨sb, off, none⟩) 2 c) rfl rfl (by decide))
      refine wpOp_go rfl rfl ?_
      unfold Oper.wp
      clear h hr
      generalize a.eval = ρ at *
      go_simp
      exact KK.out
    · have e20 := h.got hr 4 rfl (by kernel_rfl)
      have KK := Lib.hid (h.put (i := 3) (d := 21) (Below.refl _ _) (.pointer (some ⟨sb, off + 5, none⟩)) rfl rfl (by decide))
      refine wpOp_go rfl rfl ?_
      unfold Oper.wp
      have ec : a.eval (.const (.int .i64 1)) = .int .i64 1 := rfl
      clear h hr
      generalize a.eval = ρ at *
      go_simp
      exact KK.out
    · have e21 := h.got hr 5 rfl (by kernel_rfl)
      have KK := Lib.hid (h.put (i := 4) (d := 22) (Below.refl _ _) (agg y u1) rfl rfl (by decide))
      refine wpOp_go rfl rfl ?_
      unfold Oper.wp
      clear h hr
      generalize a.eval = ρ at *
      go_simp
      exact KK.out
    · have e4 := h.got hr 1 rfl (by kernel_rfl)
      have KK := Lib.hid (h.put (i := 5) (d := 23) (Below.refl _ _) (agg t (.slice (some ⟨sb, off, none⟩) 2 c)) rfl rfl (by decide))
      refine wpOp_go rfl rfl ?_
      unfold Oper.wp
      clear h hr
      generalize a.eval = ρ at *
      go_simp
      exact KK.out
    · have e23 := h.got hr 7 rfl (by kernel_rfl)
      refine wpOp_call (vs := #[agg t (.slice (some ⟨sb, off, none⟩) 2 c)]) rfl rfl (enters_of Tryz.func158 (by kernel_rfl) rfl) (by simp [e23]) ?_
      refine (KB0.out W).mono ?_
      rintro e w' ⟨rfl, hg⟩
      exact ⟨_, rfl, h.put (i := 6) (d := 24) hg.below _ rfl rfl (by decide)⟩
    · have e24 := h.got hr 8 rfl (by kernel_rfl)
      have KK := Lib.hid (h.put (i := 7) (d := 25) (Below.refl _ _) (.int .i64 ((r : Nat) + 1)) rfl rfl (by decide))
      refine wpOp_go rfl rfl ?_
      unfold Oper.wp
      have ec : a.eval (.const (.int .i64 1)) = .int .i64 1 := rfl
      clear h hr
      generalize a.eval = ρ at *
      go_simp
      exact KK.out
  · have e18 := h.got hr 2 rfl (by kernel_rfl)
    have e22 := h.got hr 6 rfl (by kernel_rfl)
    have e25 := h.got hr 9 rfl (by kernel_rfl)
    have hR : Kp B b (w.alloc (.cells #[.int .u8 t.kind, .string t.text, .int .i64 t.num, .int .i64 t.pos, .slice (some ⟨sb, off, none⟩) 2 c] 25)) W := HR2.out.below HW2.out.base h.bel
    refine wpOp_call (vs := #[.pointer (some ⟨b, 0, none⟩), agg y u1, .int .i64 ((r : Nat) + 1)]) rfl rfl (enters_of Tryz.func125 (by kernel_rfl) rfl) (by simp [e18, e22, e25]) ?_
    refine (KY.out W _ hR (HW2.out.below h.bel) HL3.out).mono ?_
    rintro e w' ⟨rfl, hw3, hk3⟩
    refine ⟨_, rfl, ?_⟩
    have hd := h.defers
    have hfin : Wrt B b (bs ++ ex ++ ([32] ++ t.tx ++ [32]) ++ ey) w' := hw3
    exact bodyPost_end (results_none rfl _ _ _) hd ⟨rfl, by simpa [List.append_assoc] using hfin, (HK0.out.trans hR).trans hk3⟩
end Go.Proofs.YtfmjhbaenpbfoaaGreatDoor

namespace Go.Proofs.YtfmjhbaenpbfoaaGreatDoor
open Go.RowKit

set_option maxRecDepth 100000 in
set_option maxHeartbeats 1000000 in
theorem bare_leaf (t : T) (hx : t.kind = 12 ∨ t.kind = 13 ∨ t.kind = 14 ∨ t.kind = 15) : BareOK t := by
  intro B b bs w v hl hw hlen
  obtain ⟨ao, c, ps, rfl, k1⟩ := hl.out
  have hlm := k1.len64
  have HLi := Lib.hid hl
  have HA := Lib.hid k1
  have hb0 := below_own (w := w) (.cells #[.int .u8 t.kind, .string t.text, .int .i64 t.num, .int .i64 t.pos, .slice ao t.kids.length c] 25)
  have HW0 : Hid (Wrt B b bs (w.alloc (.cells #[.int .u8 t.kind, .string t.text, .int .i64 t.num, .int .i64 t.pos, .slice ao t.kids.length c] 25))) := hw.below hb0
  have HK0 : Hid (Kp B b w (w.alloc (.cells #[.int .u8 t.kind, .string t.text, .int .i64 t.num, .int .i64 t.pos, .slice ao t.kids.length c] 25))) := (Kp.refl B b w).below hw.base hb0
  have HG0 : Hid ((w.alloc (.cells #[.int .u8 t.kind, .string t.text, .int .i64 t.num, .int .i64 t.pos, .slice ao t.kids.length c] 25)).heap[w.heap.size]? = some (.cells #[.int .u8 t.kind, .string t.text, .int .i64 t.num, .int .i64 t.pos, .slice ao t.kids.length c] 25 (0, 0))) := heap_alloc_new w _
  have hgb : w.heap.size ≠ b := by have := hw.lt; omega
  have HR0 : Hid (Kp B b (w.alloc (.cells #[.int .u8 t.kind, .string t.text, .int .i64 t.num, .int .i64 t.pos, .slice ao t.kids.length c] 25)) (w.alloc (.cells #[.int .u8 t.kind, .string t.text, .int .i64 t.num, .int .i64 t.pos, .slice ao t.kids.length c] 25))) := Kp.refl _ _ _
  have hbw : B ≤ w.heap.size := hw.base
  clear hl hw k1 hb0
  have hbt := expr_leaf7 hx
  have KB : Hid (Calls Tryz.prog 158 #[agg t (.slice ao t.kids.length c)] (w.alloc (.cells #[.int .u8 t.kind, .string t.text, .int .i64 t.num, .int .i64 t.pos, .slice ao t.kids.length c] 25)) fun e w' => e = .returned (.int .i64 7) ∧ Gr (w.alloc (.cells #[.int .u8 t.kind, .string t.text, .int .i64 t.num, .int .i64 t.pos, .slice ao t.kids.length c] 25)) w') := by
    have := binds_any t ao c (w.alloc (.cells #[.int .u8 t.kind, .string t.text, .int .i64 t.num, .int .i64 t.pos, .slice ao t.kids.length c] 25)) hlm
    rw [hbt] at this
    exact this
  have KX : Hid (∀ W, Kp B b (w.alloc (.cells #[.int .u8 t.kind, .string t.text, .int .i64 t.num, .int .i64 t.pos, .slice ao t.kids.length c] 25)) W → Wrt B b bs W → Calls Tryz.prog 96 #[.pointer (some ⟨b, 0, none⟩), agg t (.slice ao t.kids.length c)] W (Wd B b bs t.expr W)) := fun W hk hw => single_any t ao _ c B b bs W hw hx hlen
  clear hlen hbt hx
  generalize t.expr = x at *
  unfold agg at *
  go_enter Tryz.func159, Tryz.ntmps159
  go_wp2_with (go_at_call 158; go_must (refine (KB.out).mono ?_; rintro e w1 ⟨rfl, hg⟩; have HR1 : Hid (Kp B b (w.alloc (.cells #[.int .u8 t.kind, .string t.text, .int .i64 t.num, .int .i64 t.pos, .slice ao t.kids.length c] 25)) w1) := (Kp.refl _ _ _).below HW0.out.base hg.below; have HW1 : Hid (Wrt B b bs w1) := HW0.out.below hg.below; have c1 := box_at HG0.out HR1.out hgb; clear hg; refine Hid.out ?_))
  refine Lib.hid ?_
  go_wp2_with (go_at_call 96; go_must (refine (KX.out _ HR1.out HW1.out).mono ?_; rintro e w2 ⟨rfl, hw, hk⟩; have HW2 : Hid (Wrt B b (bs ++ (x)) w2) := hw; have HR2 : Hid (Kp B b (w.alloc (.cells #[.int .u8 t.kind, .string t.text, .int .i64 t.num, .int .i64 t.pos, .slice ao t.kids.length c] 25)) w2) := HR1.out.trans hk; have c2 := box_at HG0.out HR2.out hgb; clear hw hk; refine Hid.out ?_))
  refine Lib.hid ?_
  clear c1
  go_wp2_with fail
  go_end0
  refine ⟨rfl, ?_, HK0.out.trans HR2.out⟩
  have hfin := HW2.out
  first | exact hfin | simpa [List.append_assoc] using hfin

set_option maxRecDepth 100000 in
set_option maxHeartbeats 1000000 in
theorem bare_one (t : T) (x : T) (h16 : t.kind = 16) (hk : t.kids = [x]) (hs : t.text.toList = [45] ∨ t.text.toList = [110, 111, 116]) (hX : BindOK x) : BareOK t := by
  intro B b bs w v hl hw hlen
  obtain ⟨ao, c, ps, rfl, k1⟩ := hl.out
  have hlm := k1.len64
  have HLi := Lib.hid hl
  have HA := Lib.hid k1
  have hb0 := below_own (w := w) (.cells #[.int .u8 t.kind, .string t.text, .int .i64 t.num, .int .i64 t.pos, .slice ao t.kids.length c] 25)
  have HW0 : Hid (Wrt B b bs (w.alloc (.cells #[.int .u8 t.kind, .string t.text, .int .i64 t.num, .int .i64 t.pos, .slice ao t.kids.length c] 25))) := hw.below hb0
  have HK0 : Hid (Kp B b w (w.alloc (.cells #[.int .u8 t.kind, .string t.text, .int .i64 t.num, .int .i64 t.pos, .slice ao t.kids.length c] 25))) := (Kp.refl B b w).below hw.base hb0
  have HG0 : Hid ((w.alloc (.cells #[.int .u8 t.kind, .string t.text, .int .i64 t.num, .int .i64 t.pos, .slice ao t.kids.length c] 25)).heap[w.heap.size]? = some (.cells #[.int .u8 t.kind, .string t.text, .int .i64 t.num, .int .i64 t.pos, .slice ao t.kids.length c] 25 (0, 0))) := heap_alloc_new w _
  have hgb : w.heap.size ≠ b := by have := hw.lt; omega
  have HR0 : Hid (Kp B b (w.alloc (.cells #[.int .u8 t.kind, .string t.text, .int .i64 t.num, .int .i64 t.pos, .slice ao t.kids.length c] 25)) (w.alloc (.cells #[.int .u8 t.kind, .string t.text, .int .i64 t.num, .int .i64 t.pos, .slice ao t.kids.length c] 25))) := Kp.refl _ _ _
  have hbw : B ≤ w.heap.size := hw.base
  clear hl hw k1 hb0
  have hbt : bindsT t = 6 := by
    unfold bindsT
    rw [if_pos h16, hk]
    rfl
  have KB : Hid (Calls Tryz.prog 158 #[agg t (.slice ao t.kids.length c)] (w.alloc (.cells #[.int .u8 t.kind, .string t.text, .int .i64 t.num, .int .i64 t.pos, .slice ao t.kids.length c] 25)) fun e w' => e = .returned (.int .i64 6) ∧ Gr (w.alloc (.cells #[.int .u8 t.kind, .string t.text, .int .i64 t.num, .int .i64 t.pos, .slice ao t.kids.length c] 25)) w') := by
    have := binds_any t ao c (w.alloc (.cells #[.int .u8 t.kind, .string t.text, .int .i64 t.num, .int .i64 t.pos, .slice ao t.kids.length c] 25)) hlm
    rw [hbt] at this
    exact this
  have KX : Hid (∀ W, Kp B b (w.alloc (.cells #[.int .u8 t.kind, .string t.text, .int .i64 t.num, .int .i64 t.pos, .slice ao t.kids.length c] 25)) W → Wrt B b bs W → Calls Tryz.prog 179 #[.pointer (some ⟨b, 0, none⟩), agg t (.slice ao t.kids.length c)] W (Wd B b bs t.expr W)) := fun W hk' hw => opOne_any t x h16 hk hs hX B b bs W _ (HLi.out.keep (HK0.out.trans hk').bel) hw hlen
  clear hlen hbt 
  clear h16 hk hs hX
  generalize t.expr = x at *
  unfold agg at *
  go_enter Tryz.func159, Tryz.ntmps159
  go_wp2_with (go_at_call 158; go_must (refine (KB.out).mono ?_; rintro e w1 ⟨rfl, hg⟩; have HR1 : Hid (Kp B b (w.alloc (.cells #[.int .u8 t.kind, .string t.text, .int .i64 t.num, .int .i64 t.pos, .slice ao t.kids.length c] 25)) w1) := (Kp.refl _ _ _).below HW0.out.base hg.below; have HW1 : Hid (Wrt B b bs w1) := HW0.out.below hg.below; have c1 := box_at HG0.out HR1.out hgb; clear hg; refine Hid.out ?_))
  refine Lib.hid ?_
  go_wp2_with (go_at_call 179; go_must (refine (KX.out _ HR1.out HW1.out).mono ?_; rintro e w2 ⟨rfl, hw, hk⟩; have HW2 : Hid (Wrt B b (bs ++ (x)) w2) := hw; have HR2 : Hid (Kp B b (w.alloc (.cells #[.int .u8 t.kind, .string t.text, .int .i64 t.num, .int .i64 t.pos, .slice ao t.kids.length c] 25)) w2) := HR1.out.trans hk; have c2 := box_at HG0.out HR2.out hgb; clear hw hk; refine Hid.out ?_))
  refine Lib.hid ?_
  clear c1
  go_wp2_with fail
  go_end0
  refine ⟨rfl, ?_, HK0.out.trans HR2.out⟩
  have hfin := HW2.out
  first | exact hfin | simpa [List.append_assoc] using hfin

set_option maxRecDepth 100000 in
set_option maxHeartbeats 1000000 in
theorem bare_two (t : T) (x y : T) (h16 : t.kind = 16) (hk : t.kids = [x, y]) (hX : BindOK x) (hY : BindOK y) : BareOK t := by
  intro B b bs w v hl hw hlen
  obtain ⟨ao, c, ps, rfl, k1⟩ := hl.out
  have hlm := k1.len64
  have HLi := Lib.hid hl
  have HA := Lib.hid k1
  have hb0 := below_own (w := w) (.cells #[.int .u8 t.kind, .string t.text, .int .i64 t.num, .int .i64 t.pos, .slice ao t.kids.length c] 25)
  have HW0 : Hid (Wrt B b bs (w.alloc (.cells #[.int .u8 t.kind, .string t.text, .int .i64 t.num, .int .i64 t.pos, .slice ao t.kids.length c] 25))) := hw.below hb0
  have HK0 : Hid (Kp B b w (w.alloc (.cells #[.int .u8 t.kind, .string t.text, .int .i64 t.num, .int .i64 t.pos, .slice ao t.kids.length c] 25))) := (Kp.refl B b w).below hw.base hb0
  have HG0 : Hid ((w.alloc (.cells #[.int .u8 t.kind, .string t.text, .int .i64 t.num, .int .i64 t.pos, .slice ao t.kids.length c] 25)).heap[w.heap.size]? = some (.cells #[.int .u8 t.kind, .string t.text, .int .i64 t.num, .int .i64 t.pos, .slice ao t.kids.length c] 25 (0, 0))) := heap_alloc_new w _
  have hgb : w.heap.size ≠ b := by have := hw.lt; omega
  have HR0 : Hid (Kp B b (w.alloc (.cells #[.int .u8 t.kind, .string t.text, .int .i64 t.num, .int .i64 t.pos, .slice ao t.kids.length c] 25)) (w.alloc (.cells #[.int .u8 t.kind, .string t.text, .int .i64 t.num, .int .i64 t.pos, .slice ao t.kids.length c] 25))) := Kp.refl _ _ _
  have hbw : B ≤ w.heap.size := hw.base
  clear hl hw k1 hb0
  have hbt : bindsT t = opB t.text := by
    unfold bindsT
    rw [if_pos h16, hk]
    rfl
  have hor := opB_range t.text
  have KB : Hid (Calls Tryz.prog 158 #[agg t (.slice ao t.kids.length c)] (w.alloc (.cells #[.int .u8 t.kind, .string t.text, .int .i64 t.num, .int .i64 t.pos, .slice ao t.kids.length c] 25)) fun e w' => e = .returned (.int .i64 (opB t.text : Nat)) ∧ Gr (w.alloc (.cells #[.int .u8 t.kind, .string t.text, .int .i64 t.num, .int .i64 t.pos, .slice ao t.kids.length c] 25)) w') := by
    have := binds_any t ao c (w.alloc (.cells #[.int .u8 t.kind, .string t.text, .int .i64 t.num, .int .i64 t.pos, .slice ao t.kids.length c] 25)) hlm
    rw [hbt] at this
    exact this
  have KX : Hid (∀ W, Kp B b (w.alloc (.cells #[.int .u8 t.kind, .string t.text, .int .i64 t.num, .int .i64 t.pos, .slice ao t.kids.length c] 25)) W → Wrt B b bs W → Calls Tryz.prog 180 #[.pointer (some ⟨b, 0, none⟩), agg t (.slice ao t.kids.length c), .int .i64 (leftB (opB t.text))] W (Wd B b bs t.expr W)) := fun W hk' hw => opTwo_any t x y h16 hk hX hY B b bs W _ (HLi.out.keep (HK0.out.trans hk').bel) hw hlen
  clear hlen hbt 
  clear h16 hk hX hY
  generalize t.expr = z at *
  generalize opB t.text = r at *
  unfold agg at *
  by_cases h3 : r = 3
  · subst h3
    have e4 : leftB 3 = 4 := rfl
    rw [e4] at KX
    go_enter Tryz.func159, Tryz.ntmps159
    go_wp2_with (go_at_call 158; go_must (refine (KB.out).mono ?_; rintro e w1 ⟨rfl, hg⟩; have HR1 : Hid (Kp B b (w.alloc (.cells #[.int .u8 t.kind, .string t.text, .int .i64 t.num, .int .i64 t.pos, .slice ao t.kids.length c] 25)) w1) := (Kp.refl _ _ _).below HW0.out.base hg.below; have HW1 : Hid (Wrt B b bs w1) := HW0.out.below hg.below; have c1 := box_at HG0.out HR1.out hgb; clear hg; refine Hid.out ?_))
    refine Lib.hid ?_
    go_wp2_with (go_at_call 180; go_must (refine (KX.out _ HR1.out HW1.out).mono ?_; rintro e w2 ⟨rfl, hw, hk⟩; have HW2 : Hid (Wrt B b (bs ++ (z)) w2) := hw; have HR2 : Hid (Kp B b (w.alloc (.cells #[.int .u8 t.kind, .string t.text, .int .i64 t.num, .int .i64 t.pos, .slice ao t.kids.length c] 25)) w2) := HR1.out.trans hk; have c2 := box_at HG0.out HR2.out hgb; clear hw hk; refine Hid.out ?_))
    refine Lib.hid ?_
    clear c1
    go_wp2_with fail
    go_end0
    refine ⟨rfl, ?_, HK0.out.trans HR2.out⟩
    have hfin := HW2.out
    first | exact hfin | simpa [List.append_assoc] using hfin
  · have e4 : leftB r = r := by
      unfold leftB
      rw [if_neg h3]
    rw [e4] at KX
    have n3 : ¬ (r : Int) = 3 := by omega
    have n7 : ¬ (r : Int) = 7 := by omega
    have n6 : ¬ (r : Int) = 6 := by omega
    clear h3 e4
    go_enter Tryz.func159, Tryz.ntmps159
    go_wp2_with (go_at_call 158; go_must (refine (KB.out).mono ?_; rintro e w1 ⟨rfl, hg⟩; have HR1 : Hid (Kp B b (w.alloc (.cells #[.int .u8 t.kind, .string t.text, .int .i64 t.num, .int .i64 t.pos, .slice ao t.kids.length c] 25)) w1) := (Kp.refl _ _ _).below HW0.out.base hg.below; have HW1 : Hid (Wrt B b bs w1) := HW0.out.below hg.below; have c1 := box_at HG0.out HR1.out hgb; clear hg; refine Hid.out ?_))
    refine Lib.hid ?_
    go_wp2_with (go_at_call 180; go_must (refine (KX.out _ HR1.out HW1.out).mono ?_; rintro e w2 ⟨rfl, hw, hk⟩; have HW2 : Hid (Wrt B b (bs ++ (z)) w2) := hw; have HR2 : Hid (Kp B b (w.alloc (.cells #[.int .u8 t.kind, .string t.text, .int .i64 t.num, .int .i64 t.pos, .slice ao t.kids.length c] 25)) w2) := HR1.out.trans hk; have c2 := box_at HG0.out HR2.out hgb; clear hw hk; refine Hid.out ?_))
    refine Lib.hid ?_
    clear c1
    go_wp2_with fail
    go_end0
    refine ⟨rfl, ?_, HK0.out.trans HR2.out⟩
    have hfin := HW2.out
    first | exact hfin | simpa [List.append_assoc] using hfin

theorem bare_any (t : T) (h : IsX t) : BareOK t := by
  induction h with
  | leaf t h => exact bare_leaf t h
  | one t x h hk hs _ ih => exact bare_one t x h hk hs (bind_of x ih)
  | two t x y h hk _ _ ihx ihy => exact bare_two t x y h hk (bind_of x ihx) (bind_of y ihy)

set_option maxRecDepth 100000 in
set_option maxHeartbeats 1000000 in
theorem expression_any (t : T) (h : IsX t) (B b : Nat) (bs : L8) (w : World) (v : Value) (hl : Lies B w t v) (hw : Wrt B b bs w) (hlen : bs.length + t.expr.length ≤ 140737488355328) : Calls Tryz.prog 97 #[.pointer (some ⟨b, 0, none⟩), agg t v] w (Wd B b bs t.expr w) := by
  obtain ⟨ao, c, ps, rfl, k1⟩ := hl.out
  have hlm := k1.len64
  have HLi := Lib.hid hl
  have HA := Lib.hid k1
  have hb0 := below_own (w := w) (.cells #[.int .u8 t.kind, .string t.text, .int .i64 t.num, .int .i64 t.pos, .slice ao t.kids.length c] 25)
  have HW0 : Hid (Wrt B b bs (w.alloc (.cells #[.int .u8 t.kind, .string t.text, .int .i64 t.num, .int .i64 t.pos, .slice ao t.kids.length c] 25))) := hw.below hb0
  have HK0 : Hid (Kp B b w (w.alloc (.cells #[.int .u8 t.kind, .string t.text, .int .i64 t.num, .int .i64 t.pos, .slice ao t.kids.length c] 25))) := (Kp.refl B b w).below hw.base hb0
  have HG0 : Hid ((w.alloc (.cells #[.int .u8 t.kind, .string t.text, .int .i64 t.num, .int .i64 t.pos, .slice ao t.kids.length c] 25)).heap[w.heap.size]? = some (.cells #[.int .u8 t.kind, .string t.text, .int .i64 t.num, .int .i64 t.pos, .slice ao t.kids.length c] 25 (0, 0))) := heap_alloc_new w _
  have hgb : w.heap.size ≠ b := by have := hw.lt; omega
  have HR0 : Hid (Kp B b (w.alloc (.cells #[.int .u8 t.kind, .string t.text, .int .i64 t.num, .int .i64 t.pos, .slice ao t.kids.length c] 25)) (w.alloc (.cells #[.int .u8 t.kind, .string t.text, .int .i64 t.num, .int .i64 t.pos, .slice ao t.kids.length c] 25))) := Kp.refl _ _ _
  have hbw : B ≤ w.heap.size := hw.base
  clear hl hw k1 hb0
  have hin : inB (bindsT t) 1 t.expr = t.expr := by
    have := binds_range t
    unfold inB
    rw [if_neg (by omega)]
  have KX : Hid (Calls Tryz.prog 125 #[.pointer (some ⟨b, 0, none⟩), agg t (.slice ao t.kids.length c), .int .i64 1] (w.alloc (.cells #[.int .u8 t.kind, .string t.text, .int .i64 t.num, .int .i64 t.pos, .slice ao t.kids.length c] 25)) (Wd B b bs t.expr (w.alloc (.cells #[.int .u8 t.kind, .string t.text, .int .i64 t.num, .int .i64 t.pos, .slice ao t.kids.length c] 25)))) := by
    have := bind_of t (bare_any t h) 1 B b bs (w.alloc (.cells #[.int .u8 t.kind, .string t.text, .int .i64 t.num, .int .i64 t.pos, .slice ao t.kids.length c] 25)) _ (HLi.out.keep HK0.out.bel) HW0.out (by rw [hin]; exact hlen)
    rw [hin] at this
    exact this
  clear hlen hin h
  generalize t.expr = x at *
  unfold agg at *
  go_enter Tryz.func97, Tryz.ntmps97
  go_wp2_with (go_at_call 125; go_must (refine (KX.out).mono ?_; rintro e w1 ⟨rfl, hw, hk⟩; have HW1 : Hid (Wrt B b (bs ++ (x)) w1) := hw; have HR1 : Hid (Kp B b (w.alloc (.cells #[.int .u8 t.kind, .string t.text, .int .i64 t.num, .int .i64 t.pos, .slice ao t.kids.length c] 25)) w1) := HR0.out.trans hk; have c1 := box_at HG0.out HR1.out hgb; clear hw hk; refine Hid.out ?_))
  refine Lib.hid ?_
  go_wp2_with fail
  go_end0
  refine ⟨rfl, ?_, HK0.out.trans HR1.out⟩
  have hfin := HW1.out
  first | exact hfin | simpa [List.append_assoc] using hfin

end Go.Proofs.YtfmjhbaenpbfoaaGreatDoor

namespace Go.Proofs.YtfmjhbaenpbfoaaGreatDoor
open Go.RowKit

theorem commaL_snoc (f : T → L8) (k : T) : ∀ l : List T, commaL f (l ++ [k]) = commaL f l ++ (if l = [] then [] else [44, 32]) ++ f k
  | [] => by
    rw [List.nil_append, commaL, commaL, if_pos rfl, if_pos rfl, List.append_nil, List.append_nil]
    rfl
  | q :: l => by
    rw [List.cons_append, commaL, commaL, commaL_snoc f k l, if_neg (List.cons_ne_nil q l)]
    rw [if_neg (show ¬ l ++ [k] = [] by simp)]
    by_cases h : l = []
    · subst h
      rw [if_pos rfl, if_pos rfl, commaL]
      simp only [List.append_nil, List.nil_append, List.append_assoc]
    · rw [if_neg h, if_neg h]
      simp only [List.append_assoc]
theorem take_snoc (l : List T) (j : Nat) (h : j < l.length) : l.take (j + 1) = l.take j ++ [l[j]] := by
  rw [List.take_add_one, List.getElem?_eq_getElem h]
  rfl
theorem commaL_take (f : T → L8) (l : List T) (j : Nat) (h : j < l.length) : commaL f (l.take (j + 1)) = commaL f (l.take j) ++ (if j = 0 then [] else [44, 32]) ++ f l[j] := by
  rw [take_snoc l j h, commaL_snoc]
  by_cases hj : j = 0
  · subst hj
    rw [if_pos rfl, if_pos (by rw [List.take_zero])]
  · rw [if_neg hj, if_neg]
    intro e
    have := congrArg List.length e
    rw [List.length_take, List.length_nil] at this
    omega
theorem commaL_take_le (f : T → L8) (l : List T) (j : Nat) : (commaL f (l.take j)).length ≤ (commaL f l).length := by
  have gen : ∀ m l : List T, (commaL f l).length ≤ (commaL f (l ++ m)).length := by
    intro m
    induction m with
    | nil => intro l; simp
    | cons k m ih =>
      intro l
      have h1 := ih (l ++ [k])
      rw [commaL_snoc, List.length_append, List.length_append] at h1
      rw [List.append_assoc, List.singleton_append] at h1
      omega
  have := gen (l.drop j) (l.take j)
  rwa [List.take_append_drop] at this
theorem eachT_take_le (f : T → L8) (e : L8) (l : List T) (j : Nat) : (eachT f e (l.take j)).length ≤ (eachT f e l).length := by
  have : eachT f e l = eachT f e (l.take j) ++ eachT f e (l.drop j) := by
    unfold eachT
    rw [← List.flatMap_append, List.take_append_drop]
  rw [this, List.length_append]
  omega
theorem eachT_take (f : T → L8) (e : L8) (l : List T) (j : Nat) (h : j < l.length) : eachT f e (l.take (j + 1)) = eachT f e (l.take j) ++ (f l[j] ++ e) := by
  unfold eachT
  rw [take_snoc l j h, List.flatMap_append, List.flatMap_cons, List.flatMap_nil, List.append_nil]


set_option maxRecDepth 100000 in
set_option maxHeartbeats 1000000 in
theorem row_field (t : T) (hx : ∀ k, k ∈ t.kids → True) (B b : Nat) (bs : L8) (w : World) (ao : Option Addr) (c : Nat) (hl : Lies B w t (.slice ao t.kids.length c)) (hw : Wrt B b bs w) (hlen : bs.length + (commaL T.tx t.kids).length ≤ 140737488355328) :
    Calls Tryz.prog 68 #[.pointer (some ⟨b, 0, none⟩), .slice ao t.kids.length c, .func (.func 38) #[.pointer (some ⟨b, 0, none⟩)] #[]] w (Wd B b bs (commaL T.tx t.kids) w) := by
  have HLi := Lib.hid hl
  have HX := Lib.hid hx
  have HL := Lib.hid hlen
  have H0 : Hid (Wrt B b (bs ++ commaL T.tx (t.kids.take 0)) w) := by
    unfold Hid
    rw [List.take_zero, commaL, List.append_nil]
    exact hw
  obtain ⟨ao', c', ps, he, k1⟩ := hl.out
  have hlm := k1.len64
  clear he k1 hl hx hlen hw
  obtain ⟨n, hn⟩ : ∃ n, n = t.kids.length := ⟨_, rfl⟩
  have HN := Lib.hid hn
  rw [← hn] at hlm HLi ⊢
  clear hn
  go_enter Tryz.func68, Tryz.ntmps68
  go_wp2_with fail
  go_loopw [10] (fun i wr => ∃ j : Nat, j ≤ n ∧ i = .int .i64 j ∧ Hid (Wrt B b (bs ++ commaL T.tx (t.kids.take j)) wr) ∧ Hid (Kp B b w wr)) (fun i _ => n - (intOf i).toNat)
  case atStart => exact ⟨0, by omega, rfl, H0, Kp.refl _ _ _⟩
  case round =>
    clear H0
    obtain ⟨j, hj, rfl, HW, HK⟩ := hrel
    by_cases hlt : j < n
    · have hjn : (j : Int) < (n : Int) := by omega
      have hjl : j < t.kids.length := by rw [← HN.out]; exact hlt
      obtain ⟨ao', c', ps, he, k1⟩ := (HLi.out.keep HK.out.bel).out
      obtain ⟨sb, off, e1, hsb, hc⟩ := k1.kid (by omega)
      obtain ⟨u, hkc, hkl⟩ := hc j t.kids[j] (List.getElem?_eq_getElem hjl)
      injection he with he1 he2 he3
      subst he1 e1 he3
      obtain ⟨ka, kc, kps, rfl, kk⟩ := hkl.out
      have HXq := Lib.hid (HX.out _ (List.getElem_mem hjl))
      have HT : Hid (commaL T.tx (t.kids.take (j + 1)) = commaL T.tx (t.kids.take j) ++ (if j = 0 then [] else [44, 32]) ++ T.tx t.kids[j]) := commaL_take _ _ _ hjl
      have hle := commaL_take_le T.tx t.kids (j + 1)
      have hb := HL.out
      rw [HT.out] at hle
      simp only [List.length_append] at hle
      have HKL := Lib.hid hkl
      obtain ⟨d0, d1, d2, d3, d4⟩ := hkc
      clear hc he2 k1 kk hkl kps ps
      generalize t.kids[j] = q at *
      have KF : Hid (∀ W bs', Below B wr W → Wrt B b bs' W → bs'.length + (T.tx q).length ≤ 140737488355328 → Calls Tryz.prog 38 #[.pointer (some ⟨b, 0, none⟩), agg q (.slice ka q.kids.length kc)] W (Wd B b bs' (T.tx q) W)) := fun W bs' hbb hw hlen => field_any q ka _ kc B b bs' W hw hlen
      clear HXq HKL
      generalize q.kids.length = m at *
      have hv1 : (wr.alloc (.cells #[.int .u8 q.kind, .string q.text, .int .i64 q.num, .int .i64 q.pos, .slice ka m kc] 25)).heap[wr.heap.size]? = some (.cells #[.int .u8 q.kind, .string q.text, .int .i64 q.num, .int .i64 q.pos, .slice ka m kc] 25 (0, 0)) := heap_alloc_new wr _
      have hv2 : Below wr.heap.size wr (wr.alloc (.cells #[.int .u8 q.kind, .string q.text, .int .i64 q.num, .int .i64 q.pos, .slice ka m kc] 25)) := below_own _
      have hgb : wr.heap.size ≠ b := by have := HW.out.lt; omega
      have HG5 := Lib.hid hv1
      have HK5 : Hid (Kp B b w (wr.alloc (.cells #[.int .u8 q.kind, .string q.text, .int .i64 q.num, .int .i64 q.pos, .slice ka m kc] 25))) := HK.out.below HW.out.base hv2
      have HB5 : Hid (Below B wr (wr.alloc (.cells #[.int .u8 q.kind, .string q.text, .int .i64 q.num, .int .i64 q.pos, .slice ka m kc] 25))) := hv2.mono HW.out.base
      have HW0 : Hid (Wrt B b (bs ++ commaL T.tx (t.kids.take j)) (wr.alloc (.cells #[.int .u8 q.kind, .string q.text, .int .i64 q.num, .int .i64 q.pos, .slice ka m kc] 25))) := HW.out.below hv2
      have HR0 : Hid (Kp B b (wr.alloc (.cells #[.int .u8 q.kind, .string q.text, .int .i64 q.num, .int .i64 q.pos, .slice ka m kc] 25)) (wr.alloc (.cells #[.int .u8 q.kind, .string q.text, .int .i64 q.num, .int .i64 q.pos, .slice ka m kc] 25))) := Kp.refl _ _ _
      have hs1 : sb < wr.heap.size := by have := HW.out.base; omega
      have hs2 : sb ≠ wr.heap.size := by omega
      generalize commaL T.tx (t.kids.take j) = y at *
      generalize T.tx q = x at *
      clear hv1 hv2 HW HK
      unfold agg at *
      by_cases hj0 : j = 0
      · rw [if_pos hj0] at HT hle
        have hj1 : ¬ (0 : Int) < (j : Int) := by omega
        have HL1 : Hid ((bs ++ y).length + x.length ≤ 140737488355328) := by unfold Hid; simp only [List.length_append, List.length_nil] at hle ⊢; omega
        clear hle hb hj0
        go_wp2_with (go_at_call 38; go_must (refine (KF.out _ _ (HB5.out.trans HR0.out.bel) HW0.out HL1.out).mono ?_; rintro e w1 ⟨rfl, hw, hk⟩; have HW1 : Hid (Wrt B b ((bs ++ y) ++ x) w1) := hw; have HR1 : Hid (Kp B b (wr.alloc (.cells #[.int .u8 q.kind, .string q.text, .int .i64 q.num, .int .i64 q.pos, .slice ka m kc] 25)) w1) := HR0.out.trans hk; have c1 := box_at HG5.out HR1.out hgb; clear hw hk; refine Hid.out ?_))
        refine Lib.hid ?_
        have HWn : Hid (Wrt B b (bs ++ commaL T.tx (t.kids.take (j + 1))) w1) := by
          unfold Hid
          rw [HT.out, List.append_nil, ← List.append_assoc]
          exact HW1.out
        have HKn : Hid (Kp B b w w1) := HK5.out.trans HR1.out
        clear d0 d1 d2 d3 d4 KF HW1 HW0 HL1 HG5 HR1 HR0 c1 HB5 HK5
        go_wp2_with fail
        go_roundw
        case rel => exact ⟨j + 1, by omega, by go_num, HWn, HKn⟩
        case measure => simp [intOf]; omega
      · rw [if_neg hj0] at HT hle
        have hj1 : (0 : Int) < (j : Int) := by omega
        have HL1 : Hid ((bs ++ y).length + 2 ≤ 140737488355328) := by unfold Hid; simp only [List.length_append, List.length_cons, List.length_nil] at hle ⊢; omega
        have HL2 : Hid (((bs ++ y) ++ [44, 32]).length + x.length ≤ 140737488355328) := by unfold Hid; simp only [List.length_append, List.length_cons, List.length_nil] at hle ⊢; omega
        clear hle hb hj0
        go_wp2_with (go_at_call 36; go_must (refine (lit1 B b _ (⟨#[44, 32]⟩) _ HW0.out (HL1.out) _ (by first | rfl | simp)).mono ?_; rintro e w1 ⟨rfl, hw, hk⟩; have HW1 : Hid (Wrt B b ((bs ++ y) ++ [44, 32]) w1) := hw; have HR1 : Hid (Kp B b (wr.alloc (.cells #[.int .u8 q.kind, .string q.text, .int .i64 q.num, .int .i64 q.pos, .slice ka m kc] 25)) w1) := HR0.out.trans hk; have c1 := box_at HG5.out HR1.out hgb; clear hw hk; refine Hid.out ?_))
        refine Lib.hid ?_
        go_wp2_with (go_at_call 38; go_must (refine (KF.out _ _ (HB5.out.trans HR1.out.bel) HW1.out HL2.out).mono ?_; rintro e w2 ⟨rfl, hw, hk⟩; have HW2 : Hid (Wrt B b (((bs ++ y) ++ [44, 32]) ++ x) w2) := hw; have HR2 : Hid (Kp B b (wr.alloc (.cells #[.int .u8 q.kind, .string q.text, .int .i64 q.num, .int .i64 q.pos, .slice ka m kc] 25)) w2) := HR1.out.trans hk; have c2 := box_at HG5.out HR2.out hgb; clear hw hk; refine Hid.out ?_))
        refine Lib.hid ?_
        have HWn : Hid (Wrt B b (bs ++ commaL T.tx (t.kids.take (j + 1))) w2) := by
          unfold Hid
          rw [HT.out, ← List.append_assoc, ← List.append_assoc]
          exact HW2.out
        have HKn : Hid (Kp B b w w2) := HK5.out.trans HR2.out
        clear d0 d1 d2 d3 d4 KF HW1 HW2 HW0 HL1 HL2 HG5 HR1 HR2 HR0 c1 c2 HB5 HK5
        go_wp2_with fail
        go_roundw
        case rel => exact ⟨j + 1, by omega, by go_num, HWn, HKn⟩
        case measure => simp [intOf]; omega
    · obtain rfl : j = n := by omega
      have HR : Hid (Wrt B b (bs ++ commaL T.tx t.kids) wr) := by
        have := HW.out
        rw [HN.out, List.take_length] at this
        exact this
      clear HW
      go_wp2_with fail
      go_end0
      exact ⟨rfl, HR.out, HK.out⟩

set_option maxRecDepth 100000 in
set_option maxHeartbeats 1000000 in
theorem row_single (t : T) (hx : ∀ k, k ∈ t.kids → k.kind = 12 ∨ k.kind = 13 ∨ k.kind = 14 ∨ k.kind = 15) (B b : Nat) (bs : L8) (w : World) (ao : Option Addr) (c : Nat) (hl : Lies B w t (.slice ao t.kids.length c)) (hw : Wrt B b bs w) (hlen : bs.length + (commaL T.expr t.kids).length ≤ 140737488355328) :
    Calls Tryz.prog 68 #[.pointer (some ⟨b, 0, none⟩), .slice ao t.kids.length c, .func (.func 96) #[.pointer (some ⟨b, 0, none⟩)] #[]] w (Wd B b bs (commaL T.expr t.kids) w) := by
  have HLi := Lib.hid hl
  have HX := Lib.hid hx
  have HL := Lib.hid hlen
  have H0 : Hid (Wrt B b (bs ++ commaL T.expr (t.kids.take 0)) w) := by
    unfold Hid
    rw [List.take_zero, commaL, List.append_nil]
    exact hw
  obtain ⟨ao', c', ps, he, k1⟩ := hl.out
  have hlm := k1.len64
  clear he k1 hl hx hlen hw
  obtain ⟨n, hn⟩ : ∃ n, n = t.kids.length := ⟨_, rfl⟩
  have HN := Lib.hid hn
  rw [← hn] at hlm HLi ⊢
  clear hn
  go_enter Tryz.func68, Tryz.ntmps68
  go_wp2_with fail
  go_loopw [10] (fun i wr => ∃ j : Nat, j ≤ n ∧ i = .int .i64 j ∧ Hid (Wrt B b (bs ++ commaL T.expr (t.kids.take j)) wr) ∧ Hid (Kp B b w wr)) (fun i _ => n - (intOf i).toNat)
  case atStart => exact ⟨0, by omega, rfl, H0, Kp.refl _ _ _⟩
  case round =>
    clear H0
    obtain ⟨j, hj, rfl, HW, HK⟩ := hrel
    by_cases hlt : j < n
    · have hjn : (j : Int) < (n : Int) := by omega
      have hjl : j < t.kids.length := by rw [← HN.out]; exact hlt
      obtain ⟨ao', c', ps, he, k1⟩ := (HLi.out.keep HK.out.bel).out
      obtain ⟨sb, off, e1, hsb, hc⟩ := k1.kid (by omega)
      obtain ⟨u, hkc, hkl⟩ := hc j t.kids[j] (List.getElem?_eq_getElem hjl)
      injection he with he1 he2 he3
      subst he1 e1 he3
      obtain ⟨ka, kc, kps, rfl, kk⟩ := hkl.out
      have HXq := Lib.hid (HX.out _ (List.getElem_mem hjl))
      have HT : Hid (commaL T.expr (t.kids.take (j + 1)) = commaL T.expr (t.kids.take j) ++ (if j = 0 then [] else [44, 32]) ++ T.expr t.kids[j]) := commaL_take _ _ _ hjl
      have hle := commaL_take_le T.expr t.kids (j + 1)
      have hb := HL.out
      rw [HT.out] at hle
      simp only [List.length_append] at hle
      have HKL := Lib.hid hkl
      obtain ⟨d0, d1, d2, d3, d4⟩ := hkc
      clear hc he2 k1 kk hkl kps ps
      generalize t.kids[j] = q at *
      have KF : Hid (∀ W bs', Below B wr W → Wrt B b bs' W → bs'.length + (T.expr q).length ≤ 140737488355328 → Calls Tryz.prog 96 #[.pointer (some ⟨b, 0, none⟩), agg q (.slice ka q.kids.length kc)] W (Wd B b bs' (T.expr q) W)) := fun W bs' hbb hw hlen => single_any q ka _ kc B b bs' W hw HXq.out hlen
      clear HXq HKL
      generalize q.kids.length = m at *
      have hv1 : (wr.alloc (.cells #[.int .u8 q.kind, .string q.text, .int .i64 q.num, .int .i64 q.pos, .slice ka m kc] 25)).heap[wr.heap.size]? = some (.cells #[.int .u8 q.kind, .string q.text, .int .i64 q.num, .int .i64 q.pos, .slice ka m kc] 25 (0, 0)) := heap_alloc_new wr _
      have hv2 : Below wr.heap.size wr (wr.alloc (.cells #[.int .u8 q.kind, .string q.text, .int .i64 q.num, .int .i64 q.pos, .slice ka m kc] 25)) := below_own _
      have hgb : wr.heap.size ≠ b := by have := HW.out.lt; omega
      have HG5 := Lib.hid hv1
      have HK5 : Hid (Kp B b w (wr.alloc (.cells #[.int .u8 q.kind, .string q.text, .int .i64 q.num, .int .i64 q.pos, .slice ka m kc] 25))) := HK.out.below HW.out.base hv2
      have HB5 : Hid (Below B wr (wr.alloc (.cells #[.int .u8 q.kind, .string q.text, .int .i64 q.num, .int .i64 q.pos, .slice ka m kc] 25))) := hv2.mono HW.out.base
      have HW0 : Hid (Wrt B b (bs ++ commaL T.expr (t.kids.take j)) (wr.alloc (.cells #[.int .u8 q.kind, .string q.text, .int .i64 q.num, .int .i64 q.pos, .slice ka m kc] 25))) := HW.out.below hv2
      have HR0 : Hid (Kp B b (wr.alloc (.cells #[.int .u8 q.kind, .string q.text, .int .i64 q.num, .int .i64 q.pos, .slice ka m kc] 25)) (wr.alloc (.cells #[.int .u8 q.kind, .string q.text, .int .i64 q.num, .int .i64 q.pos, .slice ka m kc] 25))) := Kp.refl _ _ _
      have hs1 : sb < wr.heap.size := by have := HW.out.base; omega
      have hs2 : sb ≠ wr.heap.size := by omega
      generalize commaL T.expr (t.kids.take j) = y at *
      generalize T.expr q = x at *
      clear hv1 hv2 HW HK
      unfold agg at *
      by_cases hj0 : j = 0
      · rw [if_pos hj0] at HT hle
        have hj1 : ¬ (0 : Int) < (j : Int) := by omega
        have HL1 : Hid ((bs ++ y).length + x.length ≤ 140737488355328) := by unfold Hid; simp only [List.length_append, List.length_nil] at hle ⊢; omega
        clear hle hb hj0
        go_wp2_with (go_at_call 96; go_must (refine (KF.out _ _ (HB5.out.trans HR0.out.bel) HW0.out HL1.out).mono ?_; rintro e w1 ⟨rfl, hw, hk⟩; have HW1 : Hid (Wrt B b ((bs ++ y) ++ x) w1) := hw; have HR1 : Hid (Kp B b (wr.alloc (.cells #[.int .u8 q.kind, .string q.text, .int .i64 q.num, .int .i64 q.pos, .slice ka m kc] 25)) w1) := HR0.out.trans hk; have c1 := box_at HG5.out HR1.out hgb; clear hw hk; refine Hid.out ?_))
        refine Lib.hid ?_
        have HWn : Hid (Wrt B b (bs ++ commaL T.expr (t.kids.take (j + 1))) w1) := by
          unfold Hid
          rw [HT.out, List.append_nil, ← List.append_assoc]
          exact HW1.out
        have HKn : Hid (Kp B b w w1) := HK5.out.trans HR1.out
        clear d0 d1 d2 d3 d4 KF HW1 HW0 HL1 HG5 HR1 HR0 c1 HB5 HK5
        go_wp2_with fail
        go_roundw
        case rel => exact ⟨j + 1, by omega, by go_num, HWn, HKn⟩
        case measure => simp [intOf]; omega
      · rw [if_neg hj0] at HT hle
        have hj1 : (0 : Int) < (j : Int) := by omega
        have HL1 : Hid ((bs ++ y).length + 2 ≤ 140737488355328) := by unfold Hid; simp only [List.length_append, List.length_cons, List.length_nil] at hle ⊢; omega
        have HL2 : Hid (((bs ++ y) ++ [44, 32]).length + x.length ≤ 140737488355328) := by unfold Hid; simp only [List.length_append, List.length_cons, List.length_nil] at hle ⊢; omega
        clear hle hb hj0
        go_wp2_with (go_at_call 36; go_must (refine (lit1 B b _ (⟨#[44, 32]⟩) _ HW0.out (HL1.out) _ (by first | rfl | simp)).mono ?_; rintro e w1 ⟨rfl, hw, hk⟩; have HW1 : Hid (Wrt B b ((bs ++ y) ++ [44, 32]) w1) := hw; have HR1 : Hid (Kp B b (wr.alloc (.cells #[.int .u8 q.kind, .string q.text, .int .i64 q.num, .int .i64 q.pos, .slice ka m kc] 25)) w1) := HR0.out.trans hk; have c1 := box_at HG5.out HR1.out hgb; clear hw hk; refine Hid.out ?_))
        refine Lib.hid ?_
        go_wp2_with (go_at_call 96; go_must (refine (KF.out _ _ (HB5.out.trans HR1.out.bel) HW1.out HL2.out).mono ?_; rintro e w2 ⟨rfl, hw, hk⟩; have HW2 : Hid (Wrt B b (((bs ++ y) ++ [44, 32]) ++ x) w2) := hw; have HR2 : Hid (Kp B b (wr.alloc (.cells #[.int .u8 q.kind, .string q.text, .int .i64 q.num, .int .i64 q.pos, .slice ka m kc] 25)) w2) := HR1.out.trans hk; have c2 := box_at HG5.out HR2.out hgb; clear hw hk; refine Hid.out ?_))
        refine Lib.hid ?_
        have HWn : Hid (Wrt B b (bs ++ commaL T.expr (t.kids.take (j + 1))) w2) := by
          unfold Hid
          rw [HT.out, ← List.append_assoc, ← List.append_assoc]
          exact HW2.out
        have HKn : Hid (Kp B b w w2) := HK5.out.trans HR2.out
        clear d0 d1 d2 d3 d4 KF HW1 HW2 HW0 HL1 HL2 HG5 HR1 HR2 HR0 c1 c2 HB5 HK5
        go_wp2_with fail
        go_roundw
        case rel => exact ⟨j + 1, by omega, by go_num, HWn, HKn⟩
        case measure => simp [intOf]; omega
    · obtain rfl : j = n := by omega
      have HR : Hid (Wrt B b (bs ++ commaL T.expr t.kids) wr) := by
        have := HW.out
        rw [HN.out, List.take_length] at this
        exact this
      clear HW
      go_wp2_with fail
      go_end0
      exact ⟨rfl, HR.out, HK.out⟩

set_option maxRecDepth 100000 in
set_option maxHeartbeats 1000000 in
theorem row_expression (t : T) (hx : ∀ k, k ∈ t.kids → IsX k) (B b : Nat) (bs : L8) (w : World) (ao : Option Addr) (c : Nat) (hl : Lies B w t (.slice ao t.kids.length c)) (hw : Wrt B b bs w) (hlen : bs.length + (commaL T.expr t.kids).length ≤ 140737488355328) :
    Calls Tryz.prog 68 #[.pointer (some ⟨b, 0, none⟩), .slice ao t.kids.length c, .func (.func 97) #[.pointer (some ⟨b, 0, none⟩)] #[]] w (Wd B b bs (commaL T.expr t.kids) w) := by
  have HLi := Lib.hid hl
  have HX := Lib.hid hx
  have HL := Lib.hid hlen
  have H0 : Hid (Wrt B b (bs ++ commaL T.expr (t.kids.take 0)) w) := by
    unfold Hid
    rw [List.take_zero, commaL, List.append_nil]
    exact hw
  obtain ⟨ao', c', ps, he, k1⟩ := hl.out
  have hlm := k1.len64
  clear he k1 hl hx hlen hw
  obtain ⟨n, hn⟩ : ∃ n, n = t.kids.length := ⟨_, rfl⟩
  have HN := Lib.hid hn
  rw [← hn] at hlm HLi ⊢
  clear hn
  go_enter Tryz.func68, Tryz.ntmps68
  go_wp2_with fail
  go_loopw [10] (fun i wr => ∃ j : Nat, j ≤ n ∧ i = .int .i64 j ∧ Hid (Wrt B b (bs ++ commaL T.expr (t.kids.take j)) wr) ∧ Hid (Kp B b w wr)) (fun i _ => n - (intOf i).toNat)
  case atStart => exact ⟨0, by omega, rfl, H0, Kp.refl _ _ _⟩
  case round =>
    clear H0
    obtain ⟨j, hj, rfl, HW, HK⟩ := hrel
    by_cases hlt : j < n
    · have hjn : (j : Int) < (n : Int) := by omega
      have hjl : j < t.kids.length := by rw [← HN.out]; exact hlt
      obtain ⟨ao', c', ps, he, k1⟩ := (HLi.out.keep HK.out.bel).out
      obtain ⟨sb, off, e1, hsb, hc⟩ := k1.kid (by omega)
      obtain ⟨u, hkc, hkl⟩ := hc j t.kids[j] (List.getElem?_eq_getElem hjl)
      injection he with he1 he2 he3
      subst he1 e1 he3
      obtain ⟨ka, kc, kps, rfl, kk⟩ := hkl.out
      have HXq := Lib.hid (HX.out _ (List.getElem_mem hjl))
      have HT : Hid (commaL T.expr (t.kids.take (j + 1)) = commaL T.expr (t.kids.take j) ++ (if j = 0 then [] else [44, 32]) ++ T.expr t.kids[j]) := commaL_take _ _ _ hjl
      have hle := commaL_take_le T.expr t.kids (j + 1)
      have hb := HL.out
      rw [HT.out] at hle
      simp only [List.length_append] at hle
      have HKL := Lib.hid hkl
      obtain ⟨d0, d1, d2, d3, d4⟩ := hkc
      clear hc he2 k1 kk hkl kps ps
      generalize t.kids[j] = q at *
      have KF : Hid (∀ W bs', Below B wr W → Wrt B b bs' W → bs'.length + (T.expr q).length ≤ 140737488355328 → Calls Tryz.prog 97 #[.pointer (some ⟨b, 0, none⟩), agg q (.slice ka q.kids.length kc)] W (Wd B b bs' (T.expr q) W)) := fun W bs' hbb hw hlen => expression_any q HXq.out B b bs' W _ (HKL.out.keep hbb) hw hlen
      clear HXq HKL
      generalize q.kids.length = m at *
      have hv1 : (wr.alloc (.cells #[.int .u8 q.kind, .string q.text, .int .i64 q.num, .int .i64 q.pos, .slice ka m kc] 25)).heap[wr.heap.size]? = some (.cells #[.int .u8 q.kind, .string q.text, .int .i64 q.num, .int .i64 q.pos, .slice ka m kc] 25 (0, 0)) := heap_alloc_new wr _
      have hv2 : Below wr.heap.size wr (wr.alloc (.cells #[.int .u8 q.kind, .string q.text, .int .i64 q.num, .int .i64 q.pos, .slice ka m kc] 25)) := below_own _
      have hgb : wr.heap.size ≠ b := by have := HW.out.lt; omega
      have HG5 := Lib.hid hv1
      have HK5 : Hid (Kp B b w (wr.alloc (.cells #[.int .u8 q.kind, .string q.text, .int .i64 q.num, .int .i64 q.pos, .slice ka m kc] 25))) := HK.out.below HW.out.base hv2
      have HB5 : Hid (Below B wr (wr.alloc (.cells #[.int .u8 q.kind, .string q.text, .int .i64 q.num, .int .i64 q.pos, .slice ka m kc] 25))) := hv2.mono HW.out.base
      have HW0 : Hid (Wrt B b (bs ++ commaL T.expr (t.kids.take j)) (wr.alloc (.cells #[.int .u8 q.kind, .string q.text, .int .i64 q.num, .int .i64 q.pos, .slice ka m kc] 25))) := HW.out.below hv2
      have HR0 : Hid (Kp B b (wr.alloc (.cells #[.int .u8 q.kind, .string q.text, .int .i64 q.num, .int .i64 q.pos, .slice ka m kc] 25)) (wr.alloc (.cells #[.int .u8 q.kind, .string q.text, .int .i64 q.num, .int .i64 q.pos, .slice ka m kc] 25))) := Kp.refl _ _ _
      have hs1 : sb < wr.heap.size := by have := HW.out.base; omega
      have hs2 : sb ≠ wr.heap.size := by omega
      generalize commaL T.expr (t.kids.take j) = y at *
      generalize T.expr q = x at *
      clear hv1 hv2 HW HK
      unfold agg at *
      by_cases hj0 : j = 0
      · rw [if_pos hj0] at HT hle
        have hj1 : ¬ (0 : Int) < (j : Int) := by omega
        have HL1 : Hid ((bs ++ y).length + x.length ≤ 140737488355328) := by unfold Hid; simp only [List.length_append, List.length_nil] at hle ⊢; omega
        clear hle hb hj0
        go_wp2_with (go_at_call 97; go_must (refine (KF.out _ _ (HB5.out.trans HR0.out.bel) HW0.out HL1.out).mono ?_; rintro e w1 ⟨rfl, hw, hk⟩; have HW1 : Hid (Wrt B b ((bs ++ y) ++ x) w1) := hw; have HR1 : Hid (Kp B b (wr.alloc (.cells #[.int .u8 q.kind, .string q.text, .int .i64 q.num, .int .i64 q.pos, .slice ka m kc] 25)) w1) := HR0.out.trans hk; have c1 := box_at HG5.out HR1.out hgb; clear hw hk; refine Hid.out ?_))
        refine Lib.hid ?_
        have HWn : Hid (Wrt B b (bs ++ commaL T.expr (t.kids.take (j + 1))) w1) := by
          unfold Hid
          rw [HT.out, List.append_nil, ← List.append_assoc]
          exact HW1.out
        have HKn : Hid (Kp B b w w1) := HK5.out.trans HR1.out
        clear d0 d1 d2 d3 d4 KF HW1 HW0 HL1 HG5 HR1 HR0 c1 HB5 HK5
        go_wp2_with fail
        go_roundw
        case rel => exact ⟨j + 1, by omega, by go_num, HWn, HKn⟩
        case measure => simp [intOf]; omega
      · rw [if_neg hj0] at HT hle
        have hj1 : (0 : Int) < (j : Int) := by omega
        have HL1 : Hid ((bs ++ y).length + 2 ≤ 140737488355328) := by unfold Hid; simp only [List.length_append, List.length_cons, List.length_nil] at hle ⊢; omega
        have HL2 : Hid (((bs ++ y) ++ [44, 32]).length + x.length ≤ 140737488355328) := by unfold Hid; simp only [List.length_append, List.length_cons, List.length_nil] at hle ⊢; omega
        clear hle hb hj0
        go_wp2_with (go_at_call 36; go_must (refine (lit1 B b _ (⟨#[44, 32]⟩) _ HW0.out (HL1.out) _ (by first | rfl | simp)).mono ?_; rintro e w1 ⟨rfl, hw, hk⟩; have HW1 : Hid (Wrt B b ((bs ++ y) ++ [44, 32]) w1) := hw; have HR1 : Hid (Kp B b (wr.alloc (.cells #[.int .u8 q.kind, .string q.text, .int .i64 q.num, .int .i64 q.pos, .slice ka m kc] 25)) w1) := HR0.out.trans hk; have c1 := box_at HG5.out HR1.out hgb; clear hw hk; refine Hid.out ?_))
        refine Lib.hid ?_
        go_wp2_with (go_at_call 97; go_must (refine (KF.out _ _ (HB5.out.trans HR1.out.bel) HW1.out HL2.out).mono ?_; rintro e w2 ⟨rfl, hw, hk⟩; have HW2 : Hid (Wrt B b (((bs ++ y) ++ [44, 32]) ++ x) w2) := hw; have HR2 : Hid (Kp B b (wr.alloc (.cells #[.int .u8 q.kind, .string q.text, .int .i64 q.num, .int .i64 q.pos, .slice ka m kc] 25)) w2) := HR1.out.trans hk; have c2 := box_at HG5.out HR2.out hgb; clear hw hk; refine Hid.out ?_))
        refine Lib.hid ?_
        have HWn : Hid (Wrt B b (bs ++ commaL T.expr (t.kids.take (j + 1))) w2) := by
          unfold Hid
          rw [HT.out, ← List.append_assoc, ← List.append_assoc]
          exact HW2.out
        have HKn : Hid (Kp B b w w2) := HK5.out.trans HR2.out
        clear d0 d1 d2 d3 d4 KF HW1 HW2 HW0 HL1 HL2 HG5 HR1 HR2 HR0 c1 c2 HB5 HK5
        go_wp2_with fail
        go_roundw
        case rel => exact ⟨j + 1, by omega, by go_num, HWn, HKn⟩
        case measure => simp [intOf]; omega
    · obtain rfl : j = n := by omega
      have HR : Hid (Wrt B b (bs ++ commaL T.expr t.kids) wr) := by
        have := HW.out
        rw [HN.out, List.take_length] at this
        exact this
      clear HW
      go_wp2_with fail
      go_end0
      exact ⟨rfl, HR.out, HK.out⟩
end Go.Proofs.YtfmjhbaenpbfoaaGreatDoor
