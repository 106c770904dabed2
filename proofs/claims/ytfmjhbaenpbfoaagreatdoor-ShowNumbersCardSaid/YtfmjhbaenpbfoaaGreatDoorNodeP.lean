/- Which trees are right, by the document's table. -/
import Derived.Test.YtfmjhbaenpbfoaaGreatDoorRefName
import Derived.Test.YtfmjhbaenpbfoaaGreatDoorRefT
namespace Go.Proofs.YtfmjhbaenpbfoaaGreatDoor
open Go.RowKit

def condK (k : Int) : Bool := k == 5 || k == 6 || k == 7
/-- Where a rule's conditions end. -/
def condsN : List T → Nat
  | [] => 0
  | k :: l => if condK k.kind then condsN l + 1 else 0
def among (ks : List Int) (k : Int) : Bool := ks.any fun z => k == z
def dashT (t : T) : Bool := t.kind == 14 && t.text.data.toList.head? == some 45
mutual
/-- A node as the table says, with all that is in it. -/
def T.right : T → Bool
  | .mk k s n p l =>
    decide (0 ≤ p) && (n == 0 || k == 4 || k == 9) &&
    (if k == 2 then nameT s && allK [3] l
    else if k == 3 then nameT s && l.length == 0
    else if k == 4 then nameT s && decide (-2147483647 ≤ n) && decide (n ≤ 2147483647) && ruleK l
    else if k == 5 || k == 6 then nameT s && allK [12, 13, 14, 15] l
    else if k == 7 then s.toList.isEmpty && l.length == 1 && exprsK l
    else if k == 8 then nameT s && exprsK l
    else if k == 9 then s.toList.isEmpty && decide (0 ≤ n) && decide (n ≤ 2147483647) && l.length == 0
    else if k == 10 then s.toList.isEmpty && decide (1 ≤ l.length) && exprsK l
    else if k == 11 || k == 12 then s.toList.isEmpty && l.length == 0
    else if k == 13 || k == 15 then Nm.namedB s.data.toList && l.length == 0
    else if k == 14 then numsT s && l.length == 0
    else if k == 16 then (l.length == 1 && (s.toList == [45] || s.toList == [110, 111, 116]) || l.length == 2 && twoT s) && exprsK l
    else false)
/-- Kids each of one of some kinds, and right. -/
def allK : List Int → List T → Bool
  | _, [] => true
  | ks, k :: l => among ks k.kind && k.right && allK ks l
/-- Expressions. -/
def exprsK : List T → Bool
  | [] => true
  | k :: l => !dashT k && (among [13, 14, 15, 16] k.kind && k.right) && exprsK l
/-- Conditions, then actions. -/
def ruleK : List T → Bool
  | [] => true
  | k :: l => if condK k.kind then among [5, 6, 7] k.kind && k.right && ruleK l else among [8, 9, 10, 11] k.kind && k.right && actsK l
def actsK : List T → Bool
  | [] => true
  | k :: l => among [8, 9, 10, 11] k.kind && k.right && actsK l
end
theorem allK_nil (ks : List Int) : allK ks [] = true := by rw [allK]
theorem allK_cons (ks : List Int) (k : T) (l : List T) : allK ks (k :: l) = (among ks k.kind && k.right && allK ks l) := by rw [allK]
theorem exprsK_eq : ∀ l : List T, exprsK l = ((l.all fun k => !dashT k) && allK [13, 14, 15, 16] l)
  | [] => by rw [exprsK, allK]; rfl
  | k :: l => by
    rw [exprsK, allK, exprsK_eq l, List.all_cons]
    cases dashT k <;> cases (among [13, 14, 15, 16] k.kind && k.right) <;> cases (l.all fun k => !dashT k) <;> rfl
theorem actsK_eq : ∀ l : List T, actsK l = allK [8, 9, 10, 11] l
  | [] => by rw [actsK, allK]
  | k :: l => by rw [actsK, allK, actsK_eq l]
theorem ruleK_eq : ∀ l : List T, ruleK l = (allK [5, 6, 7] (l.take (condsN l)) && allK [8, 9, 10, 11] (l.drop (condsN l)))
  | [] => by rw [ruleK]; simp [condsN, allK_nil]
  | k :: l => by
    rw [ruleK]
    by_cases h : condK k.kind = true
    · rw [if_pos h, ruleK_eq l]
      simp only [condsN, if_pos h, List.take_succ_cons, List.drop_succ_cons, allK_cons, Bool.and_assoc]
    · rw [if_neg h, actsK_eq]
      simp only [condsN, if_neg h, List.take_zero, List.drop_zero, allK_cons, allK_nil, Bool.true_and]
/-- The whole: P5.1. -/
def rightT (t : T) : Bool := t.kind == 1 && t.text.toList.isEmpty && t.num == 0 && decide (0 ≤ t.pos) && allK [2, 4] t.kids && decide (t.deep ≤ 30) && decide (t.many ≤ 4096)
end Go.Proofs.YtfmjhbaenpbfoaaGreatDoor
