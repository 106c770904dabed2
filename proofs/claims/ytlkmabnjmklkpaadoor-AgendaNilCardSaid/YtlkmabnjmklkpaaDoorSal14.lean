/- Rules as the law makes them; the document's salience of a match. -/
import Derived.Test.YtlkmabnjmklkpaaDoorToks14
import Derived.Test.YtlkmabnjmklkpaaDoorFall14
namespace Go.Proofs.YtlkmabnjmklkpaaDoor
open Go.RowKit

/-- The cells of rules that have nothing but saliences. -/
def rcells : List Int → List Value
  | [] => []
  | s :: l => .string ⟨#[]⟩ :: .int .i64 s :: .int .i64 0 :: .slice none 0 0 :: .slice none 0 0 :: rcells l
theorem rcells_append (l m : List Int) : rcells (l ++ m) = rcells l ++ rcells m := by
  induction l with
  | nil => rfl
  | cons x l ih => simp only [rcells, List.cons_append, ih]
theorem rcells_length (l : List Int) : (rcells l).length = l.length * 5 := by
  induction l with
  | nil => rfl
  | cons x l ih => simp only [rcells, List.length_cons, ih]; omega
theorem rcells_at (l : List Int) : ∀ (i : Nat) (h : i < l.length), (rcells l)[i * 5]? = some (.string ⟨#[]⟩) ∧ (rcells l)[i * 5 + 1]? = some (.int .i64 l[i]) ∧ (rcells l)[i * 5 + 2]? = some (.int .i64 0) ∧ (rcells l)[i * 5 + 3]? = some (.slice none 0 0) ∧ (rcells l)[i * 5 + 4]? = some (.slice none 0 0) := by
  induction l with
  | nil => intro i h; cases h
  | cons x l ih =>
    intro i h
    cases i with
    | zero => exact ⟨rfl, rfl, rfl, rfl, rfl⟩
    | succ i =>
      rw [show (i + 1) * 5 = i * 5 + 1 + 1 + 1 + 1 + 1 by omega]
      exact ih i (by simpa using h)
theorem rcells_one (l : List Int) : ∀ u ∈ rcells l, u.oneCell' = true := by
  induction l with
  | nil => intro u hu; cases hu
  | cons x l ih =>
    intro u hu
    simp only [rcells, List.mem_cons] at hu
    rcases hu with rfl | rfl | rfl | rfl | rfl | hu
    · rfl
    · rfl
    · rfl
    · rfl
    · rfl
    · exact ih u hu
abbrev aggR (ao : Option Addr) (n c : Nat) : Value := .agg #[.slice none 0 0, .slice ao n c]
abbrev aggK (r : Int) (ao : Option Addr) (n c : Nat) : Value := .agg #[.int .i64 r, .slice ao n c]
/-- The call answered this number; only draws and new blocks. -/
def NumG (x : Int) (w : World) (e : Ending) (w' : World) : Prop := e = .returned (.int .i64 x) ∧ Gr w w'

theorem gr_three (w : World) (o1 o2 o3 : Obj) : Gr w (((w.alloc o1).alloc o2).alloc o3) := (gr_two w o1 o2).alloc o3

end Go.Proofs.YtlkmabnjmklkpaaDoor
