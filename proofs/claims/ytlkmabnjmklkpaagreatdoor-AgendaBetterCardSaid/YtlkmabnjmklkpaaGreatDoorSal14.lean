/- Rules as the law makes them; the document's salience of a match. -/
import Derived.Test.YtlkmabnjmklkpaaGreatDoorToks14
import Derived.Test.YtlkmabnjmklkpaaGreatDoorFall14
namespace Go.Proofs.YtlkmabnjmklkpaaGreatDoor
open Go.RowKit

/-- The cells of rules that have nothing but saliences. -/
def rcells : List Int → List Value
  | [] => []
  | s :: l => .string ⟨#[]⟩ :: .int .i64 s :: .int .i64 0 :: .slice none 0 0 :: .slice none 0 0 :: rcells l
theorem rcells_append (l m : List Int) : rcells (l ++ m) = rcells l ++ rcells m := by
  induction l with
  | nil => rfl
  | cons x l ih => simp only [rcells, List.cons_append, ih]
theorem rcells_length (l : List Int) : (rcells l).length = l.length * 5 := by
  induction l with
  | nil => rfl
  | cons x l ih => simp only [rcells, List.length_cons, ih]; omega
theorem rcells_at (l : List Int) : ∀ (i : Nat) (h : i < l.length), (rcells l)[i * 5]? = some (.string ⟨#[]⟩) ∧ (rcells l)[i * 5 + 1]? = some (.int .i64 l[i]) ∧ (rcells l)[i * 5 + 2]? = some (.int .i64 0) ∧ (rcells l)[i * 5 + 3]? = some (.slice none 0 0) ∧ (rcells l)[i * 5 + 4]? = some (.slice none 0 0) := by
  induction l with
  | nil => intro i h; cases h
  | cons x l ih =>
    intro i h
    cases i with
    | zero => exact ⟨rfl, rfl, rfl, rfl, rfl⟩
    | succ i =>
      rw [show (i + 1) * 5 = i * 5 + 1 + 1 + 1 + 1 + 1 by omega]
      exact ih i (by simpa using h)
theorem rcells_one (l : List Int) : ∀ u ∈ rcells l, u.oneCell' = true := by
  induction l with
  | nil => intro u hu; cases hu
  | cons x l ih =>
    intro u hu
    simp only [rcells, List.mem_cons] at hu
    rcases hu with rfl | rfl | rfl | rfl | rfl | hu
    · rfl
    · rfl
    · rfl
    · rfl
    · rfl
    · exact ih u hu
abbrev aggR (ao : Option Addr) (n c : Nat) : Value := .agg #[.slice none 0 0, .slice ao n c]
abbrev aggK (r : Int) (ao : Option Addr) (n c : Nat) : Value := .agg #[.int .i64 r, .slice ao n c]
/-- The call answered this number; only draws and new blocks. -/
def NumG (x : Int) (w : World) (e : Ending) (w' : World) : Prop := e = .returned (.int .i64 x) ∧ Gr w w'

theorem gr_three (w : World) (o1 o2 o3 : Obj) : Gr w (((w.alloc o1).alloc o2).alloc o3) := (gr_two w o1 o2).alloc o3

set_option maxRecDepth 100000 in
theorem refSal_any (s : List Int) (r : Int) (ao bo : Option Addr) (c n k : Nat) (w : World) (h : SlG w.heap.size w ao (rcells s)) :
    Calls Tryz.prog 32 #[aggR ao s.length c, aggK r bo n k] w (NumG (salOf14 s r) w) := by
  have HB := Lib.hid (gr_two w (.cells #[.slice none 0 0, .slice ao s.length c] 31) (.cells #[.int .i64 r, .slice bo n k] 24))
  have HS := Lib.hid (h.below HB.out.below)
  clear h
  by_cases h0 : r < 0
  · have HE : Hid (salOf14 s r = 0) := by unfold Hid salOf14; rw [if_neg (by omega)]
    have hd : decide (r < 0) = true := by simp; omega
    go_enter Tryz.func32, Tryz.ntmps32
    go_wp2_with fail
    go_ret
    exact ⟨by rw [HE.out]; rfl, HB.out⟩
  · obtain ⟨m, rfl⟩ : ∃ m : Nat, r = m := ⟨r.toNat, by omega⟩
    have hd : decide ((m : Int) < 0) = false := by simp
    by_cases h1 : m < s.length
    · have HE : Hid (salOf14 s (m : Int) = s[m]) := by
        unfold Hid salOf14
        rw [if_pos ⟨by omega, by omega⟩]
        simp [h1]
      have hd2 : decide ((s.length : Int) ≤ (m : Int)) = false := by simp; omega
      have hd3 : decide (s.length ≤ m) = false := by simp; omega
      have hmi : (m : Int) < (s.length : Int) := by omega
      obtain ⟨sb, off, rfl, _, hc⟩ := HS.out (by intro e; have := congrArg List.length e; rw [rcells_length] at this; simp at this; omega)
      have hx := hc _ _ (rcells_at s m h1).2.1
      rw [← Nat.add_assoc] at hx
      generalize s[m] = x at hx HE
      clear hc
      go_enter Tryz.func32, Tryz.ntmps32
      go_wp2_with fail
      go_ret
      exact ⟨by rw [HE.out]; rfl, HB.out⟩
    · have HE : Hid (salOf14 s (m : Int) = 0) := by unfold Hid salOf14; rw [if_neg (by omega)]
      have hd2 : decide ((s.length : Int) ≤ (m : Int)) = true := by simp; omega
      have hd3 : decide (s.length ≤ m) = true := by simp; omega
      go_enter Tryz.func32, Tryz.ntmps32
      go_wp2_with fail
      go_ret
      exact ⟨by rw [HE.out]; rfl, HB.out⟩
end Go.Proofs.YtlkmabnjmklkpaaGreatDoor
