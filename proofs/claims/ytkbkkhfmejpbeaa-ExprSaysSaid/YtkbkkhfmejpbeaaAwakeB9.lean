/- What the law's own expressions say. -/
import Derived.Test.YtkbkkhfmejpbeaaAwakeA9
namespace Go.Proofs.Ytkbkkhfmejpbeaa
open Go.RowKit

theorem right_num (n : Int) : rightB 1 n ⟨#[]⟩ = true := by
  unfold rightB
  rw [ByteArray.toList_eq]
  simp
theorem ifR_num (n : Int) : ifR (1, n, ⟨#[]⟩) = (numT n, 0) := by
  unfold ifR
  rw [if_pos (right_num n)]
  rfl
theorem doV_two (op a b : Int) (hk : knownB op = true) (hp : placesN op = 2) : doV op [numT a, numT b] = valV op (numT a) (numT b) := by
  have hw : ([numT a, numT b] : List V3).any wrongB = false := by
    have h := fun n => right_num n
    simp [wrongB, numT, h]
  have hn : ([numT a, numT b] : List V3).any nameB = false := by
    simp [nameB, numT]
  unfold doV
  rw [hk, hp, hw, hn]
  simp
theorem eval_num (vs : List V3) (n : Int) : evalX vs (numX n) = (numT n, 0) := by
  rw [evalX_eq, if_pos (show (numX n).kind = 1 from rfl)]
  exact ifR_num n
theorem eval_op (vs : List V3) (o : Int) (a b : X) : evalX vs (opX o a b) = if (evalX vs a).2 = 0 then (if (evalX vs b).2 = 0 then doV o [(evalX vs a).1, (evalX vs b).1] else (zeroT, (evalX vs b).2)) else (zeroT, (evalX vs a).2) := by
  rw [evalX_eq, if_neg (by show ¬ (3 : Int) = 1; decide), if_neg (by show ¬ (3 : Int) = 2; decide), if_pos (show (opX o a b).kind = 3 from rfl)]
  show (if (evalL vs [a, b]).2 = 0 then doV o (evalL vs [a, b]).1 else (zeroT, (evalL vs [a, b]).2)) = _
  rw [evalL_cons, evalL_one]
  by_cases h1 : (evalX vs a).2 = 0
  · rw [if_pos h1, if_pos h1]
    by_cases h2 : (evalX vs b).2 = 0
    · rw [if_pos h2, if_pos h2, if_pos rfl, if_pos rfl]
    · rw [if_neg h2, if_neg h2, if_neg h2, if_neg h2]
  · rw [if_neg h1, if_neg h1, if_neg h1]
abbrev varX (i : Int) : X := .mk 2 0 0 ⟨#[]⟩ i 0 []
abbrev vs9 : List V3 := [(1, 20, ⟨#[]⟩)]
theorem eval_v0 : evalX vs9 (varX 0) = (numT 20, 0) := by
  rw [evalX_eq, if_neg (by show ¬ (2 : Int) = 1; decide), if_pos (show (varX 0).kind = 2 from rfl), if_pos (by show (0 : Int) ≤ 0 ∧ (0 : Int) < 1; decide)]
  exact ifR_num 20
theorem eval_v1 : evalX vs9 (varX 1) = (zeroT, 2) := by
  rw [evalX_eq, if_neg (by show ¬ (2 : Int) = 1; decide), if_pos (show (varX 1).kind = 2 from rfl), if_neg (by show ¬ ((0 : Int) ≤ 1 ∧ (1 : Int) < 1); decide)]
theorem eval_41 : evalX vs9 (opX 1 (opX 3 (numX 2) (varX 0)) (numX 1)) = (numT 41, 0) := by
  have h1 : evalX vs9 (opX 3 (numX 2) (varX 0)) = (numT 40, 0) := by
    rw [eval_op, eval_num, eval_v0, if_pos rfl, if_pos rfl, doV_two 3 2 20 rfl rfl]
    rfl
  rw [eval_op, h1, eval_num, if_pos rfl, if_pos rfl, doV_two 1 40 1 rfl rfl]
  rfl
theorem eval_over : evalX vs9 (opX 7 (numX 9223372036854775807) (opX 1 (numX 9223372036854775807) (numX 1))) = (zeroT, 300) := by
  have h1 : evalX vs9 (opX 1 (numX 9223372036854775807) (numX 1)) = (zeroT, 300) := by
    rw [eval_op, eval_num, eval_num, if_pos rfl, if_pos rfl, doV_two 1 _ 1 rfl rfl]
    rfl
  rw [eval_op, eval_num, h1, if_pos rfl, if_neg (by decide)]

theorem held_leaf {k vk vn : Int} {i o : Int} (hn : In64 vn) (hi : In64 i) : Held (.mk k vk vn ⟨#[]⟩ i o []) :=
  .mk _ ⟨hn, by show 0 ≤ maxLen; exact Nat.zero_le _⟩ hi (fun k hk => by cases hk)
theorem held_op {o : Int} {a b : X} (ha : Held a) (hb : Held b) : Held (opX o a b) :=
  .mk _ ⟨⟨by show (-9223372036854775808 : Int) ≤ 0; decide, by show (0 : Int) ≤ 9223372036854775807; decide⟩, by show 0 ≤ maxLen; exact Nat.zero_le _⟩ ⟨by show (-9223372036854775808 : Int) ≤ 0; decide, by show (0 : Int) ≤ 9223372036854775807; decide⟩ (fun k hk => by
    have hk' : k = a ∨ k = b := by simpa [X.kids] using hk
    rcases hk' with rfl | rfl
    · exact ha
    · exact hb)
end Go.Proofs.Ytkbkkhfmejpbeaa
