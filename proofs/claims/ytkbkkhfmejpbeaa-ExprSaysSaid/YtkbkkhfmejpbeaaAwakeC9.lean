/- The calls that awake makes, spelt out. -/
import Derived.Test.YtkbkkhfmejpbeaaAwakeB9
import Derived.Deep.DeepCutAuto
namespace Go.Proofs.Ytkbkkhfmejpbeaa
open Go.RowKit

/-- Eval of one of these expressions, in whatever world the variable's value still stands. -/
theorem eval9 (t : X) (v : Value) (g : Nat) (w : World) (k n : Int) (s : ByteArray) (e : Int) (hk : Kids9 w.heap.size w t v) (hg : w.heap[g]? = some (.cells #[.int .u8 1, .int .i64 20, .string ⟨#[]⟩] 25 (0, 0))) (hh : Held t) (hN : t.wt ≤ 900000) (he : evalX vs9 t = ((k, n, s), e)) :
    Calls Try.prog 10 #[agg t v, .slice (some ⟨g, 0, none⟩) 1 1] w fun x w' => x = .returned (.tuple #[.agg #[.int .u8 k, .int .i64 n, .string s], .int .i64 e]) ∧ Below w.heap.size w w' := by
  have hv : Vars w.heap.size w (some ⟨g, 0, none⟩) 1 vs9 := ⟨fun _ => ⟨g, 0, rfl, lt_of_heap hg, fun j hj => by
    obtain rfl : j = 0 := by
      have : vs9.length = 1 := rfl
      omega
    exact ⟨Lib.cell_of_heap hg 0, Lib.cell_of_heap hg 1, Lib.cell_of_heap hg 2⟩⟩, by decide, fun x hx => by
    obtain rfl := List.mem_singleton.1 hx
    exact ⟨⟨by show (-9223372036854775808 : Int) ≤ 20; decide, by show (20 : Int) ≤ 9223372036854775807; decide⟩, by show 0 ≤ maxLen; exact Nat.zero_le _⟩⟩
  have := eval_any t v (some ⟨g, 0, none⟩) 1 vs9 w hk hv hh hN
  rw [he] at this
  exact this
theorem op_mul (w : World) : Calls Try.prog 20 #[.int .u8 3, .agg #[.int .u8 1, .int .u8 1, .int .i64 2, .string ⟨#[]⟩, .int .i64 0, .int .u8 0, .slice none 0 0], .agg #[.int .u8 2, .int .u8 0, .int .i64 0, .string ⟨#[]⟩, .int .i64 0, .int .u8 0, .slice none 0 0]] w fun e w' => ∃ g, e = .returned (.agg #[.int .u8 3, .int .u8 0, .int .i64 0, .string ⟨#[]⟩, .int .i64 0, .int .u8 3, .slice (some ⟨g, 0, none⟩) 2 2]) ∧ Kids9 w'.heap.size w' (opX 3 (numX 2) (varX 0)) (.slice (some ⟨g, 0, none⟩) 2 2) ∧ Below w.heap.size w w' :=
  op_any 3 (numX 2) (varX 0) (.slice none 0 0) (.slice none 0 0) w (kids_leaf rfl) (kids_leaf rfl)
theorem op_add (w : World) (g1 : Nat) (hk : Kids9 w.heap.size w (opX 3 (numX 2) (varX 0)) (.slice (some ⟨g1, 0, none⟩) 2 2)) : Calls Try.prog 20 #[.int .u8 1, .agg #[.int .u8 3, .int .u8 0, .int .i64 0, .string ⟨#[]⟩, .int .i64 0, .int .u8 3, .slice (some ⟨g1, 0, none⟩) 2 2], .agg #[.int .u8 1, .int .u8 1, .int .i64 1, .string ⟨#[]⟩, .int .i64 0, .int .u8 0, .slice none 0 0]] w fun e w' => ∃ g, e = .returned (.agg #[.int .u8 3, .int .u8 0, .int .i64 0, .string ⟨#[]⟩, .int .i64 0, .int .u8 1, .slice (some ⟨g, 0, none⟩) 2 2]) ∧ Kids9 w'.heap.size w' (opX 1 (opX 3 (numX 2) (varX 0)) (numX 1)) (.slice (some ⟨g, 0, none⟩) 2 2) ∧ Below w.heap.size w w' :=
  op_any 1 (opX 3 (numX 2) (varX 0)) (numX 1) (.slice (some ⟨g1, 0, none⟩) 2 2) (.slice none 0 0) w hk (kids_leaf rfl)
theorem op_over (w : World) : Calls Try.prog 20 #[.int .u8 1, .agg #[.int .u8 1, .int .u8 1, .int .i64 9223372036854775807, .string ⟨#[]⟩, .int .i64 0, .int .u8 0, .slice none 0 0], .agg #[.int .u8 1, .int .u8 1, .int .i64 1, .string ⟨#[]⟩, .int .i64 0, .int .u8 0, .slice none 0 0]] w fun e w' => ∃ g, e = .returned (.agg #[.int .u8 3, .int .u8 0, .int .i64 0, .string ⟨#[]⟩, .int .i64 0, .int .u8 1, .slice (some ⟨g, 0, none⟩) 2 2]) ∧ Kids9 w'.heap.size w' (opX 1 (numX 9223372036854775807) (numX 1)) (.slice (some ⟨g, 0, none⟩) 2 2) ∧ Below w.heap.size w w' :=
  op_any 1 (numX 9223372036854775807) (numX 1) (.slice none 0 0) (.slice none 0 0) w (kids_leaf rfl) (kids_leaf rfl)
theorem op_less (w : World) (g1 : Nat) (hk : Kids9 w.heap.size w (opX 1 (numX 9223372036854775807) (numX 1)) (.slice (some ⟨g1, 0, none⟩) 2 2)) : Calls Try.prog 20 #[.int .u8 7, .agg #[.int .u8 1, .int .u8 1, .int .i64 9223372036854775807, .string ⟨#[]⟩, .int .i64 0, .int .u8 0, .slice none 0 0], .agg #[.int .u8 3, .int .u8 0, .int .i64 0, .string ⟨#[]⟩, .int .i64 0, .int .u8 1, .slice (some ⟨g1, 0, none⟩) 2 2]] w fun e w' => ∃ g, e = .returned (.agg #[.int .u8 3, .int .u8 0, .int .i64 0, .string ⟨#[]⟩, .int .i64 0, .int .u8 7, .slice (some ⟨g, 0, none⟩) 2 2]) ∧ Kids9 w'.heap.size w' (opX 7 (numX 9223372036854775807) (opX 1 (numX 9223372036854775807) (numX 1))) (.slice (some ⟨g, 0, none⟩) 2 2) ∧ Below w.heap.size w w' :=
  op_any 7 (numX 9223372036854775807) (opX 1 (numX 9223372036854775807) (numX 1)) (.slice none 0 0) (.slice (some ⟨g1, 0, none⟩) 2 2) w (kids_leaf rfl) hk
theorem eval_first (w : World) (g : Nat) (g2 : Nat) (hk : Kids9 w.heap.size w (opX 1 (opX 3 (numX 2) (varX 0)) (numX 1)) (.slice (some ⟨g2, 0, none⟩) 2 2)) (hg : w.heap[g]? = some (.cells #[.int .u8 1, .int .i64 20, .string ⟨#[]⟩] 25 (0, 0))) :
    Calls Try.prog 10 #[.agg #[.int .u8 3, .int .u8 0, .int .i64 0, .string ⟨#[]⟩, .int .i64 0, .int .u8 1, .slice (some ⟨g2, 0, none⟩) 2 2], .slice (some ⟨g, 0, none⟩) 1 1] w fun x w' => x = .returned (.tuple #[.agg #[.int .u8 1, .int .i64 41, .string ⟨#[]⟩], .int .i64 0]) ∧ Below w.heap.size w w' :=
  eval9 (opX 1 (opX 3 (numX 2) (varX 0)) (numX 1)) (.slice (some ⟨g2, 0, none⟩) 2 2) g w 1 41 ⟨#[]⟩ 0 hk hg (held_op (held_op (held_leaf ⟨by decide, by decide⟩ ⟨by decide, by decide⟩) (held_leaf ⟨by decide, by decide⟩ ⟨by decide, by decide⟩)) (held_leaf ⟨by decide, by decide⟩ ⟨by decide, by decide⟩)) (by decide) eval_41
theorem eval_second (w : World) (g : Nat) (hg : w.heap[g]? = some (.cells #[.int .u8 1, .int .i64 20, .string ⟨#[]⟩] 25 (0, 0))) :
    Calls Try.prog 10 #[.agg #[.int .u8 2, .int .u8 0, .int .i64 0, .string ⟨#[]⟩, .int .i64 1, .int .u8 0, .slice none 0 0], .slice (some ⟨g, 0, none⟩) 1 1] w fun x w' => x = .returned (.tuple #[.agg #[.int .u8 0, .int .i64 0, .string ⟨#[]⟩], .int .i64 2]) ∧ Below w.heap.size w w' :=
  eval9 (varX 1) (.slice none 0 0) g w 0 0 ⟨#[]⟩ 2 (kids_leaf rfl) hg (held_leaf ⟨by decide, by decide⟩ ⟨by decide, by decide⟩) (by decide) eval_v1
theorem eval_third (w : World) (g : Nat) (g2 : Nat) (hk : Kids9 w.heap.size w (opX 7 (numX 9223372036854775807) (opX 1 (numX 9223372036854775807) (numX 1))) (.slice (some ⟨g2, 0, none⟩) 2 2)) (hg : w.heap[g]? = some (.cells #[.int .u8 1, .int .i64 20, .string ⟨#[]⟩] 25 (0, 0))) :
    Calls Try.prog 10 #[.agg #[.int .u8 3, .int .u8 0, .int .i64 0, .string ⟨#[]⟩, .int .i64 0, .int .u8 7, .slice (some ⟨g2, 0, none⟩) 2 2], .slice (some ⟨g, 0, none⟩) 1 1] w fun x w' => x = .returned (.tuple #[.agg #[.int .u8 0, .int .i64 0, .string ⟨#[]⟩], .int .i64 300]) ∧ Below w.heap.size w w' :=
  eval9 (opX 7 (numX 9223372036854775807) (opX 1 (numX 9223372036854775807) (numX 1))) (.slice (some ⟨g2, 0, none⟩) 2 2) g w 0 0 ⟨#[]⟩ 300 hk hg (held_op (held_leaf ⟨by decide, by decide⟩ ⟨by decide, by decide⟩) (held_op (held_leaf ⟨by decide, by decide⟩ ⟨by decide, by decide⟩) (held_leaf ⟨by decide, by decide⟩ ⟨by decide, by decide⟩))) (by decide) eval_over
end Go.Proofs.Ytkbkkhfmejpbeaa
