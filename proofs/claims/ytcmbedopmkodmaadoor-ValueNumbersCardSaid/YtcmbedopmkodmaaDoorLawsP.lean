/- ValueLaws is true: laws of reckoning over all pairs of numbers. -/
import Derived.Test.YtcmbedopmkodmaaDoorAwake
namespace Go.Proofs.YtcmbedopmkodmaaDoor
open Go.RowKit

theorem do_gen2 (op a b : Int) (r : V3 × Int) (h : doV op [numT a, numT b] = r) (w : World) (g : Nat) (hg : g = w.heap.size) (ha : In64 a) (hb : In64 b) :
    Calls Tryd.prog 11 #[.int .u8 op, .slice (some ⟨g, 0, none⟩) 2 2] (w.alloc (.cells #[.int .u8 1, .int .i64 a, .string ⟨#[]⟩, .int .u8 1, .int .i64 b, .string ⟨#[]⟩] 29))
      fun e w' => e = .returned (.tuple #[.agg #[.int .u8 r.1.1, .int .i64 r.1.2.1, .string r.1.2.2], .int .i64 r.2]) ∧ Below (w.alloc (.cells #[.int .u8 1, .int .i64 a, .string ⟨#[]⟩, .int .u8 1, .int .i64 b, .string ⟨#[]⟩] 29)).heap.size (w.alloc (.cells #[.int .u8 1, .int .i64 a, .string ⟨#[]⟩, .int .u8 1, .int .i64 b, .string ⟨#[]⟩] 29)) w' := by
  have hc := do_made2 op a b w g hg ha hb
  rw [h] at hc
  exact hc

theorem ne_self (k n : Int) (s : ByteArray) (w : World) : (binOp .neq 29 (.agg #[.int .u8 k, .int .i64 n, .string s]) (.agg #[.int .u8 k, .int .i64 n, .string s])).run Tryd.prog w = .ok (.bool false) w := by
  rw [neV, (eqvB_iff _ _).2 rfl]; rfl

theorem At.on {w w1 : World} {b : Nat} {x : V3} (h : At w b 0 x) (hb : b < w.heap.size) (h1 : Below w.heap.size w w1) : At w1 b 0 x := h.later h1 hb

theorem at_made (w : World) (k n : Int) (s : ByteArray) (t : TypeId) : At (w.alloc (.cells #[.int .u8 k, .int .i64 n, .string s] t)) w.heap.size 0 (k, n, s) :=
  At.made _ _ _ _ _ _ _ (cell_alloc w _ t) rfl rfl rfl
end Go.Proofs.YtcmbedopmkodmaaDoor
