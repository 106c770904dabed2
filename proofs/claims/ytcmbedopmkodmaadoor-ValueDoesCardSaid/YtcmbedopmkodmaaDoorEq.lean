/- '==' and '!=' of two values, as a plain Bool. -/
import Derived.Test.YtcmbedopmkodmaaDoorMap
import Derived.Laws.StructEq
namespace Go.Proofs.YtcmbedopmkodmaaDoor
open Go.RowKit

def eqvB (x y : Int × Int × ByteArray) : Bool := x.1 == y.1 && x.2.1 == y.2.1 && x.2.2.toList == y.2.2.toList

theorem eqGuardV : Tryd.prog.eqGuardType Tryd.prog.depth 29 = false := by kernel_rfl

theorem eqIn (x1 x2 y1 y2 : Int) (x3 y3 : ByteArray) (w : World) :
    (Op.equalIn 10000 29 (.agg #[.int .u8 x1, .int .i64 x2, .string x3]) (.agg #[.int .u8 y1, .int .i64 y2, .string y3])).run Tryd.prog w = .ok (eqvB (x1, x2, x3) (y1, y2, y3)) w := by
  have hS : Tryd.prog.underlying 29 = some (.struct (Tryd.prog.fieldsOf 29)) := by kernel_rfl
  have hp : Tryd.prog.stoodInHeld 29 = false := by kernel_rfl
  have u1 := Tryd.underlying27
  have u2 := Tryd.underlying2
  have u3 := Tryd.underlying9
  have a1 := Tryd.isAgg27
  have a2 := Tryd.isAgg2
  have a3 := Tryd.isAgg9
  have z1 := Tryd.sizeOf27
  have z2 := Tryd.sizeOf2
  have z3 := Tryd.sizeOf9
  rw [show (10000 : Nat) = 9999 + 1 from rfl, run_equalIn_agg w 9999 29 _ _ hS hp]
  simp only [Program.fieldsOf, Tryd.underlying29]
  go_simp
  unfold eqvB
  cases h1 : (x1 == y1) <;> cases h2 : (x2 == y2) <;> cases h3 : (x3.toList == y3.toList) <;> simp_all

theorem eqV (x1 x2 y1 y2 : Int) (x3 y3 : ByteArray) (w : World) :
    (binOp .eql 29 (.agg #[.int .u8 x1, .int .i64 x2, .string x3]) (.agg #[.int .u8 y1, .int .i64 y2, .string y3])).run Tryd.prog w = .ok (.bool (eqvB (x1, x2, x3) (y1, y2, y3))) w := by
  rw [run_eql_struct, eqIn]
  rfl

theorem neV (x1 x2 y1 y2 : Int) (x3 y3 : ByteArray) (w : World) :
    (binOp .neq 29 (.agg #[.int .u8 x1, .int .i64 x2, .string x3]) (.agg #[.int .u8 y1, .int .i64 y2, .string y3])).run Tryd.prog w = .ok (.bool (!eqvB (x1, x2, x3) (y1, y2, y3))) w := by
  rw [run_neq_struct, eqIn]
  rfl

theorem eqvB_iff (x y : Int × Int × ByteArray) : eqvB x y = true ↔ x = y := by
  obtain ⟨x1, x2, x3⟩ := x
  obtain ⟨y1, y2, y3⟩ := y
  simp only [eqvB, Bool.and_eq_true, beq_iff_eq, Prod.mk.injEq, and_assoc]
  constructor
  · rintro ⟨h1, h2, h3⟩
    refine ⟨h1, h2, ?_⟩
    rw [ByteArray.toList_eq, ByteArray.toList_eq] at h3
    obtain ⟨⟨a⟩⟩ := x3
    obtain ⟨⟨b⟩⟩ := y3
    simp at h3
    rw [h3]
  · rintro ⟨h1, h2, h3⟩
    exact ⟨h1, h2, by rw [h3]⟩
end Go.Proofs.YtcmbedopmkodmaaDoor
