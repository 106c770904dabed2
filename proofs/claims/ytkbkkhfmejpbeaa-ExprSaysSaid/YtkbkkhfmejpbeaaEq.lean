/- '==' and '!=' of two values, as a plain Bool. -/
import Derived.Test.YtkbkkhfmejpbeaaMap
import Derived.Laws.StructEq
namespace Go.Proofs.Ytkbkkhfmejpbeaa
open Go.RowKit

def eqvB (x y : Int × Int × ByteArray) : Bool := x.1 == y.1 && x.2.1 == y.2.1 && x.2.2.toList == y.2.2.toList

theorem eqGuardV : Try.prog.eqGuardType Try.prog.depth 25 = false := by kernel_rfl

theorem eqIn (x1 x2 y1 y2 : Int) (x3 y3 : ByteArray) (w : World) :
    (Op.equalIn 10000 25 (.agg #[.int .u8 x1, .int .i64 x2, .string x3]) (.agg #[.int .u8 y1, .int .i64 y2, .string y3])).run Try.prog w = .ok (eqvB (x1, x2, x3) (y1, y2, y3)) w := by
  have hS : Try.prog.underlying 25 = some (.struct (Try.prog.fieldsOf 25)) := by kernel_rfl
  have hp : Try.prog.stoodInHeld 25 = false := by kernel_rfl
  have u1 := Try.underlying23
  have u2 := Try.underlying2
  have u3 := Try.underlying9
  have a1 := Try.isAgg23
  have a2 := Try.isAgg2
  have a3 := Try.isAgg9
  have z1 := Try.sizeOf23
  have z2 := Try.sizeOf2
  have z3 := Try.sizeOf9
  rw [show (10000 : Nat) = 9999 + 1 from rfl, run_equalIn_agg w 9999 25 _ _ hS hp]
  simp only [Program.fieldsOf, Try.underlying25]
  go_simp
  unfold eqvB
  cases h1 : (x1 == y1) <;> cases h2 : (x2 == y2) <;> cases h3 : (x3.toList == y3.toList) <;> simp_all

theorem eqV (x1 x2 y1 y2 : Int) (x3 y3 : ByteArray) (w : World) :
    (binOp .eql 25 (.agg #[.int .u8 x1, .int .i64 x2, .string x3]) (.agg #[.int .u8 y1, .int .i64 y2, .string y3])).run Try.prog w = .ok (.bool (eqvB (x1, x2, x3) (y1, y2, y3))) w := by
  rw [run_eql_struct, eqIn]
  rfl

theorem neV (x1 x2 y1 y2 : Int) (x3 y3 : ByteArray) (w : World) :
    (binOp .neq 25 (.agg #[.int .u8 x1, .int .i64 x2, .string x3]) (.agg #[.int .u8 y1, .int .i64 y2, .string y3])).run Try.prog w = .ok (.bool (!eqvB (x1, x2, x3) (y1, y2, y3))) w := by
  rw [run_neq_struct, eqIn]
  rfl

theorem eqvB_iff (x y : Int × Int × ByteArray) : eqvB x y = true ↔ x = y := by
  obtain ⟨x1, x2, x3⟩ := x
  obtain ⟨y1, y2, y3⟩ := y
  simp only [eqvB, Bool.and_eq_true, beq_iff_eq, Prod.mk.injEq, and_assoc]
  constructor
  · rintro ⟨h1, h2, h3⟩
    refine ⟨h1, h2, ?_⟩
    rw [ByteArray.toList_eq, ByteArray.toList_eq] at h3
    obtain ⟨⟨a⟩⟩ := x3
    obtain ⟨⟨b⟩⟩ := y3
    simp at h3
    rw [h3]
  · rintro ⟨h1, h2, h3⟩
    exact ⟨h1, h2, by rw [h3]⟩
end Go.Proofs.Ytkbkkhfmejpbeaa
