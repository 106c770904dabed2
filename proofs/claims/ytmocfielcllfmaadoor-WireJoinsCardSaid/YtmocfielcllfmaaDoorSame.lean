/- What is the same is told so: bytes, numbers, values, facts, commands, replies, entries. -/
import Derived.Test.YtmocfielcllfmaaDoorJoin
namespace Go.Proofs.YtmocfielcllfmaaDoor
open Go.RowKit

def eqvB (x y : V3) : Bool := x.1 == y.1 && x.2.1 == y.2.1 && x.2.2.toList == y.2.2.toList

theorem eqGuardV : Tryd.prog.eqGuardType Tryd.prog.depth 46 = false := by kernel_rfl

theorem eqIn (x1 x2 y1 y2 : Int) (x3 y3 : ByteArray) (w : World) :
    (Op.equalIn 10000 46 (.agg #[.int .u8 x1, .int .i64 x2, .string x3]) (.agg #[.int .u8 y1, .int .i64 y2, .string y3])).run Tryd.prog w = .ok (eqvB (x1, x2, x3) (y1, y2, y3)) w := by
  have hS : Tryd.prog.underlying 46 = some (.struct (Tryd.prog.fieldsOf 46)) := by kernel_rfl
  have hp : Tryd.prog.stoodInHeld 46 = false := by kernel_rfl
  have u1 := Tryd.underlying44
  have u2 := Tryd.underlying2
  have u3 := Tryd.underlying9
  have a1 := Tryd.isAgg44
  have a2 := Tryd.isAgg2
  have a3 := Tryd.isAgg9
  have z1 := Tryd.sizeOf44
  have z2 := Tryd.sizeOf2
  have z3 := Tryd.sizeOf9
  rw [show (10000 : Nat) = 9999 + 1 from rfl, run_equalIn_agg w 9999 46 _ _ hS hp]
  simp only [Program.fieldsOf, Tryd.underlying46]
  go_simp
  unfold eqvB
  cases h1 : (x1 == y1) <;> cases h2 : (x2 == y2) <;> cases h3 : (x3.toList == y3.toList) <;> simp_all

theorem eqV (x1 x2 y1 y2 : Int) (x3 y3 : ByteArray) (w : World) :
    (binOp .eql 46 (.agg #[.int .u8 x1, .int .i64 x2, .string x3]) (.agg #[.int .u8 y1, .int .i64 y2, .string y3])).run Tryd.prog w = .ok (.bool (eqvB (x1, x2, x3) (y1, y2, y3))) w := by
  rw [run_eql_struct, eqIn]
  rfl

theorem neV (x1 x2 y1 y2 : Int) (x3 y3 : ByteArray) (w : World) :
    (binOp .neq 46 (.agg #[.int .u8 x1, .int .i64 x2, .string x3]) (.agg #[.int .u8 y1, .int .i64 y2, .string y3])).run Tryd.prog w = .ok (.bool (!eqvB (x1, x2, x3) (y1, y2, y3))) w := by
  rw [run_neq_struct, eqIn]
  rfl

theorem eqvB_self (x : V3) : eqvB x x = true := by simp [eqvB]

/-- The call said yes, and turned nothing. -/
def YesP (w : World) (e : Ending) (w' : World) : Prop := e = .returned (.bool true) ∧ Below w.heap.size w w'

theorem owns_slB {w : World} {base : Nat} {ao : Option Addr} {c : Nat} {l : List UInt8} (h : w.ownsRow base 5 1 (.slice ao l.length c) l.length (bcells l)) : SlG w.heap.size w ao (bcells l) := fun hne => by
  rcases h.2 with ⟨h1, h2⟩ | ⟨g, cap, cur, h1, _, hg, _⟩
  · have := List.eq_nil_of_length_eq_zero h2
    subst this
    exact absurd rfl hne
  · simp only [Value.slice.injEq] at h1
    obtain ⟨rfl, _, rfl⟩ := h1
    refine ⟨g, 0, rfl, lt_of_heap hg, fun j u hu => ?_⟩
    rw [Nat.zero_add]
    have := h.cells (g := g) rfl j u hu
    rwa [Addr.add_lit, Nat.zero_add] at this

theorem SlG.cellB {B : Nat} {w : World} {ao : Option Addr} {l : List UInt8} (h : SlG B w ao (bcells l)) (hl : 0 < l.length) : ∃ sb off, ao = some ⟨sb, off, none⟩ ∧ sb < B ∧ ∀ j, (hj : j < l.length) → w.cell? ⟨sb, off + j, none⟩ = some (.int .u8 ((l[j]).toNat : Int)) := by
  obtain ⟨sb, off, e, lt, hc⟩ := h (by cases l with
    | nil => simp at hl
    | cons x l => simp [Lib.byteCells])
  exact ⟨sb, off, e, lt, fun j hj => hc j _ (by simp [Lib.byteCells, hj])⟩

set_option maxRecDepth 100000 in
set_option maxHeartbeats 1000000 in
theorem sameB (ao1 ao2 : Option Addr) (c1 c2 : Nat) (l : List UInt8) (hm : l.length ≤ 9223372036854775807) (w : World) (h1 : SlG w.heap.size w ao1 (bcells l)) (h2 : SlG w.heap.size w ao2 (bcells l)) :
    Calls Tryd.prog 12 #[.slice ao1 l.length c1, .slice ao2 l.length c2] w (YesP w) := by
  have HA := Lib.hid h1
  have HB := Lib.hid h2
  clear h1 h2
  have mixed : Tryd.prog.follows .mixedOrders = true := by kernel_rfl
  go_enter Tryd.func12, Tryd.ntmps12
  go_wp2_with fail
  go_loopw [5] (fun i wr => ∃ j : Nat, j ≤ l.length ∧ i = .int .i64 j ∧ Below w.heap.size w wr) (fun i _ => l.length - (intOf i).toNat)
  case atStart => exact ⟨0, by omega, rfl, Below.refl _ _⟩
  case round =>
    obtain ⟨j, hj, rfl, hfr⟩ := hrel
    have HFr := Lib.hid hfr
    clear hfr
    by_cases hlt : j < l.length
    · obtain ⟨sb, off, rfl, hsb, hc⟩ := (HA.out.below HFr.out).cellB (by omega)
      obtain ⟨sb2, off2, rfl, hsb2, hc2⟩ := (HB.out.below HFr.out).cellB (by omega)
      have d1 := hc j hlt
      have d2 := hc2 j hlt
      clear hc hc2
      generalize ((l[j]).toNat : Int) = z at d1 d2
      go_wp2_with fail
      go_quiet (fail)
      go_wp2
      go_roundw
      case rel => exact ⟨j + 1, by omega, by go_num, RowKit_drewN HFr.out _⟩
      case measure => simp [intOf]; omega
    · obtain rfl : j = l.length := by omega
      go_wp2
      go_ret
      exact ⟨rfl, HFr.out⟩

theorem SlI.at {B : Nat} {w : World} {ao : Option Addr} {l : List Int} (h : SlI B w ao l) (hl : 0 < l.length) : ∃ sb off, ao = some ⟨sb, off, none⟩ ∧ sb < B ∧ ∀ j, (h : j < l.length) → w.cell? ⟨sb, off + j, none⟩ = some (.int .i64 l[j]) := h hl

set_option maxRecDepth 100000 in
set_option maxHeartbeats 1000000 in
theorem sameI (ao1 ao2 : Option Addr) (c1 c2 : Nat) (l : List Int) (hm : l.length ≤ 9223372036854775807) (w : World) (h1 : SlI w.heap.size w ao1 l) (h2 : SlI w.heap.size w ao2 l) :
    Calls Tryd.prog 71 #[.slice ao1 l.length c1, .slice ao2 l.length c2] w (YesP w) := by
  have HA := Lib.hid h1
  have HB := Lib.hid h2
  clear h1 h2
  have mixed : Tryd.prog.follows .mixedOrders = true := by kernel_rfl
  go_enter Tryd.func71, Tryd.ntmps71
  go_wp2_with fail
  go_loopw [5] (fun i wr => ∃ j : Nat, j ≤ l.length ∧ i = .int .i64 j ∧ Below w.heap.size w wr) (fun i _ => l.length - (intOf i).toNat)
  case atStart => exact ⟨0, by omega, rfl, Below.refl _ _⟩
  case round =>
    obtain ⟨j, hj, rfl, hfr⟩ := hrel
    have HFr := Lib.hid hfr
    clear hfr
    by_cases hlt : j < l.length
    · obtain ⟨sb, off, rfl, hsb, hc⟩ := (HA.out.below HFr.out).at (by omega)
      obtain ⟨sb2, off2, rfl, hsb2, hc2⟩ := (HB.out.below HFr.out).at (by omega)
      have d1 := hc j hlt
      have d2 := hc2 j hlt
      clear hc hc2
      generalize l[j] = z at d1 d2
      go_wp2_with fail
      go_quiet (fail)
      go_wp2
      go_roundw
      case rel => exact ⟨j + 1, by omega, by go_num, RowKit_drewN HFr.out _⟩
      case measure => simp [intOf]; omega
    · obtain rfl : j = l.length := by omega
      go_wp2
      go_ret
      exact ⟨rfl, HFr.out⟩

set_option maxRecDepth 100000 in
set_option maxHeartbeats 1000000 in
theorem sameV (ao1 ao2 : Option Addr) (c1 c2 : Nat) (l : List V3) (hm : l.length ≤ 9223372036854775807) (w : World) (h1 : SlV w.heap.size w ao1 l) (h2 : SlV w.heap.size w ao2 l) :
    Calls Tryd.prog 41 #[.slice ao1 l.length c1, .slice ao2 l.length c2] w (YesP w) := by
  have HA := Lib.hid h1
  have HB := Lib.hid h2
  clear h1 h2
  have hg := eqGuardV
  have mixed : Tryd.prog.follows .mixedOrders = true := by kernel_rfl
  go_enter Tryd.func41, Tryd.ntmps41
  go_wp2_with fail
  go_loopw [5] (fun i wr => ∃ j : Nat, j ≤ l.length ∧ i = .int .i64 j ∧ Below w.heap.size w wr) (fun i _ => l.length - (intOf i).toNat)
  case atStart => exact ⟨0, by omega, rfl, Below.refl _ _⟩
  case round =>
    obtain ⟨j, hj, rfl, hfr⟩ := hrel
    have HFr := Lib.hid hfr
    clear hfr
    by_cases hlt : j < l.length
    · obtain ⟨sb, off, rfl, hsb, hc⟩ := (HA.out.below HFr.out).at (by omega)
      obtain ⟨sb2, off2, rfl, hsb2, hc2⟩ := (HB.out.below HFr.out).at (by omega)
      obtain ⟨d1, d2, d3⟩ := hc j hlt
      obtain ⟨d4, d5, d6⟩ := hc2 j hlt
      clear hc hc2
      generalize l[j] = z at d1 d2 d3 d4 d5 d6
      have heq := fun W => neV z.1 z.2.1 z.1 z.2.1 z.2.2 z.2.2 W
      rw [eqvB_self (z.1, z.2.1, z.2.2)] at heq
      go_wp2_with fail
      go_quiet (fail)
      go_wp2
      go_roundw
      case rel => exact ⟨j + 1, by omega, by go_num, RowKit_drewN HFr.out _⟩
      case measure => simp [intOf]; omega
    · obtain rfl : j = l.length := by omega
      go_wp2
      go_ret
      exact ⟨rfl, HFr.out⟩
end Go.Proofs.YtmocfielcllfmaaDoor
