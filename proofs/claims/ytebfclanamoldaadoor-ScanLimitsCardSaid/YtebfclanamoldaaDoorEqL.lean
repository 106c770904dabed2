/- '==' and '!=' of two tokens, of two faults, as plain Bools; the chapter's example. -/
import Derived.Test.YtebfclanamoldaaDoorTokens
import Derived.Laws.StructEq
namespace Go.Proofs.YtebfclanamoldaaDoor
open Go.RowKit

def eqLB (x y : Int × ByteArray × Int) : Bool := x.1 == y.1 && x.2.1.toList == y.2.1.toList && x.2.2 == y.2.2
theorem eqGuardL : Tryd.prog.eqGuardType Tryd.prog.depth 41 = false := by kernel_rfl
theorem eqInL (x1 x3 y1 y3 : Int) (x2 y2 : ByteArray) (w : World) :
    (Op.equalIn 10000 41 (.agg #[.int .u8 x1, .string x2, .int .i64 x3]) (.agg #[.int .u8 y1, .string y2, .int .i64 y3])).run Tryd.prog w = .ok (eqLB (x1, x2, x3) (y1, y2, y3)) w := by
  have hS : Tryd.prog.underlying 41 = some (.struct (Tryd.prog.fieldsOf 41)) := by kernel_rfl
  have hp : Tryd.prog.stoodInHeld 41 = false := by kernel_rfl
  have u1 := Tryd.underlying39
  have u2 := Tryd.underlying3
  have u3 := Tryd.underlying9
  have a1 := Tryd.isAgg39
  have a2 := Tryd.isAgg3
  have a3 := Tryd.isAgg9
  have z1 := Tryd.sizeOf39
  have z2 := Tryd.sizeOf3
  have z3 := Tryd.sizeOf9
  rw [show (10000 : Nat) = 9999 + 1 from rfl, run_equalIn_agg w 9999 41 _ _ hS hp]
  simp only [Program.fieldsOf, Tryd.underlying41]
  go_simp
  unfold eqLB
  cases h1 : (x1 == y1) <;> cases h2 : (x2.toList == y2.toList) <;> cases h3 : (x3 == y3) <;> simp_all
theorem neL (x1 x3 y1 y3 : Int) (x2 y2 : ByteArray) (w : World) :
    (binOp .neq 41 (.agg #[.int .u8 x1, .string x2, .int .i64 x3]) (.agg #[.int .u8 y1, .string y2, .int .i64 y3])).run Tryd.prog w = .ok (.bool (!eqLB (x1, x2, x3) (y1, y2, y3))) w := by
  rw [run_neq_struct, eqInL]
  rfl

def eqFB (x y : Int × Int) : Bool := x.1 == y.1 && x.2 == y.2
theorem eqGuardF : Tryd.prog.eqGuardType Tryd.prog.depth 26 = false := by kernel_rfl
theorem eqInF (x1 x2 y1 y2 : Int) (w : World) :
    (Op.equalIn 10000 26 (.agg #[.int .i64 x1, .int .i64 x2]) (.agg #[.int .i64 y1, .int .i64 y2])).run Tryd.prog w = .ok (eqFB (x1, x2) (y1, y2)) w := by
  have hS : Tryd.prog.underlying 26 = some (.struct (Tryd.prog.fieldsOf 26)) := by kernel_rfl
  have hp : Tryd.prog.stoodInHeld 26 = false := by kernel_rfl
  have u1 := Tryd.underlying24
  have u2 := Tryd.underlying3
  have a1 := Tryd.isAgg24
  have a2 := Tryd.isAgg3
  have z1 := Tryd.sizeOf24
  have z2 := Tryd.sizeOf3
  rw [show (10000 : Nat) = 9999 + 1 from rfl, run_equalIn_agg w 9999 26 _ _ hS hp]
  simp only [Program.fieldsOf, Tryd.underlying26]
  go_simp
  unfold eqFB
  cases h1 : (x1 == y1) <;> cases h2 : (x2 == y2) <;> simp_all
theorem eqF (x1 x2 y1 y2 : Int) (w : World) :
    (binOp .eql 26 (.agg #[.int .i64 x1, .int .i64 x2]) (.agg #[.int .i64 y1, .int .i64 y2])).run Tryd.prog w = .ok (.bool (eqFB (x1, x2) (y1, y2))) w := by
  rw [run_eql_struct, eqInF]
  rfl
theorem neF (x1 x2 y1 y2 : Int) (w : World) :
    (binOp .neq 26 (.agg #[.int .i64 x1, .int .i64 x2]) (.agg #[.int .i64 y1, .int .i64 y2])).run Tryd.prog w = .ok (.bool (!eqFB (x1, x2) (y1, y2))) w := by
  rw [run_neq_struct, eqInF]
  rfl
theorem eqFB_self (a b : Int) : eqFB (a, b) (a, b) = true := by simp [eqFB]
theorem eqLB_self (a c : Int) (b : ByteArray) : eqLB (a, b, c) (a, b, c) = true := by simp [eqLB]

abbrev ex1 : ByteArray := ⟨#[114, 117, 108, 101, 32, 97, 123, 112, 40, 63, 120, 41, 61, 62, 125, 32, 35, 32, 101, 110, 100]⟩
abbrev ex2 : ByteArray := ⟨#[97, 33]⟩
theorem ex1_told : (toldOf ex1.data.toList).1.length = 10 ∧ (toldOf ex1.data.toList).2 = (0, 0) := by constructor <;> decide +kernel
theorem ex2_told : (toldOf ex2.data.toList).1.length = 0 ∧ (toldOf ex2.data.toList).2 = (200, 1) := by constructor <;> decide +kernel
theorem ex1_cells : (lexCs (toldOf ex1.data.toList).1)[0]? = some (.int .u8 1) ∧ (lexCs (toldOf ex1.data.toList).1)[3]? = some (.int .u8 2) ∧ (lexCs (toldOf ex1.data.toList).1)[15]? = some (.int .u8 3) ∧ (lexCs (toldOf ex1.data.toList).1)[16]? = some (.string ⟨#[120]⟩) ∧ (lexCs (toldOf ex1.data.toList).1)[22]? = some (.string ⟨#[61, 62]⟩) ∧ (lexCs (toldOf ex1.data.toList).1)[27]? = some (.int .u8 7) ∧ (lexCs (toldOf ex1.data.toList).1)[29]? = some (.int .i64 21) := by
  refine ⟨?_, ?_, ?_, ?_, ?_, ?_, ?_⟩ <;> kernel_rfl

/-- What a told slice holds. -/
theorem told_cells {w' : World} {base n c : Nat} {ao : Option Addr} {xs : List Value} (h : w'.ownsRow base 41 3 (.slice ao n c) n xs) (hn : 0 < n) : ∃ g, ao = some ⟨g, 0, none⟩ ∧ base ≤ g ∧ g < w'.heap.size ∧ n ≤ c ∧ ∀ (j : Nat) (u : Value), xs[j]? = some u → w'.cell? ⟨g, j, none⟩ = some u := by
  rcases h.2 with ⟨h1, h2⟩ | ⟨g, cap, cur, h1, hb, hg, hnc, _⟩
  · omega
  · simp only [Value.slice.injEq] at h1
    obtain ⟨rfl, _, rfl⟩ := h1
    refine ⟨g, rfl, hb, lt_of_heap hg, hnc, fun j u hu => ?_⟩
    have := h.cells (g := g) rfl j u hu
    rwa [Addr.add_lit, Nat.zero_add] at this

theorem told_ex1 (w : World) (he : Errs w) :
    Calls Tryd.prog 9 #[.string ex1] w fun e w' => ∃ g c, e = .returned (.tuple #[.slice (some ⟨g, 0, none⟩) 10 c, .agg #[.int .i64 0, .int .i64 0]]) ∧ g < w'.heap.size ∧
      w'.cell? ⟨g, 0, none⟩ = some (.int .u8 1) ∧ w'.cell? ⟨g, 3, none⟩ = some (.int .u8 2) ∧ w'.cell? ⟨g, 15, none⟩ = some (.int .u8 3) ∧ w'.cell? ⟨g, 16, none⟩ = some (.string ⟨#[120]⟩) ∧ w'.cell? ⟨g, 22, none⟩ = some (.string ⟨#[61, 62]⟩) ∧ w'.cell? ⟨g, 27, none⟩ = some (.int .u8 7) ∧ w'.cell? ⟨g, 29, none⟩ = some (.int .i64 21) ∧ Below w.heap.size w w' := by
  refine (tokens_any ex1 w he).mono ?_
  rintro e w' ⟨ao, c, rfl, hrow, hb⟩
  obtain ⟨h1, h2, h3, h4, h5, h6, h7⟩ := ex1_cells
  obtain ⟨e1, e2⟩ := ex1_told
  rw [e1] at hrow ⊢
  rw [e2]
  generalize lexCs (toldOf ex1.data.toList).1 = xs at hrow h1 h2 h3 h4 h5 h6 h7
  obtain ⟨g, rfl, _, hg, _, hc⟩ := told_cells hrow (by decide)
  exact ⟨g, c, rfl, hg, hc _ _ h1, hc _ _ h2, hc _ _ h3, hc _ _ h4, hc _ _ h5, hc _ _ h6, hc _ _ h7, hb⟩
theorem told_ex2 (w : World) (he : Errs w) :
    Calls Tryd.prog 9 #[.string ex2] w fun e w' => ∃ ao c, e = .returned (.tuple #[.slice ao 0 c, .agg #[.int .i64 200, .int .i64 1]]) ∧ Below w.heap.size w w' := by
  refine (tokens_any ex2 w he).mono ?_
  rintro e w' ⟨ao, c, rfl, hrow, hb⟩
  obtain ⟨e1, e2⟩ := ex2_told
  rw [e1, e2]
  exact ⟨ao, c, rfl, hb⟩

set_option maxRecDepth 100000 in
set_option maxHeartbeats 4000000 in
theorem awake_any (w : World) (he : Errs w) : Calls Tryd.prog 8 #[] w (YesP w) := by
  have K1 := Lib.hid (told_ex1 w he)
  have HE := Lib.hid he
  have hq := eqF
  have hg := eqGuardF
  clear he
  go_enter Tryd.func8, Tryd.ntmps8
  go_wp2_with (go_at_call 9; refine (K1.out).mono ?_; clear K1; rintro e w1 ⟨g, c, rfl, hgl, h1, h2, h3, h4, h5, h6, h7, hb⟩; have HB := Lib.hid hb; refine Hid.out ?_)
  have HGL := Lib.hid hgl
  have K2 := Lib.hid (fun w' (h : Errs w') => told_ex2 w' h)
  have HE1 := Lib.hid (HE.out.below hb)
  clear hb
  have hgn : g ≠ w1.heap.size := by omega
  refine Lib.hid ?_
  go_wp2_with (go_at_call 9; refine (K2.out _ (HE1.out.below (below_own _))).mono ?_; rintro e w2 ⟨ao2, c2, rfl, hb2⟩; have HB2 := Lib.hid hb2; refine Hid.out ?_)
  have hz := hb2.size
  have hl2 : g < w2.heap.size := by simp at hz; omega
  have HZ : Hid (w1.heap.size < w2.heap.size) := by unfold Hid; simp at hz; omega
  have hk : ∀ j, w2.cell? ⟨g, j, none⟩ = w1.cell? ⟨g, j, none⟩ := fun j => (hb2.cell (p := ⟨g, j, none⟩) (show g < (w1.alloc _).heap.size by simp only [World.size_alloc]; omega)).trans (World.cell?_alloc_lt w1 _ ⟨g, j, none⟩ HGL.out)
  have k1 := (hk 0).trans h1
  have k2 := (hk 3).trans h2
  have k3 := (hk 15).trans h3
  have k4 := (hk 16).trans h4
  have k5 := (hk 22).trans h5
  have k6 := (hk 27).trans h6
  have k7 := (hk 29).trans h7
  have k8 : w2.cell? ⟨w1.heap.size, 0, none⟩ = some (.int .i64 0) := ((bret hb2).1 0).trans (cells_made w1 _ _ 0 _ rfl)
  have hn2 : g ≠ w2.heap.size := by omega
  have hn3 : w1.heap.size ≠ w2.heap.size := by have := HZ.out; omega
  have hz1 : w1.heap.size < w2.heap.size := HZ.out
  have HB2 := Lib.hid hb2
  clear h1 h2 h3 h4 h5 h6 h7 hk hb2 hz hgn hgl K2
  refine Lib.hid ?_
  go_wp2
  go_ret
  exact ⟨rfl, below_new (below_step (below_new HB.out _) (by simpa using HB2.out)) _⟩
end Go.Proofs.YtebfclanamoldaaDoor
