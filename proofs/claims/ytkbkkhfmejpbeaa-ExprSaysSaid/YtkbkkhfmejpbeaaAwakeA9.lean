/- The law's own expressions: constants, operations of two. -/
import Derived.Test.YtkbkkhfmejpbeaaEvalB9
namespace Go.Proofs.Ytkbkkhfmejpbeaa
open Go.RowKit

abbrev numX (n : Int) : X := .mk 1 1 n ⟨#[]⟩ 0 0 []
abbrev opX (o : Int) (a b : X) : X := .mk 3 0 0 ⟨#[]⟩ 0 o [a, b]
theorem kids_leaf {B : Nat} {w : World} {t : X} (h : t.kids = []) : Kids9 B w t (.slice none 0 0) :=
  ⟨none, 0, 0, 0, (by rw [h]; rfl), (by rw [h]; exact Nat.le_refl _), Nat.zero_le _, (fun hp => by rw [h] at hp; cases hp), (fun i hi => by rw [h] at hi; cases hi)⟩

set_option maxHeartbeats 1000000 in
theorem numberX_any (n : Int) (w : World) :
    Calls Try.prog 21 #[.int .i64 n] w fun e w' => e = .returned (.agg #[.int .u8 1, .int .u8 1, .int .i64 n, .string ⟨#[]⟩, .int .i64 0, .int .u8 0, .slice none 0 0]) ∧ Below w.heap.size w w' := by
  have HB := Lib.hid (below_own (w := w) (.cells #[.int .u8 1, .int .u8 1, .int .i64 n, .string ⟨#[]⟩, .int .i64 0, .int .u8 0, .slice none 0 0] 29))
  go_enter Try.func21, Try.ntmps21
  go_wp2_with fail
  exact bodyPost_ret (v := .agg #[.int .u8 1, .int .u8 1, .int .i64 n, .string ⟨#[]⟩, .int .i64 0, .int .u8 0, .slice none 0 0]) (by simp [results, Try.results21, go_sem]) rfl ⟨rfl, HB.out⟩

/-- The cells of an expression's value. -/
abbrev seven (t : X) (v : Value) : List Value := [.int .u8 t.kind, .int .u8 t.vk, .int .i64 t.vn, .string t.vs, .int .i64 t.var, .int .u8 t.op, v]
theorem kids_two {w : World} (a b : X) (va vb : Value) (o : Int) (g : Nat) (hg : w.heap[g]? = some (.cells (seven a va ++ seven b vb).toArray 29 (0, 0))) (ha : Kids9 w.heap.size w a va) (hb : Kids9 w.heap.size w b vb) : Kids9 w.heap.size w (opX o a b) (.slice (some ⟨g, 0, none⟩) 2 2) := by
  refine ⟨some ⟨g, 0, none⟩, 2, g, 0, rfl, Nat.le_refl _, by unfold maxLen; omega, fun _ => rfl, fun i hi => ?_⟩
  have hc := fun j => Lib.cell_of_heap hg j
  have hi2 : i < 2 := hi
  match i, hi2 with
  | 0, _ => exact ha.at (lt_of_heap hg) ⟨_, _, hg⟩ (hc 0) (hc 1) (hc 2) (hc 3) (hc 4) (hc 5) (hc 6)
  | 1, _ => exact hb.at (lt_of_heap hg) ⟨_, _, hg⟩ (hc 7) (hc 8) (hc 9) (hc 10) (hc 11) (hc 12) (hc 13)

set_option maxRecDepth 100000 in
set_option maxHeartbeats 2000000 in
theorem op_any (o : Int) (a b : X) (va vb : Value) (w : World) (ha : Kids9 w.heap.size w a va) (hb : Kids9 w.heap.size w b vb) :
    Calls Try.prog 20 #[.int .u8 o, agg a va, agg b vb] w fun e w' => ∃ g, e = .returned (.agg #[.int .u8 3, .int .u8 0, .int .i64 0, .string ⟨#[]⟩, .int .i64 0, .int .u8 o, .slice (some ⟨g, 0, none⟩) 2 2]) ∧ Kids9 w'.heap.size w' (opX o a b) (.slice (some ⟨g, 0, none⟩) 2 2) ∧ Below w.heap.size w w' := by
  obtain ⟨aa, ca, -, -, rfl, -⟩ := ha.ex
  obtain ⟨ab, cb, -, -, rfl, -⟩ := hb.ex
  have HA := Lib.hid ha
  have HBk := Lib.hid hb
  clear ha hb
  unfold agg
  go_enter Try.func20, Try.ntmps20
  go_wp2_with fail
  have hc2 := alloc_keep (alloc_at (w := ((w.alloc (.cells #[.int .u8 a.kind, .int .u8 a.vk, .int .i64 a.vn, .string a.vs, .int .i64 a.var, .int .u8 a.op, .slice aa a.kids.length ca] 29)).alloc (.cells #[.int .u8 b.kind, .int .u8 b.vk, .int .i64 b.vn, .string b.vs, .int .i64 b.var, .int .u8 b.op, .slice ab b.kids.length cb] 29))) (n := w.heap.size + 1 + 1) (by simp) (.cells #[.int .u8 3, .int .u8 0, .int .i64 0, .string ⟨#[]⟩, .int .i64 0, .int .u8 o, .slice (some ⟨w.heap.size + 1 + 1 + 1, 0, none⟩) 2 2] 29)) (.cells (seven a (.slice aa a.kids.length ca) ++ seven b (.slice ab b.kids.length cb)).toArray 29)
  have hd2 := alloc_at (w := (((w.alloc (.cells #[.int .u8 a.kind, .int .u8 a.vk, .int .i64 a.vn, .string a.vs, .int .i64 a.var, .int .u8 a.op, .slice aa a.kids.length ca] 29)).alloc (.cells #[.int .u8 b.kind, .int .u8 b.vk, .int .i64 b.vn, .string b.vs, .int .i64 b.var, .int .u8 b.op, .slice ab b.kids.length cb] 29)).alloc (.cells #[.int .u8 3, .int .u8 0, .int .i64 0, .string ⟨#[]⟩, .int .i64 0, .int .u8 o, .slice (some ⟨w.heap.size + 1 + 1 + 1, 0, none⟩) 2 2] 29))) (n := w.heap.size + 1 + 1 + 1) (by simp) (.cells (seven a (.slice aa a.kids.length ca) ++ seven b (.slice ab b.kids.length cb)).toArray 29)
  have n0 := Lib.cell_of_heap hc2 0
  have n1 := Lib.cell_of_heap hc2 1
  have n2 := Lib.cell_of_heap hc2 2
  have n3 := Lib.cell_of_heap hc2 3
  have n4 := Lib.cell_of_heap hc2 4
  have n5 := Lib.cell_of_heap hc2 5
  have n6 := Lib.cell_of_heap hc2 6
  have hb4 : Below w.heap.size w ((((w.alloc (.cells #[.int .u8 a.kind, .int .u8 a.vk, .int .i64 a.vn, .string a.vs, .int .i64 a.var, .int .u8 a.op, .slice aa a.kids.length ca] 29)).alloc (.cells #[.int .u8 b.kind, .int .u8 b.vk, .int .i64 b.vn, .string b.vs, .int .i64 b.var, .int .u8 b.op, .slice ab b.kids.length cb] 29)).alloc (.cells #[.int .u8 3, .int .u8 0, .int .i64 0, .string ⟨#[]⟩, .int .i64 0, .int .u8 o, .slice (some ⟨w.heap.size + 1 + 1 + 1, 0, none⟩) 2 2] 29)).alloc (.cells (seven a (.slice aa a.kids.length ca) ++ seven b (.slice ab b.kids.length cb)).toArray 29)) := (((below_own _).alloc (by simp) _).alloc (by simp; omega) _).alloc (by simp; omega) _
  exact bodyPost_ret (v := .agg #[.int .u8 3, .int .u8 0, .int .i64 0, .string ⟨#[]⟩, .int .i64 0, .int .u8 o, .slice (some ⟨w.heap.size + 1 + 1 + 1, 0, none⟩) 2 2]) (by simp [results, Try.results20, go_sem]) rfl ⟨w.heap.size + 1 + 1 + 1, rfl, kids_two a b _ _ o _ hd2 (HA.out.up hb4 hb4.size) (HBk.out.up hb4 hb4.size), hb4⟩
end Go.Proofs.Ytkbkkhfmejpbeaa
