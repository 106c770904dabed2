/- PatternFills: too much of it; what does not match. -/
import Derived.Test.YtjcmbljpjimdiaaFillA10
namespace Go.Proofs.Ytjcmbljpjimdiaa
open Go.RowKit

/-- What came in. -/
structure Came10 (w : World) (c : C10) (ao : Option Addr) (ac : Nat) (f : F10) (fo : Option Addr) (fc : Nat) (e0 : E10) (ho : Option Addr) (hc : Nat) (vo : Option Addr) (vc : Nat) (v : V3) : Prop where
  args : Sl10 w.heap.size w c.args.length ao ac (cellsA c.args)
  fact : Sl10 w.heap.size w f.args.length fo fc (cellsV f.args)
  env : Env10 w.heap.size w e0 ho hc vo vc
  short1 : Short10 f.args
  short2 : Short10 e0.2
  short3 : v.2.2.size ≤ 140737488355328
  vars : ∀ a, a ∈ c.args → In64 a.var
section
variable {w : World} {c : C10} {ao : Option Addr} {ac : Nat} {xo : Option Addr} {xc : Nat} {f : F10} {fo : Option Addr} {fc : Nat} {e0 : E10} {ho : Option Addr} {hc : Nat} {vo : Option Addr} {vc : Nat} {v : V3}
def FillsP (w : World) (r : Ending) (w' : World) : Prop := r = .returned (.bool true) ∧ Below w.heap.size w w'

set_option maxRecDepth 100000 in
set_option maxHeartbeats 4000000 in
theorem fills_much (h : Came10 w c ao ac f fo fc e0 ho hc vo vc v) (hm : ¬ (c.args.length ≤ 2000 ∧ f.args.length ≤ 2000 ∧ e0.1.length ≤ 2000 ∧ e0.2.length ≤ 2000)) :
    Calls Try.prog 4 #[aggC c ao ac xo xc, aggF f fo fc, .slice ho e0.1.length hc, .slice vo e0.2.length vc, aggV v] w (FillsP w) := by
  have HAw := Lib.hid (fun W => awake_any W)
  have m1 : c.args.length ≤ 9223372036854775807 := by have := h.args.cap; have := h.args.top; unfold maxLen at this; omega
  have m2 : f.args.length ≤ 9223372036854775807 := by have := h.fact.cap; have := h.fact.top; unfold maxLen at this; omega
  have m3 : e0.1.length ≤ 9223372036854775807 := by have := h.env.has.cap; have := h.env.has.top; unfold maxLen at this; omega
  have m4 : e0.2.length ≤ 9223372036854775807 := by have := h.env.vals.cap; have := h.env.vals.top; unfold maxLen at this; omega
  obtain ⟨w0, hw0⟩ : ∃ w0, w0 = ((w.alloc (.cells (cellsC c ao ac xo xc) 33)).alloc (.cells #[.int .i64 f.id, .int .i64 f.type, .slice fo f.args.length fc] 39)).alloc (.cells #[.int .u8 v.1, .int .i64 v.2.1, .string v.2.2] 27) := ⟨_, rfl⟩
  have hb0 : Below w.heap.size w w0 := by rw [hw0]; exact below_new (below_new (below_own _) _) _
  have hs0 : w0.heap.size = w.heap.size + 3 := by rw [hw0]; simp
  obtain ⟨q1, q2, q3⟩ : w0.heap[w.heap.size]? = some (.cells (cellsC c ao ac xo xc) 33 (0, 0)) ∧ w0.heap[w.heap.size + 1]? = some (.cells #[.int .i64 f.id, .int .i64 f.type, .slice fo f.args.length fc] 39 (0, 0)) ∧ w0.heap[w.heap.size + 2]? = some (.cells #[.int .u8 v.1, .int .i64 v.2.1, .string v.2.2] 27 (0, 0)) := by
    rw [hw0]
    exact heap_three _ _ _
  have HB0 := Lib.hid hb0
  have HQ1 := Lib.hid q1
  have HQ2 := Lib.hid q2
  obtain ⟨ck, ct, cl, cx⟩ := c
  obtain ⟨fi, ft, fl⟩ := f
  obtain ⟨v1, v2, v3⟩ := v
  simp only at hm m1 m2 hw0 HQ1 HQ2
  clear h q1 q2 q3 hb0
  generalize e0.1.length = n at *
  generalize e0.2.length = m at *
  unfold FillsP
  have key : ∀ (k1 : Int), True := fun _ => trivial
  clear key
  by_cases t1 : cl.length ≤ 2000
  · have t1' : ¬ (2000 : Int) < (cl.length : Int) := by omega
    by_cases t2 : fl.length ≤ 2000
    · have t2' : ¬ (2000 : Int) < (fl.length : Int) := by omega
      by_cases t3 : n ≤ 2000
      · have t3' : ¬ (2000 : Int) < (n : Int) := by omega
        have t4 : (2000 : Int) < (m : Int) := by omega
        go_enter Try.func4, Try.ntmps4
        go_wp2_with (go_at_call 5; go_must (rw [← hw0]; clear hw0; refine (HAw.out _).mono ?_; rintro r w1 ⟨rfl, hb⟩; have HB1 := Lib.hid (HB0.out.trans (hb.mono HB0.out.size)); have y1 := (fun j => Lib.cell_of_heap ((hb.block w.heap.size (by omega)).trans HQ1.out) j); have y2 := (fun j => Lib.cell_of_heap ((hb.block (w.heap.size + 1) (by omega)).trans HQ2.out) j); clear hb))
        go_ret
        exact ⟨rfl, HB1.out⟩
      · have t3' : (2000 : Int) < (n : Int) := by omega
        clear t3 hm
        go_enter Try.func4, Try.ntmps4
        go_wp2_with (go_at_call 5; go_must (rw [← hw0]; clear hw0; refine (HAw.out _).mono ?_; rintro r w1 ⟨rfl, hb⟩; have HB1 := Lib.hid (HB0.out.trans (hb.mono HB0.out.size)); have y1 := (fun j => Lib.cell_of_heap ((hb.block w.heap.size (by omega)).trans HQ1.out) j); have y2 := (fun j => Lib.cell_of_heap ((hb.block (w.heap.size + 1) (by omega)).trans HQ2.out) j); clear hb))
        go_ret
        exact ⟨rfl, HB1.out⟩
    · have t2' : (2000 : Int) < (fl.length : Int) := by omega
      clear t2 hm
      go_enter Try.func4, Try.ntmps4
      go_wp2_with (go_at_call 5; go_must (rw [← hw0]; clear hw0; refine (HAw.out _).mono ?_; rintro r w1 ⟨rfl, hb⟩; have HB1 := Lib.hid (HB0.out.trans (hb.mono HB0.out.size)); have y1 := (fun j => Lib.cell_of_heap ((hb.block w.heap.size (by omega)).trans HQ1.out) j); have y2 := (fun j => Lib.cell_of_heap ((hb.block (w.heap.size + 1) (by omega)).trans HQ2.out) j); clear hb))
      go_ret
      exact ⟨rfl, HB1.out⟩
  · have t1' : (2000 : Int) < (cl.length : Int) := by omega
    clear t1 hm
    go_enter Try.func4, Try.ntmps4
    go_wp2_with (go_at_call 5; go_must (rw [← hw0]; clear hw0; refine (HAw.out _).mono ?_; rintro r w1 ⟨rfl, hb⟩; have HB1 := Lib.hid (HB0.out.trans (hb.mono HB0.out.size)); have y1 := (fun j => Lib.cell_of_heap ((hb.block w.heap.size (by omega)).trans HQ1.out) j); have y2 := (fun j => Lib.cell_of_heap ((hb.block (w.heap.size + 1) (by omega)).trans HQ2.out) j); clear hb))
    go_ret
    exact ⟨rfl, HB1.out⟩
end
end Go.Proofs.Ytjcmbljpjimdiaa
