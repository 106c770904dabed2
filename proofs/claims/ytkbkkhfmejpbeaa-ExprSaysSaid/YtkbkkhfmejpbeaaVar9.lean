/- What a variable says, what an operation says: the program's closures. -/
import Derived.Test.YtkbkkhfmejpbeaaSaying9
namespace Go.Proofs.Ytkbkkhfmejpbeaa
open Go.RowKit

abbrev zeroCells : Array Value := #[.int .u8 0, .int .i64 0, .string ⟨#[]⟩]

set_option maxHeartbeats 2000000 in
theorem says2_out (a : Addr) (t : X) (v : Value) (vb : Nat) (vo : Option Addr) (vc : Nat) (vs : List V3) (w : World) (ha : At9 w.heap.size w a t) (hv : w.heap[vb]? = some (.cells #[.slice vo vs.length vc] 30 (0, 0))) (hr : ¬ (0 ≤ t.var ∧ t.var < (vs.length : Int))) :
    Calls Try.prog 42 #[.pointer (some a), v, .pointer (some ⟨vb, 0, none⟩)] w (DoPost (zeroT, 2) w) := by
  obtain ⟨sb, o, ao, c, kb, ko, rfl, hb, c0, c1, c2, c3, c4, c5, c6, -⟩ := ha.cells
  have HB := Lib.hid (below_own (w := w) (.cells zeroCells 25))
  have HN := Lib.hid (alloc_at (w := w) rfl (.cells zeroCells 25))
  have hne : sb ≠ w.heap.size := by omega
  have hvl := lt_of_heap hv
  have hve : vb ≠ w.heap.size := by omega
  have v0 := Lib.cell_of_heap hv 0
  have mixed : Try.prog.follows .mixedOrders = true := by kernel_rfl
  unfold DoPost zeroCells at *
  clear ha c0 c1 c2 c3 c5 c6 hv
  generalize t.var = i at c4 hr ⊢
  generalize vs.length = n at v0 hr ⊢
  by_cases hi : i < 0
  · have hd : decide (i < 0) = true := by simp; omega
    clear hr
    go_enter Try.func42, Try.ntmps42
    go_wp2_with fail
    go_quiet (fail)
    go_wp2_with fail
    exact val_end Try.results42 rfl rfl rfl HN.out rfl fun W3 _ g3 => ⟨rfl, (RowKit_drewN HB.out nq).grown g3 HB.out.size (fun q hq => by obtain rfl := Option.some.inj hq; omega)⟩
  · have hd : decide (i < 0) = false := by simp; omega
    have hd2 : decide ((n : Int) ≤ i) = true := by simp; omega
    clear hr
    go_enter Try.func42, Try.ntmps42
    go_wp2_with fail
    go_quiet (fail)
    go_wp2_with fail
    exact val_end Try.results42 rfl rfl rfl HN.out rfl fun W3 _ g3 => ⟨rfl, (RowKit_drewN HB.out nq).grown g3 HB.out.size (fun q hq => by obtain rfl := Option.some.inj hq; omega)⟩

set_option maxHeartbeats 4000000 in
theorem says2_in (a : Addr) (t : X) (v : Value) (vb : Nat) (vo : Option Addr) (vc : Nat) (vs : List V3) (w : World) (ha : At9 w.heap.size w a t) (hv : w.heap[vb]? = some (.cells #[.slice vo vs.length vc] 30 (0, 0))) (hw : Vars w.heap.size w vo vc vs) (hr : 0 ≤ t.var ∧ t.var < (vs.length : Int)) :
    Calls Try.prog 42 #[.pointer (some a), v, .pointer (some ⟨vb, 0, none⟩)] w (DoPost (ifR (vs.getD t.var.toNat zeroT)) w) := by
  obtain ⟨sb, o, ao, c, kb, ko, rfl, hb, c0, c1, c2, c3, c4, c5, c6, -⟩ := ha.cells
  have HB := Lib.hid (below_own (w := w) (.cells zeroCells 25))
  have HN := Lib.hid (alloc_at (w := w) rfl (.cells zeroCells 25))
  have hne : sb ≠ w.heap.size := by omega
  have hvl := lt_of_heap hv
  have hve : vb ≠ w.heap.size := by omega
  have v0 := Lib.cell_of_heap hv 0
  obtain ⟨rb, off, rfl, hrb, hrow⟩ := hw.row (by omega)
  have hre : rb ≠ w.heap.size := by omega
  obtain ⟨k, hk⟩ : ∃ k : Nat, t.var = (k : Int) := ⟨t.var.toNat, by omega⟩
  rw [hk] at c4 hr ⊢
  have hkl : k < vs.length := by omega
  rw [show vs.getD (Int.toNat (k : Int)) zeroT = vs[k] by rw [List.getD_eq_getElem?_getD, Int.toNat_natCast, List.getElem?_eq_getElem hkl]; rfl]
  have hfine := hw.fine _ (List.getElem_mem hkl)
  have hat := hrow k hkl
  have hfew := hw.few
  generalize vs[k] = x at hfine hat ⊢
  obtain ⟨xk, xn, xs⟩ := x
  obtain ⟨a1, a2, a3⟩ := hat
  have HR := Lib.hid (fun W => ifRight_any xk xn xs W hfine.2)
  have mixed : Try.prog.follows .mixedOrders = true := by kernel_rfl
  unfold DoPost zeroCells at *
  clear ha c0 c1 c2 c3 c5 c6 hv hw hrow hfine hk
  generalize ifR (xk, xn, xs) = r at HR ⊢
  have hkn : (k : Int) < (vs.length : Int) := hr.2
  generalize vs.length = n at v0 hfew hr hkl hkn ⊢
  have hd : decide ((k : Int) < 0) = false := by simp
  have hd2 : decide ((n : Int) ≤ (k : Int)) = false := by simp; omega
  have hd3 : decide (n ≤ k) = false := by simp; omega
  clear hr
  go_enter Try.func42, Try.ntmps42
  go_wp2_with fail
  go_quiet (fail)
  go_wp2_with fail
  go_region_with (go_at_call 41; go_must (refine (HR.out _).mono ?_; rintro e w1 ⟨rfl, hg⟩; have HN1 := Lib.hid ((hg.block w.heap.size (by simp)).trans HN.out); have n0 := Lib.cell_of_heap HN1.out 0; have n1 := Lib.cell_of_heap HN1.out 1; have n2 := Lib.cell_of_heap HN1.out 2; have nf := fun j => Lib.frozen_of_heap HN1.out j; have HG := Lib.hid (show Below (w.heap.size + 1) _ w1 from hg.mono (by simp)); clear hg))
  all_goals (go_wp2_with fail)
  all_goals exact val_end Try.results42 rfl rfl rfl HN1.out rfl fun W3 _ g3 => ⟨rfl, ((RowKit_drewN (RowKit_drewN HB.out nq) 1).trans (HG.out.mono (Nat.le_succ _))).grown g3 (Nat.le_trans HB.out.size HG.out.size) (fun q hq => by obtain rfl := Option.some.inj hq; omega)⟩

theorem says2_any (a : Addr) (t : X) (v : Value) (vb : Nat) (vo : Option Addr) (vc : Nat) (vs : List V3) (w : World) (ha : At9 w.heap.size w a t) (hv : w.heap[vb]? = some (.cells #[.slice vo vs.length vc] 30 (0, 0))) (hw : Vars w.heap.size w vo vc vs) :
    Calls Try.prog 42 #[.pointer (some a), v, .pointer (some ⟨vb, 0, none⟩)] w (DoPost (if 0 ≤ t.var ∧ t.var < (vs.length : Int) then ifR (vs.getD t.var.toNat zeroT) else (zeroT, 2)) w) := by
  by_cases hr : 0 ≤ t.var ∧ t.var < (vs.length : Int)
  · rw [if_pos hr]
    exact says2_in a t v vb vo vc vs w ha hv hw hr
  · rw [if_neg hr]
    exact says2_out a t v vb vo vc vs w ha hv hr

set_option maxHeartbeats 2000000 in
/-- An operation, of values that lie in a row: nothing is asked of the row if there is none. -/
theorem says3_any (a : Addr) (t : X) (ro : Option Addr) (rc : Nat) (zs : List V3) (w : World) (ha : At9 w.heap.size w a t) (hz : zs.length ≤ 9223372036854775807) (hr : 0 < zs.length → ∃ b off, ro = some ⟨b, off, none⟩ ∧ b < w.heap.size ∧ RowAt w b off zs) (hf : Fine zs) :
    Calls Try.prog 43 #[.pointer (some a), .slice ro zs.length rc] w (DoPost (doV t.op zs) w) := by
  obtain ⟨sb, o, ao, c, kb, ko, rfl, hb, c0, c1, c2, c3, c4, c5, c6, -⟩ := ha.cells
  have HB := Lib.hid (below_own (w := w) (.cells zeroCells 25))
  have HN := Lib.hid (alloc_at (w := w) rfl (.cells zeroCells 25))
  have hne : sb ≠ w.heap.size := by omega
  have HD : Hid (∀ W, Below w.heap.size w W → Calls Try.prog 44 #[.int .u8 t.op, .slice ro zs.length rc] W (DoPost (doV t.op zs) W)) := fun W hW => by
    by_cases hl : 0 < zs.length
    · obtain ⟨b, off, rfl, hbl, hrow⟩ := hr hl
      exact do_any t.op b off rc zs W hz (Nat.lt_of_lt_of_le hbl hW.size) (hrow.later hW hbl) hf
    · obtain rfl : zs = [] := List.eq_nil_of_length_eq_zero (by omega)
      unfold doV
      cases h : knownB t.op with
      | false => rw [if_pos rfl]; exact do_unknown _ _ W h
      | true =>
        have h2 : (((([] : List V3).length : Nat) : Int) != placesN t.op) = true := by
          unfold placesN
          split <;> rfl
        rw [if_neg (by simp), if_pos h2]
        exact do_places _ _ _ _ W h h2
  unfold DoPost zeroCells at *
  clear ha c0 c1 c2 c3 c4 c6 hr hf
  generalize doV t.op zs = r at HD ⊢
  generalize t.op = q at c5 HD ⊢
  generalize zs.length = n at HD hz ⊢
  go_enter Try.func43, Try.ntmps43
  go_wp2_with (go_at_call 44; go_must (refine (HD.out _ HB.out).mono ?_; rintro e w1 ⟨rfl, hg⟩; obtain ⟨b1, b2⟩ := bret hg; have HN1 := Lib.hid ((hg.block w.heap.size (by simp)).trans HN.out); have n0 := Lib.cell_of_heap HN1.out 0; have n1 := Lib.cell_of_heap HN1.out 1; have n2 := Lib.cell_of_heap HN1.out 2; have nf := fun j => Lib.frozen_of_heap HN1.out j; have HG := Lib.hid hg; clear hg))
  exact val_end Try.results43 rfl rfl rfl HN1.out rfl fun W3 _ g3 => ⟨rfl, (HB.out.trans (HG.out.mono HB.out.size)).grown g3 (Nat.le_trans HB.out.size HG.out.size) (fun q hq => by obtain rfl := Option.some.inj hq; omega)⟩
end Go.Proofs.Ytkbkkhfmejpbeaa
