/- ValueTells is true: right, order, texts, truth, of any two values. -/
import Derived.Test.YtcmbedopmkodmaaDoorRefCmp
import Derived.Test.YtcmbedopmkodmaaDoorTexts
import Derived.Test.YtcmbedopmkodmaaDoorLight
import Derived.Test.YtcmbedopmkodmaaDoorAwake
namespace Go.Proofs.YtcmbedopmkodmaaDoor
open Go.RowKit

theorem tab_on {w W : World} {nm : String} {k : IntKind} {zs : List Int} (h : Lib.TabBelow Tryd.prog w.heap.size w nm k zs) (hb : Below w.heap.size w W) : Lib.TabBelow Tryd.prog W.heap.size W nm k zs :=
  fun w' h' => h w' (below_step hb h')

theorem rightG (k n : Int) (s : ByteArray) (w : World) (hs : s.size ≤ maxLen) :
    Calls Tryd.prog 14 #[.agg #[.int .u8 k, .int .i64 n, .string s]] w fun e w' => e = .returned (.bool (rightB k n s)) ∧ Gr w w' :=
  (right_any k n s w hs).mono fun _ _ ⟨h, h'⟩ => ⟨h, h' ▸ (Gr.refl w).alloc _⟩
theorem refRightG (k n : Int) (s : ByteArray) (w : World) (hs : s.size ≤ maxLen) :
    Calls Tryd.prog 15 #[.agg #[.int .u8 k, .int .i64 n, .string s]] w fun e w' => e = .returned (.bool (rightB k n s)) ∧ Gr w w' :=
  (refRight_any k n s w hs).mono fun _ _ ⟨h, h'⟩ => ⟨h, h' ▸ (Gr.refl w).alloc _⟩
theorem truthG (b : Bool) (w : World) :
    Calls Tryd.prog 20 #[.bool b] w fun e w' => e = .returned (.agg #[.int .u8 1, .int .i64 (truthN b), .string ⟨#[]⟩]) ∧ Gr w w' :=
  (truth_any b w).mono fun _ _ ⟨h, h'⟩ => ⟨h, h' ▸ ((Gr.refl w).alloc _).alloc _⟩
theorem refTruthG (b : Bool) (w : World) :
    Calls Tryd.prog 21 #[.bool b] w fun e w' => e = .returned (.agg #[.int .u8 1, .int .i64 (truthN b), .string ⟨#[]⟩]) ∧ Gr w w' :=
  (refTruth_any b w).mono fun _ _ ⟨h, h'⟩ => ⟨h, h' ▸ ((Gr.refl w).alloc _).alloc _⟩

theorem gr_grow (w : World) (n : Nat) (os : Array Obj) : Gr w (Sort.grow (w.drewN n) os) := ⟨n, os, rfl⟩

set_option maxRecDepth 100000 in
set_option maxHeartbeats 4000000 in
theorem tells_any (xk xn yk yn : Int) (xs ys : ByteArray) (w : World) (hx : xs.size ≤ maxLen) (hy : ys.size ≤ maxLen) (ix : In64 xn)
    (ht : Lib.TabBelow Tryd.prog w.heap.size w "internal/strconv.uint64pow10" .u64 Lib.pow10Tab) :
    Calls Tryd.prog 4 #[.agg #[.int .u8 xk, .int .i64 xn, .string xs], .agg #[.int .u8 yk, .int .i64 yn, .string ys]] w fun e w' => e = .returned (.bool true) ∧ Below w.heap.size w w' := by
  have HA := Lib.hid awake_any
  have HL := Lib.hid (fun W (g : Nat) (hg : RowAt W g 0 [(xk, xn, xs), (yk, yn, ys)]) => light_any g 0 2 [(xk, xn, xs), (yk, yn, ys)] W (by show 2 ≤ _; decide) hg (by intro z hz; simp only [List.mem_cons, List.not_mem_nil, or_false] at hz; rcases hz with rfl | rfl; exact hx; exact hy))
  have C1 := Lib.hid (fun W (_ : Below w.heap.size w W) => rightG xk xn xs W hx)
  have C2 := Lib.hid (fun W (_ : Below w.heap.size w W) => refRightG xk xn xs W hx)
  have C3 := Lib.hid (fun W (_ : Below w.heap.size w W) => compare_any xk xn yk yn xs ys W hx hy)
  have C4 := Lib.hid (fun W (_ : Below w.heap.size w W) => refCompare_any xk xn yk yn xs ys W hx hy)
  have C5 := Lib.hid (fun W (h : Below w.heap.size w W) => text_all xk xn xs W hx ix (tab_on ht h))
  have C6 := Lib.hid (fun W (_ : Below w.heap.size w W) => refText_all xk xn xs W hx ix)
  have C7 := Lib.hid (fun b W (_ : Below w.heap.size w W) => truthG b W)
  have C8 := Lib.hid (fun b W (_ : Below w.heap.size w W) => refTruthG b W)
  generalize rightB xk xn xs = r at C1 C2
  generalize cmpV (xk, xn, xs) (yk, yn, ys) = c at C3 C4
  generalize textS (xk, xn, xs) = t at C5 C6
  generalize lightB [(xk, xn, xs), (yk, yn, ys)] = lb at HL
  have heq := fun W => eqV xk xn yk yn xs ys W
  generalize eqvB (xk, xn, xs) (yk, yn, ys) = q at heq
  have heq2 := fun W => eqV 1 (truthN q) 1 (truthN q) ⟨#[]⟩ ⟨#[]⟩ W
  rw [(eqvB_iff (1, truthN q, ⟨#[]⟩) (1, truthN q, ⟨#[]⟩)).2 rfl] at heq2
  have hr : (r == r) = true := by simp
  have hcc : (c == c) = true := by simp
  have htt : (t.toList == t.toList) = true := by simp
  have hg := eqGuardV
  clear hx hy ix ht
  go_enter Tryd.func4, Tryd.ntmps4
  go_wp2_with fail
  refine (HA.out _).mono ?_
  rintro e w1 ⟨rfl, hb1⟩
  obtain ⟨hc1, hf1⟩ := bcell hb1
  have hz1 : w.heap.size + 1 < w1.heap.size := by have := hb1.size; simp at this; omega
  have hz0 : w.heap.size < w1.heap.size := by omega
  have HB1 : Hid (Below w.heap.size w w1) := below_step (below_new (below_own _) _) hb1
  clear hb1 HA
  go_wp2_with fail
  refine (HL.out _ _ ?_).mono ?_
  · exact row_made2 w1 _ (xk, xn, xs) (yk, yn, ys)
  rintro e w2 ⟨rfl, rfl⟩
  cases lb with
  | false =>
    go_wp2
    go_ret
    exact ⟨rfl, below_new HB1.out _⟩
  | true =>
    go_wp2_with fail
    obtain ⟨w0, hw0⟩ : ∃ w0, w0 = w1.alloc (.cells #[.int .u8 xk, .int .i64 xn, .string xs, .int .u8 yk, .int .i64 yn, .string ys] 29) := ⟨_, rfl⟩
    rw [← hw0]
    have HB0 : Hid (Below w.heap.size w w0) := by rw [hw0]; exact below_new HB1.out _
    have A0 : Hid (At w0 w.heap.size 0 (xk, xn, xs)) := by rw [hw0]; constructor <;> go_simp
    have B0 : Hid (At w0 (w.heap.size + 1) 0 (yk, yn, ys)) := by rw [hw0]; constructor <;> go_simp
    have l0 : w.heap.size + 1 < w0.heap.size := by rw [hw0]; simp; omega
    clear hw0 HB1 hc1 hf1 hz1 hz0
    have HB : Hid (∀ n os, Below w.heap.size w (Sort.grow (w0.drewN n) os)) := fun n os => below_step HB0.out (gr_grow w0 n os).below
    obtain ⟨ba, hba⟩ : ∃ b, b = w.heap.size := ⟨_, rfl⟩
    rw [← hba] at A0 B0 l0 ⊢
    clear hba
    have a1 : ∀ n os, (Sort.grow (w0.drewN n) os).cell? ⟨ba, 0, none⟩ = some (.int .u8 xk) := cell_grown (by show ba < _; omega) A0.out.k
    have a2 : ∀ n os, (Sort.grow (w0.drewN n) os).cell? ⟨ba, 1, none⟩ = some (.int .i64 xn) := cell_grown (by show ba < _; omega) A0.out.n
    have a3 : ∀ n os, (Sort.grow (w0.drewN n) os).cell? ⟨ba, 2, none⟩ = some (.string xs) := cell_grown (by show ba < _; omega) A0.out.s
    have b1 : ∀ n os, (Sort.grow (w0.drewN n) os).cell? ⟨ba + 1, 0, none⟩ = some (.int .u8 yk) := cell_grown (by show ba + 1 < _; omega) B0.out.k
    have b2 : ∀ n os, (Sort.grow (w0.drewN n) os).cell? ⟨ba + 1, 1, none⟩ = some (.int .i64 yn) := cell_grown (by show ba + 1 < _; omega) B0.out.n
    have b3 : ∀ n os, (Sort.grow (w0.drewN n) os).cell? ⟨ba + 1, 2, none⟩ = some (.string ys) := cell_grown (by show ba + 1 < _; omega) B0.out.s
    clear A0 B0
    have mixed : Tryd.prog.follows .mixedOrders = true := by kernel_rfl
    go_quiet_grown (first | (go_at_call 14; exact Calls.grown_of ((C1.out _ (HB.out _ _)).mono fun _ _ ⟨h, g⟩ => ⟨h, g.out⟩)) | (go_at_call 15; exact Calls.grown_of ((C2.out _ (HB.out _ _)).mono fun _ _ ⟨h, g⟩ => ⟨h, g.out⟩)) | (go_at_call 16; exact Calls.grown_of ((C3.out _ (HB.out _ _)).mono fun _ _ ⟨h, g⟩ => ⟨h, g.out⟩)) | (go_at_call 17; exact Calls.grown_of ((C4.out _ (HB.out _ _)).mono fun _ _ ⟨h, g⟩ => ⟨h, g.out⟩)) | (go_at_call 18; exact Calls.grown_of ((C5.out _ (HB.out _ _)).mono fun _ _ ⟨h, g⟩ => ⟨h, g.out⟩)) | (go_at_call 19; exact Calls.grown_of ((C6.out _ (HB.out _ _)).mono fun _ _ ⟨h, g⟩ => ⟨h, g.out⟩)) | (go_at_call 20; exact Calls.grown_of ((C7.out _ _ (HB.out _ _)).mono fun _ _ ⟨h, g⟩ => ⟨h, g.out⟩)) | (go_at_call 21; exact Calls.grown_of ((C8.out _ _ (HB.out _ _)).mono fun _ _ ⟨h, g⟩ => ⟨h, g.out⟩)))
    go_wp2
    go_ret
    exact ⟨rfl, HB.out _ _⟩
end Go.Proofs.YtcmbedopmkodmaaDoor
