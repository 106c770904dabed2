/- ValueTexts is true: one text each, one order. -/
import Derived.Test.YtcmbedopmkodmaaDoorOrder2
import Derived.Test.YtcmbedopmkodmaaDoorTells
namespace Go.Proofs.YtcmbedopmkodmaaDoor
open Go.RowKit

theorem row_made3 (w : World) (t : TypeId) (x y z : V3) : RowAt (w.alloc (.cells #[.int .u8 x.1, .int .i64 x.2.1, .string x.2.2, .int .u8 y.1, .int .i64 y.2.1, .string y.2.2, .int .u8 z.1, .int .i64 z.2.1, .string z.2.2] t)) w.heap.size 0 [x, y, z] := by
  intro j hj
  match j, hj with
  | 0, _ => exact At.made _ _ _ _ _ _ _ (cell_alloc w _ t) rfl rfl rfl
  | 1, _ => exact At.made _ _ _ _ _ _ _ (cell_alloc w _ t) rfl rfl rfl
  | 2, _ => exact At.made _ _ _ _ _ _ _ (cell_alloc w _ t) rfl rfl rfl

theorem light3 {x y z : V3} (W : World) (g : Nat) (hg : RowAt W g 0 [x, y, z]) (hx : x.2.2.size ≤ maxLen) (hy : y.2.2.size ≤ maxLen) (hz : z.2.2.size ≤ maxLen) :
    Calls Tryd.prog 9 #[.slice (some ⟨g, 0, none⟩) 3 3] W fun e w' => e = .returned (.bool (lightB [x, y, z])) ∧ W = w' :=
  light_any g 0 3 [x, y, z] W (by show 3 ≤ _; decide) hg (by
    intro v hv
    simp only [List.mem_cons, List.not_mem_nil, or_false] at hv
    rcases hv with rfl | rfl | rfl
    · exact hx
    · exact hy
    · exact hz)

set_option maxHeartbeats 2000000 in
theorem texts_heavy (xk xn yk yn zk zn : Int) (xs ys zs : ByteArray) (w : World) (hx : xs.size ≤ maxLen) (hy : ys.size ≤ maxLen) (hz : zs.size ≤ maxLen) (hlb : lightB [(xk, xn, xs), (yk, yn, ys), (zk, zn, zs)] = false) : Calls Tryd.prog 7 #[.agg #[.int .u8 xk, .int .i64 xn, .string xs], .agg #[.int .u8 yk, .int .i64 yn, .string ys], .agg #[.int .u8 zk, .int .i64 zn, .string zs]] w fun e w' => e = .returned (.bool true) ∧ Below w.heap.size w w' := by
  have HA := Lib.hid awake_any
  have HL := Lib.hid (fun W (g : Nat) (hg : RowAt W g 0 [(xk, xn, xs), (yk, yn, ys), (zk, zn, zs)]) => light3 W g hg hx hy hz)
  rw [hlb] at HL
  go_enter Tryd.func7, Tryd.ntmps7
  go_wp2_with fail
  refine (HA.out _).mono ?_
  rintro e w1 ⟨rfl, hb1⟩
  have A1 : Hid (At w1 w.heap.size 0 (xk, xn, xs)) := by
    refine At.later ?_ hb1 (by simp <;> omega)
    constructor <;> go_simp
  have B1 : Hid (At w1 (w.heap.size + 1) 0 (yk, yn, ys)) := by
    refine At.later ?_ hb1 (by simp <;> omega)
    constructor <;> go_simp
  have C1 : Hid (At w1 (w.heap.size + 1 + 1) 0 (zk, zn, zs)) := by
    refine At.later ?_ hb1 (by simp <;> omega)
    constructor <;> go_simp
  obtain ⟨hc1, hf1⟩ := bcell hb1
  have hz1 : w.heap.size + 1 + 1 < w1.heap.size := by have := hb1.size; simp at this; omega
  have hz0 : w.heap.size < w1.heap.size := by omega
  have hz2 : w.heap.size + 1 < w1.heap.size := by omega
  have q0 : w.heap.size < w1.heap.size + 1 := by omega
  have q1 : w.heap.size + 1 < w1.heap.size + 1 := by omega
  have q2 : w.heap.size + 1 + 1 < w1.heap.size + 1 := by omega
  have q3 : w.heap.size + 1 < w1.heap.size + 1 + 1 := by omega
  have q4 : w.heap.size + 1 + 1 < w1.heap.size + 1 + 1 := by omega
  have q5 : w.heap.size + 1 + 1 < w1.heap.size + 1 + 1 + 1 := by omega
  have HB1 : Hid (Below w.heap.size w w1) := below_step (below_new (below_new (below_own _) _) _) hb1
  clear hb1 HA
  go_wp2_with fail
  refine (HL.out _ _ ?_).mono ?_
  · exact row_made3 w1 _ (xk, xn, xs) (yk, yn, ys) (zk, zn, zs)
  rintro e w2 ⟨rfl, rfl⟩
  go_wp2
  go_ret
  exact ⟨rfl, below_new (HB1.out) _⟩

set_option maxHeartbeats 2000000 in
theorem texts_x (xk xn yk yn zk zn : Int) (xs ys zs : ByteArray) (w : World) (hx : xs.size ≤ maxLen) (hy : ys.size ≤ maxLen) (hz : zs.size ≤ maxLen) (hlb : lightB [(xk, xn, xs), (yk, yn, ys), (zk, zn, zs)] = true) (h1 : rightB xk xn xs = false) : Calls Tryd.prog 7 #[.agg #[.int .u8 xk, .int .i64 xn, .string xs], .agg #[.int .u8 yk, .int .i64 yn, .string ys], .agg #[.int .u8 zk, .int .i64 zn, .string zs]] w fun e w' => e = .returned (.bool true) ∧ Below w.heap.size w w' := by
  have HA := Lib.hid awake_any
  have HL := Lib.hid (fun W (g : Nat) (hg : RowAt W g 0 [(xk, xn, xs), (yk, yn, ys), (zk, zn, zs)]) => light3 W g hg hx hy hz)
  rw [hlb] at HL
  go_enter Tryd.func7, Tryd.ntmps7
  go_wp2_with fail
  refine (HA.out _).mono ?_
  rintro e w1 ⟨rfl, hb1⟩
  have A1 : Hid (At w1 w.heap.size 0 (xk, xn, xs)) := by
    refine At.later ?_ hb1 (by simp <;> omega)
    constructor <;> go_simp
  have B1 : Hid (At w1 (w.heap.size + 1) 0 (yk, yn, ys)) := by
    refine At.later ?_ hb1 (by simp <;> omega)
    constructor <;> go_simp
  have C1 : Hid (At w1 (w.heap.size + 1 + 1) 0 (zk, zn, zs)) := by
    refine At.later ?_ hb1 (by simp <;> omega)
    constructor <;> go_simp
  obtain ⟨hc1, hf1⟩ := bcell hb1
  have hz1 : w.heap.size + 1 + 1 < w1.heap.size := by have := hb1.size; simp at this; omega
  have hz0 : w.heap.size < w1.heap.size := by omega
  have hz2 : w.heap.size + 1 < w1.heap.size := by omega
  have q0 : w.heap.size < w1.heap.size + 1 := by omega
  have q1 : w.heap.size + 1 < w1.heap.size + 1 := by omega
  have q2 : w.heap.size + 1 + 1 < w1.heap.size + 1 := by omega
  have q3 : w.heap.size + 1 < w1.heap.size + 1 + 1 := by omega
  have q4 : w.heap.size + 1 + 1 < w1.heap.size + 1 + 1 := by omega
  have q5 : w.heap.size + 1 + 1 < w1.heap.size + 1 + 1 + 1 := by omega
  have HB1 : Hid (Below w.heap.size w w1) := below_step (below_new (below_new (below_own _) _) _) hb1
  clear hb1 HA
  go_wp2_with fail
  refine (HL.out _ _ ?_).mono ?_
  · exact row_made3 w1 _ (xk, xn, xs) (yk, yn, ys) (zk, zn, zs)
  rintro e w2 ⟨rfl, rfl⟩
  go_wp2_with fail
  refine (right_any _ _ _ _ hx).mono ?_
  rintro e w2 ⟨rfl, rfl⟩
  go_wp2
  go_ret
  exact ⟨rfl, below_new (below_new (HB1.out) _) _⟩

set_option maxHeartbeats 2000000 in
theorem texts_y (xk xn yk yn zk zn : Int) (xs ys zs : ByteArray) (w : World) (hx : xs.size ≤ maxLen) (hy : ys.size ≤ maxLen) (hz : zs.size ≤ maxLen) (hlb : lightB [(xk, xn, xs), (yk, yn, ys), (zk, zn, zs)] = true) (h1 : rightB xk xn xs = true) (h2 : rightB yk yn ys = false) : Calls Tryd.prog 7 #[.agg #[.int .u8 xk, .int .i64 xn, .string xs], .agg #[.int .u8 yk, .int .i64 yn, .string ys], .agg #[.int .u8 zk, .int .i64 zn, .string zs]] w fun e w' => e = .returned (.bool true) ∧ Below w.heap.size w w' := by
  have HA := Lib.hid awake_any
  have HL := Lib.hid (fun W (g : Nat) (hg : RowAt W g 0 [(xk, xn, xs), (yk, yn, ys), (zk, zn, zs)]) => light3 W g hg hx hy hz)
  rw [hlb] at HL
  go_enter Tryd.func7, Tryd.ntmps7
  go_wp2_with fail
  refine (HA.out _).mono ?_
  rintro e w1 ⟨rfl, hb1⟩
  have A1 : Hid (At w1 w.heap.size 0 (xk, xn, xs)) := by
    refine At.later ?_ hb1 (by simp <;> omega)
    constructor <;> go_simp
  have B1 : Hid (At w1 (w.heap.size + 1) 0 (yk, yn, ys)) := by
    refine At.later ?_ hb1 (by simp <;> omega)
    constructor <;> go_simp
  have C1 : Hid (At w1 (w.heap.size + 1 + 1) 0 (zk, zn, zs)) := by
    refine At.later ?_ hb1 (by simp <;> omega)
    constructor <;> go_simp
  obtain ⟨hc1, hf1⟩ := bcell hb1
  have hz1 : w.heap.size + 1 + 1 < w1.heap.size := by have := hb1.size; simp at this; omega
  have hz0 : w.heap.size < w1.heap.size := by omega
  have hz2 : w.heap.size + 1 < w1.heap.size := by omega
  have q0 : w.heap.size < w1.heap.size + 1 := by omega
  have q1 : w.heap.size + 1 < w1.heap.size + 1 := by omega
  have q2 : w.heap.size + 1 + 1 < w1.heap.size + 1 := by omega
  have q3 : w.heap.size + 1 < w1.heap.size + 1 + 1 := by omega
  have q4 : w.heap.size + 1 + 1 < w1.heap.size + 1 + 1 := by omega
  have q5 : w.heap.size + 1 + 1 < w1.heap.size + 1 + 1 + 1 := by omega
  have HB1 : Hid (Below w.heap.size w w1) := below_step (below_new (below_new (below_own _) _) _) hb1
  clear hb1 HA
  go_wp2_with fail
  refine (HL.out _ _ ?_).mono ?_
  · exact row_made3 w1 _ (xk, xn, xs) (yk, yn, ys) (zk, zn, zs)
  rintro e w2 ⟨rfl, rfl⟩
  go_wp2_with fail
  refine (right_any _ _ _ _ hx).mono ?_
  rintro e w2 ⟨rfl, rfl⟩
  go_wp2_with fail
  refine (right_any _ _ _ _ hy).mono ?_
  rintro e w2 ⟨rfl, rfl⟩
  go_wp2
  go_ret
  exact ⟨rfl, below_new (below_new (below_new (HB1.out) _) _) _⟩

set_option maxHeartbeats 2000000 in
theorem texts_z (xk xn yk yn zk zn : Int) (xs ys zs : ByteArray) (w : World) (hx : xs.size ≤ maxLen) (hy : ys.size ≤ maxLen) (hz : zs.size ≤ maxLen) (hlb : lightB [(xk, xn, xs), (yk, yn, ys), (zk, zn, zs)] = true) (h1 : rightB xk xn xs = true) (h2 : rightB yk yn ys = true) (h3 : rightB zk zn zs = false) : Calls Tryd.prog 7 #[.agg #[.int .u8 xk, .int .i64 xn, .string xs], .agg #[.int .u8 yk, .int .i64 yn, .string ys], .agg #[.int .u8 zk, .int .i64 zn, .string zs]] w fun e w' => e = .returned (.bool true) ∧ Below w.heap.size w w' := by
  have HA := Lib.hid awake_any
  have HL := Lib.hid (fun W (g : Nat) (hg : RowAt W g 0 [(xk, xn, xs), (yk, yn, ys), (zk, zn, zs)]) => light3 W g hg hx hy hz)
  rw [hlb] at HL
  go_enter Tryd.func7, Tryd.ntmps7
  go_wp2_with fail
  refine (HA.out _).mono ?_
  rintro e w1 ⟨rfl, hb1⟩
  have A1 : Hid (At w1 w.heap.size 0 (xk, xn, xs)) := by
    refine At.later ?_ hb1 (by simp <;> omega)
    constructor <;> go_simp
  have B1 : Hid (At w1 (w.heap.size + 1) 0 (yk, yn, ys)) := by
    refine At.later ?_ hb1 (by simp <;> omega)
    constructor <;> go_simp
  have C1 : Hid (At w1 (w.heap.size + 1 + 1) 0 (zk, zn, zs)) := by
    refine At.later ?_ hb1 (by simp <;> omega)
    constructor <;> go_simp
  obtain ⟨hc1, hf1⟩ := bcell hb1
  have hz1 : w.heap.size + 1 + 1 < w1.heap.size := by have := hb1.size; simp at this; omega
  have hz0 : w.heap.size < w1.heap.size := by omega
  have hz2 : w.heap.size + 1 < w1.heap.size := by omega
  have q0 : w.heap.size < w1.heap.size + 1 := by omega
  have q1 : w.heap.size + 1 < w1.heap.size + 1 := by omega
  have q2 : w.heap.size + 1 + 1 < w1.heap.size + 1 := by omega
  have q3 : w.heap.size + 1 < w1.heap.size + 1 + 1 := by omega
  have q4 : w.heap.size + 1 + 1 < w1.heap.size + 1 + 1 := by omega
  have q5 : w.heap.size + 1 + 1 < w1.heap.size + 1 + 1 + 1 := by omega
  have HB1 : Hid (Below w.heap.size w w1) := below_step (below_new (below_new (below_own _) _) _) hb1
  clear hb1 HA
  go_wp2_with fail
  refine (HL.out _ _ ?_).mono ?_
  · exact row_made3 w1 _ (xk, xn, xs) (yk, yn, ys) (zk, zn, zs)
  rintro e w2 ⟨rfl, rfl⟩
  go_wp2_with fail
  refine (right_any _ _ _ _ hx).mono ?_
  rintro e w2 ⟨rfl, rfl⟩
  go_wp2_with fail
  refine (right_any _ _ _ _ hy).mono ?_
  rintro e w2 ⟨rfl, rfl⟩
  go_wp2_with fail
  refine (right_any _ _ _ _ hz).mono ?_
  rintro e w2 ⟨rfl, rfl⟩
  go_wp2
  go_ret
  exact ⟨rfl, below_new (below_new (below_new (below_new (HB1.out) _) _) _) _⟩

set_option maxRecDepth 100000 in
set_option maxHeartbeats 8000000 in
theorem texts_t1 (xk xn yk yn zk zn : Int) (xs ys zs : ByteArray) (w : World) (hx : xs.size ≤ maxLen) (hy : ys.size ≤ maxLen) (hz : zs.size ≤ maxLen) (ix : In64 xn) (iy : In64 yn) (ht : Lib.TabBelow Tryd.prog w.heap.size w "internal/strconv.uint64pow10" .u64 Lib.pow10Tab)
    (hlb : lightB [(xk, xn, xs), (yk, yn, ys), (zk, zn, zs)] = true) (h1 : rightB xk xn xs = true) (h2 : rightB yk yn ys = true) (h3 : rightB zk zn zs = true) (t1 : decide (cmpV (xk, xn, xs) (yk, yn, ys) ≤ 0) = false) : Calls Tryd.prog 7 #[.agg #[.int .u8 xk, .int .i64 xn, .string xs], .agg #[.int .u8 yk, .int .i64 yn, .string ys], .agg #[.int .u8 zk, .int .i64 zn, .string zs]] w fun e w' => e = .returned (.bool true) ∧ Below w.heap.size w w' := by
  have HT := Lib.hid ht
  have heq := fun W => eqV xk xn yk yn xs ys W
  have hX : ((textS (xk, xn, xs)).toList == (textS (yk, yn, ys)).toList) = eqvB (xk, xn, xs) (yk, yn, ys) := by
    rw [ByteArray.toList_eq, ByteArray.toList_eq]
    apply bool_ext
    rw [beq_iff_eq, eqvB_iff]
    exact text_inj (x := (xk, xn, xs)) (y := (yk, yn, ys)) h1 h2
  have hZ : (cmpV (xk, xn, xs) (yk, yn, ys) == 0) = eqvB (xk, xn, xs) (yk, yn, ys) := by
    apply bool_ext
    rw [beq_iff_eq, eqvB_iff]
    exact cmpV_zero (x := (xk, xn, xs)) (y := (yk, yn, ys)) h1 h2
  have hN : (cmpV (xk, xn, xs) (yk, yn, ys) != -cmpV (yk, yn, ys) (xk, xn, xs)) = false := by
    rw [cmpV_neg (xk, xn, xs) (yk, yn, ys)]; simp
  have hE : (textS (xk, xn, xs)).toList.isEmpty = false := by
    rw [ByteArray.toList_eq]
    have := text_some (x := (xk, xn, xs)) h1
    simpa using this
  obtain ⟨r1, r2⟩ := cmpV_range (yk, yn, ys) (xk, xn, xs)
  generalize eqvB (xk, xn, xs) (yk, yn, ys) = q at heq hX hZ
  have hqq : (q == q) = true := by simp
  have hg := eqGuardV
  clear ht
  have HA := Lib.hid awake_any
  have HL := Lib.hid (fun W (g : Nat) (hg : RowAt W g 0 [(xk, xn, xs), (yk, yn, ys), (zk, zn, zs)]) => light3 W g hg hx hy hz)
  rw [hlb] at HL
  go_enter Tryd.func7, Tryd.ntmps7
  go_wp2_with fail
  refine (HA.out _).mono ?_
  rintro e w1 ⟨rfl, hb1⟩
  have A1 : Hid (At w1 w.heap.size 0 (xk, xn, xs)) := by
    refine At.later ?_ hb1 (by simp <;> omega)
    constructor <;> go_simp
  have B1 : Hid (At w1 (w.heap.size + 1) 0 (yk, yn, ys)) := by
    refine At.later ?_ hb1 (by simp <;> omega)
    constructor <;> go_simp
  have C1 : Hid (At w1 (w.heap.size + 1 + 1) 0 (zk, zn, zs)) := by
    refine At.later ?_ hb1 (by simp <;> omega)
    constructor <;> go_simp
  obtain ⟨hc1, hf1⟩ := bcell hb1
  have hz1 : w.heap.size + 1 + 1 < w1.heap.size := by have := hb1.size; simp at this; omega
  have hz0 : w.heap.size < w1.heap.size := by omega
  have hz2 : w.heap.size + 1 < w1.heap.size := by omega
  have q0 : w.heap.size < w1.heap.size + 1 := by omega
  have q1 : w.heap.size + 1 < w1.heap.size + 1 := by omega
  have q2 : w.heap.size + 1 + 1 < w1.heap.size + 1 := by omega
  have q3 : w.heap.size + 1 < w1.heap.size + 1 + 1 := by omega
  have q4 : w.heap.size + 1 + 1 < w1.heap.size + 1 + 1 := by omega
  have q5 : w.heap.size + 1 + 1 < w1.heap.size + 1 + 1 + 1 := by omega
  have HB1 : Hid (Below w.heap.size w w1) := below_step (below_new (below_new (below_own _) _) _) hb1
  clear hb1 HA
  go_wp2_with fail
  refine (HL.out _ _ ?_).mono ?_
  · exact row_made3 w1 _ (xk, xn, xs) (yk, yn, ys) (zk, zn, zs)
  rintro e w2 ⟨rfl, rfl⟩
  go_wp2_with fail
  refine (right_any _ _ _ _ hx).mono ?_
  rintro e w2 ⟨rfl, rfl⟩
  go_wp2_with fail
  refine (right_any _ _ _ _ hy).mono ?_
  rintro e w2 ⟨rfl, rfl⟩
  go_wp2_with fail
  refine (right_any _ _ _ _ hz).mono ?_
  rintro e w2 ⟨rfl, rfl⟩
  go_wp2_with fail
  obtain ⟨w0, hw0⟩ : ∃ w0, w0 = (((w1.alloc (.cells #[.int .u8 xk, .int .i64 xn, .string xs, .int .u8 yk, .int .i64 yn, .string ys, .int .u8 zk, .int .i64 zn, .string zs] 29)).alloc (.cells #[.int .u8 xk, .int .i64 xn, .string xs] 29)).alloc (.cells #[.int .u8 yk, .int .i64 yn, .string ys] 29)).alloc (.cells #[.int .u8 zk, .int .i64 zn, .string zs] 29) := ⟨_, rfl⟩
  rw [← hw0]
  have HB0 : Hid (Below w.heap.size w w0) := by rw [hw0]; exact below_new (below_new (below_new (below_new (HB1.out) _) _) _) _
  have A0 : Hid (At w0 w.heap.size 0 (xk, xn, xs)) := by rw [hw0]; exact A1.out.later (below_new (below_new (below_new (below_own _) _) _) _) hz0
  have B0 : Hid (At w0 (w.heap.size + 1) 0 (yk, yn, ys)) := by rw [hw0]; exact B1.out.later (below_new (below_new (below_new (below_own _) _) _) _) hz2
  have C0 : Hid (At w0 (w.heap.size + 1 + 1) 0 (zk, zn, zs)) := by rw [hw0]; exact C1.out.later (below_new (below_new (below_new (below_own _) _) _) _) hz1
  have l0 : w.heap.size + 1 + 1 < w0.heap.size := by rw [hw0]; simp; omega
  clear hw0 HB1 A1 B1 C1 hc1 hf1 hz1 hz0 hz2 q0 q1 q2 q3 q4 q5 HL
  have HB : Hid (∀ n os, Below w.heap.size w (Sort.grow (w0.drewN n) os)) := fun n os => below_step HB0.out (gr_grow w0 n os).below
  obtain ⟨ba, hba⟩ : ∃ b, b = w.heap.size := ⟨_, rfl⟩
  rw [← hba] at A0 B0 C0 l0 ⊢
  clear hba
  have a1 : ∀ n os, (Sort.grow (w0.drewN n) os).cell? ⟨ba, 0, none⟩ = some (.int .u8 xk) := cell_grown (by show ba < _; omega) A0.out.k
  have a2 : ∀ n os, (Sort.grow (w0.drewN n) os).cell? ⟨ba, 1, none⟩ = some (.int .i64 xn) := cell_grown (by show ba < _; omega) A0.out.n
  have a3 : ∀ n os, (Sort.grow (w0.drewN n) os).cell? ⟨ba, 2, none⟩ = some (.string xs) := cell_grown (by show ba < _; omega) A0.out.s
  have b1 : ∀ n os, (Sort.grow (w0.drewN n) os).cell? ⟨ba + 1, 0, none⟩ = some (.int .u8 yk) := cell_grown (by show ba + 1 < _; omega) B0.out.k
  have b2 : ∀ n os, (Sort.grow (w0.drewN n) os).cell? ⟨ba + 1, 1, none⟩ = some (.int .i64 yn) := cell_grown (by show ba + 1 < _; omega) B0.out.n
  have b3 : ∀ n os, (Sort.grow (w0.drewN n) os).cell? ⟨ba + 1, 2, none⟩ = some (.string ys) := cell_grown (by show ba + 1 < _; omega) B0.out.s
  have c1 : ∀ n os, (Sort.grow (w0.drewN n) os).cell? ⟨ba + 1 + 1, 0, none⟩ = some (.int .u8 zk) := cell_grown (by show ba + 1 + 1 < _; omega) C0.out.k
  have c2 : ∀ n os, (Sort.grow (w0.drewN n) os).cell? ⟨ba + 1 + 1, 1, none⟩ = some (.int .i64 zn) := cell_grown (by show ba + 1 + 1 < _; omega) C0.out.n
  have c3 : ∀ n os, (Sort.grow (w0.drewN n) os).cell? ⟨ba + 1 + 1, 2, none⟩ = some (.string zs) := cell_grown (by show ba + 1 + 1 < _; omega) C0.out.s
  have mixed : Tryd.prog.follows .mixedOrders = true := by kernel_rfl
  go_quiet_grown (first | (go_at_call 16; exact Calls.grown_of ((compare_any _ _ _ _ _ _ _ (by assumption) (by assumption)).mono fun _ _ ⟨h, g⟩ => ⟨h, g.out⟩)))
  go_wp2_with fail
  refine (compare_any yk yn xk xn ys xs _ hy hx).mono ?_
  rintro e w4' ⟨rfl, hg4⟩
  obtain ⟨n2, os2, rfl⟩ := (gr_grow w0 nq osq).trans hg4
  clear hg4
  go_wp2_with fail
  obtain ⟨w4, hw4⟩ : ∃ w4, w4 = Sort.grow (w0.drewN n2) os2 := ⟨_, rfl⟩
  rw [← hw4]
  have A4 : Hid (At w4 ba 0 (xk, xn, xs)) := by rw [hw4]; exact A0.out.later (gr_grow w0 n2 os2).below (by omega)
  have B4 : Hid (At w4 (ba + 1) 0 (yk, yn, ys)) := by rw [hw4]; exact B0.out.later (gr_grow w0 n2 os2).below (by omega)
  have C4 : Hid (At w4 (ba + 1 + 1) 0 (zk, zn, zs)) := by rw [hw4]; exact C0.out.later (gr_grow w0 n2 os2).below (by omega)
  have l4 : ba + 1 + 1 < w4.heap.size := by rw [hw4]; have := (gr_grow w0 n2 os2).below.size; omega
  have HB4 : Hid (Below w.heap.size w w4) := by rw [hw4]; exact HB.out n2 os2
  clear a1 a2 a3 b1 b2 b3 c1 c2 c3 HB HB0 A0 B0 C0 hw4 l0
  have HB : Hid (∀ n os, Below w.heap.size w (Sort.grow (w4.drewN n) os)) := fun n os => below_step HB4.out (gr_grow w4 n os).below
  have a1 : ∀ n os, (Sort.grow (w4.drewN n) os).cell? ⟨ba, 0, none⟩ = some (.int .u8 xk) := cell_grown (by show ba < _; omega) A4.out.k
  have a2 : ∀ n os, (Sort.grow (w4.drewN n) os).cell? ⟨ba, 1, none⟩ = some (.int .i64 xn) := cell_grown (by show ba < _; omega) A4.out.n
  have a3 : ∀ n os, (Sort.grow (w4.drewN n) os).cell? ⟨ba, 2, none⟩ = some (.string xs) := cell_grown (by show ba < _; omega) A4.out.s
  have b1 : ∀ n os, (Sort.grow (w4.drewN n) os).cell? ⟨ba + 1, 0, none⟩ = some (.int .u8 yk) := cell_grown (by show ba + 1 < _; omega) B4.out.k
  have b2 : ∀ n os, (Sort.grow (w4.drewN n) os).cell? ⟨ba + 1, 1, none⟩ = some (.int .i64 yn) := cell_grown (by show ba + 1 < _; omega) B4.out.n
  have b3 : ∀ n os, (Sort.grow (w4.drewN n) os).cell? ⟨ba + 1, 2, none⟩ = some (.string ys) := cell_grown (by show ba + 1 < _; omega) B4.out.s
  have c1 : ∀ n os, (Sort.grow (w4.drewN n) os).cell? ⟨ba + 1 + 1, 0, none⟩ = some (.int .u8 zk) := cell_grown (by show ba + 1 + 1 < _; omega) C4.out.k
  have c2 : ∀ n os, (Sort.grow (w4.drewN n) os).cell? ⟨ba + 1 + 1, 1, none⟩ = some (.int .i64 zn) := cell_grown (by show ba + 1 + 1 < _; omega) C4.out.n
  have c3 : ∀ n os, (Sort.grow (w4.drewN n) os).cell? ⟨ba + 1 + 1, 2, none⟩ = some (.string zs) := cell_grown (by show ba + 1 + 1 < _; omega) C4.out.s
  clear A4 B4 C4 HB4
  go_quiet_grown (first | (go_at_call 18; exact Calls.grown_of ((text_all _ _ _ _ (by assumption) (by assumption) (tab_on HT.out (HB.out _ _))).mono fun _ _ ⟨h, g⟩ => ⟨h, g.out⟩)))
  go_wp2
  go_ret
  exact ⟨rfl, HB.out _ _⟩

set_option maxRecDepth 100000 in
set_option maxHeartbeats 8000000 in
theorem texts_t2 (xk xn yk yn zk zn : Int) (xs ys zs : ByteArray) (w : World) (hx : xs.size ≤ maxLen) (hy : ys.size ≤ maxLen) (hz : zs.size ≤ maxLen) (ix : In64 xn) (iy : In64 yn) (ht : Lib.TabBelow Tryd.prog w.heap.size w "internal/strconv.uint64pow10" .u64 Lib.pow10Tab)
    (hlb : lightB [(xk, xn, xs), (yk, yn, ys), (zk, zn, zs)] = true) (h1 : rightB xk xn xs = true) (h2 : rightB yk yn ys = true) (h3 : rightB zk zn zs = true) (t1 : decide (cmpV (xk, xn, xs) (yk, yn, ys) ≤ 0) = true) (t2 : decide (cmpV (yk, yn, ys) (zk, zn, zs) ≤ 0) = false) : Calls Tryd.prog 7 #[.agg #[.int .u8 xk, .int .i64 xn, .string xs], .agg #[.int .u8 yk, .int .i64 yn, .string ys], .agg #[.int .u8 zk, .int .i64 zn, .string zs]] w fun e w' => e = .returned (.bool true) ∧ Below w.heap.size w w' := by
  have HT := Lib.hid ht
  have heq := fun W => eqV xk xn yk yn xs ys W
  have hX : ((textS (xk, xn, xs)).toList == (textS (yk, yn, ys)).toList) = eqvB (xk, xn, xs) (yk, yn, ys) := by
    rw [ByteArray.toList_eq, ByteArray.toList_eq]
    apply bool_ext
    rw [beq_iff_eq, eqvB_iff]
    exact text_inj (x := (xk, xn, xs)) (y := (yk, yn, ys)) h1 h2
  have hZ : (cmpV (xk, xn, xs) (yk, yn, ys) == 0) = eqvB (xk, xn, xs) (yk, yn, ys) := by
    apply bool_ext
    rw [beq_iff_eq, eqvB_iff]
    exact cmpV_zero (x := (xk, xn, xs)) (y := (yk, yn, ys)) h1 h2
  have hN : (cmpV (xk, xn, xs) (yk, yn, ys) != -cmpV (yk, yn, ys) (xk, xn, xs)) = false := by
    rw [cmpV_neg (xk, xn, xs) (yk, yn, ys)]; simp
  have hE : (textS (xk, xn, xs)).toList.isEmpty = false := by
    rw [ByteArray.toList_eq]
    have := text_some (x := (xk, xn, xs)) h1
    simpa using this
  obtain ⟨r1, r2⟩ := cmpV_range (yk, yn, ys) (xk, xn, xs)
  generalize eqvB (xk, xn, xs) (yk, yn, ys) = q at heq hX hZ
  have hqq : (q == q) = true := by simp
  have hg := eqGuardV
  clear ht
  have HA := Lib.hid awake_any
  have HL := Lib.hid (fun W (g : Nat) (hg : RowAt W g 0 [(xk, xn, xs), (yk, yn, ys), (zk, zn, zs)]) => light3 W g hg hx hy hz)
  rw [hlb] at HL
  go_enter Tryd.func7, Tryd.ntmps7
  go_wp2_with fail
  refine (HA.out _).mono ?_
  rintro e w1 ⟨rfl, hb1⟩
  have A1 : Hid (At w1 w.heap.size 0 (xk, xn, xs)) := by
    refine At.later ?_ hb1 (by simp <;> omega)
    constructor <;> go_simp
  have B1 : Hid (At w1 (w.heap.size + 1) 0 (yk, yn, ys)) := by
    refine At.later ?_ hb1 (by simp <;> omega)
    constructor <;> go_simp
  have C1 : Hid (At w1 (w.heap.size + 1 + 1) 0 (zk, zn, zs)) := by
    refine At.later ?_ hb1 (by simp <;> omega)
    constructor <;> go_simp
  obtain ⟨hc1, hf1⟩ := bcell hb1
  have hz1 : w.heap.size + 1 + 1 < w1.heap.size := by have := hb1.size; simp at this; omega
  have hz0 : w.heap.size < w1.heap.size := by omega
  have hz2 : w.heap.size + 1 < w1.heap.size := by omega
  have q0 : w.heap.size < w1.heap.size + 1 := by omega
  have q1 : w.heap.size + 1 < w1.heap.size + 1 := by omega
  have q2 : w.heap.size + 1 + 1 < w1.heap.size + 1 := by omega
  have q3 : w.heap.size + 1 < w1.heap.size + 1 + 1 := by omega
  have q4 : w.heap.size + 1 + 1 < w1.heap.size + 1 + 1 := by omega
  have q5 : w.heap.size + 1 + 1 < w1.heap.size + 1 + 1 + 1 := by omega
  have HB1 : Hid (Below w.heap.size w w1) := below_step (below_new (below_new (below_own _) _) _) hb1
  clear hb1 HA
  go_wp2_with fail
  refine (HL.out _ _ ?_).mono ?_
  · exact row_made3 w1 _ (xk, xn, xs) (yk, yn, ys) (zk, zn, zs)
  rintro e w2 ⟨rfl, rfl⟩
  go_wp2_with fail
  refine (right_any _ _ _ _ hx).mono ?_
  rintro e w2 ⟨rfl, rfl⟩
  go_wp2_with fail
  refine (right_any _ _ _ _ hy).mono ?_
  rintro e w2 ⟨rfl, rfl⟩
  go_wp2_with fail
  refine (right_any _ _ _ _ hz).mono ?_
  rintro e w2 ⟨rfl, rfl⟩
  go_wp2_with fail
  obtain ⟨w0, hw0⟩ : ∃ w0, w0 = (((w1.alloc (.cells #[.int .u8 xk, .int .i64 xn, .string xs, .int .u8 yk, .int .i64 yn, .string ys, .int .u8 zk, .int .i64 zn, .string zs] 29)).alloc (.cells #[.int .u8 xk, .int .i64 xn, .string xs] 29)).alloc (.cells #[.int .u8 yk, .int .i64 yn, .string ys] 29)).alloc (.cells #[.int .u8 zk, .int .i64 zn, .string zs] 29) := ⟨_, rfl⟩
  rw [← hw0]
  have HB0 : Hid (Below w.heap.size w w0) := by rw [hw0]; exact below_new (below_new (below_new (below_new (HB1.out) _) _) _) _
  have A0 : Hid (At w0 w.heap.size 0 (xk, xn, xs)) := by rw [hw0]; exact A1.out.later (below_new (below_new (below_new (below_own _) _) _) _) hz0
  have B0 : Hid (At w0 (w.heap.size + 1) 0 (yk, yn, ys)) := by rw [hw0]; exact B1.out.later (below_new (below_new (below_new (below_own _) _) _) _) hz2
  have C0 : Hid (At w0 (w.heap.size + 1 + 1) 0 (zk, zn, zs)) := by rw [hw0]; exact C1.out.later (below_new (below_new (below_new (below_own _) _) _) _) hz1
  have l0 : w.heap.size + 1 + 1 < w0.heap.size := by rw [hw0]; simp; omega
  clear hw0 HB1 A1 B1 C1 hc1 hf1 hz1 hz0 hz2 q0 q1 q2 q3 q4 q5 HL
  have HB : Hid (∀ n os, Below w.heap.size w (Sort.grow (w0.drewN n) os)) := fun n os => below_step HB0.out (gr_grow w0 n os).below
  obtain ⟨ba, hba⟩ : ∃ b, b = w.heap.size := ⟨_, rfl⟩
  rw [← hba] at A0 B0 C0 l0 ⊢
  clear hba
  have a1 : ∀ n os, (Sort.grow (w0.drewN n) os).cell? ⟨ba, 0, none⟩ = some (.int .u8 xk) := cell_grown (by show ba < _; omega) A0.out.k
  have a2 : ∀ n os, (Sort.grow (w0.drewN n) os).cell? ⟨ba, 1, none⟩ = some (.int .i64 xn) := cell_grown (by show ba < _; omega) A0.out.n
  have a3 : ∀ n os, (Sort.grow (w0.drewN n) os).cell? ⟨ba, 2, none⟩ = some (.string xs) := cell_grown (by show ba < _; omega) A0.out.s
  have b1 : ∀ n os, (Sort.grow (w0.drewN n) os).cell? ⟨ba + 1, 0, none⟩ = some (.int .u8 yk) := cell_grown (by show ba + 1 < _; omega) B0.out.k
  have b2 : ∀ n os, (Sort.grow (w0.drewN n) os).cell? ⟨ba + 1, 1, none⟩ = some (.int .i64 yn) := cell_grown (by show ba + 1 < _; omega) B0.out.n
  have b3 : ∀ n os, (Sort.grow (w0.drewN n) os).cell? ⟨ba + 1, 2, none⟩ = some (.string ys) := cell_grown (by show ba + 1 < _; omega) B0.out.s
  have c1 : ∀ n os, (Sort.grow (w0.drewN n) os).cell? ⟨ba + 1 + 1, 0, none⟩ = some (.int .u8 zk) := cell_grown (by show ba + 1 + 1 < _; omega) C0.out.k
  have c2 : ∀ n os, (Sort.grow (w0.drewN n) os).cell? ⟨ba + 1 + 1, 1, none⟩ = some (.int .i64 zn) := cell_grown (by show ba + 1 + 1 < _; omega) C0.out.n
  have c3 : ∀ n os, (Sort.grow (w0.drewN n) os).cell? ⟨ba + 1 + 1, 2, none⟩ = some (.string zs) := cell_grown (by show ba + 1 + 1 < _; omega) C0.out.s
  have mixed : Tryd.prog.follows .mixedOrders = true := by kernel_rfl
  go_quiet_grown (first | (go_at_call 16; exact Calls.grown_of ((compare_any _ _ _ _ _ _ _ (by assumption) (by assumption)).mono fun _ _ ⟨h, g⟩ => ⟨h, g.out⟩)))
  go_wp2_with fail
  refine (compare_any yk yn xk xn ys xs _ hy hx).mono ?_
  rintro e w4' ⟨rfl, hg4⟩
  obtain ⟨n2, os2, rfl⟩ := (gr_grow w0 nq osq).trans hg4
  clear hg4
  go_wp2_with fail
  obtain ⟨w4, hw4⟩ : ∃ w4, w4 = Sort.grow (w0.drewN n2) os2 := ⟨_, rfl⟩
  rw [← hw4]
  have A4 : Hid (At w4 ba 0 (xk, xn, xs)) := by rw [hw4]; exact A0.out.later (gr_grow w0 n2 os2).below (by omega)
  have B4 : Hid (At w4 (ba + 1) 0 (yk, yn, ys)) := by rw [hw4]; exact B0.out.later (gr_grow w0 n2 os2).below (by omega)
  have C4 : Hid (At w4 (ba + 1 + 1) 0 (zk, zn, zs)) := by rw [hw4]; exact C0.out.later (gr_grow w0 n2 os2).below (by omega)
  have l4 : ba + 1 + 1 < w4.heap.size := by rw [hw4]; have := (gr_grow w0 n2 os2).below.size; omega
  have HB4 : Hid (Below w.heap.size w w4) := by rw [hw4]; exact HB.out n2 os2
  clear a1 a2 a3 b1 b2 b3 c1 c2 c3 HB HB0 A0 B0 C0 hw4 l0
  have HB : Hid (∀ n os, Below w.heap.size w (Sort.grow (w4.drewN n) os)) := fun n os => below_step HB4.out (gr_grow w4 n os).below
  have a1 : ∀ n os, (Sort.grow (w4.drewN n) os).cell? ⟨ba, 0, none⟩ = some (.int .u8 xk) := cell_grown (by show ba < _; omega) A4.out.k
  have a2 : ∀ n os, (Sort.grow (w4.drewN n) os).cell? ⟨ba, 1, none⟩ = some (.int .i64 xn) := cell_grown (by show ba < _; omega) A4.out.n
  have a3 : ∀ n os, (Sort.grow (w4.drewN n) os).cell? ⟨ba, 2, none⟩ = some (.string xs) := cell_grown (by show ba < _; omega) A4.out.s
  have b1 : ∀ n os, (Sort.grow (w4.drewN n) os).cell? ⟨ba + 1, 0, none⟩ = some (.int .u8 yk) := cell_grown (by show ba + 1 < _; omega) B4.out.k
  have b2 : ∀ n os, (Sort.grow (w4.drewN n) os).cell? ⟨ba + 1, 1, none⟩ = some (.int .i64 yn) := cell_grown (by show ba + 1 < _; omega) B4.out.n
  have b3 : ∀ n os, (Sort.grow (w4.drewN n) os).cell? ⟨ba + 1, 2, none⟩ = some (.string ys) := cell_grown (by show ba + 1 < _; omega) B4.out.s
  have c1 : ∀ n os, (Sort.grow (w4.drewN n) os).cell? ⟨ba + 1 + 1, 0, none⟩ = some (.int .u8 zk) := cell_grown (by show ba + 1 + 1 < _; omega) C4.out.k
  have c2 : ∀ n os, (Sort.grow (w4.drewN n) os).cell? ⟨ba + 1 + 1, 1, none⟩ = some (.int .i64 zn) := cell_grown (by show ba + 1 + 1 < _; omega) C4.out.n
  have c3 : ∀ n os, (Sort.grow (w4.drewN n) os).cell? ⟨ba + 1 + 1, 2, none⟩ = some (.string zs) := cell_grown (by show ba + 1 + 1 < _; omega) C4.out.s
  clear A4 B4 C4 HB4
  go_quiet_grown (first | (go_at_call 18; exact Calls.grown_of ((text_all _ _ _ _ (by assumption) (by assumption) (tab_on HT.out (HB.out _ _))).mono fun _ _ ⟨h, g⟩ => ⟨h, g.out⟩)))
  go_wp2
  go_ret
  exact ⟨rfl, HB.out _ _⟩

set_option maxRecDepth 100000 in
set_option maxHeartbeats 8000000 in
theorem texts_t3 (xk xn yk yn zk zn : Int) (xs ys zs : ByteArray) (w : World) (hx : xs.size ≤ maxLen) (hy : ys.size ≤ maxLen) (hz : zs.size ≤ maxLen) (ix : In64 xn) (iy : In64 yn) (ht : Lib.TabBelow Tryd.prog w.heap.size w "internal/strconv.uint64pow10" .u64 Lib.pow10Tab)
    (hlb : lightB [(xk, xn, xs), (yk, yn, ys), (zk, zn, zs)] = true) (h1 : rightB xk xn xs = true) (h2 : rightB yk yn ys = true) (h3 : rightB zk zn zs = true) (t1 : decide (cmpV (xk, xn, xs) (yk, yn, ys) ≤ 0) = true) (t2 : decide (cmpV (yk, yn, ys) (zk, zn, zs) ≤ 0) = true) (t3 : decide (0 < cmpV (xk, xn, xs) (zk, zn, zs)) = false) : Calls Tryd.prog 7 #[.agg #[.int .u8 xk, .int .i64 xn, .string xs], .agg #[.int .u8 yk, .int .i64 yn, .string ys], .agg #[.int .u8 zk, .int .i64 zn, .string zs]] w fun e w' => e = .returned (.bool true) ∧ Below w.heap.size w w' := by
  have HT := Lib.hid ht
  have heq := fun W => eqV xk xn yk yn xs ys W
  have hX : ((textS (xk, xn, xs)).toList == (textS (yk, yn, ys)).toList) = eqvB (xk, xn, xs) (yk, yn, ys) := by
    rw [ByteArray.toList_eq, ByteArray.toList_eq]
    apply bool_ext
    rw [beq_iff_eq, eqvB_iff]
    exact text_inj (x := (xk, xn, xs)) (y := (yk, yn, ys)) h1 h2
  have hZ : (cmpV (xk, xn, xs) (yk, yn, ys) == 0) = eqvB (xk, xn, xs) (yk, yn, ys) := by
    apply bool_ext
    rw [beq_iff_eq, eqvB_iff]
    exact cmpV_zero (x := (xk, xn, xs)) (y := (yk, yn, ys)) h1 h2
  have hN : (cmpV (xk, xn, xs) (yk, yn, ys) != -cmpV (yk, yn, ys) (xk, xn, xs)) = false := by
    rw [cmpV_neg (xk, xn, xs) (yk, yn, ys)]; simp
  have hE : (textS (xk, xn, xs)).toList.isEmpty = false := by
    rw [ByteArray.toList_eq]
    have := text_some (x := (xk, xn, xs)) h1
    simpa using this
  obtain ⟨r1, r2⟩ := cmpV_range (yk, yn, ys) (xk, xn, xs)
  generalize eqvB (xk, xn, xs) (yk, yn, ys) = q at heq hX hZ
  have hqq : (q == q) = true := by simp
  have hg := eqGuardV
  clear ht
  have HA := Lib.hid awake_any
  have HL := Lib.hid (fun W (g : Nat) (hg : RowAt W g 0 [(xk, xn, xs), (yk, yn, ys), (zk, zn, zs)]) => light3 W g hg hx hy hz)
  rw [hlb] at HL
  go_enter Tryd.func7, Tryd.ntmps7
  go_wp2_with fail
  refine (HA.out _).mono ?_
  rintro e w1 ⟨rfl, hb1⟩
  have A1 : Hid (At w1 w.heap.size 0 (xk, xn, xs)) := by
    refine At.later ?_ hb1 (by simp <;> omega)
    constructor <;> go_simp
  have B1 : Hid (At w1 (w.heap.size + 1) 0 (yk, yn, ys)) := by
    refine At.later ?_ hb1 (by simp <;> omega)
    constructor <;> go_simp
  have C1 : Hid (At w1 (w.heap.size + 1 + 1) 0 (zk, zn, zs)) := by
    refine At.later ?_ hb1 (by simp <;> omega)
    constructor <;> go_simp
  obtain ⟨hc1, hf1⟩ := bcell hb1
  have hz1 : w.heap.size + 1 + 1 < w1.heap.size := by have := hb1.size; simp at this; omega
  have hz0 : w.heap.size < w1.heap.size := by omega
  have hz2 : w.heap.size + 1 < w1.heap.size := by omega
  have q0 : w.heap.size < w1.heap.size + 1 := by omega
  have q1 : w.heap.size + 1 < w1.heap.size + 1 := by omega
  have q2 : w.heap.size + 1 + 1 < w1.heap.size + 1 := by omega
  have q3 : w.heap.size + 1 < w1.heap.size + 1 + 1 := by omega
  have q4 : w.heap.size + 1 + 1 < w1.heap.size + 1 + 1 := by omega
  have q5 : w.heap.size + 1 + 1 < w1.heap.size + 1 + 1 + 1 := by omega
  have HB1 : Hid (Below w.heap.size w w1) := below_step (below_new (below_new (below_own _) _) _) hb1
  clear hb1 HA
  go_wp2_with fail
  refine (HL.out _ _ ?_).mono ?_
  · exact row_made3 w1 _ (xk, xn, xs) (yk, yn, ys) (zk, zn, zs)
  rintro e w2 ⟨rfl, rfl⟩
  go_wp2_with fail
  refine (right_any _ _ _ _ hx).mono ?_
  rintro e w2 ⟨rfl, rfl⟩
  go_wp2_with fail
  refine (right_any _ _ _ _ hy).mono ?_
  rintro e w2 ⟨rfl, rfl⟩
  go_wp2_with fail
  refine (right_any _ _ _ _ hz).mono ?_
  rintro e w2 ⟨rfl, rfl⟩
  go_wp2_with fail
  obtain ⟨w0, hw0⟩ : ∃ w0, w0 = (((w1.alloc (.cells #[.int .u8 xk, .int .i64 xn, .string xs, .int .u8 yk, .int .i64 yn, .string ys, .int .u8 zk, .int .i64 zn, .string zs] 29)).alloc (.cells #[.int .u8 xk, .int .i64 xn, .string xs] 29)).alloc (.cells #[.int .u8 yk, .int .i64 yn, .string ys] 29)).alloc (.cells #[.int .u8 zk, .int .i64 zn, .string zs] 29) := ⟨_, rfl⟩
  rw [← hw0]
  have HB0 : Hid (Below w.heap.size w w0) := by rw [hw0]; exact below_new (below_new (below_new (below_new (HB1.out) _) _) _) _
  have A0 : Hid (At w0 w.heap.size 0 (xk, xn, xs)) := by rw [hw0]; exact A1.out.later (below_new (below_new (below_new (below_own _) _) _) _) hz0
  have B0 : Hid (At w0 (w.heap.size + 1) 0 (yk, yn, ys)) := by rw [hw0]; exact B1.out.later (below_new (below_new (below_new (below_own _) _) _) _) hz2
  have C0 : Hid (At w0 (w.heap.size + 1 + 1) 0 (zk, zn, zs)) := by rw [hw0]; exact C1.out.later (below_new (below_new (below_new (below_own _) _) _) _) hz1
  have l0 : w.heap.size + 1 + 1 < w0.heap.size := by rw [hw0]; simp; omega
  clear hw0 HB1 A1 B1 C1 hc1 hf1 hz1 hz0 hz2 q0 q1 q2 q3 q4 q5 HL
  have HB : Hid (∀ n os, Below w.heap.size w (Sort.grow (w0.drewN n) os)) := fun n os => below_step HB0.out (gr_grow w0 n os).below
  obtain ⟨ba, hba⟩ : ∃ b, b = w.heap.size := ⟨_, rfl⟩
  rw [← hba] at A0 B0 C0 l0 ⊢
  clear hba
  have a1 : ∀ n os, (Sort.grow (w0.drewN n) os).cell? ⟨ba, 0, none⟩ = some (.int .u8 xk) := cell_grown (by show ba < _; omega) A0.out.k
  have a2 : ∀ n os, (Sort.grow (w0.drewN n) os).cell? ⟨ba, 1, none⟩ = some (.int .i64 xn) := cell_grown (by show ba < _; omega) A0.out.n
  have a3 : ∀ n os, (Sort.grow (w0.drewN n) os).cell? ⟨ba, 2, none⟩ = some (.string xs) := cell_grown (by show ba < _; omega) A0.out.s
  have b1 : ∀ n os, (Sort.grow (w0.drewN n) os).cell? ⟨ba + 1, 0, none⟩ = some (.int .u8 yk) := cell_grown (by show ba + 1 < _; omega) B0.out.k
  have b2 : ∀ n os, (Sort.grow (w0.drewN n) os).cell? ⟨ba + 1, 1, none⟩ = some (.int .i64 yn) := cell_grown (by show ba + 1 < _; omega) B0.out.n
  have b3 : ∀ n os, (Sort.grow (w0.drewN n) os).cell? ⟨ba + 1, 2, none⟩ = some (.string ys) := cell_grown (by show ba + 1 < _; omega) B0.out.s
  have c1 : ∀ n os, (Sort.grow (w0.drewN n) os).cell? ⟨ba + 1 + 1, 0, none⟩ = some (.int .u8 zk) := cell_grown (by show ba + 1 + 1 < _; omega) C0.out.k
  have c2 : ∀ n os, (Sort.grow (w0.drewN n) os).cell? ⟨ba + 1 + 1, 1, none⟩ = some (.int .i64 zn) := cell_grown (by show ba + 1 + 1 < _; omega) C0.out.n
  have c3 : ∀ n os, (Sort.grow (w0.drewN n) os).cell? ⟨ba + 1 + 1, 2, none⟩ = some (.string zs) := cell_grown (by show ba + 1 + 1 < _; omega) C0.out.s
  have mixed : Tryd.prog.follows .mixedOrders = true := by kernel_rfl
  go_quiet_grown (first | (go_at_call 16; exact Calls.grown_of ((compare_any _ _ _ _ _ _ _ (by assumption) (by assumption)).mono fun _ _ ⟨h, g⟩ => ⟨h, g.out⟩)))
  go_wp2_with fail
  refine (compare_any yk yn xk xn ys xs _ hy hx).mono ?_
  rintro e w4' ⟨rfl, hg4⟩
  obtain ⟨n2, os2, rfl⟩ := (gr_grow w0 nq osq).trans hg4
  clear hg4
  go_wp2_with fail
  obtain ⟨w4, hw4⟩ : ∃ w4, w4 = Sort.grow (w0.drewN n2) os2 := ⟨_, rfl⟩
  rw [← hw4]
  have A4 : Hid (At w4 ba 0 (xk, xn, xs)) := by rw [hw4]; exact A0.out.later (gr_grow w0 n2 os2).below (by omega)
  have B4 : Hid (At w4 (ba + 1) 0 (yk, yn, ys)) := by rw [hw4]; exact B0.out.later (gr_grow w0 n2 os2).below (by omega)
  have C4 : Hid (At w4 (ba + 1 + 1) 0 (zk, zn, zs)) := by rw [hw4]; exact C0.out.later (gr_grow w0 n2 os2).below (by omega)
  have l4 : ba + 1 + 1 < w4.heap.size := by rw [hw4]; have := (gr_grow w0 n2 os2).below.size; omega
  have HB4 : Hid (Below w.heap.size w w4) := by rw [hw4]; exact HB.out n2 os2
  clear a1 a2 a3 b1 b2 b3 c1 c2 c3 HB HB0 A0 B0 C0 hw4 l0
  have HB : Hid (∀ n os, Below w.heap.size w (Sort.grow (w4.drewN n) os)) := fun n os => below_step HB4.out (gr_grow w4 n os).below
  have a1 : ∀ n os, (Sort.grow (w4.drewN n) os).cell? ⟨ba, 0, none⟩ = some (.int .u8 xk) := cell_grown (by show ba < _; omega) A4.out.k
  have a2 : ∀ n os, (Sort.grow (w4.drewN n) os).cell? ⟨ba, 1, none⟩ = some (.int .i64 xn) := cell_grown (by show ba < _; omega) A4.out.n
  have a3 : ∀ n os, (Sort.grow (w4.drewN n) os).cell? ⟨ba, 2, none⟩ = some (.string xs) := cell_grown (by show ba < _; omega) A4.out.s
  have b1 : ∀ n os, (Sort.grow (w4.drewN n) os).cell? ⟨ba + 1, 0, none⟩ = some (.int .u8 yk) := cell_grown (by show ba + 1 < _; omega) B4.out.k
  have b2 : ∀ n os, (Sort.grow (w4.drewN n) os).cell? ⟨ba + 1, 1, none⟩ = some (.int .i64 yn) := cell_grown (by show ba + 1 < _; omega) B4.out.n
  have b3 : ∀ n os, (Sort.grow (w4.drewN n) os).cell? ⟨ba + 1, 2, none⟩ = some (.string ys) := cell_grown (by show ba + 1 < _; omega) B4.out.s
  have c1 : ∀ n os, (Sort.grow (w4.drewN n) os).cell? ⟨ba + 1 + 1, 0, none⟩ = some (.int .u8 zk) := cell_grown (by show ba + 1 + 1 < _; omega) C4.out.k
  have c2 : ∀ n os, (Sort.grow (w4.drewN n) os).cell? ⟨ba + 1 + 1, 1, none⟩ = some (.int .i64 zn) := cell_grown (by show ba + 1 + 1 < _; omega) C4.out.n
  have c3 : ∀ n os, (Sort.grow (w4.drewN n) os).cell? ⟨ba + 1 + 1, 2, none⟩ = some (.string zs) := cell_grown (by show ba + 1 + 1 < _; omega) C4.out.s
  clear A4 B4 C4 HB4
  go_quiet_grown (first | (go_at_call 18; exact Calls.grown_of ((text_all _ _ _ _ (by assumption) (by assumption) (tab_on HT.out (HB.out _ _))).mono fun _ _ ⟨h, g⟩ => ⟨h, g.out⟩)))
  go_wp2
  go_ret
  exact ⟨rfl, HB.out _ _⟩

theorem texts_any (xk xn yk yn zk zn : Int) (xs ys zs : ByteArray) (w : World) (hx : xs.size ≤ maxLen) (hy : ys.size ≤ maxLen) (hz : zs.size ≤ maxLen) (ix : In64 xn) (iy : In64 yn) (ht : Lib.TabBelow Tryd.prog w.heap.size w "internal/strconv.uint64pow10" .u64 Lib.pow10Tab) : Calls Tryd.prog 7 #[.agg #[.int .u8 xk, .int .i64 xn, .string xs], .agg #[.int .u8 yk, .int .i64 yn, .string ys], .agg #[.int .u8 zk, .int .i64 zn, .string zs]] w fun e w' => e = .returned (.bool true) ∧ Below w.heap.size w w' := by
  cases hlb : lightB [(xk, xn, xs), (yk, yn, ys), (zk, zn, zs)] with
  | false => exact texts_heavy xk xn yk yn zk zn xs ys zs w hx hy hz hlb
  | true =>
    cases h1 : rightB xk xn xs with
    | false => exact texts_x xk xn yk yn zk zn xs ys zs w hx hy hz hlb h1
    | true =>
      cases h2 : rightB yk yn ys with
      | false => exact texts_y xk xn yk yn zk zn xs ys zs w hx hy hz hlb h1 h2
      | true =>
        cases h3 : rightB zk zn zs with
        | false => exact texts_z xk xn yk yn zk zn xs ys zs w hx hy hz hlb h1 h2 h3
        | true =>
          cases t1 : decide (cmpV (xk, xn, xs) (yk, yn, ys) ≤ 0) with
          | false => exact texts_t1 xk xn yk yn zk zn xs ys zs w hx hy hz ix iy ht hlb h1 h2 h3 t1
          | true =>
            cases t2 : decide (cmpV (yk, yn, ys) (zk, zn, zs) ≤ 0) with
            | false => exact texts_t2 xk xn yk yn zk zn xs ys zs w hx hy hz ix iy ht hlb h1 h2 h3 t1 t2
            | true =>
              have t3 := cmpV_trans (x := (xk, xn, xs)) (y := (yk, yn, ys)) (z := (zk, zn, zs)) h1 h2 h3 (of_decide_eq_true t1) (of_decide_eq_true t2)
              exact texts_t3 xk xn yk yn zk zn xs ys zs w hx hy hz ix iy ht hlb h1 h2 h3 t1 t2 (decide_eq_false (by omega))
end Go.Proofs.YtcmbedopmkodmaaDoor
