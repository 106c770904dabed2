/- num, New(1); what the chapter's examples say, plainly. -/
import Derived.Test.YtnnhgbncghpecaaGreatPatB10
import Derived.Deep.DeepCutAuto
namespace Go.Proofs.YtnnhgbncghpecaaGreat
open Go.RowKit

theorem num_any (x : Int) (w : World) : Calls Tryz.prog 21 #[.int .i64 x] w fun e w' => e = .returned (aggV (numT x)) ∧ Below w.heap.size w w' := by
  go_enter Tryz.func21, Tryz.ntmps21
  go_wp2_with fail
  exact bodyPost_ret (v := .agg #[.int .u8 1, .int .i64 x, .string ⟨#[]⟩]) (by simp [results, Tryz.results21, go_sem]) rfl ⟨rfl, below_own _⟩

def egArgs : List A10 := [⟨1, 0, zeroT⟩, ⟨2, 0, zeroT⟩, ⟨3, 0, zeroT⟩, ⟨4, 0, numT 5⟩]
def egArgs1 : List A10 := [⟨1, 0, zeroT⟩, ⟨2, 0, zeroT⟩, ⟨3, 1, zeroT⟩, ⟨4, 0, numT 5⟩]
def egX : X := .mk 0 0 0 ⟨#[]⟩ 0 0 []
def egC (l : List A10) : C10 := ⟨1, 1, l, egX⟩
def egE : E10 := ([false], [zeroT])
theorem eqvB_same (x : V3) : eqvB x x = true := (eqvB_iff x x).2 rfl
theorem eqvB_num {a b : Int} (h : a ≠ b) : eqvB (numT a) (numT b) = false := by
  rw [Bool.eq_false_iff]
  intro h'
  have := (eqvB_iff _ _).1 h'
  simp only [numT, Prod.mk.injEq] at this
  exact h this.2.1
theorem eg_made : madeP egE = true := by
  unfold madeP egE
  simp [made1, eqvB_same]
theorem fit_any1 {a : A10} {v : V3} {e : E10} (h : a.kind = 1) : fit1 a v e = some e := by unfold fit1; rw [if_pos h]
theorem fit_bind1 {a : A10} {v : V3} {e : E10} {k : Nat} (h : a.kind = 2) (hv : a.var = k) (hk : k < e.1.length) : fit1 a v e = some (bind10 k v e) := by
  unfold fit1
  rw [if_neg (by omega), if_pos h, if_pos (known10_iff.2 ⟨k, hv, hk⟩), hv]
  rfl
theorem fit_var1 {a : A10} {v : V3} {e : E10} {k : Nat} (h : a.kind = 3) (hv : a.var = k) (hk : k < e.1.length) : fit1 a v e = if (e.1.getD k false && eqvB (e.2.getD k zeroT) v) = true then some e else none := by
  unfold fit1
  rw [if_neg (by omega), if_neg (by omega), if_pos h, known10_iff.2 ⟨k, hv, hk⟩, hv, Bool.true_and]
  rfl
theorem fit_var0 {a : A10} {v : V3} {e : E10} (h : a.kind = 3) (hk : known10 a.var e.1.length = false) : fit1 a v e = none := by
  unfold fit1
  rw [if_neg (by omega), if_neg (by omega), if_pos h, hk]
  rfl
theorem fit_const1 {a : A10} {v : V3} {e : E10} (h : a.kind = 4) : fit1 a v e = if eqvB a.val v = true then some e else none := by
  unfold fit1
  rw [if_neg (by omega), if_neg (by omega), if_neg (by omega), if_pos h]
theorem eg_first (l : List A10) (vs : List V3) (hl : vs.length = l.length) : firstB (egC l) [⟨0, 1, vs⟩] egE = fitsP (l.zip vs) egE := by
  unfold firstB
  rw [if_pos (by rw [eg_made]; rfl)]
  show (match hit10 1 l egE ⟨0, 1, vs⟩ with | some e' => some e' | none => none) = _
  have : hit10 1 l egE ⟨0, 1, vs⟩ = fitsP (l.zip vs) egE := by
    unfold hit10
    rw [if_pos (by simp [hl])]
  rw [this]
  cases fitsP (l.zip vs) egE <;> rfl
theorem eg_yes : firstB (egC egArgs) [⟨0, 1, [numT 1, numT 2, numT 2, numT 5]⟩] egE = some ([true], [numT 2]) := by
  rw [eg_first _ _ rfl]
  show fitsP [(⟨1, 0, zeroT⟩, numT 1), (⟨2, 0, zeroT⟩, numT 2), (⟨3, 0, zeroT⟩, numT 2), (⟨4, 0, numT 5⟩, numT 5)] egE = _
  rw [fitsP, fit_any1 rfl]
  simp only
  rw [fitsP, fit_bind1 (k := 0) rfl rfl (by decide)]
  simp only
  rw [fitsP, fit_var1 (k := 0) rfl rfl (by decide), if_pos (by show (true && eqvB (numT 2) (numT 2)) = true; rw [eqvB_same]; rfl)]
  simp only
  rw [fitsP, fit_const1 rfl, if_pos (eqvB_same _)]
  rfl
theorem eg_no : firstB (egC egArgs) [⟨0, 1, [numT 1, numT 2, numT 3, numT 5]⟩] egE = none := by
  rw [eg_first _ _ rfl]
  show fitsP [(⟨1, 0, zeroT⟩, numT 1), (⟨2, 0, zeroT⟩, numT 2), (⟨3, 0, zeroT⟩, numT 3), (⟨4, 0, numT 5⟩, numT 5)] egE = _
  rw [fitsP, fit_any1 rfl]
  simp only
  rw [fitsP, fit_bind1 (k := 0) rfl rfl (by decide)]
  simp only
  rw [fitsP, fit_var1 (k := 0) rfl rfl (by decide), if_neg (by show ¬ (true && eqvB (numT 2) (numT 3)) = true; rw [eqvB_num (by decide)]; decide)]
theorem eg_nor : firstB (egC egArgs1) [⟨0, 1, [numT 1, numT 2, numT 2, numT 5]⟩] egE = none := by
  rw [eg_first _ _ rfl]
  show fitsP [(⟨1, 0, zeroT⟩, numT 1), (⟨2, 0, zeroT⟩, numT 2), (⟨3, 1, zeroT⟩, numT 2), (⟨4, 0, numT 5⟩, numT 5)] egE = _
  rw [fitsP, fit_any1 rfl]
  simp only
  rw [fitsP, fit_bind1 (k := 0) rfl rfl (by decide)]
  simp only
  rw [fitsP, fit_var0 rfl (by decide)]

/-- New of a number that may be. -/
def NewP (n : Nat) (w : World) (r : Ending) (w' : World) : Prop := ∃ h1 c1 h2 c2, r = .returned (.agg #[.slice h1 n c1, .slice h2 n c2]) ∧ Own10 w.heap.size w' (List.replicate n false, List.replicate n zeroT) (.slice h1 n c1) (.slice h2 n c2) ∧ Below w.heap.size w w'
theorem madeCells_get (z : Array Value) (n j : Nat) (h : j < n) : (madeCells z n).toList[j]? = some z[j % z.size]! := by simp [madeCells, h]
theorem cells_zeros (n : Nat) : (madeCells (Value.agg #[.int .u8 0, .int .i64 0, .string ⟨#[]⟩]).cells (n * 3)).toList = cellsV (List.replicate n zeroT) := by
  apply List.ext_getElem?
  intro j
  by_cases hj : j < n * 3
  · have e1 : j / 3 < n := by omega
    obtain ⟨q0, q1, q2⟩ := cellsV_get (List.replicate n zeroT) (j / 3) (by simpa using e1)
    rw [List.getD_eq_getElem?_getD, List.getElem?_replicate, if_pos e1] at q0 q1 q2
    have hr : j % 3 = 0 ∨ j % 3 = 1 ∨ j % 3 = 2 := by omega
    have hjj : j = j / 3 * 3 + j % 3 := by omega
    rw [madeCells_get _ _ _ hj]
    show some (#[Value.int .u8 0, .int .i64 0, .string ⟨#[]⟩] : Array Value)[j % 3]! = _
    rcases hr with h | h | h
    · rw [h] at hjj ⊢
      rw [hjj, show j / 3 * 3 + 0 = j / 3 * 3 by omega, q0]
      rfl
    · rw [h] at hjj ⊢
      rw [hjj, q1]
      rfl
    · rw [h] at hjj ⊢
      rw [hjj, q2]
      rfl
  · rw [List.getElem?_eq_none (by simp [madeCells]; omega), List.getElem?_eq_none (by rw [cellsV_length]; simp; omega)]
theorem cells_falses (n : Nat) : (madeCells #[Value.bool false] (n * 1)).toList = cellsB (List.replicate n false) := by
  rw [toList_madeCells_one, Nat.mul_one]
  simp [cellsB]
theorem makeB_run (n : Nat) (hn : n ≤ 16) (W : World) : (Instr.makeSlice 37 (.int .i64 (n : Int)) (.int .i64 (n : Int))).run Tryz.prog W = .ok (.slice (some ⟨W.heap.size, 0, none⟩) n n) (W.alloc (.cells (madeCells #[.bool false] (n * 1)) 4)) := by
  obtain ⟨i0, hi, hz0, hz1, hz2⟩ := info_parts infoB
  have hr := run_make (P := Tryz.prog) W 37 4 i0 (.bool false) Tryz.underlying37 hi hz0 .i64 .i64 n n (by omega) (Int.le_refl _) (by rw [hz2]; omega) (by omega)
  simp only [Int.toNat_natCast, hz1] at hr
  exact hr
theorem makeV_run (n : Nat) (hn : n ≤ 16) (W : World) : (Instr.makeSlice 34 (.int .i64 (n : Int)) (.int .i64 (n : Int))).run Tryz.prog W = .ok (.slice (some ⟨W.heap.size, 0, none⟩) n n) (W.alloc (.cells (madeCells (Value.agg #[.int .u8 0, .int .i64 0, .string ⟨#[]⟩]).cells (n * 3)) 27)) := by
  obtain ⟨i0, hi, hz0, hz1, hz2⟩ := info_parts infoV
  have hr := run_make (P := Tryz.prog) W 34 27 i0 (.agg #[.int .u8 0, .int .i64 0, .string ⟨#[]⟩]) Tryz.underlying34 hi hz0 .i64 .i64 n n (by omega) (Int.le_refl _) (by rw [hz2]; omega) (by omega)
  simp only [Int.toNat_natCast, hz1] at hr
  exact hr
/-- Two rows, each a block of its own. -/
theorem own_two {base : Nat} {W : World} {n g1 g2 : Nat} {A1 A2 : Array Value} (h1 : A1.toList = cellsB (List.replicate n false)) (h2 : A2.toList = cellsV (List.replicate n zeroT)) (q1 : W.heap[g1]? = some (.cells A1 4 (0, 0))) (q2 : W.heap[g2]? = some (.cells A2 27 (0, 0))) (b1 : base ≤ g1) (b2 : base ≤ g2) (hn : n ≤ 16) :
    Own10 base W (List.replicate n false, List.replicate n zeroT) (.slice (some ⟨g1, 0, none⟩) n n) (.slice (some ⟨g2, 0, none⟩) n n) := by
  have s1 : A1.size = n * 1 := by
    have := congrArg List.length h1
    rw [cellsB_length, List.length_replicate, Array.length_toList] at this
    omega
  have s2 : A2.size = n * 3 := by
    have := congrArg List.length h2
    rw [cellsV_length, List.length_replicate, Array.length_toList] at this
    exact this
  refine ⟨⟨?_, Or.inr ⟨g1, n, A1, ?_, b1, q1, by simp, ?_, s1, ?_⟩⟩, ⟨?_, Or.inr ⟨g2, n, A2, ?_, b2, q2, by simp, ?_, s2, ?_⟩⟩⟩
  · rw [cellsB_length]; simp
  · simp
  · unfold maxLen; omega
  · simp only [List.length_replicate]; rw [List.take_of_length_le (by rw [Array.length_toList, s1]; exact Nat.le_refl _), h1]
  · rw [cellsV_length]
  · simp
  · unfold maxLen; omega
  · simp only [List.length_replicate]; rw [List.take_of_length_le (by rw [Array.length_toList, s2]; exact Nat.le_refl _), h2]
set_option maxRecDepth 100000 in
set_option maxHeartbeats 4000000 in
theorem new_any (n : Nat) (hn : n ≤ 16) (w : World) : Calls Tryz.prog 19 #[.int .i64 n] w (NewP n w) := by
  have hmb := fun W => makeB_run n hn W
  have hmv := fun W => makeV_run n hn W
  have H1 := Lib.hid (cells_falses n)
  have H2 := Lib.hid (cells_zeros n)
  generalize madeCells #[.bool false] (n * 1) = A1 at *
  generalize madeCells (Value.agg #[.int .u8 0, .int .i64 0, .string ⟨#[]⟩]).cells (n * 3) = A2 at *
  have hn' : ¬ (n : Int) < 0 := by omega
  have hn2 : ¬ (16 : Int) < (n : Int) := by omega
  unfold NewP
  go_enter Tryz.func19, Tryz.ntmps19
  go_wp2_with fail
  go_region
  · go_wp2
    obtain ⟨q0, q1, q2⟩ := heap_three (w := w) (.cells #[.slice (some ⟨w.heap.size + 1, 0, none⟩) n n, .slice (some ⟨w.heap.size + 1 + 1, 0, none⟩) n n] 44) (.cells A1 4) (.cells A2 27)
    have hb : Below w.heap.size w (((w.alloc (.cells #[.slice (some ⟨w.heap.size + 1, 0, none⟩) n n, .slice (some ⟨w.heap.size + 1 + 1, 0, none⟩) n n] 44)).alloc (.cells A1 4)).alloc (.cells A2 27)) := below_new (below_new (below_own _) _) _
    generalize (((w.alloc (.cells #[.slice (some ⟨w.heap.size + 1, 0, none⟩) n n, .slice (some ⟨w.heap.size + 1 + 1, 0, none⟩) n n] 44)).alloc (.cells A1 4)).alloc (.cells A2 27)) = W at *
    have d0 : W.drew.cell? ⟨w.heap.size, 0, none⟩ = _ := Lib.cell_of_heap (w := W.drew) q0 0
    have d1 : W.drew.cell? ⟨w.heap.size, 1, none⟩ = _ := Lib.cell_of_heap (w := W.drew) q0 1
    exact bodyPost_ret (v := .agg #[.slice (some ⟨w.heap.size + 1, 0, none⟩) n n, .slice (some ⟨w.heap.size + 1 + 1, 0, none⟩) n n]) (by simp [results, Tryz.results19, go_sem, d0, d1]) rfl ⟨_, _, _, _, rfl, own_two (W := W.drew) H1.out H2.out q1 q2 (by omega) (by omega) hn, below_drew hb⟩
  · go_wp2
    obtain ⟨q0, q1, q2⟩ := heap_three (w := w) (.cells #[.slice (some ⟨w.heap.size + 1 + 1, 0, none⟩) n n, .slice (some ⟨w.heap.size + 1, 0, none⟩) n n] 44) (.cells A2 27) (.cells A1 4)
    have hb : Below w.heap.size w (((w.alloc (.cells #[.slice (some ⟨w.heap.size + 1 + 1, 0, none⟩) n n, .slice (some ⟨w.heap.size + 1, 0, none⟩) n n] 44)).alloc (.cells A2 27)).alloc (.cells A1 4)) := below_new (below_new (below_own _) _) _
    generalize (((w.alloc (.cells #[.slice (some ⟨w.heap.size + 1 + 1, 0, none⟩) n n, .slice (some ⟨w.heap.size + 1, 0, none⟩) n n] 44)).alloc (.cells A2 27)).alloc (.cells A1 4)) = W at *
    have d0 : W.drew.cell? ⟨w.heap.size, 0, none⟩ = _ := Lib.cell_of_heap (w := W.drew) q0 0
    have d1 : W.drew.cell? ⟨w.heap.size, 1, none⟩ = _ := Lib.cell_of_heap (w := W.drew) q0 1
    exact bodyPost_ret (v := .agg #[.slice (some ⟨w.heap.size + 1 + 1, 0, none⟩) n n, .slice (some ⟨w.heap.size + 1, 0, none⟩) n n]) (by simp [results, Tryz.results19, go_sem, d0, d1]) rfl ⟨_, _, _, _, rfl, own_two (W := W.drew) H1.out H2.out q2 q1 (by omega) (by omega) hn, below_drew hb⟩
end Go.Proofs.YtnnhgbncghpecaaGreat
