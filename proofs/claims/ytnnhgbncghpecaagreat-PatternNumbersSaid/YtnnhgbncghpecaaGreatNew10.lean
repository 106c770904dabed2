/- New, of the program and of the document, at any number; a drawn region, by what its operations hold. -/
import Derived.Test.YtnnhgbncghpecaaGreatMatches10
namespace Go.Proofs.YtnnhgbncghpecaaGreat
open Go.RowKit

def newE (x : Int) : E10 := if 0 ≤ x ∧ x ≤ 16 then (List.replicate x.toNat false, List.replicate x.toNat zeroT) else ([], [])
def NewsP (x : Int) (w : World) (r : Ending) (w' : World) : Prop := ∃ h1 c1 h2 c2, r = .returned (.agg #[.slice h1 (newE x).1.length c1, .slice h2 (newE x).2.length c2]) ∧ Own10 w.heap.size w' (newE x) (.slice h1 (newE x).1.length c1) (.slice h2 (newE x).2.length c2) ∧ Below w.heap.size w w'
set_option maxRecDepth 100000 in
set_option maxHeartbeats 4000000 in
theorem refNew_in (n : Nat) (hn : n ≤ 16) (w : World) : Calls Tryz.prog 20 #[.int .i64 n] w (NewP n w) := by
  have hmb := fun W => makeB_run n hn W
  have hmv := fun W => makeV_run n hn W
  have H1 := Lib.hid (cells_falses n)
  have H2 := Lib.hid (cells_zeros n)
  generalize madeCells #[.bool false] (n * 1) = A1 at *
  generalize madeCells (Value.agg #[.int .u8 0, .int .i64 0, .string ⟨#[]⟩]).cells (n * 3) = A2 at *
  have hn' : ¬ (n : Int) < 0 := by omega
  have hn2 : ¬ (16 : Int) < (n : Int) := by omega
  unfold NewP
  go_enter Tryz.func20, Tryz.ntmps20
  go_wp2_with fail
  go_region
  · go_wp2
    obtain ⟨q0, q1, q2⟩ := heap_three (w := w) (.cells #[.slice (some ⟨w.heap.size + 1, 0, none⟩) n n, .slice (some ⟨w.heap.size + 1 + 1, 0, none⟩) n n] 47) (.cells A1 4) (.cells A2 27)
    have hb : Below w.heap.size w (((w.alloc (.cells #[.slice (some ⟨w.heap.size + 1, 0, none⟩) n n, .slice (some ⟨w.heap.size + 1 + 1, 0, none⟩) n n] 47)).alloc (.cells A1 4)).alloc (.cells A2 27)) := below_new (below_new (below_own _) _) _
    generalize (((w.alloc (.cells #[.slice (some ⟨w.heap.size + 1, 0, none⟩) n n, .slice (some ⟨w.heap.size + 1 + 1, 0, none⟩) n n] 47)).alloc (.cells A1 4)).alloc (.cells A2 27)) = W at *
    have d0 : W.drew.cell? ⟨w.heap.size, 0, none⟩ = _ := Lib.cell_of_heap (w := W.drew) q0 0
    have d1 : W.drew.cell? ⟨w.heap.size, 1, none⟩ = _ := Lib.cell_of_heap (w := W.drew) q0 1
    exact bodyPost_ret (v := .agg #[.slice (some ⟨w.heap.size + 1, 0, none⟩) n n, .slice (some ⟨w.heap.size + 1 + 1, 0, none⟩) n n]) (by simp [results, Tryz.results20, go_sem, d0, d1]) rfl ⟨_, _, _, _, rfl, own_two (W := W.drew) H1.out H2.out q1 q2 (by omega) (by omega) hn, below_drew hb⟩
  · go_wp2
    obtain ⟨q0, q1, q2⟩ := heap_three (w := w) (.cells #[.slice (some ⟨w.heap.size + 1 + 1, 0, none⟩) n n, .slice (some ⟨w.heap.size + 1, 0, none⟩) n n] 47) (.cells A2 27) (.cells A1 4)
    have hb : Below w.heap.size w (((w.alloc (.cells #[.slice (some ⟨w.heap.size + 1 + 1, 0, none⟩) n n, .slice (some ⟨w.heap.size + 1, 0, none⟩) n n] 47)).alloc (.cells A2 27)).alloc (.cells A1 4)) := below_new (below_new (below_own _) _) _
    generalize (((w.alloc (.cells #[.slice (some ⟨w.heap.size + 1 + 1, 0, none⟩) n n, .slice (some ⟨w.heap.size + 1, 0, none⟩) n n] 47)).alloc (.cells A2 27)).alloc (.cells A1 4)) = W at *
    have d0 : W.drew.cell? ⟨w.heap.size, 0, none⟩ = _ := Lib.cell_of_heap (w := W.drew) q0 0
    have d1 : W.drew.cell? ⟨w.heap.size, 1, none⟩ = _ := Lib.cell_of_heap (w := W.drew) q0 1
    exact bodyPost_ret (v := .agg #[.slice (some ⟨w.heap.size + 1 + 1, 0, none⟩) n n, .slice (some ⟨w.heap.size + 1, 0, none⟩) n n]) (by simp [results, Tryz.results20, go_sem, d0, d1]) rfl ⟨_, _, _, _, rfl, own_two (W := W.drew) H1.out H2.out q2 q1 (by omega) (by omega) hn, below_drew hb⟩
set_option maxRecDepth 100000 in
set_option maxHeartbeats 2000000 in
theorem newAll_any (x : Int) (w : World) : Calls Tryz.prog 19 #[.int .i64 x] w (NewsP x w) := by
  unfold NewsP newE
  by_cases h1 : x < 0
  · rw [if_neg (by omega)]
    as_aux_lemma =>
      go_enter Tryz.func19, Tryz.ntmps19
      go_wp2_with fail
      exact bodyPost_ret (v := .agg #[.slice none 0 0, .slice none 0 0]) (by simp [results, Tryz.results19, go_sem]) rfl ⟨none, 0, none, 0, rfl, ⟨World.ownsRow_nil _ _ _ _, World.ownsRow_nil _ _ _ _⟩, below_own _⟩
  · by_cases h2 : 16 < x
    · rw [if_neg (by omega)]
      as_aux_lemma =>
      go_enter Tryz.func19, Tryz.ntmps19
      go_wp2_with fail
      exact bodyPost_ret (v := .agg #[.slice none 0 0, .slice none 0 0]) (by simp [results, Tryz.results19, go_sem]) rfl ⟨none, 0, none, 0, rfl, ⟨World.ownsRow_nil _ _ _ _, World.ownsRow_nil _ _ _ _⟩, below_own _⟩
    · obtain ⟨n, rfl⟩ : ∃ n : Nat, x = n := ⟨x.toNat, by omega⟩
      rw [if_pos (by omega)]
      simp only [Int.toNat_natCast, List.length_replicate]
      exact new_any n (by omega) w
set_option maxRecDepth 100000 in
set_option maxHeartbeats 2000000 in
theorem refNew_any (x : Int) (w : World) : Calls Tryz.prog 20 #[.int .i64 x] w (NewsP x w) := by
  unfold NewsP newE
  by_cases h1 : x < 0
  · rw [if_neg (by omega)]
    as_aux_lemma =>
      go_enter Tryz.func20, Tryz.ntmps20
      go_wp2_with fail
      exact bodyPost_ret (v := .agg #[.slice none 0 0, .slice none 0 0]) (by simp [results, Tryz.results20, go_sem]) rfl ⟨none, 0, none, 0, rfl, ⟨World.ownsRow_nil _ _ _ _, World.ownsRow_nil _ _ _ _⟩, below_own _⟩
  · by_cases h2 : 16 < x
    · rw [if_neg (by omega)]
      as_aux_lemma =>
      go_enter Tryz.func20, Tryz.ntmps20
      go_wp2_with fail
      exact bodyPost_ret (v := .agg #[.slice none 0 0, .slice none 0 0]) (by simp [results, Tryz.results20, go_sem]) rfl ⟨none, 0, none, 0, rfl, ⟨World.ownsRow_nil _ _ _ _, World.ownsRow_nil _ _ _ _⟩, below_own _⟩
    · obtain ⟨n, rfl⟩ : ∃ n : Nat, x = n := ⟨x.toNat, by omega⟩
      rw [if_pos (by omega)]
      simp only [Int.toNat_natCast, List.length_replicate]
      exact refNew_in n (by omega) w
end Go.Proofs.YtnnhgbncghpecaaGreat
