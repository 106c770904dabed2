/- ScanTokens. -/
import Derived.Test.YtebfclanamoldaaDoorSameLexes
import Derived.Test.YtebfclanamoldaaDoorPlaces
namespace Go.Proofs.YtebfclanamoldaaDoor
open Go.RowKit

set_option maxRecDepth 100000 in
set_option maxHeartbeats 4000000 in
theorem scanTokens_any (s : ByteArray) (w : World) (he : Errs w) : Calls Tryd.prog 3 #[.string s] w (YesP w) := by
  have KA := Lib.hid (awake_any w he)
  have HE := Lib.hid he
  clear he
  by_cases hs : s.size ≤ 3000
  · have hs' : ¬ (3000 : Int) < (s.size : Int) := by omega
    have KT := Lib.hid (fun w' (h : Errs w') => tokens_any s w' h)
    have KR := Lib.hid (fun w' => refTokens_any s hs w')
    have hq := eqF
    have hg := eqGuardF
    rcases told_cases s.data.toList with ⟨er, a, ht, hne, _⟩ | ⟨ht, hok, _⟩
    · rw [ht] at KT KR
      have KS := Lib.hid sameLexes_none
      have hself := eqFB_self er a
      clear ht hne hs
      go_enter Tryd.func3, Tryd.ntmps3
      go_wp2_with (first
        | (go_at_call 8; refine (KA.out).mono ?_; rintro e w1 ⟨rfl, hb1⟩; have HB1 := Lib.hid hb1; clear hb1)
        | (go_at_call 9; refine (KT.out _ (HE.out.below HB1.out)).mono ?_; rintro e w2 ⟨ao, c, rfl, hrow, hb2⟩; have HB2 := Lib.hid (below_step HB1.out hb2); clear hb2 hrow)
        | (go_at_call 10; refine (KR.out _).mono ?_; rintro e w3 ⟨bo, c', rfl, hrow, hb3⟩
           have hlt : w2.heap.size < w3.heap.size := by have := hb3.size; simp only [World.size_alloc] at this; omega
           have k0 : (w3.alloc (.cells #[.int .i64 er, .int .i64 a] 26)).cell? ⟨w2.heap.size, 0, none⟩ = some (.int .i64 er) := (World.cell?_alloc_lt w3 _ ⟨w2.heap.size, 0, none⟩ hlt).trans (((bret hb3).1 0).trans (cells_made w2 _ _ 0 _ rfl))
           have k1 : (w3.alloc (.cells #[.int .i64 er, .int .i64 a] 26)).cell? ⟨w2.heap.size, 1, none⟩ = some (.int .i64 a) := (World.cell?_alloc_lt w3 _ ⟨w2.heap.size, 1, none⟩ hlt).trans (((bret hb3).1 1).trans (cells_made w2 _ _ 1 _ rfl))
           have l0 : (w3.alloc (.cells #[.int .i64 er, .int .i64 a] 26)).cell? ⟨w3.heap.size, 0, none⟩ = some (.int .i64 er) := cells_made w3 _ _ 0 _ rfl
           have l1 : (w3.alloc (.cells #[.int .i64 er, .int .i64 a] 26)).cell? ⟨w3.heap.size, 1, none⟩ = some (.int .i64 a) := cells_made w3 _ _ 1 _ rfl
           have HB4 : Hid (Below w.heap.size w (w3.alloc (.cells #[.int .i64 er, .int .i64 a] 26))) := below_new (below_step (below_new HB2.out _) hb3) _
           clear hb3 hrow hlt)
        | (go_at_call 11; refine (KS.out _ _ _ _ _).mono ?_; rintro e w4 ⟨rfl, m, rfl⟩))
      go_ret
      exact ⟨rfl, RowKit_drewN HB4.out _⟩
    · rw [ht] at KT KR
      obtain ⟨ys, hys⟩ : ∃ ys, ys = seqF s.data.toList.length (s.data.toList.length + 1) s.data.toList := ⟨_, rfl⟩
      have HN0 : Hid (0 < ys.length) := by
        obtain ⟨q, hq⟩ := seq_last s.data.toList.length (s.data.toList.length + 1) s.data.toList (Nat.lt_succ_self _) hok
        unfold Hid
        rw [hys, hq, List.length_append]
        simp
      have HNM : Hid (ys.length ≤ 100000) := by
        have := seq_len s.data.toList.length (s.data.toList.length + 1) s.data.toList
        have h2 : s.data.toList.length = s.size := by simp
        unfold Hid
        rw [hys]
        omega
      rw [← hys] at KT KR
      have hself := eqFB_self 0 0
      clear ht hok hys hs
      go_enter Tryd.func3, Tryd.ntmps3
      go_wp2_with (first
        | (go_at_call 8; refine (KA.out).mono ?_; rintro e w1 ⟨rfl, hb1⟩; have HB1 := Lib.hid hb1; clear hb1)
        | (go_at_call 9; refine (KT.out _ (HE.out.below HB1.out)).mono ?_; rintro e w2 ⟨ao, c, rfl, hrow, hb2⟩; have HB2 := Lib.hid (below_step HB1.out hb2)
           obtain ⟨ga, rfl, _, hg2, _, hcell⟩ := told_cells hrow HN0.out
           have HG2 := Lib.hid hg2
           have HCA := Lib.hid hcell
           clear hb2 hrow hg2 hcell)
        | (go_at_call 10; refine (KR.out _).mono ?_; rintro e w3 ⟨bo, c', rfl, hrow, hb3⟩
           obtain ⟨gb, rfl, _, hg3, _, hcell⟩ := told_cells hrow HN0.out
           have hlt : w2.heap.size < w3.heap.size := by have := hb3.size; simp only [World.size_alloc] at this; omega
           have k0 : (w3.alloc (.cells #[.int .i64 0, .int .i64 0] 26)).cell? ⟨w2.heap.size, 0, none⟩ = some (.int .i64 0) := (World.cell?_alloc_lt w3 _ ⟨w2.heap.size, 0, none⟩ hlt).trans (((bret hb3).1 0).trans (cells_made w2 _ _ 0 _ rfl))
           have k1 : (w3.alloc (.cells #[.int .i64 0, .int .i64 0] 26)).cell? ⟨w2.heap.size, 1, none⟩ = some (.int .i64 0) := (World.cell?_alloc_lt w3 _ ⟨w2.heap.size, 1, none⟩ hlt).trans (((bret hb3).1 1).trans (cells_made w2 _ _ 1 _ rfl))
           have l0 : (w3.alloc (.cells #[.int .i64 0, .int .i64 0] 26)).cell? ⟨w3.heap.size, 0, none⟩ = some (.int .i64 0) := cells_made w3 _ _ 0 _ rfl
           have l1 : (w3.alloc (.cells #[.int .i64 0, .int .i64 0] 26)).cell? ⟨w3.heap.size, 1, none⟩ = some (.int .i64 0) := cells_made w3 _ _ 1 _ rfl
           have HB4 : Hid (Below w.heap.size w (w3.alloc (.cells #[.int .i64 0, .int .i64 0] 26))) := below_new (below_step (below_new HB2.out _) hb3) _
           have KS := Lib.hid (sameLexes_any ys ga gb c c' HNM.out (w3.alloc (.cells #[.int .i64 0, .int .i64 0] 26))
             (fun j u hu => (World.cell?_alloc_lt w3 _ ⟨ga, j, none⟩ (Nat.lt_trans HG2.out hlt)).trans ((hb3.cell (p := ⟨ga, j, none⟩) (show ga < (w2.alloc _).heap.size by have := HG2.out; simp only [World.size_alloc]; omega)).trans ((World.cell?_alloc_lt w2 _ ⟨ga, j, none⟩ HG2.out).trans (HCA.out j u hu))))
             (fun j u hu => (World.cell?_alloc_lt w3 _ ⟨gb, j, none⟩ hg3).trans (hcell j u hu)))
           clear hb3 hrow hlt hcell hg3)
        | (go_at_call 11; refine (KS.out).mono ?_; rintro e w4 ⟨rfl, m, rfl⟩))
      go_ret
      exact ⟨rfl, RowKit_drewN HB4.out _⟩
  · have hs' : (3000 : Int) < (s.size : Int) := by omega
    clear hs
    go_enter Tryd.func3, Tryd.ntmps3
    go_wp2_with (go_at_call 8; refine (KA.out).mono ?_; rintro e w1 ⟨rfl, hb1⟩; have HB1 := Lib.hid hb1; clear hb1)
    go_ret
    exact ⟨rfl, HB1.out⟩
end Go.Proofs.YtebfclanamoldaaDoor
