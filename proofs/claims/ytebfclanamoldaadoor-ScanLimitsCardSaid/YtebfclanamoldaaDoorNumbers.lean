/- ScanNumbers: any text says just the number that the document tells. -/
import Derived.Test.YtebfclanamoldaaDoorRefNum
namespace Go.Proofs.YtebfclanamoldaaDoor
open Go.RowKit

theorem refWords_any (w : World) :
    Calls Tryd.prog 15 #[] w fun e w' => e = .returned (.slice (some ⟨w.heap.size, 0, none⟩) 11 11) ∧ w.alloc (.cells wordsC 9) = w' := by
  go_enter Tryd.func15, Tryd.ntmps15
  go_wp2
  go_ret
  exact ⟨rfl, rfl⟩

set_option maxRecDepth 100000 in
set_option maxHeartbeats 2000000 in
theorem scanNumbers_any (s : ByteArray) (w : World) (he : Errs w) : Calls Tryd.prog 4 #[.string s] w (YesP w) := by
  have KA := Lib.hid (awake_any w he)
  have HE := Lib.hid he
  clear he
  by_cases hs : s.size ≤ 3000
  · have KN := Lib.hid (fun w' (h : Errs w') => number_any s w' (by omega) h)
    have KR := Lib.hid (fun w' => refNumber_any s w' (by omega))
    have hs' : ¬ (3000 : Int) < (s.size : Int) := by omega
    generalize numI s.data.toList = v at KN KR
    generalize numB s.data.toList = b at KN KR
    clear hs
    obtain ⟨n, hn⟩ : ∃ n : Nat, n = 11 := ⟨_, rfl⟩
    have KW : Hid (∀ w', Calls Tryd.prog 14 #[] w' fun e w'' => e = .returned (.slice (some ⟨w'.heap.size, 0, none⟩) n n) ∧ w'.alloc (.cells wordsC 9) = w'') := fun w' => by rw [hn]; exact words_any w'
    have KV : Hid (∀ w', Calls Tryd.prog 15 #[] w' fun e w'' => e = .returned (.slice (some ⟨w'.heap.size, 0, none⟩) n n) ∧ w'.alloc (.cells wordsC 9) = w'') := fun w' => by rw [hn]; exact refWords_any w'
    have HN : Hid (wordsZ.length = n) := hn.symm
    have hn1 : n ≤ 1000 := by omega
    clear hn
    go_enter Tryd.func4, Tryd.ntmps4
    go_wp2_with (first
      | (go_at_call 8; refine (KA.out).mono ?_; rintro e w1 ⟨rfl, hb1⟩; have HB1 := Lib.hid hb1; clear hb1)
      | (go_at_call 12; refine (KN.out _ (HE.out.below HB1.out)).mono ?_; rintro e w2 ⟨rfl, hb2⟩; have HB2 := Lib.hid (below_step HB1.out hb2); clear hb2)
      | (go_at_call 13; refine (KR.out _).mono ?_; rintro e w3 ⟨rfl, rfl⟩)
      | (go_at_call 14; refine (KW.out _).mono ?_; rintro e w3 ⟨rfl, rfl⟩)
      | (go_at_call 15; refine (KV.out _).mono ?_; rintro e w3 ⟨rfl, rfl⟩))
    have H1 : Hid (Sets ((w2.alloc (.cells wordsC 9)).alloc (.cells wordsC 9)) w2.heap.size wordsZ) := (sets_made w2 wordsZ wordsC 9 rfl).below (below_own _)
    have H2 : Hid (Sets ((w2.alloc (.cells wordsC 9)).alloc (.cells wordsC 9)) (w2.heap.size + 1) wordsZ) := by
      have := sets_made (w2.alloc (.cells wordsC 9)) wordsZ wordsC 9 rfl
      rwa [World.size_alloc] at this
    have HB3 : Hid (Below w.heap.size w ((w2.alloc (.cells wordsC 9)).alloc (.cells wordsC 9))) := below_new (below_new HB2.out _) _
    generalize ((w2.alloc (.cells wordsC 9)).alloc (.cells wordsC 9)) = w3 at H1 H2 HB3 ⊢
    generalize w2.heap.size = g at H1 H2 ⊢
    clear HB2 KA KN KR
    go_loopw [9] (fun i wr => ∃ (k m : Nat), k ≤ n ∧ i = .int .i64 k ∧ wr = w3.drewN m) (fun i _ => n - (intOf i).toNat)
    case atStart => exact ⟨0, 0, Nat.zero_le _, rfl, rfl⟩
    case round =>
      obtain ⟨k, m, hk, rfl, rfl⟩ := hrel
      by_cases hlt : k < n
      · have hkz : k < wordsZ.length := by rw [HN.out]; exact hlt
        have c1 := H1.out.cell k hkz
        have c2 := H2.out.cell k hkz
        generalize wordsZ[k] = z at c1 c2
        clear hkz
        go_wp2_with fail
        go_quiet (fail)
        go_wp2
        go_roundw
        case rel => exact ⟨k + 1, _, by omega, by go_num, rfl⟩
        case measure => simp [intOf]; omega
      · obtain rfl : k = n := by omega
        go_wp2
        go_ret
        exact ⟨rfl, RowKit_drewN HB3.out _⟩
  · have hs' : (3000 : Int) < (s.size : Int) := by omega
    clear hs
    go_enter Tryd.func4, Tryd.ntmps4
    go_wp2_with (go_at_call 8; refine (KA.out).mono ?_; rintro e w1 ⟨rfl, hb1⟩; have HB1 := Lib.hid hb1; clear hb1)
    go_ret
    exact ⟨rfl, HB1.out⟩
end Go.Proofs.YtebfclanamoldaaDoor
