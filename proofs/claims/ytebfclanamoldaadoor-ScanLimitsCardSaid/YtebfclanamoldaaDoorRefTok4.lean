/- The document's token: signs. -/
import Derived.Test.YtebfclanamoldaaDoorRefTok3
namespace Go.Proofs.YtebfclanamoldaaDoor
open Go.RowKit

theorem refSigns_any (w : World) :
    Calls Tryd.prog 30 #[] w fun e w' => e = .returned (.slice (some ⟨w.heap.size, 0, none⟩) 17 17) ∧ w.alloc (.cells signsC 9) = w' := by
  go_enter Tryd.func30, Tryd.ntmps30
  go_wp2
  go_ret
  exact ⟨rfl, rfl⟩

/-- A text stands at a place just if it is cut there. -/
theorem stands_cut (s z : ByteArray) (a : Nat) (ha : a ≤ s.size) : z.data.toList.isPrefixOf (s.data.toList.drop a) = (decide (a + z.size ≤ s.size) && ((s.extract a (a + z.size)).toList == z.toList)) := by
  rw [Bool.eq_iff_iff, List.isPrefixOf_iff_prefix, Bool.and_eq_true, decide_eq_true_eq, beq_iff_eq]
  have hzl : z.data.toList.length = z.size := by simp
  have e1 : (s.extract a (a + z.size)).toList = (s.data.toList.drop a).take z.size := by
    rw [Lib.toList_data, extract_eq, show a + z.size - a = z.size by omega]
  rw [e1, Lib.toList_data z, List.prefix_iff_eq_take, hzl]
  constructor
  · intro h
    have h1 := congrArg List.length h
    simp at h1
    exact ⟨by omega, h.symm⟩
  · rintro ⟨_, h⟩
    exact h.symm

set_option maxRecDepth 100000 in
set_option maxHeartbeats 4000000 in
theorem refTok_sign (s : ByteArray) (hm : s.size ≤ 100000) (a : Nat) (ha : a < s.size) (w : World) (hl : lowB s[a] = false) (h63 : s[a].toNat ≠ 63) (h39 : s[a].toNat ≠ 39) (hd : digB s[a] = false) :
    Calls Tryd.prog 19 #[.string s, .int .i64 a] w fun e w' => e = .returned (rtV (signT (s.data.toList.drop a)) a (a + (signT (s.data.toList.drop a)).text.length)) ∧ Below w.heap.size w w' := by
  have KL := Lib.hid (fun w => refLow_any s[a] w)
  rw [hl] at KL
  have KD0 := Lib.hid (fun w => refDigit_any s[a] w)
  rw [hd] at KD0
  have ha' : (a : Int) < (s.size : Int) := by omega
  have q63 : ((s[a].toNat : Int) == 63) = false := by simp; omega
  have q39 : ((s[a].toNat : Int) == 39) = false := by simp; omega
  have i3 : (s.size : Int) ≤ 100000 := by omega
  obtain ⟨n, hn⟩ : ∃ n : Nat, n = 17 := ⟨_, rfl⟩
  have KS : Hid (∀ w', Calls Tryd.prog 30 #[] w' fun e w'' => e = .returned (.slice (some ⟨w'.heap.size, 0, none⟩) n n) ∧ w'.alloc (.cells signsC 9) = w'') := fun w' => by rw [hn]; exact refSigns_any w'
  have HN : Hid (signsZ.length = n) := hn.symm
  have hn1 : n ≤ 1000 := by omega
  have HM := Lib.hid hm
  have HS : Hid (Sets ((w.alloc (.cells lexC 41)).alloc (.cells signsC 9)) (w.heap.size + 1) signsZ) := by
    have := sets_made (w.alloc (.cells lexC 41)) signsZ signsC 9 rfl
    rwa [World.size_alloc] at this
  have HL := Lib.hid (show Lex3 ((w.alloc (.cells lexC 41)).alloc (.cells signsC 9)) w.heap.size (.int .u8 0) (.string ⟨#[]⟩) (.int .i64 0) from lex2 w lexC (.cells signsC 9) _ _ _ rfl rfl rfl)
  have HLF : Hid (∀ j, ((w.alloc (.cells lexC 41)).alloc (.cells signsC 9)).frozen? ⟨w.heap.size, j, none⟩ = false) := fun j =>
    Lib.frozen_of_heap ((Below.heap_alloc _ _ _ (by simp)).trans (heap_alloc_new w (.cells lexC 41))) j
  have HB : Hid (Below w.heap.size w ((w.alloc (.cells lexC 41)).alloc (.cells signsC 9))) := below_new (below_own _) _
  have hzs : ∀ j, (hj : j < signsZ.length) → (signsZ[j]).size ≤ 2 := by
    have h1 : ∀ z ∈ signsZ, z.size ≤ 2 := by decide
    exact fun j hj => h1 _ (List.getElem_mem hj)
  have HZS := Lib.hid hzs
  unfold signT
  cases ht : signsB.find? (fun t => t.isPrefixOf (s.data.toList.drop a)) with
  | none =>
    have hmiss : Hid (∀ j, (hj : j < signsZ.length) → (decide (a + (signsZ[j]).size ≤ s.size) && ((s.extract a (a + (signsZ[j]).size)).toList == (signsZ[j]).toList)) = false) := fun j hj => by
      rw [← stands_cut s _ a (Nat.le_of_lt ha), signs_get]
      exact Bool.eq_false_iff.2 (List.find?_eq_none.1 ht _ (List.getElem_mem _))
    show Calls _ _ _ _ fun e w' => e = .returned (.tuple #[.agg #[.int .u8 0, .string ⟨#[]⟩, .int .i64 0], .int .i64 0, .int .i64 200]) ∧ Below w.heap.size w w'
    clear hl h63 h39 hd hn hzs ht hm
    go_enter Tryd.func19, Tryd.ntmps19
    go_wp2_with (first
      | (go_at_call 25; refine (KL.out _).mono ?_; rintro e w' ⟨rfl, rfl⟩)
      | (go_at_call 22; refine (KD0.out _).mono ?_; rintro e w' ⟨rfl, rfl⟩)
      | (go_at_call 30; refine (KS.out _).mono ?_; rintro e w' ⟨rfl, rfl⟩))
    generalize ((w.alloc (.cells lexC 41)).alloc (.cells signsC 9)) = w1 at HS HL HLF HB ⊢
    go_loopw [16] (fun i wr => ∃ (k m : Nat), k ≤ n ∧ i = .int .i64 k ∧ wr = w1.drewN m) (fun i _ => n - (intOf i).toNat)
    case atStart => exact ⟨0, 0, Nat.zero_le _, rfl, rfl⟩
    case round =>
      obtain ⟨k, m, hk, rfl, rfl⟩ := hrel
      by_cases hlt : k < n
      · have hkz : k < signsZ.length := by rw [HN.out]; exact hlt
        have c1 := HS.out.cell k hkz
        have hmk := hmiss.out k hkz
        have hz2 := HZS.out k hkz
        generalize signsZ[k] = z at c1 hmk hz2
        clear hkz
        by_cases hfit : a + z.size ≤ s.size
        · rw [decide_eq_true hfit, Bool.true_and] at hmk
          have j1 : (a : Int) ≤ (a : Int) + (z.size : Int) := by omega
          have j2 : (a : Int) + (z.size : Int) ≤ (s.size : Int) := by omega
          have j3 : ((a : Int) + (z.size : Int)).toNat = a + z.size := by omega
          have j4 : decide ((a : Int) + (z.size : Int) ≤ (s.size : Int)) = true := by simpa using j2
          have hz3 : (z.size : Int) ≤ 2 := by omega
          clear hfit hz2
          go_wp2_with fail
          go_quiet (fail)
          go_wp2
          go_roundw
          case rel => exact ⟨k + 1, _, by omega, by go_num, rfl⟩
          case measure => clear c1 hmk j1 j2 j3 j4; simp [intOf]; omega
        · have j4 : decide ((a : Int) + (z.size : Int) ≤ (s.size : Int)) = false := by simp; omega
          have hz3 : (z.size : Int) ≤ 2 := by omega
          clear hfit hz2 hmk
          go_wp2_with fail
          go_quiet (fail)
          go_wp2
          go_roundw
          case rel => exact ⟨k + 1, _, by omega, by go_num, rfl⟩
          case measure => clear c1 j4; simp [intOf]; omega
      · obtain rfl : k = n := by omega
        obtain ⟨c0, c1, c2⟩ := HL.out
        have f0 := HLF.out
        clear hlt hmiss HS
        go_wp2
        obtain ⟨e0, e1, e2⟩ := ((Lex3.set0 (W := w1.drewN m) (b := w.heap.size) ⟨c0, c1, c2⟩ (.int .u8 0)).set1 (.string ⟨#[]⟩)).set2 (.int .i64 0)
        exact bodyPost_ret (v := .tuple #[.agg #[.int .u8 0, .string ⟨#[]⟩, .int .i64 0], .int .i64 0, .int .i64 200]) (by simp [results, Tryd.results19, go_sem, e0, e1, e2]) rfl ⟨rfl, (((RowKit_drewN HB.out m).setCell (p := ⟨w.heap.size, 0, none⟩) (Nat.le_refl _) _).setCell (p := ⟨w.heap.size, 1, none⟩) (Nat.le_refl _) _).setCell (p := ⟨w.heap.size, 2, none⟩) (Nat.le_refl _) _⟩
  | some t =>
    obtain ⟨hp, j, hjb, el, hmiss0⟩ := List.find?_eq_some_iff_getElem.1 ht
    have hjz : j < signsZ.length := by simpa [signsZ] using hjb
    obtain ⟨y, hy⟩ : ∃ y : ByteArray, y = ⟨t.toArray⟩ := ⟨_, rfl⟩
    have hyj : signsZ[j] = y := by
      rw [hy]
      simp [signsZ, el]
    have hyt : y.data.toList = t := by rw [hy]
    have hys : y.size = t.length := by rw [← hyt]; simp
    have hhit : Hid ((decide (a + y.size ≤ s.size) && ((s.extract a (a + y.size)).toList == y.toList)) = true) := by
      rw [← stands_cut s _ a (Nat.le_of_lt ha), hyt]
      exact hp
    have hmiss : Hid (∀ i, (hi : i < signsZ.length) → i < j → (decide (a + (signsZ[i]).size ≤ s.size) && ((s.extract a (a + (signsZ[i]).size)).toList == (signsZ[i]).toList)) = false) := fun i hi hij => by
      rw [← stands_cut s _ a (Nat.le_of_lt ha), signs_get]
      have h1 := hmiss0 i hij
      rwa [Bool.not_eq_true'] at h1
    show Calls _ _ _ _ fun e w' => e = .returned (.tuple #[.agg #[.int .u8 6, .string ⟨t.toArray⟩, .int .i64 (a : Int)], .int .i64 ((a + t.length : Nat) : Int), .int .i64 0]) ∧ Below w.heap.size w w'
    rw [← hy, ← hys]
    have hjn : j < n := by have := HN.out; omega
    have HY := Lib.hid hyj
    have hy2 : y.size ≤ 2 := by rw [← hyj]; exact hzs j hjz
    clear hl h63 h39 hd hn hzs ht hm hp el hmiss0 hjb hy hyt hys hyj
    go_enter Tryd.func19, Tryd.ntmps19
    go_wp2_with (first
      | (go_at_call 25; refine (KL.out _).mono ?_; rintro e w' ⟨rfl, rfl⟩)
      | (go_at_call 22; refine (KD0.out _).mono ?_; rintro e w' ⟨rfl, rfl⟩)
      | (go_at_call 30; refine (KS.out _).mono ?_; rintro e w' ⟨rfl, rfl⟩))
    generalize ((w.alloc (.cells lexC 41)).alloc (.cells signsC 9)) = w1 at HS HL HLF HB ⊢
    go_loopw [16] (fun i wr => ∃ (k m : Nat), k ≤ j ∧ i = .int .i64 k ∧ wr = w1.drewN m) (fun i _ => n - (intOf i).toNat)
    case atStart => exact ⟨0, 0, Nat.zero_le _, rfl, rfl⟩
    case round =>
      obtain ⟨k, m, hk, rfl, rfl⟩ := hrel
      by_cases hkj : k = j
      · subst hkj
        have c := HS.out.cell k hjz
        rw [HY.out] at c
        have hh := hhit.out
        rw [Bool.and_eq_true, decide_eq_true_eq] at hh
        obtain ⟨hfit, hh⟩ := hh
        obtain ⟨c0, c1, c2⟩ := HL.out
        have f0 := HLF.out
        have j1 : (a : Int) ≤ (a : Int) + (y.size : Int) := by omega
        have j2 : (a : Int) + (y.size : Int) ≤ (s.size : Int) := by omega
        have j3 : ((a : Int) + (y.size : Int)).toNat = a + y.size := by omega
        have j4 : decide ((a : Int) + (y.size : Int) ≤ (s.size : Int)) = true := by simpa using j2
        have hz3 : (y.size : Int) ≤ 2 := by omega
        clear hfit hy2 hmiss hhit hjz HY HS
        go_wp2_with fail
        go_quiet (fail)
        go_wp2
        obtain ⟨e0, e1, e2⟩ := ((Lex3.set0 (W := w1.drewN (m + nq)) (b := w.heap.size) ⟨c0, c1, c2⟩ (.int .u8 6)).set1 (.string y)).set2 (.int .i64 (a : Int))
        exact bodyPost_ret (v := .tuple #[.agg #[.int .u8 6, .string y, .int .i64 (a : Int)], .int .i64 ((a : Int) + (y.size : Int)), .int .i64 0]) (by simp [results, Tryd.results19, go_sem, e0, e1, e2]) rfl ⟨by rw [Int.natCast_add], (((RowKit_drewN HB.out (m + nq)).setCell (p := ⟨w.heap.size, 0, none⟩) (Nat.le_refl _) _).setCell (p := ⟨w.heap.size, 1, none⟩) (Nat.le_refl _) _).setCell (p := ⟨w.heap.size, 2, none⟩) (Nat.le_refl _) _⟩
      · have hlt : k < j := by omega
        have hkn : k < n := by omega
        have hkz : k < signsZ.length := by have := HN.out; omega
        have c1 := HS.out.cell k hkz
        have hmk := hmiss.out k hkz hlt
        have hz2 := HZS.out k hkz
        generalize signsZ[k] = z at c1 hmk hz2
        clear hkz hkj
        by_cases hfit : a + z.size ≤ s.size
        · rw [decide_eq_true hfit, Bool.true_and] at hmk
          have j1 : (a : Int) ≤ (a : Int) + (z.size : Int) := by omega
          have j2 : (a : Int) + (z.size : Int) ≤ (s.size : Int) := by omega
          have j3 : ((a : Int) + (z.size : Int)).toNat = a + z.size := by omega
          have j4 : decide ((a : Int) + (z.size : Int) ≤ (s.size : Int)) = true := by simpa using j2
          have hz3 : (z.size : Int) ≤ 2 := by omega
          clear hfit hz2
          go_wp2_with fail
          go_quiet (fail)
          go_wp2
          go_roundw
          case rel => exact ⟨k + 1, _, by omega, by go_num, rfl⟩
          case measure => clear c1 hmk j1 j2 j3 j4; simp [intOf]; omega
        · have j4 : decide ((a : Int) + (z.size : Int) ≤ (s.size : Int)) = false := by simp; omega
          have hz3 : (z.size : Int) ≤ 2 := by omega
          clear hfit hz2 hmk
          go_wp2_with fail
          go_quiet (fail)
          go_wp2
          go_roundw
          case rel => exact ⟨k + 1, _, by omega, by go_num, rfl⟩
          case measure => clear c1 j4; simp [intOf]; omega
end Go.Proofs.YtebfclanamoldaaDoor
