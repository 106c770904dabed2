/- The reference's Do: what it makes of right values. -/
import Derived.Test.YtkbkkhfmejpbeaaRefDo
namespace Go.Proofs.Ytkbkkhfmejpbeaa
open Go.RowKit

set_option maxHeartbeats 2000000 in
theorem refDo_5 (b off c : Nat) (x y : V3) (w : World) (hb : b < w.heap.size) (hc : RowAt w b off [x, y]) (hm : Fine [x, y])
    (hw : ([x, y] : List V3).any wrongB = false) :
    Calls Try.prog 25 #[.int .u8 5, .slice (some ⟨b, off, none⟩) 2 c] w (DoPost (numT (truthN (eqvB x y)), 0) w) := by
  obtain ⟨zs, hzs⟩ : ∃ zs : List V3, zs = [x, y] := ⟨_, rfl⟩
  rw [← hzs] at hc hm hw
  have HN : Hid (zs.length = 2) := by rw [hzs]; rfl
  have HC := Lib.hid hc
  have HM := Lib.hid hm
  have HW := Lib.hid hw
  have hx := hc 0 (by rw [hzs]; simp)
  have HX : At w b off x := by simp only [hzs] at hx; simpa using hx
  have HX := Lib.hid HX
  have hy := hc 1 (by rw [hzs]; simp)
  have HY : At w b (off + 3) y := by simp only [hzs] at hy; simpa using hy
  have HY := Lib.hid HY
  clear hy
  have HR : Hid (∀ j, (hj : j < zs.length) → wrongB zs[j] = false) := fun j hj => by
    rw [Bool.eq_false_iff]; intro h
    rw [any_hit zs wrongB j hj h] at hw; cases hw
  clear hx hc hm hw hzs
  go_enter Try.func25, Try.ntmps25
  go_wp2
  go_loopw [8, 7] (fun i nm wr => ∃ (k : Nat) (bn : Bool), k ≤ 2 ∧ i = .int .i64 k ∧ nm = .bool bn ∧ LoopAt zs w wr k bn) (fun i _ _ => 2 - (intOf i).toNat)
  case atStart => exact ⟨0, false, Nat.zero_le _, rfl, rfl, Below.refl _ _, fun j _ hj => absurd hj (Nat.not_lt_zero _), rfl⟩
  case round =>
    obtain ⟨k, bn, hk, rfl, rfl, HL⟩ := hrel
    by_cases hlt : k < 2
    · have hkz : k < zs.length := by rw [HN.out]; exact hlt
      have hcx := fun (wr' : World) => LoopAt.step (wr' := wr') HL hkz
      have hat := (HC.out k hkz).later (below_step (below_own _) HL.keep) hb
      have hs := (HM.out zs[k] (List.getElem_mem hkz)).2
      obtain ⟨hc1, hf1⟩ := bret HL.keep
      have hz1 : w.heap.size < wr.heap.size := by have := HL.keep.size; simp at this; omega
      have hbw : b < wr.heap.size := by omega
      have hbne : b ≠ wr.heap.size := by omega
      have HK := Lib.hid HL.keep
      have hltz : (k : Int) < 2 := by omega
      have HCX := Lib.hid hcx
      have HRk : Hid (wrongB zs[k] = false) := HR.out k hkz
      clear HR hcx HC HM HL HW HX HY
      generalize zs[k] = x at hat hs HCX HRk
      obtain ⟨xk, xn, xs⟩ := x
      obtain ⟨a1, a2, a3⟩ := hat
      have hq : rightB xk xn xs = true := by have h := HRk.out; simpa [wrongB] using h
      have HS : Hid (∀ o, LoopAt zs w (wr.alloc o) (k + 1) (bn || nameB (xk, xn, xs))) := fun o => HCX.out _ HRk.out (below_own o)
      clear HCX
      cases bn with
      | true =>
        go_wp2_with (go_at_call 26; refine (refRight_any _ _ _ _ hs).mono ?_; rintro e w' ⟨rfl, rfl⟩)
        go_roundw
        case rel => exact ⟨k + 1, true, by omega, by go_num, rfl, HS.out _⟩
        case measure => simp [intOf]; omega
      | false =>
        cases hk2 : (xk == 2) with
        | true =>
          go_wp2_with (go_at_call 26; refine (refRight_any _ _ _ _ hs).mono ?_; rintro e w' ⟨rfl, rfl⟩)
          go_roundw
          case rel => exact ⟨k + 1, true, by omega, by go_num, rfl, (HS.out _).nm hk2⟩
          case measure => simp [intOf]; omega
        | false =>
          go_wp2_with (go_at_call 26; refine (refRight_any _ _ _ _ hs).mono ?_; rintro e w' ⟨rfl, rfl⟩)
          go_roundw
          case rel => exact ⟨k + 1, false, by omega, by go_num, rfl, (HS.out _).nm hk2⟩
          case measure => simp [intOf]; omega
    · have hkn : k = 2 := by omega
      subst hkn
      have HB0 : Hid (Below w.heap.size w wr) := below_step (below_own _) HL.keep
      obtain ⟨hc1, hf1⟩ := bret HL.keep
      have hz1 : w.heap.size < wr.heap.size := by have := HL.keep.size; simp at this; omega
      have hbw : b < wr.heap.size := by omega
      have hbne : b ≠ wr.heap.size := by omega
      have hbn1 : b ≠ wr.heap.size + 1 := by omega
      have hq0 : w.heap.size ≠ wr.heap.size := by omega
      have hq1 : w.heap.size ≠ wr.heap.size + 1 := by omega
      have hq2 : w.heap.size ≠ wr.heap.size + 1 + 1 := by omega
      have hq3 : w.heap.size ≠ wr.heap.size + 1 + 1 + 1 := by omega
      have hq4 : w.heap.size < wr.heap.size + 1 := by omega
      have hq5 : w.heap.size < wr.heap.size + 1 + 1 := by omega
      have hq6 : w.heap.size < wr.heap.size + 1 + 1 + 1 := by omega
      obtain ⟨hx1, hx2, hx3⟩ := HX.out.later HB0.out hb
      obtain ⟨hy1, hy2, hy3⟩ := HY.out.later HB0.out hb
      obtain ⟨yk, yn, ys⟩ := y
      obtain ⟨xk, xn, xs⟩ := x
      clear HC HM HL HW HR HX HN HY
      have heq := fun w => eqV xk xn yk yn xs ys w
      have hg := eqGuardV
      cases hE : eqvB (xk, xn, xs) (yk, yn, ys) with
      | true =>
        rw [hE] at heq
        have HE : Hid ((eqvB (xk, xn, xs) (yk, yn, ys)) = true) := by exact hE
        clear hE
        go_wp2
        go_region
        all_goals
          go_wp2_with (go_at_call 35; refine (refTruth_any _ _).mono ?_; rintro e w' ⟨rfl, rfl⟩)
          refine bodyPost_ret (v := .tuple #[.agg #[.int .u8 1, .int .i64 (truthN true), .string ⟨#[]⟩], .int .i64 0]) (by simp [results, Try.results25, go_sem, hc1, hz1, hq4, hq5, hq6]) rfl ⟨do_post (congrArg (fun q => (numT (truthN q), (0 : Int))) HE.out), ?_⟩
          exact (below_new (below_new (below_new (below_new (below_put3 HB0.out _ _ _) _) _) _) _).drew
      | false =>
        rw [hE] at heq
        have HE : Hid ((eqvB (xk, xn, xs) (yk, yn, ys)) = false) := by exact hE
        clear hE
        go_wp2
        go_region
        all_goals
          go_wp2_with (go_at_call 35; refine (refTruth_any _ _).mono ?_; rintro e w' ⟨rfl, rfl⟩)
          refine bodyPost_ret (v := .tuple #[.agg #[.int .u8 1, .int .i64 (truthN false), .string ⟨#[]⟩], .int .i64 0]) (by simp [results, Try.results25, go_sem, hc1, hz1, hq4, hq5, hq6]) rfl ⟨do_post (congrArg (fun q => (numT (truthN q), (0 : Int))) HE.out), ?_⟩
          exact (below_new (below_new (below_new (below_new (below_put3 HB0.out _ _ _) _) _) _) _).drew

set_option maxHeartbeats 2000000 in
theorem refDo_6 (b off c : Nat) (x y : V3) (w : World) (hb : b < w.heap.size) (hc : RowAt w b off [x, y]) (hm : Fine [x, y])
    (hw : ([x, y] : List V3).any wrongB = false) :
    Calls Try.prog 25 #[.int .u8 6, .slice (some ⟨b, off, none⟩) 2 c] w (DoPost (numT (truthN (!eqvB x y)), 0) w) := by
  obtain ⟨zs, hzs⟩ : ∃ zs : List V3, zs = [x, y] := ⟨_, rfl⟩
  rw [← hzs] at hc hm hw
  have HN : Hid (zs.length = 2) := by rw [hzs]; rfl
  have HC := Lib.hid hc
  have HM := Lib.hid hm
  have HW := Lib.hid hw
  have hx := hc 0 (by rw [hzs]; simp)
  have HX : At w b off x := by simp only [hzs] at hx; simpa using hx
  have HX := Lib.hid HX
  have hy := hc 1 (by rw [hzs]; simp)
  have HY : At w b (off + 3) y := by simp only [hzs] at hy; simpa using hy
  have HY := Lib.hid HY
  clear hy
  have HR : Hid (∀ j, (hj : j < zs.length) → wrongB zs[j] = false) := fun j hj => by
    rw [Bool.eq_false_iff]; intro h
    rw [any_hit zs wrongB j hj h] at hw; cases hw
  clear hx hc hm hw hzs
  go_enter Try.func25, Try.ntmps25
  go_wp2
  go_loopw [8, 7] (fun i nm wr => ∃ (k : Nat) (bn : Bool), k ≤ 2 ∧ i = .int .i64 k ∧ nm = .bool bn ∧ LoopAt zs w wr k bn) (fun i _ _ => 2 - (intOf i).toNat)
  case atStart => exact ⟨0, false, Nat.zero_le _, rfl, rfl, Below.refl _ _, fun j _ hj => absurd hj (Nat.not_lt_zero _), rfl⟩
  case round =>
    obtain ⟨k, bn, hk, rfl, rfl, HL⟩ := hrel
    by_cases hlt : k < 2
    · have hkz : k < zs.length := by rw [HN.out]; exact hlt
      have hcx := fun (wr' : World) => LoopAt.step (wr' := wr') HL hkz
      have hat := (HC.out k hkz).later (below_step (below_own _) HL.keep) hb
      have hs := (HM.out zs[k] (List.getElem_mem hkz)).2
      obtain ⟨hc1, hf1⟩ := bret HL.keep
      have hz1 : w.heap.size < wr.heap.size := by have := HL.keep.size; simp at this; omega
      have hbw : b < wr.heap.size := by omega
      have hbne : b ≠ wr.heap.size := by omega
      have HK := Lib.hid HL.keep
      have hltz : (k : Int) < 2 := by omega
      have HCX := Lib.hid hcx
      have HRk : Hid (wrongB zs[k] = false) := HR.out k hkz
      clear HR hcx HC HM HL HW HX HY
      generalize zs[k] = x at hat hs HCX HRk
      obtain ⟨xk, xn, xs⟩ := x
      obtain ⟨a1, a2, a3⟩ := hat
      have hq : rightB xk xn xs = true := by have h := HRk.out; simpa [wrongB] using h
      have HS : Hid (∀ o, LoopAt zs w (wr.alloc o) (k + 1) (bn || nameB (xk, xn, xs))) := fun o => HCX.out _ HRk.out (below_own o)
      clear HCX
      cases bn with
      | true =>
        go_wp2_with (go_at_call 26; refine (refRight_any _ _ _ _ hs).mono ?_; rintro e w' ⟨rfl, rfl⟩)
        go_roundw
        case rel => exact ⟨k + 1, true, by omega, by go_num, rfl, HS.out _⟩
        case measure => simp [intOf]; omega
      | false =>
        cases hk2 : (xk == 2) with
        | true =>
          go_wp2_with (go_at_call 26; refine (refRight_any _ _ _ _ hs).mono ?_; rintro e w' ⟨rfl, rfl⟩)
          go_roundw
          case rel => exact ⟨k + 1, true, by omega, by go_num, rfl, (HS.out _).nm hk2⟩
          case measure => simp [intOf]; omega
        | false =>
          go_wp2_with (go_at_call 26; refine (refRight_any _ _ _ _ hs).mono ?_; rintro e w' ⟨rfl, rfl⟩)
          go_roundw
          case rel => exact ⟨k + 1, false, by omega, by go_num, rfl, (HS.out _).nm hk2⟩
          case measure => simp [intOf]; omega
    · have hkn : k = 2 := by omega
      subst hkn
      have HB0 : Hid (Below w.heap.size w wr) := below_step (below_own _) HL.keep
      obtain ⟨hc1, hf1⟩ := bret HL.keep
      have hz1 : w.heap.size < wr.heap.size := by have := HL.keep.size; simp at this; omega
      have hbw : b < wr.heap.size := by omega
      have hbne : b ≠ wr.heap.size := by omega
      have hbn1 : b ≠ wr.heap.size + 1 := by omega
      have hq0 : w.heap.size ≠ wr.heap.size := by omega
      have hq1 : w.heap.size ≠ wr.heap.size + 1 := by omega
      have hq2 : w.heap.size ≠ wr.heap.size + 1 + 1 := by omega
      have hq3 : w.heap.size ≠ wr.heap.size + 1 + 1 + 1 := by omega
      have hq4 : w.heap.size < wr.heap.size + 1 := by omega
      have hq5 : w.heap.size < wr.heap.size + 1 + 1 := by omega
      have hq6 : w.heap.size < wr.heap.size + 1 + 1 + 1 := by omega
      obtain ⟨hx1, hx2, hx3⟩ := HX.out.later HB0.out hb
      obtain ⟨hy1, hy2, hy3⟩ := HY.out.later HB0.out hb
      obtain ⟨yk, yn, ys⟩ := y
      obtain ⟨xk, xn, xs⟩ := x
      clear HC HM HL HW HR HX HN HY
      have heq := fun w => eqV xk xn yk yn xs ys w
      have hg := eqGuardV
      cases hE : eqvB (xk, xn, xs) (yk, yn, ys) with
      | true =>
        rw [hE] at heq
        have HE : Hid ((!eqvB (xk, xn, xs) (yk, yn, ys)) = false) := by unfold Hid; rw [hE]; rfl
        clear hE
        go_wp2
        go_region
        all_goals
          go_wp2_with (go_at_call 35; refine (refTruth_any _ _).mono ?_; rintro e w' ⟨rfl, rfl⟩)
          refine bodyPost_ret (v := .tuple #[.agg #[.int .u8 1, .int .i64 (truthN false), .string ⟨#[]⟩], .int .i64 0]) (by simp [results, Try.results25, go_sem, hc1, hz1, hq4, hq5, hq6]) rfl ⟨do_post (congrArg (fun q => (numT (truthN q), (0 : Int))) HE.out), ?_⟩
          exact (below_new (below_new (below_new (below_new (below_put3 HB0.out _ _ _) _) _) _) _).drew
      | false =>
        rw [hE] at heq
        have HE : Hid ((!eqvB (xk, xn, xs) (yk, yn, ys)) = true) := by unfold Hid; rw [hE]; rfl
        clear hE
        go_wp2
        go_region
        all_goals
          go_wp2_with (go_at_call 35; refine (refTruth_any _ _).mono ?_; rintro e w' ⟨rfl, rfl⟩)
          refine bodyPost_ret (v := .tuple #[.agg #[.int .u8 1, .int .i64 (truthN true), .string ⟨#[]⟩], .int .i64 0]) (by simp [results, Try.results25, go_sem, hc1, hz1, hq4, hq5, hq6]) rfl ⟨do_post (congrArg (fun q => (numT (truthN q), (0 : Int))) HE.out), ?_⟩
          exact (below_new (below_new (below_new (below_new (below_put3 HB0.out _ _ _) _) _) _) _).drew
end Go.Proofs.Ytkbkkhfmejpbeaa
