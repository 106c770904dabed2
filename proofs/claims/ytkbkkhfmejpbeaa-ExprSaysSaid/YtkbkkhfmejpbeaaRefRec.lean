/- The reference's Do: what it makes of right values. -/
import Derived.Test.YtkbkkhfmejpbeaaRefDo
namespace Go.Proofs.Ytkbkkhfmejpbeaa
open Go.RowKit

def recV (op x y : Int) : V3 × Int := if fitB (recN op x y) = true then (numT (recN op x y), 0) else (zeroT, 300)

theorem bone {W w1 : World} {g : Nat} (hb : Below W.heap.size W w1) (h : g < W.heap.size) : (∀ j, w1.cell? ⟨g, j, none⟩ = W.cell? ⟨g, j, none⟩) ∧ (∀ j, w1.frozen? ⟨g, j, none⟩ = W.frozen? ⟨g, j, none⟩) :=
  ⟨fun j => hb.cell (p := ⟨g, j, none⟩) h, fun j => hb.frozen (p := ⟨g, j, none⟩) h⟩

set_option maxHeartbeats 2000000 in
theorem refDo_1 (b off c : Nat) (x y : V3) (w : World) (hb : b < w.heap.size) (hc : RowAt w b off [x, y]) (hm : Fine [x, y])
    (hw : ([x, y] : List V3).any wrongB = false) (hnm : ([x, y] : List V3).any nameB = false) :
    Calls Try.prog 25 #[.int .u8 1, .slice (some ⟨b, off, none⟩) 2 c] w (DoPost (recV 1 x.2.1 y.2.1) w) := by
  obtain ⟨zs, hzs⟩ : ∃ zs : List V3, zs = [x, y] := ⟨_, rfl⟩
  rw [← hzs] at hc hm hw hnm
  have HN : Hid (zs.length = 2) := by rw [hzs]; rfl
  have HC := Lib.hid hc
  have HM := Lib.hid hm
  have HW := Lib.hid hw
  have HNM := Lib.hid hnm
  have hx := hc 0 (by rw [hzs]; simp)
  have HX : At w b off x := by simp only [hzs] at hx; simpa using hx
  have HX := Lib.hid HX
  have hy := hc 1 (by rw [hzs]; simp)
  have HY : At w b (off + 3) y := by simp only [hzs] at hy; simpa using hy
  have HY := Lib.hid HY
  clear hy
  have HR : Hid (∀ j, (hj : j < zs.length) → wrongB zs[j] = false) := fun j hj => by
    rw [Bool.eq_false_iff]; intro h
    rw [any_hit zs wrongB j hj h] at hw; cases hw
  have HMX : Hid (Fine [x, y]) := by rw [← hzs]; exact hm
  clear hx hc hm hw hzs hnm
  go_enter Try.func25, Try.ntmps25
  go_wp2
  go_loopw [8, 7] (fun i nm wr => ∃ (k : Nat) (bn : Bool), k ≤ 2 ∧ i = .int .i64 k ∧ nm = .bool bn ∧ LoopAt zs w wr k bn) (fun i _ _ => 2 - (intOf i).toNat)
  case atStart => exact ⟨0, false, Nat.zero_le _, rfl, rfl, Below.refl _ _, fun j _ hj => absurd hj (Nat.not_lt_zero _), rfl⟩
  case round =>
    obtain ⟨k, bn, hk, rfl, rfl, HL⟩ := hrel
    by_cases hlt : k < 2
    · have hkz : k < zs.length := by rw [HN.out]; exact hlt
      have hcx := fun (wr' : World) => LoopAt.step (wr' := wr') HL hkz
      have hat := (HC.out k hkz).later (below_step (below_own _) HL.keep) hb
      have hs := (HM.out zs[k] (List.getElem_mem hkz)).2
      obtain ⟨hc1, hf1⟩ := bret HL.keep
      have hz1 : w.heap.size < wr.heap.size := by have := HL.keep.size; simp at this; omega
      have hbw : b < wr.heap.size := by omega
      have hbne : b ≠ wr.heap.size := by omega
      have HK := Lib.hid HL.keep
      have hltz : (k : Int) < 2 := by omega
      have HCX := Lib.hid hcx
      have HRk : Hid (wrongB zs[k] = false) := HR.out k hkz
      clear HR hcx HC HM HL HW HX HY
      generalize zs[k] = x at hat hs HCX HRk
      obtain ⟨xk, xn, xs⟩ := x
      obtain ⟨a1, a2, a3⟩ := hat
      have hq : rightB xk xn xs = true := by have h := HRk.out; simpa [wrongB] using h
      have HS : Hid (∀ o, LoopAt zs w (wr.alloc o) (k + 1) (bn || nameB (xk, xn, xs))) := fun o => HCX.out _ HRk.out (below_own o)
      clear HCX
      cases bn with
      | true =>
        go_wp2_with (go_at_call 26; refine (refRight_any _ _ _ _ hs).mono ?_; rintro e w' ⟨rfl, rfl⟩)
        go_roundw
        case rel => exact ⟨k + 1, true, by omega, by go_num, rfl, HS.out _⟩
        case measure => simp [intOf]; omega
      | false =>
        cases hk2 : (xk == 2) with
        | true =>
          go_wp2_with (go_at_call 26; refine (refRight_any _ _ _ _ hs).mono ?_; rintro e w' ⟨rfl, rfl⟩)
          go_roundw
          case rel => exact ⟨k + 1, true, by omega, by go_num, rfl, (HS.out _).nm hk2⟩
          case measure => simp [intOf]; omega
        | false =>
          go_wp2_with (go_at_call 26; refine (refRight_any _ _ _ _ hs).mono ?_; rintro e w' ⟨rfl, rfl⟩)
          go_roundw
          case rel => exact ⟨k + 1, false, by omega, by go_num, rfl, (HS.out _).nm hk2⟩
          case measure => simp [intOf]; omega
    · have hkn : k = 2 := by omega
      subst hkn
      have HB0 : Hid (Below w.heap.size w wr) := below_step (below_own _) HL.keep
      obtain ⟨hc1, hf1⟩ := bret HL.keep
      have hz1 : w.heap.size < wr.heap.size := by have := HL.keep.size; simp at this; omega
      have hbw : b < wr.heap.size := by omega
      have hbne : b ≠ wr.heap.size := by omega
      have hbn1 : b ≠ wr.heap.size + 1 := by omega
      have hq0 : w.heap.size ≠ wr.heap.size := by omega
      have hq1 : w.heap.size ≠ wr.heap.size + 1 := by omega
      have hq2 : w.heap.size ≠ wr.heap.size + 1 + 1 := by omega
      have hq3 : w.heap.size ≠ wr.heap.size + 1 + 1 + 1 := by omega
      have hq4 : w.heap.size < wr.heap.size + 1 := by omega
      have hq5 : w.heap.size < wr.heap.size + 1 + 1 := by omega
      have hq6 : w.heap.size < wr.heap.size + 1 + 1 + 1 := by omega
      have hbn : bn = false := by rw [HL.names, List.take_of_length_le (by rw [HN.out]; exact Nat.le_refl _)]; exact HNM.out
      subst hbn
      obtain ⟨hx1, hx2, hx3⟩ := HX.out.later HB0.out hb
      obtain ⟨hy1, hy2, hy3⟩ := HY.out.later HB0.out hb
      obtain ⟨yk, yn, ys⟩ := y
      obtain ⟨xk, xn, xs⟩ := x
      clear HC HM HL HW HR HX HN HY HNM
      have r1 : In64 xn := (HMX.out (xk, xn, xs) (by simp)).1
      have r2 : In64 yn := (HMX.out (yk, yn, ys) (by simp)).1
      cases hf : fitB (recN 1 xn yn) with
      | true =>
        have HE : Hid (recV 1 xn yn = (numT (recN 1 xn yn), 0)) := if_pos hf
        go_wp2
        go_region
        all_goals
          go_wp2_with fail
          refine (reckoned_any 1 _ _ _ r1 r2).mono ?_
          rintro e w1 ⟨⟨m, rfl, hm⟩, hb1⟩
          have HB1 : Hid (Below w.heap.size w w1) := below_step ((below_new (below_new HB0.out _) _).drew) hb1
          obtain ⟨hc2, hf2⟩ := bone hb1 (g := w.heap.size) (by simp; omega)
          have hz2 : w.heap.size < w1.heap.size := by have := hb1.size; simp at this; omega
          clear hb1
          obtain rfl := hm hf
          rw [hf]
          go_wp2_with (go_at_call 37; refine (refNumber_any _ _).mono ?_; rintro e w' ⟨rfl, rfl⟩)
          refine bodyPost_ret (v := .tuple #[.agg #[.int .u8 1, .int .i64 (recN 1 xn yn), .string ⟨#[]⟩], .int .i64 0]) (by simp [results, Try.results25, go_sem, hc1, hz1, hc2, hz2, hq4]) rfl ⟨do_post HE.out, ?_⟩
          exact below_new (below_put3 HB1.out _ _ _) _
      | false =>
        have HE : Hid (recV 1 xn yn = (zeroT, 300)) := if_neg (by rw [hf]; simp)
        go_wp2
        go_region
        all_goals
          go_wp2_with fail
          refine (reckoned_any 1 _ _ _ r1 r2).mono ?_
          rintro e w1 ⟨⟨m, rfl, hm⟩, hb1⟩
          have HB1 : Hid (Below w.heap.size w w1) := below_step ((below_new (below_new HB0.out _) _).drew) hb1
          obtain ⟨hc2, hf2⟩ := bone hb1 (g := w.heap.size) (by simp; omega)
          have hz2 : w.heap.size < w1.heap.size := by have := hb1.size; simp at this; omega
          clear hb1
          rw [hf]
          clear hm
          go_wp2
          refine bodyPost_ret (v := .tuple #[.agg #[.int .u8 0, .int .i64 0, .string ⟨#[]⟩], .int .i64 300]) (by simp [results, Try.results25, go_sem, hc1, hz1, hc2, hq4]) rfl ⟨do_post HE.out, ?_⟩
          exact below_put3 HB1.out _ _ _

set_option maxHeartbeats 2000000 in
theorem refDo_2 (b off c : Nat) (x y : V3) (w : World) (hb : b < w.heap.size) (hc : RowAt w b off [x, y]) (hm : Fine [x, y])
    (hw : ([x, y] : List V3).any wrongB = false) (hnm : ([x, y] : List V3).any nameB = false) :
    Calls Try.prog 25 #[.int .u8 2, .slice (some ⟨b, off, none⟩) 2 c] w (DoPost (recV 2 x.2.1 y.2.1) w) := by
  obtain ⟨zs, hzs⟩ : ∃ zs : List V3, zs = [x, y] := ⟨_, rfl⟩
  rw [← hzs] at hc hm hw hnm
  have HN : Hid (zs.length = 2) := by rw [hzs]; rfl
  have HC := Lib.hid hc
  have HM := Lib.hid hm
  have HW := Lib.hid hw
  have HNM := Lib.hid hnm
  have hx := hc 0 (by rw [hzs]; simp)
  have HX : At w b off x := by simp only [hzs] at hx; simpa using hx
  have HX := Lib.hid HX
  have hy := hc 1 (by rw [hzs]; simp)
  have HY : At w b (off + 3) y := by simp only [hzs] at hy; simpa using hy
  have HY := Lib.hid HY
  clear hy
  have HR : Hid (∀ j, (hj : j < zs.length) → wrongB zs[j] = false) := fun j hj => by
    rw [Bool.eq_false_iff]; intro h
    rw [any_hit zs wrongB j hj h] at hw; cases hw
  have HMX : Hid (Fine [x, y]) := by rw [← hzs]; exact hm
  clear hx hc hm hw hzs hnm
  go_enter Try.func25, Try.ntmps25
  go_wp2
  go_loopw [8, 7] (fun i nm wr => ∃ (k : Nat) (bn : Bool), k ≤ 2 ∧ i = .int .i64 k ∧ nm = .bool bn ∧ LoopAt zs w wr k bn) (fun i _ _ => 2 - (intOf i).toNat)
  case atStart => exact ⟨0, false, Nat.zero_le _, rfl, rfl, Below.refl _ _, fun j _ hj => absurd hj (Nat.not_lt_zero _), rfl⟩
  case round =>
    obtain ⟨k, bn, hk, rfl, rfl, HL⟩ := hrel
    by_cases hlt : k < 2
    · have hkz : k < zs.length := by rw [HN.out]; exact hlt
      have hcx := fun (wr' : World) => LoopAt.step (wr' := wr') HL hkz
      have hat := (HC.out k hkz).later (below_step (below_own _) HL.keep) hb
      have hs := (HM.out zs[k] (List.getElem_mem hkz)).2
      obtain ⟨hc1, hf1⟩ := bret HL.keep
      have hz1 : w.heap.size < wr.heap.size := by have := HL.keep.size; simp at this; omega
      have hbw : b < wr.heap.size := by omega
      have hbne : b ≠ wr.heap.size := by omega
      have HK := Lib.hid HL.keep
      have hltz : (k : Int) < 2 := by omega
      have HCX := Lib.hid hcx
      have HRk : Hid (wrongB zs[k] = false) := HR.out k hkz
      clear HR hcx HC HM HL HW HX HY
      generalize zs[k] = x at hat hs HCX HRk
      obtain ⟨xk, xn, xs⟩ := x
      obtain ⟨a1, a2, a3⟩ := hat
      have hq : rightB xk xn xs = true := by have h := HRk.out; simpa [wrongB] using h
      have HS : Hid (∀ o, LoopAt zs w (wr.alloc o) (k + 1) (bn || nameB (xk, xn, xs))) := fun o => HCX.out _ HRk.out (below_own o)
      clear HCX
      cases bn with
      | true =>
        go_wp2_with (go_at_call 26; refine (refRight_any _ _ _ _ hs).mono ?_; rintro e w' ⟨rfl, rfl⟩)
        go_roundw
        case rel => exact ⟨k + 1, true, by omega, by go_num, rfl, HS.out _⟩
        case measure => simp [intOf]; omega
      | false =>
        cases hk2 : (xk == 2) with
        | true =>
          go_wp2_with (go_at_call 26; refine (refRight_any _ _ _ _ hs).mono ?_; rintro e w' ⟨rfl, rfl⟩)
          go_roundw
          case rel => exact ⟨k + 1, true, by omega, by go_num, rfl, (HS.out _).nm hk2⟩
          case measure => simp [intOf]; omega
        | false =>
          go_wp2_with (go_at_call 26; refine (refRight_any _ _ _ _ hs).mono ?_; rintro e w' ⟨rfl, rfl⟩)
          go_roundw
          case rel => exact ⟨k + 1, false, by omega, by go_num, rfl, (HS.out _).nm hk2⟩
          case measure => simp [intOf]; omega
    · have hkn : k = 2 := by omega
      subst hkn
      have HB0 : Hid (Below w.heap.size w wr) := below_step (below_own _) HL.keep
      obtain ⟨hc1, hf1⟩ := bret HL.keep
      have hz1 : w.heap.size < wr.heap.size := by have := HL.keep.size; simp at this; omega
      have hbw : b < wr.heap.size := by omega
      have hbne : b ≠ wr.heap.size := by omega
      have hbn1 : b ≠ wr.heap.size + 1 := by omega
      have hq0 : w.heap.size ≠ wr.heap.size := by omega
      have hq1 : w.heap.size ≠ wr.heap.size + 1 := by omega
      have hq2 : w.heap.size ≠ wr.heap.size + 1 + 1 := by omega
      have hq3 : w.heap.size ≠ wr.heap.size + 1 + 1 + 1 := by omega
      have hq4 : w.heap.size < wr.heap.size + 1 := by omega
      have hq5 : w.heap.size < wr.heap.size + 1 + 1 := by omega
      have hq6 : w.heap.size < wr.heap.size + 1 + 1 + 1 := by omega
      have hbn : bn = false := by rw [HL.names, List.take_of_length_le (by rw [HN.out]; exact Nat.le_refl _)]; exact HNM.out
      subst hbn
      obtain ⟨hx1, hx2, hx3⟩ := HX.out.later HB0.out hb
      obtain ⟨hy1, hy2, hy3⟩ := HY.out.later HB0.out hb
      obtain ⟨yk, yn, ys⟩ := y
      obtain ⟨xk, xn, xs⟩ := x
      clear HC HM HL HW HR HX HN HY HNM
      have r1 : In64 xn := (HMX.out (xk, xn, xs) (by simp)).1
      have r2 : In64 yn := (HMX.out (yk, yn, ys) (by simp)).1
      cases hf : fitB (recN 2 xn yn) with
      | true =>
        have HE : Hid (recV 2 xn yn = (numT (recN 2 xn yn), 0)) := if_pos hf
        go_wp2
        go_region
        all_goals
          go_wp2_with fail
          refine (reckoned_any 2 _ _ _ r1 r2).mono ?_
          rintro e w1 ⟨⟨m, rfl, hm⟩, hb1⟩
          have HB1 : Hid (Below w.heap.size w w1) := below_step ((below_new (below_new HB0.out _) _).drew) hb1
          obtain ⟨hc2, hf2⟩ := bone hb1 (g := w.heap.size) (by simp; omega)
          have hz2 : w.heap.size < w1.heap.size := by have := hb1.size; simp at this; omega
          clear hb1
          obtain rfl := hm hf
          rw [hf]
          go_wp2_with (go_at_call 37; refine (refNumber_any _ _).mono ?_; rintro e w' ⟨rfl, rfl⟩)
          refine bodyPost_ret (v := .tuple #[.agg #[.int .u8 1, .int .i64 (recN 2 xn yn), .string ⟨#[]⟩], .int .i64 0]) (by simp [results, Try.results25, go_sem, hc1, hz1, hc2, hz2, hq4]) rfl ⟨do_post HE.out, ?_⟩
          exact below_new (below_put3 HB1.out _ _ _) _
      | false =>
        have HE : Hid (recV 2 xn yn = (zeroT, 300)) := if_neg (by rw [hf]; simp)
        go_wp2
        go_region
        all_goals
          go_wp2_with fail
          refine (reckoned_any 2 _ _ _ r1 r2).mono ?_
          rintro e w1 ⟨⟨m, rfl, hm⟩, hb1⟩
          have HB1 : Hid (Below w.heap.size w w1) := below_step ((below_new (below_new HB0.out _) _).drew) hb1
          obtain ⟨hc2, hf2⟩ := bone hb1 (g := w.heap.size) (by simp; omega)
          have hz2 : w.heap.size < w1.heap.size := by have := hb1.size; simp at this; omega
          clear hb1
          rw [hf]
          clear hm
          go_wp2
          refine bodyPost_ret (v := .tuple #[.agg #[.int .u8 0, .int .i64 0, .string ⟨#[]⟩], .int .i64 300]) (by simp [results, Try.results25, go_sem, hc1, hz1, hc2, hq4]) rfl ⟨do_post HE.out, ?_⟩
          exact below_put3 HB1.out _ _ _

set_option maxHeartbeats 2000000 in
theorem refDo_3 (b off c : Nat) (x y : V3) (w : World) (hb : b < w.heap.size) (hc : RowAt w b off [x, y]) (hm : Fine [x, y])
    (hw : ([x, y] : List V3).any wrongB = false) (hnm : ([x, y] : List V3).any nameB = false) :
    Calls Try.prog 25 #[.int .u8 3, .slice (some ⟨b, off, none⟩) 2 c] w (DoPost (recV 3 x.2.1 y.2.1) w) := by
  obtain ⟨zs, hzs⟩ : ∃ zs : List V3, zs = [x, y] := ⟨_, rfl⟩
  rw [← hzs] at hc hm hw hnm
  have HN : Hid (zs.length = 2) := by rw [hzs]; rfl
  have HC := Lib.hid hc
  have HM := Lib.hid hm
  have HW := Lib.hid hw
  have HNM := Lib.hid hnm
  have hx := hc 0 (by rw [hzs]; simp)
  have HX : At w b off x := by simp only [hzs] at hx; simpa using hx
  have HX := Lib.hid HX
  have hy := hc 1 (by rw [hzs]; simp)
  have HY : At w b (off + 3) y := by simp only [hzs] at hy; simpa using hy
  have HY := Lib.hid HY
  clear hy
  have HR : Hid (∀ j, (hj : j < zs.length) → wrongB zs[j] = false) := fun j hj => by
    rw [Bool.eq_false_iff]; intro h
    rw [any_hit zs wrongB j hj h] at hw; cases hw
  have HMX : Hid (Fine [x, y]) := by rw [← hzs]; exact hm
  clear hx hc hm hw hzs hnm
  go_enter Try.func25, Try.ntmps25
  go_wp2
  go_loopw [8, 7] (fun i nm wr => ∃ (k : Nat) (bn : Bool), k ≤ 2 ∧ i = .int .i64 k ∧ nm = .bool bn ∧ LoopAt zs w wr k bn) (fun i _ _ => 2 - (intOf i).toNat)
  case atStart => exact ⟨0, false, Nat.zero_le _, rfl, rfl, Below.refl _ _, fun j _ hj => absurd hj (Nat.not_lt_zero _), rfl⟩
  case round =>
    obtain ⟨k, bn, hk, rfl, rfl, HL⟩ := hrel
    by_cases hlt : k < 2
    · have hkz : k < zs.length := by rw [HN.out]; exact hlt
      have hcx := fun (wr' : World) => LoopAt.step (wr' := wr') HL hkz
      have hat := (HC.out k hkz).later (below_step (below_own _) HL.keep) hb
      have hs := (HM.out zs[k] (List.getElem_mem hkz)).2
      obtain ⟨hc1, hf1⟩ := bret HL.keep
      have hz1 : w.heap.size < wr.heap.size := by have := HL.keep.size; simp at this; omega
      have hbw : b < wr.heap.size := by omega
      have hbne : b ≠ wr.heap.size := by omega
      have HK := Lib.hid HL.keep
      have hltz : (k : Int) < 2 := by omega
      have HCX := Lib.hid hcx
      have HRk : Hid (wrongB zs[k] = false) := HR.out k hkz
      clear HR hcx HC HM HL HW HX HY
      generalize zs[k] = x at hat hs HCX HRk
      obtain ⟨xk, xn, xs⟩ := x
      obtain ⟨a1, a2, a3⟩ := hat
      have hq : rightB xk xn xs = true := by have h := HRk.out; simpa [wrongB] using h
      have HS : Hid (∀ o, LoopAt zs w (wr.alloc o) (k + 1) (bn || nameB (xk, xn, xs))) := fun o => HCX.out _ HRk.out (below_own o)
      clear HCX
      cases bn with
      | true =>
        go_wp2_with (go_at_call 26; refine (refRight_any _ _ _ _ hs).mono ?_; rintro e w' ⟨rfl, rfl⟩)
        go_roundw
        case rel => exact ⟨k + 1, true, by omega, by go_num, rfl, HS.out _⟩
        case measure => simp [intOf]; omega
      | false =>
        cases hk2 : (xk == 2) with
        | true =>
          go_wp2_with (go_at_call 26; refine (refRight_any _ _ _ _ hs).mono ?_; rintro e w' ⟨rfl, rfl⟩)
          go_roundw
          case rel => exact ⟨k + 1, true, by omega, by go_num, rfl, (HS.out _).nm hk2⟩
          case measure => simp [intOf]; omega
        | false =>
          go_wp2_with (go_at_call 26; refine (refRight_any _ _ _ _ hs).mono ?_; rintro e w' ⟨rfl, rfl⟩)
          go_roundw
          case rel => exact ⟨k + 1, false, by omega, by go_num, rfl, (HS.out _).nm hk2⟩
          case measure => simp [intOf]; omega
    · have hkn : k = 2 := by omega
      subst hkn
      have HB0 : Hid (Below w.heap.size w wr) := below_step (below_own _) HL.keep
      obtain ⟨hc1, hf1⟩ := bret HL.keep
      have hz1 : w.heap.size < wr.heap.size := by have := HL.keep.size; simp at this; omega
      have hbw : b < wr.heap.size := by omega
      have hbne : b ≠ wr.heap.size := by omega
      have hbn1 : b ≠ wr.heap.size + 1 := by omega
      have hq0 : w.heap.size ≠ wr.heap.size := by omega
      have hq1 : w.heap.size ≠ wr.heap.size + 1 := by omega
      have hq2 : w.heap.size ≠ wr.heap.size + 1 + 1 := by omega
      have hq3 : w.heap.size ≠ wr.heap.size + 1 + 1 + 1 := by omega
      have hq4 : w.heap.size < wr.heap.size + 1 := by omega
      have hq5 : w.heap.size < wr.heap.size + 1 + 1 := by omega
      have hq6 : w.heap.size < wr.heap.size + 1 + 1 + 1 := by omega
      have hbn : bn = false := by rw [HL.names, List.take_of_length_le (by rw [HN.out]; exact Nat.le_refl _)]; exact HNM.out
      subst hbn
      obtain ⟨hx1, hx2, hx3⟩ := HX.out.later HB0.out hb
      obtain ⟨hy1, hy2, hy3⟩ := HY.out.later HB0.out hb
      obtain ⟨yk, yn, ys⟩ := y
      obtain ⟨xk, xn, xs⟩ := x
      clear HC HM HL HW HR HX HN HY HNM
      have r1 : In64 xn := (HMX.out (xk, xn, xs) (by simp)).1
      have r2 : In64 yn := (HMX.out (yk, yn, ys) (by simp)).1
      cases hf : fitB (recN 3 xn yn) with
      | true =>
        have HE : Hid (recV 3 xn yn = (numT (recN 3 xn yn), 0)) := if_pos hf
        go_wp2
        go_region
        all_goals
          go_wp2_with fail
          refine (reckoned_any 3 _ _ _ r1 r2).mono ?_
          rintro e w1 ⟨⟨m, rfl, hm⟩, hb1⟩
          have HB1 : Hid (Below w.heap.size w w1) := below_step ((below_new (below_new HB0.out _) _).drew) hb1
          obtain ⟨hc2, hf2⟩ := bone hb1 (g := w.heap.size) (by simp; omega)
          have hz2 : w.heap.size < w1.heap.size := by have := hb1.size; simp at this; omega
          clear hb1
          obtain rfl := hm hf
          rw [hf]
          go_wp2_with (go_at_call 37; refine (refNumber_any _ _).mono ?_; rintro e w' ⟨rfl, rfl⟩)
          refine bodyPost_ret (v := .tuple #[.agg #[.int .u8 1, .int .i64 (recN 3 xn yn), .string ⟨#[]⟩], .int .i64 0]) (by simp [results, Try.results25, go_sem, hc1, hz1, hc2, hz2, hq4]) rfl ⟨do_post HE.out, ?_⟩
          exact below_new (below_put3 HB1.out _ _ _) _
      | false =>
        have HE : Hid (recV 3 xn yn = (zeroT, 300)) := if_neg (by rw [hf]; simp)
        go_wp2
        go_region
        all_goals
          go_wp2_with fail
          refine (reckoned_any 3 _ _ _ r1 r2).mono ?_
          rintro e w1 ⟨⟨m, rfl, hm⟩, hb1⟩
          have HB1 : Hid (Below w.heap.size w w1) := below_step ((below_new (below_new HB0.out _) _).drew) hb1
          obtain ⟨hc2, hf2⟩ := bone hb1 (g := w.heap.size) (by simp; omega)
          have hz2 : w.heap.size < w1.heap.size := by have := hb1.size; simp at this; omega
          clear hb1
          rw [hf]
          clear hm
          go_wp2
          refine bodyPost_ret (v := .tuple #[.agg #[.int .u8 0, .int .i64 0, .string ⟨#[]⟩], .int .i64 300]) (by simp [results, Try.results25, go_sem, hc1, hz1, hc2, hq4]) rfl ⟨do_post HE.out, ?_⟩
          exact below_put3 HB1.out _ _ _

set_option maxHeartbeats 2000000 in
theorem refDo_4 (b off c : Nat) (x : V3) (w : World) (hb : b < w.heap.size) (hc : RowAt w b off [x]) (hm : Fine [x])
    (hw : ([x] : List V3).any wrongB = false) (hnm : ([x] : List V3).any nameB = false) :
    Calls Try.prog 25 #[.int .u8 4, .slice (some ⟨b, off, none⟩) 1 c] w (DoPost (recV 4 x.2.1 x.2.1) w) := by
  obtain ⟨zs, hzs⟩ : ∃ zs : List V3, zs = [x] := ⟨_, rfl⟩
  rw [← hzs] at hc hm hw hnm
  have HN : Hid (zs.length = 1) := by rw [hzs]; rfl
  have HC := Lib.hid hc
  have HM := Lib.hid hm
  have HW := Lib.hid hw
  have HNM := Lib.hid hnm
  have hx := hc 0 (by rw [hzs]; simp)
  have HX : At w b off x := by simp only [hzs] at hx; simpa using hx
  have HX := Lib.hid HX
  have HR : Hid (∀ j, (hj : j < zs.length) → wrongB zs[j] = false) := fun j hj => by
    rw [Bool.eq_false_iff]; intro h
    rw [any_hit zs wrongB j hj h] at hw; cases hw
  have HMX : Hid (Fine [x]) := by rw [← hzs]; exact hm
  clear hx hc hm hw hzs hnm
  go_enter Try.func25, Try.ntmps25
  go_wp2
  go_loopw [8, 7] (fun i nm wr => ∃ (k : Nat) (bn : Bool), k ≤ 1 ∧ i = .int .i64 k ∧ nm = .bool bn ∧ LoopAt zs w wr k bn) (fun i _ _ => 1 - (intOf i).toNat)
  case atStart => exact ⟨0, false, Nat.zero_le _, rfl, rfl, Below.refl _ _, fun j _ hj => absurd hj (Nat.not_lt_zero _), rfl⟩
  case round =>
    obtain ⟨k, bn, hk, rfl, rfl, HL⟩ := hrel
    by_cases hlt : k < 1
    · have hkz : k < zs.length := by rw [HN.out]; exact hlt
      have hcx := fun (wr' : World) => LoopAt.step (wr' := wr') HL hkz
      have hat := (HC.out k hkz).later (below_step (below_own _) HL.keep) hb
      have hs := (HM.out zs[k] (List.getElem_mem hkz)).2
      obtain ⟨hc1, hf1⟩ := bret HL.keep
      have hz1 : w.heap.size < wr.heap.size := by have := HL.keep.size; simp at this; omega
      have hbw : b < wr.heap.size := by omega
      have hbne : b ≠ wr.heap.size := by omega
      have HK := Lib.hid HL.keep
      have hltz : (k : Int) < 1 := by omega
      have HCX := Lib.hid hcx
      have HRk : Hid (wrongB zs[k] = false) := HR.out k hkz
      clear HR hcx HC HM HL HW HX
      generalize zs[k] = x at hat hs HCX HRk
      obtain ⟨xk, xn, xs⟩ := x
      obtain ⟨a1, a2, a3⟩ := hat
      have hq : rightB xk xn xs = true := by have h := HRk.out; simpa [wrongB] using h
      have HS : Hid (∀ o, LoopAt zs w (wr.alloc o) (k + 1) (bn || nameB (xk, xn, xs))) := fun o => HCX.out _ HRk.out (below_own o)
      clear HCX
      cases bn with
      | true =>
        go_wp2_with (go_at_call 26; refine (refRight_any _ _ _ _ hs).mono ?_; rintro e w' ⟨rfl, rfl⟩)
        go_roundw
        case rel => exact ⟨k + 1, true, by omega, by go_num, rfl, HS.out _⟩
        case measure => simp [intOf]; omega
      | false =>
        cases hk2 : (xk == 2) with
        | true =>
          go_wp2_with (go_at_call 26; refine (refRight_any _ _ _ _ hs).mono ?_; rintro e w' ⟨rfl, rfl⟩)
          go_roundw
          case rel => exact ⟨k + 1, true, by omega, by go_num, rfl, (HS.out _).nm hk2⟩
          case measure => simp [intOf]; omega
        | false =>
          go_wp2_with (go_at_call 26; refine (refRight_any _ _ _ _ hs).mono ?_; rintro e w' ⟨rfl, rfl⟩)
          go_roundw
          case rel => exact ⟨k + 1, false, by omega, by go_num, rfl, (HS.out _).nm hk2⟩
          case measure => simp [intOf]; omega
    · have hkn : k = 1 := by omega
      subst hkn
      have HB0 : Hid (Below w.heap.size w wr) := below_step (below_own _) HL.keep
      obtain ⟨hc1, hf1⟩ := bret HL.keep
      have hz1 : w.heap.size < wr.heap.size := by have := HL.keep.size; simp at this; omega
      have hbw : b < wr.heap.size := by omega
      have hbne : b ≠ wr.heap.size := by omega
      have hbn1 : b ≠ wr.heap.size + 1 := by omega
      have hq0 : w.heap.size ≠ wr.heap.size := by omega
      have hq1 : w.heap.size ≠ wr.heap.size + 1 := by omega
      have hq2 : w.heap.size ≠ wr.heap.size + 1 + 1 := by omega
      have hq3 : w.heap.size ≠ wr.heap.size + 1 + 1 + 1 := by omega
      have hq4 : w.heap.size < wr.heap.size + 1 := by omega
      have hq5 : w.heap.size < wr.heap.size + 1 + 1 := by omega
      have hq6 : w.heap.size < wr.heap.size + 1 + 1 + 1 := by omega
      have hbn : bn = false := by rw [HL.names, List.take_of_length_le (by rw [HN.out]; exact Nat.le_refl _)]; exact HNM.out
      subst hbn
      obtain ⟨hx1, hx2, hx3⟩ := HX.out.later HB0.out hb
      obtain ⟨xk, xn, xs⟩ := x
      clear HC HM HL HW HR HX HN HNM
      have r1 : In64 xn := (HMX.out (xk, xn, xs) (by simp)).1
      cases hf : fitB (recN 4 xn xn) with
      | true =>
        have HE : Hid (recV 4 xn xn = (numT (recN 4 xn xn), 0)) := if_pos hf
        go_wp2
        go_region
        all_goals
          go_wp2_with fail
          refine (reckoned_any 4 _ _ _ r1 r1).mono ?_
          rintro e w1 ⟨⟨m, rfl, hm⟩, hb1⟩
          have HB1 : Hid (Below w.heap.size w w1) := below_step ((below_new (below_new HB0.out _) _).drew) hb1
          obtain ⟨hc2, hf2⟩ := bone hb1 (g := w.heap.size) (by simp; omega)
          have hz2 : w.heap.size < w1.heap.size := by have := hb1.size; simp at this; omega
          clear hb1
          obtain rfl := hm hf
          rw [hf]
          go_wp2_with (go_at_call 37; refine (refNumber_any _ _).mono ?_; rintro e w' ⟨rfl, rfl⟩)
          refine bodyPost_ret (v := .tuple #[.agg #[.int .u8 1, .int .i64 (recN 4 xn xn), .string ⟨#[]⟩], .int .i64 0]) (by simp [results, Try.results25, go_sem, hc1, hz1, hc2, hz2, hq4]) rfl ⟨do_post HE.out, ?_⟩
          exact below_new (below_put3 HB1.out _ _ _) _
      | false =>
        have HE : Hid (recV 4 xn xn = (zeroT, 300)) := if_neg (by rw [hf]; simp)
        go_wp2
        go_region
        all_goals
          go_wp2_with fail
          refine (reckoned_any 4 _ _ _ r1 r1).mono ?_
          rintro e w1 ⟨⟨m, rfl, hm⟩, hb1⟩
          have HB1 : Hid (Below w.heap.size w w1) := below_step ((below_new (below_new HB0.out _) _).drew) hb1
          obtain ⟨hc2, hf2⟩ := bone hb1 (g := w.heap.size) (by simp; omega)
          have hz2 : w.heap.size < w1.heap.size := by have := hb1.size; simp at this; omega
          clear hb1
          rw [hf]
          clear hm
          go_wp2
          refine bodyPost_ret (v := .tuple #[.agg #[.int .u8 0, .int .i64 0, .string ⟨#[]⟩], .int .i64 300]) (by simp [results, Try.results25, go_sem, hc1, hz1, hc2, hq4]) rfl ⟨do_post HE.out, ?_⟩
          exact below_put3 HB1.out _ _ _
end Go.Proofs.Ytkbkkhfmejpbeaa
