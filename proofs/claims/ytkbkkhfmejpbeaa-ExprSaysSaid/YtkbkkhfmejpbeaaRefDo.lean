/- The reference's Do: its ends by walks of their own. -/
import Derived.Test.YtkbkkhfmejpbeaaDoAny
namespace Go.Proofs.Ytkbkkhfmejpbeaa
open Go.RowKit

theorem any_later {l : List V3} {p : V3 → Bool} {k : Nat} (h : l.any p = true) (hk : ∀ j, (hj : j < l.length) → j < k → p l[j] = false) : k < l.length := by
  rcases Nat.lt_or_ge k l.length with h' | h'
  · exact h'
  · rw [any_miss l p fun j hj => hk j hj (by omega)] at h
    cases h

theorem bret {W w1 : World} {o : Obj} (hb : Below (W.alloc o).heap.size (W.alloc o) w1) : (∀ j, w1.cell? ⟨W.heap.size, j, none⟩ = (W.alloc o).cell? ⟨W.heap.size, j, none⟩) ∧ (∀ j, w1.frozen? ⟨W.heap.size, j, none⟩ = (W.alloc o).frozen? ⟨W.heap.size, j, none⟩) :=
  ⟨fun j => hb.cell (p := ⟨W.heap.size, j, none⟩) (by simp), fun j => hb.frozen (p := ⟨W.heap.size, j, none⟩) (by simp)⟩

/-- Another length than the operator wants, or no operator. -/
theorem refDo_arg (op : Int) (a : Option Addr) (n c : Nat) (w : World) (h : knownB op = false ∨ ((n : Int) != placesN op) = true) :
    Calls Try.prog 25 #[.int .u8 op, .slice a n c] w (DoPost (zeroT, 2) w) := by
  by_cases hlo : op < 1
  · have h1 : (op == 4) = false := by simp; omega
    have h2 : (op == 11) = false := by simp; omega
    have h3 : decide (op < 1) = true := by simp; omega
    clear h hlo
    go_enter Try.func25, Try.ntmps25
    go_wp2
    refine bodyPost_ret (v := .tuple #[.agg #[.int .u8 0, .int .i64 0, .string ⟨#[]⟩], .int .i64 2]) (by simp [results, Try.results25, go_sem]) rfl ⟨rfl, ?_⟩
    exact below_own _
  · have h3 : decide (op < 1) = false := by simp; omega
    by_cases hhi : 11 < op
    · have h1 : (op == 4) = false := by simp; omega
      have h2 : (op == 11) = false := by simp; omega
      have h4 : decide (11 < op) = true := by simp; omega
      clear h hlo hhi
      go_enter Try.func25, Try.ntmps25
      go_wp2
      refine bodyPost_ret (v := .tuple #[.agg #[.int .u8 0, .int .i64 0, .string ⟨#[]⟩], .int .i64 2]) (by simp [results, Try.results25, go_sem]) rfl ⟨rfl, ?_⟩
      exact below_own _
    · have h4 : decide (11 < op) = false := by simp; omega
      have hk : knownB op = true := by simp [knownB]; omega
      have h5 : ((n : Int) != placesN op) = true := by
        rcases h with h | h
        · rw [hk] at h; cases h
        · exact h
      clear h hlo hhi hk
      cases h1 : (op == 4) with
      | true =>
        have h6 : ((n : Int) != 1) = true := by rw [placesN, h1] at h5; exact h5
        clear h5
        go_enter Try.func25, Try.ntmps25
        go_wp2
        refine bodyPost_ret (v := .tuple #[.agg #[.int .u8 0, .int .i64 0, .string ⟨#[]⟩], .int .i64 2]) (by simp [results, Try.results25, go_sem]) rfl ⟨rfl, ?_⟩
        exact below_own _
      | false =>
        cases h2 : (op == 11) with
        | true =>
          have h6 : ((n : Int) != 1) = true := by rw [placesN, h1, h2] at h5; exact h5
          clear h5
          go_enter Try.func25, Try.ntmps25
          go_wp2
          refine bodyPost_ret (v := .tuple #[.agg #[.int .u8 0, .int .i64 0, .string ⟨#[]⟩], .int .i64 2]) (by simp [results, Try.results25, go_sem]) rfl ⟨rfl, ?_⟩
          exact below_own _
        | false =>
          have h6 : ((n : Int) != 2) = true := by rw [placesN, h1, h2] at h5; exact h5
          clear h5
          go_enter Try.func25, Try.ntmps25
          go_wp2
          refine bodyPost_ret (v := .tuple #[.agg #[.int .u8 0, .int .i64 0, .string ⟨#[]⟩], .int .i64 2]) (by simp [results, Try.results25, go_sem]) rfl ⟨rfl, ?_⟩
          exact below_own _

structure LoopAt (zs : List V3) (w wr : World) (k : Nat) (nm : Bool) : Prop where
  keep : Below (w.alloc (.cells #[.int .u8 0, .int .i64 0, .string ⟨#[]⟩] 25)).heap.size (w.alloc (.cells #[.int .u8 0, .int .i64 0, .string ⟨#[]⟩] 25)) wr
  right : ∀ j, (hj : j < zs.length) → j < k → wrongB zs[j] = false
  names : nm = (zs.take k).any nameB

theorem LoopAt.nm {zs : List V3} {w wr : World} {k : Nat} {a b : Bool} (h : LoopAt zs w wr k a) (e : a = b) : LoopAt zs w wr k b := by
  subst e; exact h

theorem LoopAt.step {zs : List V3} {w wr wr' : World} {k : Nat} {bn : Bool} (h : LoopAt zs w wr k bn) (hk : k < zs.length) (hr : wrongB zs[k] = false) (hb : Below wr.heap.size wr wr') : LoopAt zs w wr' (k + 1) (bn || nameB zs[k]) :=
  ⟨below_step h.keep hb, fun j hj hjk => by
    rcases Nat.lt_or_ge j k with h' | h'
    · exact h.right j hj h'
    · obtain rfl : j = k := by omega
      exact hr, by rw [List.take_succ_eq_append_getElem hk, List.any_append, ← h.names]; simp⟩

set_option maxHeartbeats 1000000 in
theorem refDo_wrong4 (op : Int) (b off c n : Nat) (zs : List V3) (w : World) (hn : zs.length = n) (hz : n ≤ 9223372036854775807) (hb : b < w.heap.size) (hc : RowAt w b off zs) (hm : Fine zs)
    (h1 : (op == 4) = true) (h6 : ((n : Int) != 1) = false) (hw : zs.any wrongB = true) :
    Calls Try.prog 25 #[.int .u8 op, .slice (some ⟨b, off, none⟩) n c] w (DoPost (zeroT, 2) w) := by
  have hop : op = 4 := by simpa using h1
  have h3 : decide (op < 1) = false := by simp; omega
  have h4 : decide (11 < op) = false := by simp; omega
  clear hop
  have HN := Lib.hid hn
  have HC := Lib.hid hc
  have HM := Lib.hid hm
  have HW := Lib.hid hw
  clear hn hc hm hw
  go_enter Try.func25, Try.ntmps25
  go_wp2
  go_loopw [8, 7] (fun i nm wr => ∃ (k : Nat) (bn : Bool), k ≤ n ∧ i = .int .i64 k ∧ nm = .bool bn ∧ LoopAt zs w wr k bn) (fun i _ _ => n - (intOf i).toNat)
  case atStart => exact ⟨0, false, Nat.zero_le _, rfl, rfl, Below.refl _ _, fun j _ hj => absurd hj (Nat.not_lt_zero _), rfl⟩
  case round =>
    obtain ⟨k, bn, hk, rfl, rfl, HL⟩ := hrel
    have hkz : k < zs.length := any_later HW.out HL.right
    have hlt : k < n := by rw [HN.out] at hkz; exact hkz
    have hcx := fun (wr' : World) => LoopAt.step (wr' := wr') HL hkz
    have hat := (HC.out k hkz).later (below_step (below_own _) HL.keep) hb
    have hs := (HM.out zs[k] (List.getElem_mem hkz)).2
    obtain ⟨hc1, hf1⟩ := bret HL.keep
    have hz1 : w.heap.size < wr.heap.size := by have := HL.keep.size; simp at this; omega
    have hbw : b < wr.heap.size := by omega
    have hbne : b ≠ wr.heap.size := by omega
    have HK := Lib.hid HL.keep
    have hltz : (k : Int) < (n : Int) := by omega
    have HCX := Lib.hid hcx
    clear hcx HC HM HL HW
    generalize zs[k] = x at hat hs HCX
    obtain ⟨xk, xn, xs⟩ := x
    obtain ⟨a1, a2, a3⟩ := hat
    cases hq : rightB xk xn xs with
    | false =>
      clear HCX
      go_wp2_with (go_at_call 26; refine (refRight_any _ _ _ _ hs).mono ?_; rintro e w' ⟨rfl, rfl⟩)
      refine bodyPost_ret (v := .tuple #[.agg #[.int .u8 0, .int .i64 0, .string ⟨#[]⟩], .int .i64 2]) (by simp [results, Try.results25, go_sem, hc1, hz1]) rfl ⟨rfl, ?_⟩
      exact below_new (below_put3 (below_step (below_own _) HK.out) _ _ _) _
    | true =>
      have HS : Hid (∀ o, LoopAt zs w (wr.alloc o) (k + 1) (bn || nameB (xk, xn, xs))) := fun o => HCX.out _ (by show (!rightB xk xn xs) = false; rw [hq]; rfl) (below_own o)
      clear HCX
      cases bn with
      | true =>
        go_wp2_with (go_at_call 26; refine (refRight_any _ _ _ _ hs).mono ?_; rintro e w' ⟨rfl, rfl⟩)
        go_roundw
        case rel => exact ⟨k + 1, true, by omega, by go_num, rfl, HS.out _⟩
        case measure => simp [intOf]; omega
      | false =>
        cases hk2 : (xk == 2) with
        | true =>
          go_wp2_with (go_at_call 26; refine (refRight_any _ _ _ _ hs).mono ?_; rintro e w' ⟨rfl, rfl⟩)
          go_roundw
          case rel => exact ⟨k + 1, true, by omega, by go_num, rfl, (HS.out _).nm hk2⟩
          case measure => simp [intOf]; omega
        | false =>
          go_wp2_with (go_at_call 26; refine (refRight_any _ _ _ _ hs).mono ?_; rintro e w' ⟨rfl, rfl⟩)
          go_roundw
          case rel => exact ⟨k + 1, false, by omega, by go_num, rfl, (HS.out _).nm hk2⟩
          case measure => simp [intOf]; omega

set_option maxHeartbeats 1000000 in
theorem refDo_wrong11 (op : Int) (b off c n : Nat) (zs : List V3) (w : World) (hn : zs.length = n) (hz : n ≤ 9223372036854775807) (hb : b < w.heap.size) (hc : RowAt w b off zs) (hm : Fine zs)
    (h1 : (op == 4) = false) (h2 : (op == 11) = true) (h6 : ((n : Int) != 1) = false) (hw : zs.any wrongB = true) :
    Calls Try.prog 25 #[.int .u8 op, .slice (some ⟨b, off, none⟩) n c] w (DoPost (zeroT, 2) w) := by
  have hop : op = 11 := by simpa using h2
  have h3 : decide (op < 1) = false := by simp; omega
  have h4 : decide (11 < op) = false := by simp; omega
  clear hop
  have HN := Lib.hid hn
  have HC := Lib.hid hc
  have HM := Lib.hid hm
  have HW := Lib.hid hw
  clear hn hc hm hw
  go_enter Try.func25, Try.ntmps25
  go_wp2
  go_loopw [8, 7] (fun i nm wr => ∃ (k : Nat) (bn : Bool), k ≤ n ∧ i = .int .i64 k ∧ nm = .bool bn ∧ LoopAt zs w wr k bn) (fun i _ _ => n - (intOf i).toNat)
  case atStart => exact ⟨0, false, Nat.zero_le _, rfl, rfl, Below.refl _ _, fun j _ hj => absurd hj (Nat.not_lt_zero _), rfl⟩
  case round =>
    obtain ⟨k, bn, hk, rfl, rfl, HL⟩ := hrel
    have hkz : k < zs.length := any_later HW.out HL.right
    have hlt : k < n := by rw [HN.out] at hkz; exact hkz
    have hcx := fun (wr' : World) => LoopAt.step (wr' := wr') HL hkz
    have hat := (HC.out k hkz).later (below_step (below_own _) HL.keep) hb
    have hs := (HM.out zs[k] (List.getElem_mem hkz)).2
    obtain ⟨hc1, hf1⟩ := bret HL.keep
    have hz1 : w.heap.size < wr.heap.size := by have := HL.keep.size; simp at this; omega
    have hbw : b < wr.heap.size := by omega
    have hbne : b ≠ wr.heap.size := by omega
    have HK := Lib.hid HL.keep
    have hltz : (k : Int) < (n : Int) := by omega
    have HCX := Lib.hid hcx
    clear hcx HC HM HL HW
    generalize zs[k] = x at hat hs HCX
    obtain ⟨xk, xn, xs⟩ := x
    obtain ⟨a1, a2, a3⟩ := hat
    cases hq : rightB xk xn xs with
    | false =>
      clear HCX
      go_wp2_with (go_at_call 26; refine (refRight_any _ _ _ _ hs).mono ?_; rintro e w' ⟨rfl, rfl⟩)
      refine bodyPost_ret (v := .tuple #[.agg #[.int .u8 0, .int .i64 0, .string ⟨#[]⟩], .int .i64 2]) (by simp [results, Try.results25, go_sem, hc1, hz1]) rfl ⟨rfl, ?_⟩
      exact below_new (below_put3 (below_step (below_own _) HK.out) _ _ _) _
    | true =>
      have HS : Hid (∀ o, LoopAt zs w (wr.alloc o) (k + 1) (bn || nameB (xk, xn, xs))) := fun o => HCX.out _ (by show (!rightB xk xn xs) = false; rw [hq]; rfl) (below_own o)
      clear HCX
      cases bn with
      | true =>
        go_wp2_with (go_at_call 26; refine (refRight_any _ _ _ _ hs).mono ?_; rintro e w' ⟨rfl, rfl⟩)
        go_roundw
        case rel => exact ⟨k + 1, true, by omega, by go_num, rfl, HS.out _⟩
        case measure => simp [intOf]; omega
      | false =>
        cases hk2 : (xk == 2) with
        | true =>
          go_wp2_with (go_at_call 26; refine (refRight_any _ _ _ _ hs).mono ?_; rintro e w' ⟨rfl, rfl⟩)
          go_roundw
          case rel => exact ⟨k + 1, true, by omega, by go_num, rfl, (HS.out _).nm hk2⟩
          case measure => simp [intOf]; omega
        | false =>
          go_wp2_with (go_at_call 26; refine (refRight_any _ _ _ _ hs).mono ?_; rintro e w' ⟨rfl, rfl⟩)
          go_roundw
          case rel => exact ⟨k + 1, false, by omega, by go_num, rfl, (HS.out _).nm hk2⟩
          case measure => simp [intOf]; omega

set_option maxHeartbeats 1000000 in
theorem refDo_wrong2 (op : Int) (b off c n : Nat) (zs : List V3) (w : World) (hn : zs.length = n) (hz : n ≤ 9223372036854775807) (hb : b < w.heap.size) (hc : RowAt w b off zs) (hm : Fine zs)
    (h1 : (op == 4) = false) (h2 : (op == 11) = false) (hop : knownB op = true) (h6 : ((n : Int) != 2) = false) (hw : zs.any wrongB = true) :
    Calls Try.prog 25 #[.int .u8 op, .slice (some ⟨b, off, none⟩) n c] w (DoPost (zeroT, 2) w) := by
  have hop := known_cases hop
  have h3 : decide (op < 1) = false := by simp; omega
  have h4 : decide (11 < op) = false := by simp; omega
  clear hop
  have HN := Lib.hid hn
  have HC := Lib.hid hc
  have HM := Lib.hid hm
  have HW := Lib.hid hw
  clear hn hc hm hw
  go_enter Try.func25, Try.ntmps25
  go_wp2
  go_loopw [8, 7] (fun i nm wr => ∃ (k : Nat) (bn : Bool), k ≤ n ∧ i = .int .i64 k ∧ nm = .bool bn ∧ LoopAt zs w wr k bn) (fun i _ _ => n - (intOf i).toNat)
  case atStart => exact ⟨0, false, Nat.zero_le _, rfl, rfl, Below.refl _ _, fun j _ hj => absurd hj (Nat.not_lt_zero _), rfl⟩
  case round =>
    obtain ⟨k, bn, hk, rfl, rfl, HL⟩ := hrel
    have hkz : k < zs.length := any_later HW.out HL.right
    have hlt : k < n := by rw [HN.out] at hkz; exact hkz
    have hcx := fun (wr' : World) => LoopAt.step (wr' := wr') HL hkz
    have hat := (HC.out k hkz).later (below_step (below_own _) HL.keep) hb
    have hs := (HM.out zs[k] (List.getElem_mem hkz)).2
    obtain ⟨hc1, hf1⟩ := bret HL.keep
    have hz1 : w.heap.size < wr.heap.size := by have := HL.keep.size; simp at this; omega
    have hbw : b < wr.heap.size := by omega
    have hbne : b ≠ wr.heap.size := by omega
    have HK := Lib.hid HL.keep
    have hltz : (k : Int) < (n : Int) := by omega
    have HCX := Lib.hid hcx
    clear hcx HC HM HL HW
    generalize zs[k] = x at hat hs HCX
    obtain ⟨xk, xn, xs⟩ := x
    obtain ⟨a1, a2, a3⟩ := hat
    cases hq : rightB xk xn xs with
    | false =>
      clear HCX
      go_wp2_with (go_at_call 26; refine (refRight_any _ _ _ _ hs).mono ?_; rintro e w' ⟨rfl, rfl⟩)
      refine bodyPost_ret (v := .tuple #[.agg #[.int .u8 0, .int .i64 0, .string ⟨#[]⟩], .int .i64 2]) (by simp [results, Try.results25, go_sem, hc1, hz1]) rfl ⟨rfl, ?_⟩
      exact below_new (below_put3 (below_step (below_own _) HK.out) _ _ _) _
    | true =>
      have HS : Hid (∀ o, LoopAt zs w (wr.alloc o) (k + 1) (bn || nameB (xk, xn, xs))) := fun o => HCX.out _ (by show (!rightB xk xn xs) = false; rw [hq]; rfl) (below_own o)
      clear HCX
      cases bn with
      | true =>
        go_wp2_with (go_at_call 26; refine (refRight_any _ _ _ _ hs).mono ?_; rintro e w' ⟨rfl, rfl⟩)
        go_roundw
        case rel => exact ⟨k + 1, true, by omega, by go_num, rfl, HS.out _⟩
        case measure => simp [intOf]; omega
      | false =>
        cases hk2 : (xk == 2) with
        | true =>
          go_wp2_with (go_at_call 26; refine (refRight_any _ _ _ _ hs).mono ?_; rintro e w' ⟨rfl, rfl⟩)
          go_roundw
          case rel => exact ⟨k + 1, true, by omega, by go_num, rfl, (HS.out _).nm hk2⟩
          case measure => simp [intOf]; omega
        | false =>
          go_wp2_with (go_at_call 26; refine (refRight_any _ _ _ _ hs).mono ?_; rintro e w' ⟨rfl, rfl⟩)
          go_roundw
          case rel => exact ⟨k + 1, false, by omega, by go_num, rfl, (HS.out _).nm hk2⟩
          case measure => simp [intOf]; omega

theorem do_post {r r' : V3 × Int} (h : r' = r) : Ending.returned (.tuple #[.agg #[.int .u8 r.1.1, .int .i64 r.1.2.1, .string r.1.2.2], .int .i64 r.2]) = Ending.returned (.tuple #[.agg #[.int .u8 r'.1.1, .int .i64 r'.1.2.1, .string r'.1.2.2], .int .i64 r'.2]) := by rw [h]
end Go.Proofs.Ytkbkkhfmejpbeaa
