/- Values lent, and what was lent looked at again: rows up to 60. -/
import Derived.Test.YtnnhgbncghpecaaGreatKit10
import Derived.Laws.OwnMore
import Derived.OwnWalk
namespace Go.Proofs.YtnnhgbncghpecaaGreat
open Go.RowKit

set_option maxRecDepth 100000 in
set_option maxHeartbeats 2000000 in
theorem lentW_any (ao : Option Addr) (n c : Nat) (zs : List V3) (w : World) (hn : zs.length = n) (h20 : n ≤ 60) (hao : ao = none → n = 0 ∧ c = 0) (hrow : 0 < n → ∀ ad, ao = some ad → ∃ b off, ad = ⟨b, off, none⟩ ∧ b < w.heap.size ∧ RowAt w b off zs) :
    Calls Tryz.prog 9 #[.slice ao n c] w fun e w' => e = .returned (.slice (some ⟨w.heap.size, 0, none⟩) n (n + 12)) ∧ w.heap.size < w'.heap.size ∧ RowAt w' w.heap.size 0 (zs ++ marksV 12) ∧ Below w.heap.size w w' := by
  obtain ⟨i0, hi, hz0, hz1, hz2⟩ := info_parts infoV
  have hcells : ∀ w1, Below w.heap.size w w1 → ∀ ad, ao = some ad → ∀ j u, (cellsV zs)[j]? = some u → w1.cell? (ad.add j) = some u := by
    intro w1 hb ad had j u hu
    have hpos : 0 < n := by
      rcases Nat.eq_zero_or_pos n with h0 | h0
      · rw [h0] at hn
        rw [List.eq_nil_of_length_eq_zero hn] at hu
        simp [cellsV] at hu
      · exact h0
    obtain ⟨b, off, rfl, hbl, hr⟩ := hrow hpos ad had
    rw [Addr.add_lit]
    exact (hb.cell (p := ⟨b, off + j, none⟩) hbl).trans (RowAt.cells zs hr j u hu)
  have HC := Lib.hid hcells
  have HAO := Lib.hid hao
  have HN := Lib.hid hn
  clear hcells hrow hao hn
  go_enter Tryz.func9, Tryz.ntmps9
  go_wp2_with (first
    | (at_make; refine wpList_make_own _ rfl _ _ 34 rfl w.heap.size 27 i0 (.agg #[.int .u8 0, .int .i64 0, .string ⟨#[]⟩]) 3 Tryz.underlying34 hi hz0 hz1 .i64 .i64 _ (n + 12) rfl rfl (by omega) (by rw [hz2]; omega) (by unfold maxLen; omega) (Nat.le_refl _) ?_; intro w0 hown0 hgrow0)
    | (at_builtin; refine wpList_append_fits_any _ rfl (.tmp 9) (.tmp 10) 34 rfl w.heap.size 27 i0 3 Tryz.underlying34 hi hz1 w.heap.size 0 (n + 12) _ rfl hown0 ao n c (cellsV zs) rfl (by rw [cellsV_length, HN.out]) HAO.out (HC.out _ ((Below.refl _ _).grown hgrow0 (Nat.le_refl _) (fun k h => by cases h))) (cellsV_one _) (by omega) ?_; intro w1 hown1 hgrow1; simp only [Nat.zero_add, List.nil_append] at hown1))
  have HB1 : Below w.heap.size w w1 := ((Below.refl _ _).grown hgrow0 (Nat.le_refl _) (fun k h => by cases h)).grown hgrow1 hgrow0.size (fun k h => by cases h; exact Nat.le_refl _)
  clear hgrow0 hgrow1 HC HAO hown0
  go_loopw [3, 4] (fun v i wr => ∃ k : Nat, k ≤ 12 ∧ i = .int .i64 k ∧ v = .slice (some ⟨w.heap.size, 0, none⟩) (n + k) (n + 12) ∧ wr.ownsRow w.heap.size 27 3 (.slice (some ⟨w.heap.size, 0, none⟩) (n + k) (n + 12)) (n + k) (cellsV (zs ++ marksV k)) ∧ Below w.heap.size w wr) (fun _ i _ => 12 - (intOf i).toNat)
  case atStart => exact ⟨0, by omega, rfl, rfl, by simpa [marksV] using hown1, HB1⟩
  case round =>
    obtain ⟨k, hk, rfl, rfl, hown, hb⟩ := hrel
    have HBr := Lib.hid hb
    clear hb hown1 HB1
    have hsz : w.heap.size ≤ wr.heap.size := HBr.out.size
    go_wp2_with (first
      | (go_at_call 25; refine (markValue_any k _ (by omega)).mono ?_; rintro e w' ⟨rfl, rfl⟩)
      | (at_builtin; refine wpList_append_fits _ rfl (.tmp 16) (.tmp 19) 34 rfl w.heap.size 27 i0 3 Tryz.underlying34 hi hz1 w.heap.size (n + k) (n + 12) _ rfl ((hown.alloc _).alloc _) ⟨wr.heap.size + 1, 0, none⟩ 1 1 (cellsV [markV k]) rfl rfl (fun j u hu => by rw [Addr.add_lit, Nat.zero_add]; exact cells_made2 wr _ _ _ _ rfl j u (by simpa [cellsV, markV] using hu)) (cellsV_one _) (by omega) ?_; intro w4 hown4 hgrow4))
    · have R : w4.ownsRow w.heap.size 27 3 (.slice (some ⟨w.heap.size, 0, none⟩) (n + (k + 1)) (n + 12)) (n + (k + 1)) (cellsV (zs ++ marksV (k + 1))) := by
        rw [marksV_succ, ← List.append_assoc, cellsV_append]
        exact hown4
      have HB4 : Below w.heap.size w w4 := ((HBr.out.alloc hsz _).alloc (by simp; omega) _).grown hgrow4 (by simp; omega) (fun k h => by cases h; exact Nat.le_refl _)
      clear hown4 hgrow4 hown
      go_roundw
      case rel => exact ⟨k + 1, by omega, by go_num, rfl, R, HB4⟩
      case measure => simp [intOf]; omega
    · have hk12 : k = 12 := by omega
      subst hk12
      have hL : (zs ++ marksV 12).length = n + 12 := by rw [List.length_append, marksV_length, HN.out]
      have hlt : w.heap.size < wr.heap.size := by
        rcases hown.2 with ⟨h', _⟩ | ⟨g', cap', cur, h', _, hg, _⟩
        · simp at h'
        · simp only [Value.slice.injEq, Option.some.injEq, Addr.mk.injEq, and_true, true_and] at h'
          obtain ⟨rfl, rfl⟩ := h'
          exact (Array.getElem?_eq_some_iff.1 hg).1
      have HR : RowAt wr w.heap.size 0 (zs ++ marksV 12) := RowAt.ofCells _ fun j hj => by
        rw [Nat.zero_add]
        exact hown.cellAt j (by rw [hL] at hj; exact hj)
      have HR' := Lib.hid HR
      clear hown HR hL
      go_wp2
      go_ret
      exact ⟨rfl, hlt, HR'.out, HBr.out⟩

theorem markValueH (i : Nat) (w : World) (hi : i ≤ 1000) :
    Calls Tryz.prog 25 #[.int .i64 1, .int .i64 i] w fun e w' => e = .returned (.agg #[.int .u8 0, .int .i64 (8000024 + i), .string ⟨#[]⟩]) ∧ Gr w w' :=
  (markValue_any i w hi).mono fun _ _ ⟨h, h'⟩ => ⟨h, h' ▸ (Gr.refl w).alloc _⟩

set_option maxRecDepth 100000 in
set_option maxHeartbeats 1000000 in
theorem keptW_any (ao : Option Addr) (B n c : Nat) (zs : List V3) (w : World) (hn : zs.length = n) (h20 : n ≤ 60) (hB : B < w.heap.size) (hao : ao = none → n = 0 ∧ c = 0) (hrow : 0 < n → ∀ ad, ao = some ad → ∃ b off, ad = ⟨b, off, none⟩ ∧ b < w.heap.size ∧ RowAt w b off zs) (hout : RowAt w B 0 (zs ++ marksV 12)) :
    Calls Tryz.prog 15 #[.slice (some ⟨B, 0, none⟩) n (n + 12), .slice ao n c] w fun e w' => e = .returned (.bool true) ∧ Gr w w' := by
  have HAO := Lib.hid hao
  have HN := Lib.hid hn
  have HR := Lib.hid hrow
  have HO := Lib.hid hout
  clear hrow hao hn hout
  have hg := eqGuardV
  have mixed : Tryz.prog.follows .mixedOrders = true := by kernel_rfl
  go_enter Tryz.func15, Tryz.ntmps15
  go_wp2
  go_loopw [6] (fun i wr => ∃ k : Nat, k ≤ n + 12 ∧ i = .int .i64 k ∧ Hid (Gr w wr)) (fun i _ => n + 12 - (intOf i).toNat)
  case atStart => exact ⟨0, by omega, rfl, Gr.refl _⟩
  case round =>
    obtain ⟨k, hk, rfl, HGr⟩ := hrel
    have HBr := Lib.hid HGr.out.below
    by_cases hlt : k < n + 12
    · have hB' : B < wr.heap.size := Nat.lt_of_lt_of_le hB HBr.out.size
      by_cases hkn : k < n
      · have hkz : k < zs.length := by rw [HN.out]; exact hkn
        have ho : At wr B (k * 3) zs[k] := by
          have := (HO.out k (by rw [List.length_append]; omega)).later HBr.out hB
          rw [Nat.zero_add, List.getElem_append_left hkz] at this
          exact this
        obtain ⟨ad, rfl⟩ : ∃ ad, ao = some ad := by
          cases ao with
          | none => have := HAO.out rfl; omega
          | some ad => exact ⟨ad, rfl⟩
        obtain ⟨b, off, rfl, hbl, hr⟩ := HR.out (by omega) ad rfl
        have hr' : At wr b (off + k * 3) zs[k] := (hr k hkz).later HBr.out hbl
        have hbl' : b < wr.heap.size := Nat.lt_of_lt_of_le hbl HBr.out.size
        clear hr HO HR HAO HN
        generalize zs[k] = x at ho hr'
        obtain ⟨xk, xn, xs⟩ := x
        obtain ⟨o1, o2, o3⟩ := ho
        obtain ⟨r1, r2, r3⟩ := hr'
        have heq := fun W => eqV xk xn xk xn xs xs W
        rw [(eqvB_iff (xk, xn, xs) (xk, xn, xs)).2 rfl] at heq
        have hlti : (k : Int) < (n : Int) + 12 := by omega
        have hd : decide ((k : Int) < (n : Int)) = true := by simp; omega
        have hd2 : decide ((n : Int) ≤ (k : Int)) = false := by simp; omega
        have hd' : decide (k < n) = true := by simp; omega
        have hd2' : decide (n ≤ k) = false := by simp; omega
        have hki : (k : Int) < (n : Int) := by omega
        go_wp2_with fail
        clear hkn
        go_quiet (fail)
        go_wp2
        have HBn : Hid (Gr w (wr.drewN nq)) := HGr.out.drewN nq
        clear heq hd hd2 hd' hd2' HBr
        go_roundw
        case rel => exact ⟨k + 1, by omega, by go_num, HBn⟩
        case measure => simp [intOf]; omega
      · have hm : k - n < 12 := by omega
        have ho : At wr B (k * 3) (markV (k - n)) := by
          have hkl : k < (zs ++ marksV 12).length := by rw [List.length_append, marksV_length, HN.out]; exact hlt
          have := (HO.out k hkl).later HBr.out hB
          rw [Nat.zero_add, List.getElem_append_right (by rw [HN.out]; omega), marksV_get] at this
          rw [HN.out] at this
          exact this
        clear HO HR HAO HN
        obtain ⟨o1, o2, o3⟩ := ho
        obtain ⟨m, hmk⟩ : ∃ m, m = k - n := ⟨_, rfl⟩
        rw [← hmk] at o1 o2 o3 hm
        have hsub : (k : Int) - (n : Int) = (m : Int) := by omega
        have heq := fun W => eqV 0 (8000024 + (m : Int)) 0 (8000024 + (m : Int)) ⟨#[]⟩ ⟨#[]⟩ W
        rw [(eqvB_iff (0, 8000024 + (m : Int), ⟨#[]⟩) (0, 8000024 + (m : Int), ⟨#[]⟩)).2 rfl] at heq
        have a1 : ∀ q os, (Sort.grow (wr.drewN q) os).cell? ⟨B, k * 3, none⟩ = some (.int .u8 0) := cellG (by omega) o1
        have a2 : ∀ q os, (Sort.grow (wr.drewN q) os).cell? ⟨B, k * 3 + 1, none⟩ = some (.int .i64 (8000024 + (m : Int))) := cellG (by omega) o2
        have a3 : ∀ q os, (Sort.grow (wr.drewN q) os).cell? ⟨B, k * 3 + 2, none⟩ = some (.string ⟨#[]⟩) := cellG (by omega) o3
        clear o1 o2 o3
        have hlti : (k : Int) < (n : Int) + 12 := by omega
        have hd : decide ((k : Int) < (n : Int)) = false := by simp; omega
        have hd2 : decide ((n : Int) ≤ (k : Int)) = true := by simp; omega
        have hd' : decide (k < n) = false := by simp; omega
        have hd2' : decide (n ≤ k) = true := by simp; omega
        have C := Lib.hid (fun W => markValueH m W (by omega))
        clear hkn hmk
        go_wp2_with fail
        refine wp_region_quiet_grown (by assumption) (by kernel_rfl) ?_
        repeat (go_big_quiet_step (first | (go_at_call 25; exact Calls.grown_of ((C.out _).mono fun _ _ ⟨h, g⟩ => ⟨h, g.out⟩))))
        refine wpQuiet_nil ?_
        intro _ hw'
        obtain ⟨⟨nq, osq⟩, hw''⟩ := hw'
        subst hw''
        go_wp2
        have HBn : Hid (Gr w (Sort.grow (wr.drewN nq) osq)) := HGr.out.trans ⟨nq, osq, rfl⟩
        clear heq hd hd2 hd' hd2' HBr
        go_roundw
        case rel => exact ⟨k + 1, by omega, by go_num, HBn⟩
        case measure => simp [intOf]; omega
    · have hltz : ¬ (k : Int) < (n : Int) + 12 := by omega
      go_wp2
      go_ret
      exact ⟨rfl, HGr.out⟩
end Go.Proofs.YtnnhgbncghpecaaGreat
