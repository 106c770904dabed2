/- KeptValues: the row that was lent is as it was, and so are the marks behind it. -/
import Derived.Test.YtkbkkhfmejpbeaaLentV9
import Derived.Test.YtkbkkhfmejpbeaaTree9
namespace Go.Proofs.Ytkbkkhfmejpbeaa
open Go.RowKit

theorem markValueG (i : Nat) (w : World) (hi : i ≤ 1000) :
    Calls Try.prog 24 #[.int .i64 1, .int .i64 i] w fun e w' => e = .returned (.agg #[.int .u8 0, .int .i64 (8000024 + i), .string ⟨#[]⟩]) ∧ Gr w w' :=
  (markValue_any i w hi).mono fun _ _ ⟨h, h'⟩ => ⟨h, h' ▸ (Gr.refl w).alloc _⟩

set_option maxRecDepth 100000 in
set_option maxHeartbeats 1000000 in
theorem keptV_any (ao : Option Addr) (B n c : Nat) (zs : List V3) (w : World) (hn : zs.length = n) (h20 : n ≤ 30) (hB : B < w.heap.size) (hao : ao = none → n = 0 ∧ c = 0) (hrow : 0 < n → ∀ ad, ao = some ad → ∃ b off, ad = ⟨b, off, none⟩ ∧ b < w.heap.size ∧ RowAt w b off zs) (hout : RowAt w B 0 (zs ++ marksV 12)) :
    Calls Try.prog 13 #[.slice (some ⟨B, 0, none⟩) n (n + 12), .slice ao n c] w fun e w' => e = .returned (.bool true) ∧ Below w.heap.size w w' := by
  have HAO := Lib.hid hao
  have HN := Lib.hid hn
  have HR := Lib.hid hrow
  have HO := Lib.hid hout
  clear hrow hao hn hout
  have hg := eqGuardV
  have mixed : Try.prog.follows .mixedOrders = true := by kernel_rfl
  go_enter Try.func13, Try.ntmps13
  go_wp2
  go_loopw [6] (fun i wr => ∃ k : Nat, k ≤ n + 12 ∧ i = .int .i64 k ∧ Below w.heap.size w wr) (fun i _ => n + 12 - (intOf i).toNat)
  case atStart => exact ⟨0, by omega, rfl, Below.refl _ _⟩
  case round =>
    obtain ⟨k, hk, rfl, hb⟩ := hrel
    have HBr := Lib.hid hb
    clear hb
    by_cases hlt : k < n + 12
    · have hB' : B < wr.heap.size := Nat.lt_of_lt_of_le hB HBr.out.size
      by_cases hkn : k < n
      · have hkz : k < zs.length := by rw [HN.out]; exact hkn
        have ho : At wr B (k * 3) zs[k] := by
          have := (HO.out k (by rw [List.length_append]; omega)).later HBr.out hB
          rw [Nat.zero_add, List.getElem_append_left hkz] at this
          exact this
        obtain ⟨ad, rfl⟩ : ∃ ad, ao = some ad := by
          cases ao with
          | none => have := HAO.out rfl; omega
          | some ad => exact ⟨ad, rfl⟩
        obtain ⟨b, off, rfl, hbl, hr⟩ := HR.out (by omega) ad rfl
        have hr' : At wr b (off + k * 3) zs[k] := (hr k hkz).later HBr.out hbl
        have hbl' : b < wr.heap.size := Nat.lt_of_lt_of_le hbl HBr.out.size
        clear hr HO HR HAO HN
        generalize zs[k] = x at ho hr'
        obtain ⟨xk, xn, xs⟩ := x
        obtain ⟨o1, o2, o3⟩ := ho
        obtain ⟨r1, r2, r3⟩ := hr'
        have heq := fun W => eqV xk xn xk xn xs xs W
        rw [(eqvB_iff (xk, xn, xs) (xk, xn, xs)).2 rfl] at heq
        have hlti : (k : Int) < (n : Int) + 12 := by omega
        have hd : decide ((k : Int) < (n : Int)) = true := by simp; omega
        have hd2 : decide ((n : Int) ≤ (k : Int)) = false := by simp; omega
        have hd' : decide (k < n) = true := by simp; omega
        have hd2' : decide (n ≤ k) = false := by simp; omega
        have hki : (k : Int) < (n : Int) := by omega
        go_wp2_with fail
        clear hkn
        go_quiet (fail)
        go_wp2
        have HBn : Below w.heap.size w (wr.drewN nq) := below_step HBr.out ((Gr.refl wr).drewN nq).below
        clear heq hd hd2 hd' hd2' HBr
        go_roundw
        case rel => exact ⟨k + 1, by omega, by go_num, HBn⟩
        case measure => simp [intOf]; omega
      · have hm : k - n < 12 := by omega
        have ho : At wr B (k * 3) (markV (k - n)) := by
          have hkl : k < (zs ++ marksV 12).length := by rw [List.length_append, marksV_length, HN.out]; exact hlt
          have := (HO.out k hkl).later HBr.out hB
          rw [Nat.zero_add, List.getElem_append_right (by rw [HN.out]; omega), marksV_get] at this
          rw [HN.out] at this
          exact this
        clear HO HR HAO HN
        obtain ⟨o1, o2, o3⟩ := ho
        obtain ⟨m, hmk⟩ : ∃ m, m = k - n := ⟨_, rfl⟩
        rw [← hmk] at o1 o2 o3 hm
        have hsub : (k : Int) - (n : Int) = (m : Int) := by omega
        have heq := fun W => eqV 0 (8000024 + (m : Int)) 0 (8000024 + (m : Int)) ⟨#[]⟩ ⟨#[]⟩ W
        rw [(eqvB_iff (0, 8000024 + (m : Int), ⟨#[]⟩) (0, 8000024 + (m : Int), ⟨#[]⟩)).2 rfl] at heq
        have a1 : ∀ q os, (Sort.grow (wr.drewN q) os).cell? ⟨B, k * 3, none⟩ = some (.int .u8 0) := cellG (by omega) o1
        have a2 : ∀ q os, (Sort.grow (wr.drewN q) os).cell? ⟨B, k * 3 + 1, none⟩ = some (.int .i64 (8000024 + (m : Int))) := cellG (by omega) o2
        have a3 : ∀ q os, (Sort.grow (wr.drewN q) os).cell? ⟨B, k * 3 + 2, none⟩ = some (.string ⟨#[]⟩) := cellG (by omega) o3
        clear o1 o2 o3
        have hlti : (k : Int) < (n : Int) + 12 := by omega
        have hd : decide ((k : Int) < (n : Int)) = false := by simp; omega
        have hd2 : decide ((n : Int) ≤ (k : Int)) = true := by simp; omega
        have hd' : decide (k < n) = false := by simp; omega
        have hd2' : decide (n ≤ k) = true := by simp; omega
        have C := Lib.hid (fun W => markValueG m W (by omega))
        clear hkn hmk
        go_wp2_with fail
        refine wp_region_quiet_grown (by assumption) (by kernel_rfl) ?_
        repeat (go_big_quiet_step (first | (go_at_call 24; exact Calls.grown_of ((C.out _).mono fun _ _ ⟨h, g⟩ => ⟨h, g.out⟩))))
        refine wpQuiet_nil ?_
        intro _ hw'
        obtain ⟨⟨nq, osq⟩, hw''⟩ := hw'
        subst hw''
        go_wp2
        have HBn : Below w.heap.size w (Sort.grow (wr.drewN nq) osq) := below_step HBr.out (Gr.below ⟨nq, osq, rfl⟩)
        clear heq hd hd2 hd' hd2' HBr
        go_roundw
        case rel => exact ⟨k + 1, by omega, by go_num, HBn⟩
        case measure => simp [intOf]; omega
    · have hltz : ¬ (k : Int) < (n : Int) + 12 := by omega
      go_wp2
      go_ret
      exact ⟨rfl, HBr.out⟩
end Go.Proofs.Ytkbkkhfmejpbeaa
