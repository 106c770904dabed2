/- CopyValues, SameValues. -/
import Derived.Test.YtjcmbljpjimdiaaPatB10
namespace Go.Proofs.Ytjcmbljpjimdiaa
open Go.RowKit

set_option maxRecDepth 100000 in
set_option maxHeartbeats 1000000 in
theorem copyV_any (l : List V3) (ao : Option Addr) (c : Nat) (w : World) (h : Sl10 w.heap.size w l.length ao c (cellsV l)) (hn : l.length ≤ 100000) :
    Calls Try.prog 10 #[.slice ao l.length c] w fun e w' => ∃ v, e = .returned v ∧ w'.ownsRow w.heap.size 27 3 v l.length (cellsV l) ∧ Below w.heap.size w w' := by
  obtain ⟨i0, hi, hz0, hz1, hz2⟩ := info_parts infoV
  have HC := Lib.hid h.cells
  have HN := Lib.hid h.nil
  have hlen : (cellsV l).length = l.length * 3 := by rw [cellsV_length]
  have HL := Lib.hid (fun (h0 : l.length = 0) => List.eq_nil_of_length_eq_zero h0)
  clear h
  have hno : Hid (ao = none → l.length = 0 ∧ c = 0) := HN
  generalize l.length = n at *
  go_enter Try.func10, Try.ntmps10
  go_wp2_with (at_builtin; refine wpList_append_apart _ rfl (.tmp 4) (.tmp 5) 35 rfl w.heap.size 27 i0 (.agg #[.int .u8 0, .int .i64 0, .string ⟨#[]⟩]) 3 32 Try.underlying35 hi hz0 hz1 hz2 rfl (by decide) _ 0 [] rfl (World.ownsRow_nil _ _ _ _) ao n c (cellsV l) rfl hlen HN.out (HC.out _ (Below.refl _ _)) (cellsV_one _) (by unfold maxLen; omega) (by omega) (Nat.le_refl _) ?_; intro v' w3 hown' hgrow' hor)
  go_ret
  exact ⟨v', rfl, by simpa using hown', (Below.refl _ _).grown hgrow' (Nat.le_refl _) (fun k hk => by cases hk)⟩
set_option maxRecDepth 100000 in
set_option maxHeartbeats 1000000 in
theorem sameV_yes (l : List V3) (a1 : Option Addr) (c1 : Nat) (a2 : Option Addr) (c2 : Nat) (w : World) (h1 : Sl10 w.heap.size w l.length a1 c1 (cellsV l)) (h2 : Sl10 w.heap.size w l.length a2 c2 (cellsV l)) :
    Calls Try.prog 12 #[.slice a1 l.length c1, .slice a2 l.length c2] w fun e w' => e = .returned (.bool true) ∧ Gr w w' := by
  have H1 := Lib.hid h1
  have H2 := Lib.hid h2
  have hm : l.length ≤ 9223372036854775807 := by have := h1.cap; have := h1.top; unfold maxLen at this; omega
  have hg := eqGuardV
  have mixed : Try.prog.follows .mixedOrders = true := by kernel_rfl
  clear h1 h2
  go_enter Try.func12, Try.ntmps12
  go_wp2_with fail
  go_loopw [5] (fun i wr => ∃ j : Nat, j ≤ l.length ∧ i = .int .i64 j ∧ Hid (Gr w wr)) (fun i _ => l.length - (intOf i).toNat)
  case atStart => exact ⟨0, by omega, rfl, Gr.refl _⟩
  case round =>
    obtain ⟨j, hj, rfl, HG⟩ := hrel
    by_cases hlt : j < l.length
    · obtain ⟨g1, o1, rfl, l1, x1, x2, x3⟩ := (H1.out.up HG.out.below HG.out.below.size).vget hlt
      obtain ⟨g2, o2, rfl, l2, y1, y2, y3⟩ := (H2.out.up HG.out.below HG.out.below.size).vget hlt
      generalize l.getD j zeroT = v at *
      obtain ⟨v1, v2, v3⟩ := v
      have hne := fun W => neV v1 v2 v1 v2 v3 v3 W
      rw [(eqvB_iff (v1, v2, v3) (v1, v2, v3)).2 rfl] at hne
      simp only at x1 x2 x3 y1 y2 y3
      have hjn : (j : Int) < (l.length : Int) := by omega
      generalize l.length = n at *
      clear H1 H2
      go_wp2_with fail
      go_quiet (fail)
      go_wp2
      have HG2 : Hid (Gr w (wr.drewN nq)) := HG.out.drewN nq
      clear HG x1 x2 x3 y1 y2 y3
      go_roundw
      case rel => exact ⟨j + 1, by omega, by go_num, HG2⟩
      case measure => simp [intOf]; omega
    · obtain rfl : j = l.length := by omega
      go_wp2
      go_ret
      exact ⟨rfl, HG.out⟩
end Go.Proofs.Ytjcmbljpjimdiaa
