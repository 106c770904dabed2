/- The document's reader: the next bytes. -/
import Derived.Test.YtmocfielcllfmaaDoorRefB1
import Derived.Test.YtmocfielcllfmaaDoorRefB2
import Derived.Test.YtmocfielcllfmaaDoorRefB3
namespace Go.Proofs.YtmocfielcllfmaaDoor
open Go.RowKit

set_option maxRecDepth 100000 in
set_option maxHeartbeats 4000000 in
theorem rbytes_any (D B n : Nat) (ao : Option Addr) (l0 : List UInt8) (c : Nat) (s : St) (w : World) (hn : n ≤ 1000000) (h : RfS w D B ao l0 c s) :
    Calls Tryd.prog 97 #[.pointer (some ⟨D, 0, none⟩), .int .i64 n] w (RbP (takeS n s) D B ao l0 c w) := by
  obtain ⟨k, b, h1, h2, rfl⟩ := h.ex
  have mixed : Tryd.prog.follows .mixedOrders = true := by kernel_rfl
  have c0 : w.cell? ⟨D, 0, none⟩ = some (.slice ao l0.length c) := Lib.cell_of_heap h1 0
  have c1 : w.cell? ⟨D, 1, none⟩ = some (.int .i64 k) := Lib.cell_of_heap h1 1
  have c2 : w.cell? ⟨D, 2, none⟩ = some (.bool b) := Lib.cell_of_heap h1 2
  have f0 := Lib.frozen_of_heap h1 0
  have f1 := Lib.frozen_of_heap h1 1
  have f2 := Lib.frozen_of_heap h1 2
  have HBig := Lib.hid h.big
  have hbad : ∀ W, Below w.heap.size w W → RfS (W.setCell ⟨D, 2, none⟩ (.bool true)) D B ao l0 c badS ∧ Fr D w (W.setCell ⟨D, 2, none⟩ (.bool true)) := fun W hW => by
    have hD := (hW.block D h.lt).trans h1
    exact ⟨⟨⟨k, true, Lib.heap_setCell_same (i := 2) hD _, h2, rfl⟩, (h.row.below (hW.mono h.lb)).below ((Below.refl _ _).setCell (p := ⟨D, 2, none⟩) h.ld _), h.nil, h.cap, h.big, h.capm, h.ld, by simp [World.setCell]; exact Nat.le_trans h.lb hW.size⟩, (Fr.of_below hW).set 2 _⟩
  have HBad := Lib.hid hbad
  by_cases hfail : b = true ∨ l0.length - k < n
  · have ht : takeS n (if b = true then badS else (l0.drop k, false)) = ([], badS) := by
      rcases hfail with rfl | hf
      · exact take_bad n
      · cases b with
        | true => exact take_bad n
        | false =>
          unfold takeS
          rw [if_neg]
          simp only [Bool.false_eq_true, if_false, List.length_drop]
          omega
    rw [ht]
    clear hbad h h1 ht
    cases b with
    | true =>
      go_enter Tryd.func97, Tryd.ntmps97
      go_wp2_with fail
      go_quiet (fail)
      go_wp2
      go_ret
      obtain ⟨r1, r2⟩ := HBad.out _ (RowKit_drewN (Below.refl w.heap.size w) nq)
      exact ⟨none, 0, rfl, fun _ => rfl, fun hne => absurd rfl hne, r1, r2⟩
    | false =>
      have hf : l0.length - k < n := by simpa using hfail
      have hd : decide ((l0.length : Int) - (k : Int) < (n : Int)) = true := by simp; omega
      have hsb : IntKind.i64.wrap ((l0.length : Int) - (k : Int)) = (l0.length : Int) - (k : Int) := IntWalk.i64_in _ (by have := HBig.out; omega)
      clear hfail
      go_enter Tryd.func97, Tryd.ntmps97
      go_wp2_with fail
      go_quiet (fail)
      clear hd hsb
      go_wp2
      go_ret
      obtain ⟨r1, r2⟩ := HBad.out _ (RowKit_drewN (Below.refl w.heap.size w) nq)
      exact ⟨none, 0, rfl, fun _ => rfl, fun hne => absurd rfl hne, r1, r2⟩
  · have hb : b = false := by cases b with
      | true => exact absurd (Or.inl rfl) hfail
      | false => rfl
    subst hb
    have hle : n ≤ l0.length - k := by
      have : ¬ (l0.length - k < n) := fun h => hfail (Or.inr h)
      omega
    have hkn : k + n ≤ l0.length := by omega
    have hT : ((l0.drop k).take n).length = n := by rw [List.length_take, List.length_drop]; omega
    have ht : takeS n (if (false : Bool) = true then badS else (l0.drop k, false)) = ((l0.drop k).take n, (l0.drop (k + n), false)) := by
      unfold takeS
      rw [if_pos (by simp only [Bool.false_eq_true, if_false, List.length_drop]; omega)]
      simp [List.drop_drop]
    rw [ht]
    clear hbad HBad hT ht mixed c0 c1 c2 f0 f1 f2 hfail
    cases ao with
    | none =>
      obtain rfl := h.nil rfl
      have hl : l0 = [] := List.eq_nil_of_length_eq_zero (by have := h.cap; omega)
      subst hl
      obtain rfl : k = 0 := by simpa using h2
      obtain rfl : n = 0 := by simpa using hkn
      exact rgood3 D B w h h1
    | some ad =>
      by_cases hck : c = k
      · have hc := h.cap
        obtain rfl : n = 0 := by omega
        obtain rfl : l0.length = c := by omega
        subst hck
        have e1 : (l0.drop l0.length).take 0 = [] := by simp
        have e2 : l0.drop (l0.length + 0) = [] := by simp
        rw [e1, e2]
        refine rgood2 D B ad l0 w ?_ h1
        have e3 : (if (false : Bool) = true then badS else (l0.drop l0.length, false)) = (([], false) : St) := by simp
        rw [← e3]
        exact h
      · exact rgood1 D B n k ad (some ad) rfl l0 c w hn h h1 h2 hkn hck
end Go.Proofs.YtmocfielcllfmaaDoor
