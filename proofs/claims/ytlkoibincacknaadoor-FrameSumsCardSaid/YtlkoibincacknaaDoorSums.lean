/- FrameSums is true: the sum of any bytes is what the document tells; they stay. -/
import Derived.Test.YtlkoibincacknaaDoorAwake
import Derived.Test.YtlkoibincacknaaDoorNum
namespace Go.Proofs.YtlkoibincacknaaDoor
open Go.RowKit

set_option maxRecDepth 100000 in
set_option maxHeartbeats 1000000 in
theorem frameSums_any (ao : Option Addr) (l : List UInt8) (c : Nat) (W : World) (hb : SlG W.heap.size W ao (bcells l)) (hn : ao = none → c = 0) (hlm : l.length ≤ 9223372036854775807) :
    Calls Tryd.prog 3 #[.slice ao l.length c] W (YesP W) := by
  by_cases hbig : 20000 < l.length
  · have hd : decide ((20000 : Int) < (l.length : Int)) = true := by simp; omega
    have hd' : decide (20000 < l.length) = true := by simp; omega
    go_enter Tryd.func3, Tryd.ntmps3
    go_wp2_with (go_at_call 6; refine (awake_any _).mono ?_; rintro e w' ⟨rfl, hb⟩)
    go_ret
    exact ⟨rfl, hb⟩
  · have hd : decide ((20000 : Int) < (l.length : Int)) = false := by simp; omega
    have hd' : decide (20000 < l.length) = false := by simp; omega
    have HRow := Lib.hid hb
    have HSm : Hid (l.length ≤ 20000) := by unfold Hid; omega
    have KL := Lib.hid (lentB_any ao c l W (by omega) (hb.slB hn))
    clear hb hbig
    go_enter Tryd.func3, Tryd.ntmps3
    go_wp2_with (go_at_call 7; refine (KL.out).mono ?_; rintro e w1 ⟨rfl, hL, hb⟩; refine Hid.out ?_)
    have HL := Lib.hid hL
    have HB1 := Lib.hid hb
    have K1 := Lib.hid (sum_any (some ⟨W.heap.size, 0, none⟩) l (l.length + 12) hlm w1 hL.slG)
    have K2 := Lib.hid (refSum_any ao l c hlm w1 (HRow.out.up hb hb.size))
    have K3 := Lib.hid (keptB_any W.heap.size ao c l w1 (by have := HSm.out; omega) hL (HRow.out.up hb hb.size))
    clear hL hb KL
    generalize sumN l = s at K1 K2
    refine Lib.hid ?_
    go_wp2_with (first
      | (go_at_call 8; refine (K1.out).mono ?_; rintro e w2 ⟨rfl, rfl⟩)
      | (go_at_call 9; refine (K2.out).mono ?_; rintro e w2 ⟨rfl, rfl⟩)
      | (go_at_call 10; refine (K3.out).mono ?_; rintro e w2 ⟨rfl, hb⟩; have HB2 := Lib.hid (below_step HB1.out hb); clear hb)
      | (go_at_call 6; refine (awake_any _).mono ?_; rintro e w3 ⟨rfl, hb⟩))
    go_ret
    exact ⟨rfl, below_step HB2.out hb⟩
end Go.Proofs.YtlkoibincacknaaDoor
