/- All kinds of a bag are asked, one behind the other: they hold nothing, but values. -/
import Derived.Test.YtnnhgbncghpecaaGreatFlatG10
import Derived.Test.YtnnhgbncghpecaaGreatFlat010
namespace Go.Proofs.YtnnhgbncghpecaaGreat
open Go.RowKit

/-- A bag's cells. -/
abbrev bagCVa (v0 : Value) : Array Value := #[.slice none 0 0, .slice none 0 0, .slice none 0 0, .slice none 0 0, .slice none 0 0, .slice none 0 0, v0, .slice none 0 0, .slice none 0 0, .slice none 0 0, .slice none 0 0, .slice none 0 0, .slice none 0 0, .slice none 0 0, .slice none 0 0, .slice none 0 0, .slice none 0 0, .slice none 0 0, .slice none 0 0, .slice none 0 0, .slice none 0 0, .slice none 0 0, .slice none 0 0, .slice none 0 0, .slice none 0 0, .slice none 0 0, .slice none 0 0, .slice none 0 0, .slice none 0 0]
theorem bag_keepVa {W W' : World} {b : Nat} {o : Obj} (h : W.heap[b]? = some o) (hb : Below W.heap.size W W') : W'.heap[b]? = some o := (hb.block b (lt_of_heap h)).trans h

set_option maxRecDepth 100000 in
set_option maxHeartbeats 4000000 in
theorem apartVa_any (pb base : Nat) (v0 : Value) (w : World) (hbase : base ≤ w.heap.size) (h : w.heap[pb]? = some (.cells (bagCVa v0) 123 (0, 0)))
    (K0 : ∀ W, Below w.heap.size w W → Calls Tryz.prog 68 #[v0] W fun e W' => e = .returned (.bool true) ∧ FK 27 base W W')
    : Calls Tryz.prog 52 #[.pointer (some ⟨pb, 0, none⟩)] w fun e w' => e = .returned (.bool true) ∧ Below base w w' := by
  have hT : (123 : Nat) ≠ 27 := by decide
  have HBs := Lib.hid hbase
  have HK0 := Lib.hid K0
  have HP := Lib.hid h
  have HW : Hid (Below w.heap.size w w) := Below.refl _ _
  have hc : w.cell? ⟨pb, 0, none⟩ = some (.slice none 0 0) := Lib.cell_of_heap h 0
  clear h K0 hbase
  go_enter Tryz.func52, Tryz.ntmps52
  go_wp2_with (first
    | (go_at_call 62; go_must (refine (flat0_Limbs _).mono ?_; rintro e w1 ⟨rfl, hb⟩; replace HP := Lib.hid (bag_keepVa HP.out hb); replace HW := Lib.hid (below_step HW.out hb); replace hc : w1.cell? ⟨pb, 1, none⟩ = some (.slice none 0 0) := Lib.cell_of_heap HP.out 1; clear hb))
    | (go_at_call 63; go_must (refine (flat0_Words _).mono ?_; rintro e w1 ⟨rfl, hb⟩; replace HP := Lib.hid (bag_keepVa HP.out hb); replace HW := Lib.hid (below_step HW.out hb); replace hc : w1.cell? ⟨pb, 2, none⟩ = some (.slice none 0 0) := Lib.cell_of_heap HP.out 2; clear hb))
    | (go_at_call 64; go_must (refine (flat0_Ints _).mono ?_; rintro e w1 ⟨rfl, hb⟩; replace HP := Lib.hid (bag_keepVa HP.out hb); replace HW := Lib.hid (below_step HW.out hb); replace hc : w1.cell? ⟨pb, 3, none⟩ = some (.slice none 0 0) := Lib.cell_of_heap HP.out 3; clear hb))
    | (go_at_call 65; go_must (refine (flat0_Longs _).mono ?_; rintro e w1 ⟨rfl, hb⟩; replace HP := Lib.hid (bag_keepVa HP.out hb); replace HW := Lib.hid (below_step HW.out hb); replace hc : w1.cell? ⟨pb, 4, none⟩ = some (.slice none 0 0) := Lib.cell_of_heap HP.out 4; clear hb))
    | (go_at_call 66; go_must (refine (flat0_Texts _).mono ?_; rintro e w1 ⟨rfl, hb⟩; replace HP := Lib.hid (bag_keepVa HP.out hb); replace HW := Lib.hid (below_step HW.out hb); replace hc : w1.cell? ⟨pb, 5, none⟩ = some (.slice none 0 0) := Lib.cell_of_heap HP.out 5; clear hb))
    | (go_at_call 67; go_must (refine (flat0_Bytes _).mono ?_; rintro e w1 ⟨rfl, hb⟩; replace HP := Lib.hid (bag_keepVa HP.out hb); replace HW := Lib.hid (below_step HW.out hb); replace hc : w1.cell? ⟨pb, 6, none⟩ = some v0 := Lib.cell_of_heap HP.out 6; clear hb))
    | (go_at_call 68; go_must (refine (HK0.out _ HW.out).mono ?_; rintro e w1 ⟨rfl, hb⟩; replace HP := Lib.hid (hb.oth _ _ _ _ HP.out hT); have HF : Hid (FK 27 base w w1) := (FK.of_below HW.out HBs.out).trans hb; replace hc : w1.cell? ⟨pb, 7, none⟩ = some (.slice none 0 0) := Lib.cell_of_heap HP.out 7; clear hb HW HK0))
    | (go_at_call 69; go_must (refine (flat0_Facts _).mono ?_; rintro e w1 ⟨rfl, hb⟩; replace HP := Lib.hid (bag_keepVa HP.out hb); replace HF := Lib.hid (HF.out.step hb HBs.out); replace hc : w1.cell? ⟨pb, 8, none⟩ = some (.slice none 0 0) := Lib.cell_of_heap HP.out 8; clear hb))
    | (go_at_call 70; go_must (refine (flat0_Lexes _).mono ?_; rintro e w1 ⟨rfl, hb⟩; replace HP := Lib.hid (bag_keepVa HP.out hb); replace HF := Lib.hid (HF.out.step hb HBs.out); replace hc : w1.cell? ⟨pb, 9, none⟩ = some (.slice none 0 0) := Lib.cell_of_heap HP.out 9; clear hb))
    | (go_at_call 71; go_must (refine (flat0_Nodes _).mono ?_; rintro e w1 ⟨rfl, hb⟩; replace HP := Lib.hid (bag_keepVa HP.out hb); replace HF := Lib.hid (HF.out.step hb HBs.out); replace hc : w1.cell? ⟨pb, 10, none⟩ = some (.slice none 0 0) := Lib.cell_of_heap HP.out 10; clear hb))
    | (go_at_call 72; go_must (refine (flat0_Exprs _).mono ?_; rintro e w1 ⟨rfl, hb⟩; replace HP := Lib.hid (bag_keepVa HP.out hb); replace HF := Lib.hid (HF.out.step hb HBs.out); replace hc : w1.cell? ⟨pb, 11, none⟩ = some (.slice none 0 0) := Lib.cell_of_heap HP.out 11; clear hb))
    | (go_at_call 73; go_must (refine (flat0_Args _).mono ?_; rintro e w1 ⟨rfl, hb⟩; replace HP := Lib.hid (bag_keepVa HP.out hb); replace HF := Lib.hid (HF.out.step hb HBs.out); replace hc : w1.cell? ⟨pb, 12, none⟩ = some (.slice none 0 0) := Lib.cell_of_heap HP.out 12; clear hb))
    | (go_at_call 74; go_must (refine (flat0_Conds _).mono ?_; rintro e w1 ⟨rfl, hb⟩; replace HP := Lib.hid (bag_keepVa HP.out hb); replace HF := Lib.hid (HF.out.step hb HBs.out); replace hc : w1.cell? ⟨pb, 13, none⟩ = some (.slice none 0 0) := Lib.cell_of_heap HP.out 13; clear hb))
    | (go_at_call 75; go_must (refine (flat0_Acts _).mono ?_; rintro e w1 ⟨rfl, hb⟩; replace HP := Lib.hid (bag_keepVa HP.out hb); replace HF := Lib.hid (HF.out.step hb HBs.out); replace hc : w1.cell? ⟨pb, 14, none⟩ = some (.slice none 0 0) := Lib.cell_of_heap HP.out 14; clear hb))
    | (go_at_call 76; go_must (refine (flat0_Types _).mono ?_; rintro e w1 ⟨rfl, hb⟩; replace HP := Lib.hid (bag_keepVa HP.out hb); replace HF := Lib.hid (HF.out.step hb HBs.out); replace hc : w1.cell? ⟨pb, 15, none⟩ = some (.slice none 0 0) := Lib.cell_of_heap HP.out 15; clear hb))
    | (go_at_call 77; go_must (refine (flat0_RuleRow _).mono ?_; rintro e w1 ⟨rfl, hb⟩; replace HP := Lib.hid (bag_keepVa HP.out hb); replace HF := Lib.hid (HF.out.step hb HBs.out); replace hc : w1.cell? ⟨pb, 16, none⟩ = some (.slice none 0 0) := Lib.cell_of_heap HP.out 16; clear hb))
    | (go_at_call 78; go_must (refine (flat0_RulesRow _).mono ?_; rintro e w1 ⟨rfl, hb⟩; replace HP := Lib.hid (bag_keepVa HP.out hb); replace HF := Lib.hid (HF.out.step hb HBs.out); replace hc : w1.cell? ⟨pb, 17, none⟩ = some (.slice none 0 0) := Lib.cell_of_heap HP.out 17; clear hb))
    | (go_at_call 79; go_must (refine (flat0_Tokens _).mono ?_; rintro e w1 ⟨rfl, hb⟩; replace HP := Lib.hid (bag_keepVa HP.out hb); replace HF := Lib.hid (HF.out.step hb HBs.out); replace hc : w1.cell? ⟨pb, 18, none⟩ = some (.slice none 0 0) := Lib.cell_of_heap HP.out 18; clear hb))
    | (go_at_call 80; go_must (refine (flat0_Commands _).mono ?_; rintro e w1 ⟨rfl, hb⟩; replace HP := Lib.hid (bag_keepVa HP.out hb); replace HF := Lib.hid (HF.out.step hb HBs.out); replace hc : w1.cell? ⟨pb, 19, none⟩ = some (.slice none 0 0) := Lib.cell_of_heap HP.out 19; clear hb))
    | (go_at_call 81; go_must (refine (flat0_Replies _).mono ?_; rintro e w1 ⟨rfl, hb⟩; replace HP := Lib.hid (bag_keepVa HP.out hb); replace HF := Lib.hid (HF.out.step hb HBs.out); replace hc : w1.cell? ⟨pb, 20, none⟩ = some (.slice none 0 0) := Lib.cell_of_heap HP.out 20; clear hb))
    | (go_at_call 82; go_must (refine (flat0_Entries _).mono ?_; rintro e w1 ⟨rfl, hb⟩; replace HP := Lib.hid (bag_keepVa HP.out hb); replace HF := Lib.hid (HF.out.step hb HBs.out); replace hc : w1.cell? ⟨pb, 21, none⟩ = some (.slice none 0 0) := Lib.cell_of_heap HP.out 21; clear hb))
    | (go_at_call 83; go_must (refine (flat0_Letters _).mono ?_; rintro e w1 ⟨rfl, hb⟩; replace HP := Lib.hid (bag_keepVa HP.out hb); replace HF := Lib.hid (HF.out.step hb HBs.out); replace hc : w1.cell? ⟨pb, 22, none⟩ = some (.slice none 0 0) := Lib.cell_of_heap HP.out 22; clear hb))
    | (go_at_call 84; go_must (refine (flat0_Snaps _).mono ?_; rintro e w1 ⟨rfl, hb⟩; replace HP := Lib.hid (bag_keepVa HP.out hb); replace HF := Lib.hid (HF.out.step hb HBs.out); replace hc : w1.cell? ⟨pb, 23, none⟩ = some (.slice none 0 0) := Lib.cell_of_heap HP.out 23; clear hb))
    | (go_at_call 85; go_must (refine (flat0_Steps _).mono ?_; rintro e w1 ⟨rfl, hb⟩; replace HP := Lib.hid (bag_keepVa HP.out hb); replace HF := Lib.hid (HF.out.step hb HBs.out); replace hc : w1.cell? ⟨pb, 24, none⟩ = some (.slice none 0 0) := Lib.cell_of_heap HP.out 24; clear hb))
    | (go_at_call 86; go_must (refine (flat0_Tales _).mono ?_; rintro e w1 ⟨rfl, hb⟩; replace HP := Lib.hid (bag_keepVa HP.out hb); replace HF := Lib.hid (HF.out.step hb HBs.out); replace hc : w1.cell? ⟨pb, 25, none⟩ = some (.slice none 0 0) := Lib.cell_of_heap HP.out 25; clear hb))
    | (go_at_call 87; go_must (refine (flat0_States _).mono ?_; rintro e w1 ⟨rfl, hb⟩; replace HP := Lib.hid (bag_keepVa HP.out hb); replace HF := Lib.hid (HF.out.step hb HBs.out); replace hc : w1.cell? ⟨pb, 26, none⟩ = some (.slice none 0 0) := Lib.cell_of_heap HP.out 26; clear hb))
    | (go_at_call 88; go_must (refine (flat0_Sessions _).mono ?_; rintro e w1 ⟨rfl, hb⟩; replace HP := Lib.hid (bag_keepVa HP.out hb); replace HF := Lib.hid (HF.out.step hb HBs.out); replace hc : w1.cell? ⟨pb, 27, none⟩ = some (.slice none 0 0) := Lib.cell_of_heap HP.out 27; clear hb))
    | (go_at_call 89; go_must (refine (flat0_Machines _).mono ?_; rintro e w1 ⟨rfl, hb⟩; replace HP := Lib.hid (bag_keepVa HP.out hb); replace HF := Lib.hid (HF.out.step hb HBs.out); replace hc : w1.cell? ⟨pb, 28, none⟩ = some (.slice none 0 0) := Lib.cell_of_heap HP.out 28; clear hb))
    | (go_at_call 90; go_must (refine (flat0_Frames _).mono ?_; rintro e w1 ⟨rfl, hb⟩; replace HP := Lib.hid (bag_keepVa HP.out hb); replace HF := Lib.hid (HF.out.step hb HBs.out); have HE := Lib.hid HF.out.bel; clear hb)))
  go_ret
  exact ⟨rfl, HE.out⟩
end Go.Proofs.YtnnhgbncghpecaaGreat
