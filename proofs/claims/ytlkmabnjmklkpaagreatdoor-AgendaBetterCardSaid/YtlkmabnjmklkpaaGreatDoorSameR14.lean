/- Rules that have nothing but saliences are told to be the same. -/
import Derived.Test.YtlkmabnjmklkpaaGreatDoorSal14
namespace Go.Proofs.YtlkmabnjmklkpaaGreatDoor
open Go.RowKit

theorem sameNil_SameTypes (w : World) : Calls Tryz.prog 35 #[.slice none 0 0, .slice none 0 0] w (YesG w) := by
  have HG : Hid (Gr w w) := Gr.refl w
  go_enter Tryz.func35, Tryz.ntmps35
  go_wp2_with fail
  go_loop [5] (fun i => i = .int .i64 0) (fun _ => 0)
  case atStart => rfl
  case round =>
    subst hrel
    go_wp2_with fail
    go_ret
    exact ⟨rfl, HG.out⟩

theorem sameNil_SameConds (w : World) : Calls Tryz.prog 109 #[.slice none 0 0, .slice none 0 0] w (YesG w) := by
  have HG : Hid (Gr w w) := Gr.refl w
  go_enter Tryz.func109, Tryz.ntmps109
  go_wp2_with fail
  go_loop [5] (fun i => i = .int .i64 0) (fun _ => 0)
  case atStart => rfl
  case round =>
    subst hrel
    go_wp2_with fail
    go_ret
    exact ⟨rfl, HG.out⟩

theorem sameNil_SameActs (w : World) : Calls Tryz.prog 110 #[.slice none 0 0, .slice none 0 0] w (YesG w) := by
  have HG : Hid (Gr w w) := Gr.refl w
  go_enter Tryz.func110, Tryz.ntmps110
  go_wp2_with fail
  go_loop [5] (fun i => i = .int .i64 0) (fun _ => 0)
  case atStart => rfl
  case round =>
    subst hrel
    go_wp2_with fail
    go_ret
    exact ⟨rfl, HG.out⟩

abbrev aggU (x : Int) : Value := .agg #[.string ⟨#[]⟩, .int .i64 x, .int .i64 0, .slice none 0 0, .slice none 0 0]
set_option maxRecDepth 100000 in
theorem sameRule_any (x : Int) (w : World) : Calls Tryz.prog 63 #[aggU x, aggU x] w (YesG w) := by
  have HB := Lib.hid (gr_two w (.cells #[.string ⟨#[]⟩, .int .i64 x, .int .i64 0, .slice none 0 0, .slice none 0 0] 47) (.cells #[.string ⟨#[]⟩, .int .i64 x, .int .i64 0, .slice none 0 0, .slice none 0 0] 47))
  have KC := Lib.hid (fun W => sameNil_SameConds W)
  have KA := Lib.hid (fun W => sameNil_SameActs W)
  go_enter Tryz.func63, Tryz.ntmps63
  go_wp2_with (first
    | (go_at_call 109; go_must (refine (KC.out _).mono ?_; rintro e w1 ⟨rfl, hb⟩; have HB1 := Lib.hid (HB.out.trans hb); obtain ⟨b1, b2⟩ := two_boxes hb.below; clear hb))
    | (go_at_call 110; go_must (refine (KA.out _).mono ?_; rintro e w2 ⟨rfl, hb⟩; have HB2 := Lib.hid (HB1.out.trans hb); clear hb)))
  go_ret
  exact ⟨rfl, HB2.out⟩

set_option maxRecDepth 100000 in
set_option maxHeartbeats 2000000 in
theorem sameRuleRow_any (s : List Int) (ao1 ao2 : Option Addr) (c1 c2 : Nat) (hm : s.length ≤ 1000000) (w : World) (h1 : SlG w.heap.size w ao1 (rcells s)) (h2 : SlG w.heap.size w ao2 (rcells s)) :
    Calls Tryz.prog 36 #[.slice ao1 s.length c1, .slice ao2 s.length c2] w (YesG w) := by
  have HA := Lib.hid h1
  have HB := Lib.hid h2
  clear h1 h2
  have mixed : Tryz.prog.follows .mixedOrders = true := by kernel_rfl
  go_enter Tryz.func36, Tryz.ntmps36
  go_wp2_with fail
  go_loopw [5] (fun i wr => ∃ j : Nat, j ≤ s.length ∧ i = .int .i64 j ∧ Hid (Gr w wr)) (fun i _ => s.length - (intOf i).toNat)
  case atStart => exact ⟨0, by omega, rfl, Gr.refl _⟩
  case round =>
    obtain ⟨j, hj, rfl, HFr⟩ := hrel
    by_cases hlt : j < s.length
    · have hne : rcells s ≠ [] := by intro e; have := congrArg List.length e; rw [rcells_length] at this; simp at this; omega
      obtain ⟨sb, off, rfl, hsb, hc⟩ := (HA.out.below HFr.out.below) hne
      obtain ⟨sb2, off2, rfl, hsb2, hc2⟩ := (HB.out.below HFr.out.below) hne
      obtain ⟨a0, a1, a2, a3, a4⟩ := rcells_at s j hlt
      have hz := HFr.out.below.size
      have x0 := cellG (by omega) (hc _ _ a0)
      have x1 := cellG (by omega) (hc _ _ a1)
      have x2 := cellG (by omega) (hc _ _ a2)
      have x3 := cellG (by omega) (hc _ _ a3)
      have x4 := cellG (by omega) (hc _ _ a4)
      have y0 := cellG (by omega) (hc2 _ _ a0)
      have y1 := cellG (by omega) (hc2 _ _ a1)
      have y2 := cellG (by omega) (hc2 _ _ a2)
      have y3 := cellG (by omega) (hc2 _ _ a3)
      have y4 := cellG (by omega) (hc2 _ _ a4)
      simp only [← Nat.add_assoc] at x1 x2 x3 x4 y1 y2 y3 y4
      have hji : (j : Int) < (s.length : Int) := by omega
      clear hc hc2 a0 a1 a2 a3 a4 hz hne hsb hsb2
      generalize s[j] = z at x1 y1
      have KR := Lib.hid (fun W => sameRule_any z W)
      go_wp2_with fail
      refine wp_region_quiet_grown (by assumption) (by kernel_rfl) ?_
      repeat (go_big_quiet_step ((go_at_call 63; go_must (exact Calls.grown_of ((KR.out _).mono fun _ _ h => ⟨h.1, h.2.out⟩)))))
      refine wpQuiet_nil ?_
      intro w1 hw'
      obtain ⟨⟨nq, osq⟩, hw1⟩ := hw'
      have HG1 := Lib.hid (HFr.out.trans ⟨nq, osq, hw1⟩)
      clear hw1 x0 x1 x2 x3 x4 y0 y1 y2 y3 y4 KR
      go_wp2_with fail
      go_roundw
      case rel => exact ⟨j + 1, by omega, by go_num, HG1⟩
      case measure => simp [intOf]; omega
    · obtain rfl : j = s.length := by omega
      go_wp2
      go_ret
      exact ⟨rfl, HFr.out⟩

set_option maxRecDepth 100000 in
theorem sameRules_any (s : List Int) (ao1 ao2 : Option Addr) (c1 c2 : Nat) (hm : s.length ≤ 1000000) (w : World) (h1 : SlG w.heap.size w ao1 (rcells s)) (h2 : SlG w.heap.size w ao2 (rcells s)) :
    Calls Tryz.prog 13 #[aggR ao1 s.length c1, aggR ao2 s.length c2] w (YesG w) := by
  have HB := Lib.hid (gr_two w (.cells #[.slice none 0 0, .slice ao1 s.length c1] 31) (.cells #[.slice none 0 0, .slice ao2 s.length c2] 31))
  have KT := Lib.hid (fun W => sameNil_SameTypes W)
  have KR := Lib.hid (fun W (hW : Gr w W) => sameRuleRow_any s ao1 ao2 c1 c2 hm W (h1.up hW.below hW.below.size) (h2.up hW.below hW.below.size))
  clear h1 h2 hm
  go_enter Tryz.func13, Tryz.ntmps13
  go_wp2_with (first
    | (go_at_call 35; go_must (refine (KT.out _).mono ?_; rintro e w1 ⟨rfl, hb⟩; have HB1 := Lib.hid (HB.out.trans hb); obtain ⟨b1, b2⟩ := two_boxes hb.below; clear hb))
    | (go_at_call 36; go_must (refine (KR.out _ HB1.out).mono ?_; rintro e w2 ⟨rfl, hb⟩; have HB2 := Lib.hid (HB1.out.trans hb); clear hb)))
  go_ret
  exact ⟨rfl, HB2.out⟩
end Go.Proofs.YtlkmabnjmklkpaaGreatDoor
