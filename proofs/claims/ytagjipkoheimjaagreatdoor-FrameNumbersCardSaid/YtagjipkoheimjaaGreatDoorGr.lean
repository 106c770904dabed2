/- What is the same, and what was kept, is told so: with the form of what grew. -/
import Derived.Test.YtagjipkoheimjaaGreatDoorSame
namespace Go.Proofs.YtagjipkoheimjaaGreatDoor
open Go.RowKit

def YesG (w : World) (e : Ending) (w' : World) : Prop := e = .returned (.bool true) ∧ Gr w w'

set_option maxRecDepth 100000 in
set_option maxHeartbeats 1000000 in
theorem sameBG (ao1 ao2 : Option Addr) (c1 c2 : Nat) (l : List UInt8) (hm : l.length ≤ 9223372036854775807) (w : World) (h1 : SlG w.heap.size w ao1 (bcells l)) (h2 : SlG w.heap.size w ao2 (bcells l)) :
    Calls Tryz.prog 13 #[.slice ao1 l.length c1, .slice ao2 l.length c2] w (YesG w) := by
  have HA := Lib.hid h1
  have HB := Lib.hid h2
  clear h1 h2
  have mixed : Tryz.prog.follows .mixedOrders = true := by kernel_rfl
  go_enter Tryz.func13, Tryz.ntmps13
  go_wp2_with fail
  go_loopw [5] (fun i wr => ∃ j : Nat, j ≤ l.length ∧ i = .int .i64 j ∧ Gr w wr) (fun i _ => l.length - (intOf i).toNat)
  case atStart => exact ⟨0, by omega, rfl, Gr.refl _⟩
  case round =>
    obtain ⟨j, hj, rfl, hfr⟩ := hrel
    have HFr := Lib.hid hfr
    clear hfr
    by_cases hlt : j < l.length
    · obtain ⟨sb, off, rfl, hsb, hc⟩ := (HA.out.below HFr.out.below).cellB (by omega)
      obtain ⟨sb2, off2, rfl, hsb2, hc2⟩ := (HB.out.below HFr.out.below).cellB (by omega)
      have d1 := hc j hlt
      have d2 := hc2 j hlt
      clear hc hc2
      generalize ((l[j]).toNat : Int) = z at d1 d2
      go_wp2_with fail
      go_quiet (fail)
      go_wp2
      go_roundw
      case rel => exact ⟨j + 1, by omega, by go_num, HFr.out.drewN _⟩
      case measure => simp [intOf]; omega
    · obtain rfl : j = l.length := by omega
      go_wp2
      go_ret
      exact ⟨rfl, HFr.out⟩

set_option maxRecDepth 100000 in
set_option maxHeartbeats 1000000 in
theorem keptB_anyG (g : Nat) (ao : Option Addr) (c : Nat) (l : List UInt8) (w : World) (hl : l.length ≤ 100000) (hg : LentAt w g l) (h : SlG w.heap.size w ao (bcells l)) :
    Calls Tryz.prog 17 #[.slice (some ⟨g, 0, none⟩) l.length (l.length + 12), .slice ao l.length c] w (YesG w) := by
  have HG := Lib.hid hg
  have HS := Lib.hid h
  clear hg h
  have mixed : Tryz.prog.follows .mixedOrders = true := by kernel_rfl
  go_enter Tryz.func17, Tryz.ntmps17
  go_wp2
  go_loopw [6] (fun i wr => ∃ k : Nat, k ≤ l.length + 12 ∧ i = .int .i64 k ∧ Gr w wr) (fun i _ => l.length + 12 - (intOf i).toNat)
  case atStart => exact ⟨0, by omega, rfl, Gr.refl _⟩
  case round =>
    obtain ⟨k, hk, rfl, hb⟩ := hrel
    have HBr := Lib.hid hb
    clear hb
    by_cases hlt : k < l.length + 12
    · have hlti : (k : Int) < (l.length : Int) + 12 := by omega
      by_cases hkn : k < l.length
      · have ho := (HG.out.below HBr.out.below).cell k hkn
        obtain ⟨sb, off, rfl, _, hc⟩ := (HS.out.below HBr.out.below).cellB (by omega)
        have hr := hc k hkn
        clear hc HG HS
        generalize ((l[k]).toNat : Int) = x at ho hr
        have hd : decide ((k : Int) < (l.length : Int)) = true := by simp; omega
        have hd2 : decide ((l.length : Int) ≤ (k : Int)) = false := by simp; omega
        have hd' : decide (k < l.length) = true := by simp; omega
        have hd2' : decide (l.length ≤ k) = false := by simp; omega
        have hki : (k : Int) < (l.length : Int) := by omega
        go_wp2_with fail
        clear hkn
        go_quiet (fail)
        go_wp2
        have HBn : Gr w (wr.drewN nq) := HBr.out.drewN _
        clear hd hd2 hd' hd2' HBr
        go_roundw
        case rel => exact ⟨k + 1, by omega, by go_num, HBn⟩
        case measure => simp [intOf]; omega
      · have hm : k - l.length < 12 := by omega
        have ho := (HG.out.below HBr.out.below).mark (k - l.length) hm
        rw [show l.length + (k - l.length) = k by omega] at ho
        obtain ⟨m, hmk⟩ : ∃ m, m = k - l.length := ⟨_, rfl⟩
        rw [← hmk] at ho hm
        have hsub : (k : Int) - (l.length : Int) = (m : Int) := by omega
        have C := Lib.hid (fun W => markByte_any 1 m (by omega) (by omega) (by omega) (by omega) W)
        have hd : decide ((k : Int) < (l.length : Int)) = false := by simp; omega
        have hd2 : decide ((l.length : Int) ≤ (k : Int)) = true := by simp; omega
        have hd' : decide (k < l.length) = false := by simp; omega
        have hd2' : decide (l.length ≤ k) = true := by simp; omega
        clear HG HS hkn hmk
        generalize mbI 1 (m : Int) = x at ho C
        go_wp2_with fail
        go_quiet (first | (go_at_call 36; exact Calls.quiet_of_same ((C.out _).mono fun _ _ ⟨h, h'⟩ => ⟨h, h'.symm⟩)))
        go_wp2
        have HBn : Gr w (wr.drewN nq) := HBr.out.drewN _
        clear hd hd2 hd' hd2' HBr
        go_roundw
        case rel => exact ⟨k + 1, by omega, by go_num, HBn⟩
        case measure => simp [intOf]; omega
    · have hltz : ¬ (k : Int) < (l.length : Int) + 12 := by omega
      go_wp2
      go_ret
      exact ⟨rfl, HBr.out⟩

theorem gr_two (w : World) (o1 o2 : Obj) : Gr w ((w.alloc o1).alloc o2) := ((Gr.refl w).alloc o1).alloc o2

theorem sameFrameG (k : Int) (d : List UInt8) (ao1 ao2 : Option Addr) (n1 n2 c1 c2 : Nat) (hn1 : n1 = d.length) (hn2 : n2 = d.length) (hm : d.length ≤ 9223372036854775807) (w : World) (h1 : SlG w.heap.size w ao1 (bcells d)) (h2 : SlG w.heap.size w ao2 (bcells d)) :
    Calls Tryz.prog 30 #[.agg #[.int .i64 k, .slice ao1 n1 c1], .agg #[.int .i64 k, .slice ao2 n2 c2]] w (YesG w) := by
  subst hn1
  subst hn2
  have HB := Lib.hid (gr_two w (.cells #[.int .i64 k, .slice ao1 d.length c1] 44) (.cells #[.int .i64 k, .slice ao2 d.length c2] 44))
  have HV := Lib.hid (sameBG ao1 ao2 c1 c2 d hm _ (h1.up HB.out.below HB.out.below.size) (h2.up HB.out.below HB.out.below.size))
  clear h1 h2 hm
  go_enter Tryz.func30, Tryz.ntmps30
  go_wp2_with (go_at_call 13; refine (HV.out).mono ?_; rintro e w1 ⟨rfl, hb⟩)
  go_ret
  exact ⟨rfl, HB.out.trans hb⟩

theorem keptFrameG (k : Int) (d : List UInt8) (g : Nat) (ao : Option Addr) (n1 m1 n2 c : Nat) (hn1 : n1 = d.length) (hm1 : m1 = d.length + 12) (hn2 : n2 = d.length) (hl : d.length ≤ 100000) (w : World) (h1 : LentAt w g d) (h2 : SlG w.heap.size w ao (bcells d)) :
    Calls Tryz.prog 29 #[.agg #[.int .i64 k, .slice (some ⟨g, 0, none⟩) n1 m1], .agg #[.int .i64 k, .slice ao n2 c]] w (YesG w) := by
  subst hn1
  subst hm1
  subst hn2
  have HB := Lib.hid (gr_two w (.cells #[.int .i64 k, .slice (some ⟨g, 0, none⟩) d.length (d.length + 12)] 44) (.cells #[.int .i64 k, .slice ao d.length c] 44))
  have HK := Lib.hid (fun W (hW : Gr w W) => keptB_anyG g ao c d W hl (h1.below hW.below) (h2.up hW.below hW.below.size))
  have HS := Lib.hid (fun W (hW : Gr w W) => sameFrameG k d (some ⟨g, 0, none⟩) ao d.length d.length (d.length + 12) c rfl rfl (by omega) W (h1.slG.up hW.below hW.below.size) (h2.up hW.below hW.below.size))
  clear h1 h2 hl
  go_enter Tryz.func29, Tryz.ntmps29
  go_wp2_with (first
    | (go_at_call 30; go_must (refine (HS.out _ HB.out).mono ?_; rintro e w1 ⟨rfl, hb⟩; have HB1 := Lib.hid (HB.out.trans hb); obtain ⟨b1, b2⟩ := two_boxes hb.below; clear hb))
    | (go_at_call 17; go_must (refine (HK.out _ HB1.out).mono ?_; rintro e w2 ⟨rfl, hb⟩)))
  go_ret
  exact ⟨rfl, HB1.out.trans hb⟩

theorem markFrameG (k i : Int) (hk : 0 ≤ k) (hk2 : k ≤ 10) (hi : 0 ≤ i) (hi2 : i ≤ 100000) (w : World) :
    Calls Tryz.prog 25 #[.int .i64 k, .int .i64 i] w fun e w' => e = .returned (.agg #[.int .i64 (1000003 * (k + 7) + i), .slice none 0 0]) ∧ Gr w w' := by
  have HM := Lib.hid (fun W => mark_any k i hk hk2 hi hi2 W)
  have HG := Lib.hid (fun c1 c2 => (Gr.refl w).alloc (.cells c1 c2))
  generalize 1000003 * (k + 7) + i = x at HM ⊢
  clear hk hk2 hi hi2
  go_enter Tryz.func25, Tryz.ntmps25
  go_wp2_with (go_at_call 41; refine (HM.out _).mono ?_; rintro e w' ⟨rfl, rfl⟩)
  exact bodyPost_ret (v := .agg #[.int .i64 x, .slice none 0 0]) (by simp [results, Tryz.results25, go_sem]) rfl ⟨rfl, HG.out _ _⟩
end Go.Proofs.YtagjipkoheimjaaGreatDoor
