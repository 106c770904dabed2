/- Why a frame is none; is what is left torn. -/
import Derived.Test.YtagjipkoheimjaaGreatDoorNumIn
import Derived.Test.YtagjipkoheimjaaGreatDoorSumOf
namespace Go.Proofs.YtagjipkoheimjaaGreatDoor
open Go.RowKit

theorem fault_any (f : FR) (ao : Option Addr) (c : Nat) (w : World) :
    Calls Tryz.prog 26 #[.agg #[.int .i64 f.1, .slice ao f.2.length c]] w fun e w' => e = .returned (.int .i64 ((faultF f : Nat) : Int)) ∧ Gr w w' := by
  obtain ⟨k, d⟩ := f
  have HG := Lib.hid ((Gr.refl w).alloc (.cells #[.int .i64 k, .slice ao d.length c] 44))
  unfold faultF
  simp only
  by_cases h0 : k < 0
  · rw [if_pos (Or.inl h0)]
    go_enter Tryz.func26, Tryz.ntmps26
    go_wp2
    go_ret
    exact ⟨rfl, HG.out⟩
  · by_cases h1 : 255 < k
    · rw [if_pos (Or.inr h1)]
      go_enter Tryz.func26, Tryz.ntmps26
      go_wp2
      go_ret
      exact ⟨rfl, HG.out⟩
    · rw [if_neg (by omega)]
      by_cases h2 : 1048576 < d.length
      · have hd : decide ((1048576 : Int) < (d.length : Int)) = true := by simp; omega
        have hd' : decide (1048576 < d.length) = true := by simp; omega
        rw [if_pos h2]
        go_enter Tryz.func26, Tryz.ntmps26
        go_wp2
        go_ret
        exact ⟨rfl, HG.out⟩
      · have hd : decide ((1048576 : Int) < (d.length : Int)) = false := by simp; omega
        have hd' : decide (1048576 < d.length) = false := by simp; omega
        rw [if_neg h2]
        go_enter Tryz.func26, Tryz.ntmps26
        go_wp2
        go_ret
        exact ⟨rfl, HG.out⟩

theorem torn_any (ao : Option Addr) (l : List UInt8) (c : Nat) (hm : l.length ≤ 9223372036854775807) (w : World) (h : SlG w.heap.size w ao (bcells l)) :
    Calls Tryz.prog 37 #[.slice ao l.length c] w fun e w' => e = .returned (.bool (tornB l)) ∧ Gr w w' := by
  unfold tornB
  have HG := Lib.hid (Gr.refl w)
  by_cases h4 : l.length < 4
  · have hd : decide ((l.length : Int) < 4) = true := by simp; omega
    have hd' : decide (l.length < 4) = true := by simp; omega
    rw [hd']
    clear h
    go_enter Tryz.func37, Tryz.ntmps37
    go_wp2
    go_ret
    exact ⟨rfl, HG.out⟩
  · have hd : decide ((l.length : Int) < 4) = false := by simp; omega
    have hd' : decide (l.length < 4) = false := by simp; omega
    rw [hd']
    have HN := Lib.hid (numberIn_any ao l c (by omega) hm w h)
    have hn := num4_lt l
    clear h h4
    generalize num4 l = n at HN hn
    by_cases h5 : n ≤ 1048576
    · have g1 : decide ((n : Int) ≤ 1048576) = true := by simp; omega
      have g1' : decide (n ≤ 1048576) = true := by simp; omega
      rw [g1']
      by_cases h6 : l.length < 9 + n
      · have g2 : decide ((l.length : Int) < 9 + (n : Int)) = true := by simp; omega
        have g2' : decide (l.length < 9 + n) = true := by simp; omega
        rw [g2']
        go_enter Tryz.func37, Tryz.ntmps37
        go_wp2_with (go_at_call 75; refine (HN.out).mono ?_; rintro e w1 ⟨rfl, hg⟩; refine Hid.out ?_)
        have HG1 := Lib.hid hg
        clear hg
        refine Lib.hid ?_
        go_wp2
        go_ret
        exact ⟨rfl, HG1.out⟩
      · have g2 : decide ((l.length : Int) < 9 + (n : Int)) = false := by simp; omega
        have g2' : decide (l.length < 9 + n) = false := by simp; omega
        rw [g2']
        go_enter Tryz.func37, Tryz.ntmps37
        go_wp2_with (go_at_call 75; refine (HN.out).mono ?_; rintro e w1 ⟨rfl, hg⟩; refine Hid.out ?_)
        have HG1 := Lib.hid hg
        clear hg
        refine Lib.hid ?_
        go_wp2
        go_ret
        exact ⟨rfl, HG1.out⟩
    · have g1 : decide ((n : Int) ≤ 1048576) = false := by simp; omega
      have g1' : decide (n ≤ 1048576) = false := by simp; omega
      rw [g1']
      go_enter Tryz.func37, Tryz.ntmps37
      go_wp2_with (go_at_call 75; refine (HN.out).mono ?_; rintro e w1 ⟨rfl, hg⟩; refine Hid.out ?_)
      have HG1 := Lib.hid hg
      clear hg
      refine Lib.hid ?_
      go_wp2
      go_ret
      exact ⟨rfl, HG1.out⟩
end Go.Proofs.YtagjipkoheimjaaGreatDoor
