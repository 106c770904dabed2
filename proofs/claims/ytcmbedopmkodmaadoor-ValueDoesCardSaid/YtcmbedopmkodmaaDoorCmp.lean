/- The order of values: cmp's parts, and Compare on both sides. -/
import Derived.Test.YtcmbedopmkodmaaDoorEq
import Derived.Test.YtcmbedopmkodmaaDoorText
import Derived.Test.YtcmbedopmkodmaaDoorRefNamed
import Derived.Deep.RegionHeld3
import Derived.Deep.RegionWith
import Derived.Sort.Grow
import Derived.Shelf.SlSortCmp.QuietGrown
namespace Go.Proofs.YtcmbedopmkodmaaDoor
open Go.RowKit

/-- Only draws and new blocks. -/
def Gr (w W : World) : Prop := ∃ n os, W = Sort.grow (w.drewN n) os
theorem Gr.refl (w : World) : Gr w w := ⟨0, #[], by rw [Sort.grow_empty]; rfl⟩
theorem Gr.trans {a b c : World} (h : Gr a b) (k : Gr b c) : Gr a c := by
  obtain ⟨n, os, rfl⟩ := h
  obtain ⟨m, os', rfl⟩ := k
  refine ⟨n + m, os ++ os', ?_⟩
  show Sort.grow (Sort.grow ((a.drewN n).drewN m) os) os' = _
  rw [Sort.grow_grow, World.drewN_drewN]
theorem Gr.alloc {a b : World} (h : Gr a b) (x : Obj) : Gr a (b.alloc x) := h.trans ⟨0, #[x], by rw [Sort.alloc_eq_grow]; rfl⟩
theorem Gr.drew {a b : World} (h : Gr a b) : Gr a b.drew := h.trans ⟨1, #[], by rw [Sort.grow_empty]; rfl⟩
theorem Gr.drewN {a b : World} (h : Gr a b) (n : Nat) : Gr a (b.drewN n) := h.trans ⟨n, #[], by rw [Sort.grow_empty]⟩
theorem Gr.below {a b : World} (h : Gr a b) : Below a.heap.size a b := by
  obtain ⟨n, os, rfl⟩ := h
  exact Lib.below_grow _ _ (Nat.le_refl _) _ _
theorem Gr.out {a b : World} (h : Gr a b) : ∃ n os, b = Sort.grow (a.drewN n) os := h

def cmp3 (x y : Int) : Int := if x < y then -1 else if y < x then 1 else 0
def or3 (a b c : Int) : Int := if a ≠ 0 then a else if b ≠ 0 then b else c

theorem cmpKind_any (x y : Int) (w : World) :
    Calls Tryd.prog 37 #[.int .u8 x, .int .u8 y] w fun e w' => e = .returned (.int .i64 (cmp3 x y)) ∧ w = w' := by
  have n1 : (x != x) = false := by simp
  have n2 : (y != y) = false := by simp
  by_cases h1 : x < y
  · rw [show cmp3 x y = -1 from if_pos h1]
    go_enter Tryd.func37, Tryd.ntmps37
    go_wp2
    go_ret
    exact ⟨rfl, rfl⟩
  · by_cases h2 : y < x
    · rw [show cmp3 x y = 1 from by unfold cmp3; rw [if_neg h1, if_pos h2]]
      go_enter Tryd.func37, Tryd.ntmps37
      go_wp2
      go_ret
      exact ⟨rfl, rfl⟩
    · rw [show cmp3 x y = 0 from by unfold cmp3; rw [if_neg h1, if_neg h2]]
      go_enter Tryd.func37, Tryd.ntmps37
      go_wp2
      go_ret
      exact ⟨rfl, rfl⟩

theorem cmpInt_any (x y : Int) (w : World) :
    Calls Tryd.prog 38 #[.int .i64 x, .int .i64 y] w fun e w' => e = .returned (.int .i64 (cmp3 x y)) ∧ w = w' := by
  have n1 : (x != x) = false := by simp
  have n2 : (y != y) = false := by simp
  by_cases h1 : x < y
  · rw [show cmp3 x y = -1 from if_pos h1]
    go_enter Tryd.func38, Tryd.ntmps38
    go_wp2
    go_ret
    exact ⟨rfl, rfl⟩
  · by_cases h2 : y < x
    · rw [show cmp3 x y = 1 from by unfold cmp3; rw [if_neg h1, if_pos h2]]
      go_enter Tryd.func38, Tryd.ntmps38
      go_wp2
      go_ret
      exact ⟨rfl, rfl⟩
    · rw [show cmp3 x y = 0 from by unfold cmp3; rw [if_neg h1, if_neg h2]]
      go_enter Tryd.func38, Tryd.ntmps38
      go_wp2
      go_ret
      exact ⟨rfl, rfl⟩

def at3 (a b c : Int) (k : Nat) : Int := if k = 0 then a else if k = 1 then b else c

theorem or3_hit (a b c : Int) (k : Nat) (hk : k < 3) (h0 : ∀ j, j < k → at3 a b c j = 0) (h : at3 a b c k ≠ 0) : or3 a b c = at3 a b c k := by
  have e : k = 0 ∨ k = 1 ∨ k = 2 := by omega
  rcases e with rfl | rfl | rfl
  · exact if_pos h
  · have ha : a = 0 := h0 0 (by omega)
    unfold or3; rw [if_neg (by simp [ha])]; exact if_pos h
  · have ha : a = 0 := h0 0 (by omega)
    have hb : b = 0 := h0 1 (by omega)
    unfold or3; rw [if_neg (by simp [ha]), if_neg (by simp [hb])]; rfl

theorem or3_miss (a b c : Int) (h0 : ∀ j, j < 3 → at3 a b c j = 0) : or3 a b c = 0 := by
  have ha : a = 0 := h0 0 (by omega)
  have hb : b = 0 := h0 1 (by omega)
  have hc : c = 0 := h0 2 (by omega)
  rw [ha, hb, hc]; rfl

theorem or_any (b : Nat) (x y z : Int) (w : World) (h0 : w.cell? ⟨b, 0, none⟩ = some (.int .i64 x)) (h1 : w.cell? ⟨b, 1, none⟩ = some (.int .i64 y)) (h2 : w.cell? ⟨b, 2, none⟩ = some (.int .i64 z)) :
    Calls Tryd.prog 36 #[.slice (some ⟨b, 0, none⟩) 3 3] w fun e w' => e = .returned (.int .i64 (or3 x y z)) ∧ w = w' := by
  have HC : Hid (∀ k, k < 3 → w.cell? ⟨b, k, none⟩ = some (.int .i64 (at3 x y z k))) := fun k hk => by
    have e : k = 0 ∨ k = 1 ∨ k = 2 := by omega
    rcases e with rfl | rfl | rfl
    · exact h0
    · exact h1
    · exact h2
  clear h0 h1 h2
  have HH := Lib.hid (or3_hit x y z)
  have HM := Lib.hid (or3_miss x y z)
  generalize or3 x y z = r at HH HM ⊢
  go_enter Tryd.func36, Tryd.ntmps36
  go_wp2
  go_loop [8, 5] (fun i _ => ∃ k : Nat, k ≤ 3 ∧ i = .int .i64 k ∧ Hid (∀ j, j < k → at3 x y z j = 0)) (fun i _ => 3 - (intOf i).toNat)
  case atStart => exact ⟨0, by omega, rfl, fun j hj => absurd hj (Nat.not_lt_zero _)⟩
  case round =>
    obtain ⟨k, hk, rfl, HA⟩ := hrel
    by_cases hlt : k < 3
    · have hcell := HC.out k hlt
      cases hq : (at3 x y z k != 0) with
      | true =>
        have HR : Hid (r = at3 x y z k) := HH.out k hlt HA.out (by simpa using hq)
        generalize at3 x y z k = v at hcell hq HR
        go_wp2
        go_ret
        exact ⟨by rw [HR.out]; rfl, rfl⟩
      | false =>
        have HZ : Hid (∀ j, j < k + 1 → at3 x y z j = 0) := fun j hj => by
          rcases Nat.lt_or_ge j k with h | h
          · exact HA.out j h
          · obtain rfl : j = k := by omega
            simpa using hq
        generalize at3 x y z k = v at hcell hq
        go_wp2
        go_round
        case rel => exact ⟨k + 1, by omega, by go_num, HZ⟩
        case measure => simp [intOf]; omega
    · have hk3 : k = 3 := by omega
      subst hk3
      have HR : Hid (r = 0) := HM.out HA.out
      go_wp2
      go_ret
      exact ⟨by rw [HR.out]; rfl, rfl⟩
end Go.Proofs.YtcmbedopmkodmaaDoor
