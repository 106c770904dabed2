/- light, of whatever row. -/
import Derived.Test.YtcmbedopmkodmaaDoorFind
namespace Go.Proofs.YtcmbedopmkodmaaDoor
open Go.RowKit

def longB (x : Int × Int × ByteArray) : Bool := decide (300 < x.2.2.size)
def lightB (zs : List (Int × Int × ByteArray)) : Bool := !zs.any longB && decide (zs.length ≤ 20)

theorem light_long {zs : List (Int × Int × ByteArray)} (k : Nat) (hk : k < zs.length) (h : longB zs[k] = true) : lightB zs = false := by
  unfold lightB; rw [any_hit zs longB k hk h]; rfl
theorem light_end {zs : List (Int × Int × ByteArray)} (h : ∀ k, (hk : k < zs.length) → longB zs[k] = false) : lightB zs = decide (zs.length ≤ 20) := by
  unfold lightB; rw [any_miss zs longB h]; rfl

set_option maxHeartbeats 1000000 in
theorem light_any (b off c : Nat) (zs : List (Int × Int × ByteArray)) (w : World) (hz : zs.length ≤ 9223372036854775807) (hc : RowAt w b off zs) (hm : ∀ x, x ∈ zs → x.2.2.size ≤ maxLen) :
    Calls Tryd.prog 9 #[.slice (some ⟨b, off, none⟩) zs.length c] w fun e w' => e = .returned (.bool (lightB zs)) ∧ w = w' := by
  have HC := Lib.hid hc
  have HM := Lib.hid hm
  have HLO : Hid (∀ k, (hk : k < zs.length) → longB zs[k] = true → lightB zs = false) := fun k hk h => light_long k hk h
  have HEN : Hid ((∀ k, (hk : k < zs.length) → longB zs[k] = false) → lightB zs = decide (zs.length ≤ 20)) := light_end
  clear hc hm
  generalize lightB zs = r at HLO HEN ⊢
  generalize hn : zs.length = n at hz ⊢
  have HN := Lib.hid hn
  have HEN' : Hid ((∀ k, (hk : k < zs.length) → longB zs[k] = false) → r = decide (n ≤ 20)) := by rw [← hn]; exact HEN
  clear hn HEN
  go_enter Tryd.func9, Tryd.ntmps9
  go_wp2
  go_loop [3] (fun i => ∃ k : Nat, k ≤ n ∧ i = .int .i64 k ∧ Hid (∀ j, (hj : j < zs.length) → j < k → longB zs[j] = false)) (fun i => n - (intOf i).toNat)
  case atStart => exact ⟨0, Nat.zero_le _, rfl, fun j _ hj => absurd hj (Nat.not_lt_zero _)⟩
  case round =>
    obtain ⟨k, hk, rfl, HA⟩ := hrel
    by_cases hlt : k < n
    · have hkz : k < zs.length := by rw [HN.out]; exact hlt
      have hat := HC.out k hkz
      have hs := HM.out zs[k] (List.getElem_mem hkz)
      have HHk : Hid (longB zs[k] = true → r = false) := HLO.out k hkz
      have HAk : Hid (longB zs[k] = false → ∀ j, (hj : j < zs.length) → j < k + 1 → longB zs[j] = false) := fun h j hj hjk => by
        rcases Nat.lt_or_ge j k with h' | h'
        · exact HA.out j hj h'
        · obtain rfl : j = k := by omega
          exact h
      clear HLO HA HC HM
      generalize zs[k] = x at hat hs HHk HAk
      obtain ⟨xk, xn, xs⟩ := x
      obtain ⟨a1, a2, a3⟩ := hat
      have hltz : (k : Int) < (n : Int) := by omega
      by_cases hq : 300 < xs.size
      · have HR : Hid (r = false) := HHk.out (decide_eq_true hq)
        have hd : decide (300 < (xs.size : Int)) = true := by simp; omega
        clear hq
        go_wp2
        go_ret
        exact ⟨by rw [HR.out]; rfl, rfl⟩
      · have HQ : Hid (longB (xk, xn, xs) = false) := decide_eq_false hq
        have hd : decide (300 < (xs.size : Int)) = false := by simp; omega
        clear hq
        go_wp2
        go_round
        case rel => exact ⟨k + 1, by omega, by go_num, HAk.out HQ.out⟩
        case measure => simp [intOf]; omega
    · have HR : Hid (r = decide (n ≤ 20)) := HEN'.out fun j hj => HA.out j hj (by rw [HN.out] at hj; omega)
      have hltz : ¬ (k : Int) < (n : Int) := by omega
      go_wp2
      go_ret
      exact ⟨by rw [HR.out]; simp; omega, rfl⟩
end Go.Proofs.YtcmbedopmkodmaaDoor
