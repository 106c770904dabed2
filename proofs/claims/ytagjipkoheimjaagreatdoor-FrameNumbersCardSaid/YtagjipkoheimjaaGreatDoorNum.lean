/- The document's sum; the sum of a frame. -/
import Derived.Test.YtagjipkoheimjaaGreatDoorTurned
namespace Go.Proofs.YtagjipkoheimjaaGreatDoor
open Go.RowKit

set_option maxRecDepth 100000 in
set_option maxHeartbeats 1000000 in
theorem refSum_any (ao : Option Addr) (l : List UInt8) (c : Nat) (hm : l.length ≤ 9223372036854775807) (w : World) (h : SlG w.heap.size w ao (bcells l)) :
    Calls Tryz.prog 33 #[.slice ao l.length c] w fun e w' => e = .returned (.int .u32 ((sumN l : Nat) : Int)) ∧ w = w' := by
  have HA := Lib.hid h
  clear h
  have HS := Lib.hid (sumN_int l)
  go_enter Tryz.func33, Tryz.ntmps33
  go_wp2_with fail
  go_loop [3, 4] (fun x0 i => ∃ j : Nat, j ≤ l.length ∧ i = .int .i64 j ∧ x0 = .int .u32 ((wordS 4294967295 (l.take j) : Nat) : Int)) (fun _ i => l.length - (intOf i).toNat)
  case atStart => exact ⟨0, by omega, rfl, rfl⟩
  case round =>
    obtain ⟨j, hj, rfl, rfl⟩ := hrel
    by_cases hlt : j < l.length
    · obtain ⟨sb, off, rfl, hsb, hc⟩ := HA.out.cellB (by omega)
      have d1 := hc j hlt
      have hT : Hid (wordS 4294967295 (l.take (j + 1)) = bitsS 8 (wordS 4294967295 (l.take j) ^^^ (l[j]).toNat)) := by
        unfold Hid wordS
        rw [List.take_add_one, List.getElem?_eq_getElem hlt]
        simp only [Option.toList_some, List.foldl_append, List.foldl_cons, List.foldl_nil]
        rfl
      have hy := wordS_lt (l.take j) 4294967295 (by decide)
      have hb := (l[j]).toNat_lt
      generalize wordS 4294967295 (l.take j) = y at hT hy
      generalize (l[j]).toNat = b at hT d1 hb
      have hxor : bits .xor .u32 (y : Int) (b : Int) = ((y ^^^ b : Nat) : Int) := u32_xor_nat y b (by omega) (by omega)
      have hyb : y ^^^ b < 4294967296 := Nat.xor_lt_two_pow (n := 32) hy (by omega)
      generalize y ^^^ b = z at hT hxor hyb
      have HZ := Lib.hid hyb
      clear hc hyb
      go_wp2_with fail
      go_loop [3, 5] (fun x0 i => ∃ k : Nat, k ≤ 8 ∧ i = .int .i64 k ∧ x0 = .int .u32 ((bitsS k z : Nat) : Int)) (fun _ i => 8 - (intOf i).toNat)
      case atStart => exact ⟨0, by omega, rfl, rfl⟩
      case round =>
        obtain ⟨k, hk, rfl, rfl⟩ := hrel
        by_cases hlt2 : k < 8
        · have hS := Lib.hid (bitsS_succ k z)
          have hv : bitsS k z < 4294967296 := bitsS_lt k z HZ.out
          generalize bitsS k z = v at hS hv
          have ha := and_one v hv
          rcases Nat.mod_two_eq_zero_or_one v with hm2 | hm2
          · have hE := Lib.hid (bitS_even v hm2)
            rw [hm2] at ha
            clear hm2
            go_wp2_with fail
            go_round
            case rel => exact ⟨k + 1, by omega, by go_num, by rw [hS.out, ← hE.out]; rfl⟩
            case measure => simp [intOf]; omega
          · have hE := Lib.hid (bitS_odd v hv hm2)
            rw [hm2] at ha
            clear hm2
            go_wp2_with fail
            go_round
            case rel => exact ⟨k + 1, by omega, by go_num, by rw [hS.out, ← hE.out]; rfl⟩
            case measure => simp [intOf]; omega
        · obtain rfl : k = 8 := by omega
          rw [← hT.out]
          go_wp2_with fail
          go_round
          case rel => exact ⟨j + 1, by omega, by go_num, rfl⟩
          case measure => simp [intOf]; omega
    · obtain rfl : j = l.length := by omega
      rw [List.take_length]
      have hlt := wordS_lt l 4294967295 (by decide)
      generalize wordS 4294967295 l = y at hlt HS ⊢
      go_wp2
      go_ret
      exact ⟨by rw [HS.out, ← not_u32 y hlt]; rfl, rfl⟩
end Go.Proofs.YtagjipkoheimjaaGreatDoor
