/- A word behind more bytes; the sum. -/
import Derived.Test.YtagjipkoheimjaaGreatDoorLentB
import Derived.Test.YtagjipkoheimjaaGreatDoorFrames
import Derived.Laws.BitsAllLaws
namespace Go.Proofs.YtagjipkoheimjaaGreatDoor
open Go.RowKit

theorem and_one (y : Nat) (hy : y < 4294967296) : bits .and .u32 (y : Int) 1 = ((y % 2 : Nat) : Int) := by
  have := u32_and_nat y 1 hy (by decide)
  rw [nat_mask1] at this
  exact this
theorem bitS_odd (y : Nat) (hy : y < 4294967296) (h : y % 2 = 1) : bits .xor .u32 ((y / 2 : Nat) : Int) 3988292384 = ((bitS y : Nat) : Int) := by
  have := u32_xor_nat (y / 2) 3988292384 (by omega) (by decide)
  unfold bitS polyN
  rw [if_pos h]
  exact this
theorem bitS_even (y : Nat) (h : y % 2 = 0) : y / 2 = bitS y := by
  unfold bitS
  rw [if_neg (by omega), Nat.xor_zero]
theorem bitsS_succ (k y : Nat) : bitsS (k + 1) y = bitS (bitsS k y) := by
  rw [bitsS_add]
  rfl

set_option maxRecDepth 100000 in
set_option maxHeartbeats 1000000 in
theorem turned_any (x : Nat) (hx : x < 2 ^ 32) (ao : Option Addr) (l : List UInt8) (c : Nat) (hm : l.length ≤ 9223372036854775807) (w : World) (h : SlG w.heap.size w ao (bcells l)) :
    Calls Tryz.prog 40 #[.int .u32 x, .slice ao l.length c] w fun e w' => e = .returned (.int .u32 ((wordS x l : Nat) : Int)) ∧ w = w' := by
  have HA := Lib.hid h
  clear h
  have HX := Lib.hid hx
  clear hx
  go_enter Tryz.func40, Tryz.ntmps40
  go_wp2_with fail
  go_loop [0, 10] (fun x0 i => ∃ j : Nat, j ≤ l.length ∧ i = .int .i64 j ∧ x0 = .int .u32 ((wordS x (l.take j) : Nat) : Int)) (fun _ i => l.length - (intOf i).toNat)
  case atStart => exact ⟨0, by omega, rfl, rfl⟩
  case round =>
    obtain ⟨j, hj, rfl, rfl⟩ := hrel
    by_cases hlt : j < l.length
    · obtain ⟨sb, off, rfl, hsb, hc⟩ := HA.out.cellB (by omega)
      have d1 := hc j hlt
      have hT : Hid (wordS x (l.take (j + 1)) = bitsS 8 (wordS x (l.take j) ^^^ (l[j]).toNat)) := by
        unfold Hid wordS
        rw [List.take_add_one, List.getElem?_eq_getElem hlt]
        simp only [Option.toList_some, List.foldl_append, List.foldl_cons, List.foldl_nil]
        rfl
      have hy := wordS_lt (l.take j) x HX.out
      have hb := (l[j]).toNat_lt
      generalize wordS x (l.take j) = y at hT hy
      generalize (l[j]).toNat = b at hT d1 hb
      have hxor : bits .xor .u32 (y : Int) (b : Int) = ((y ^^^ b : Nat) : Int) := u32_xor_nat y b (by omega) (by omega)
      have hyb : y ^^^ b < 4294967296 := Nat.xor_lt_two_pow (n := 32) hy (by omega)
      generalize y ^^^ b = z at hT hxor hyb
      have HZ := Lib.hid hyb
      clear hc hyb
      go_wp2_with fail
      go_loop [0, 18] (fun x0 i => ∃ k : Nat, k ≤ 8 ∧ i = .int .i64 k ∧ x0 = .int .u32 ((bitsS k z : Nat) : Int)) (fun _ i => 8 - (intOf i).toNat)
      case atStart => exact ⟨0, by omega, rfl, rfl⟩
      case round =>
        obtain ⟨k, hk, rfl, rfl⟩ := hrel
        by_cases hlt2 : k < 8
        · have hS := Lib.hid (bitsS_succ k z)
          have hv : bitsS k z < 4294967296 := bitsS_lt k z HZ.out
          generalize bitsS k z = v at hS hv
          have ha := and_one v hv
          rcases Nat.mod_two_eq_zero_or_one v with hm2 | hm2
          · have hE := Lib.hid (bitS_even v hm2)
            rw [hm2] at ha
            clear hm2
            go_wp2_with fail
            go_round
            case rel => exact ⟨k + 1, by omega, by go_num, by rw [hS.out, ← hE.out]; rfl⟩
            case measure => simp [intOf]; omega
          · have hE := Lib.hid (bitS_odd v hv hm2)
            rw [hm2] at ha
            clear hm2
            go_wp2_with fail
            go_round
            case rel => exact ⟨k + 1, by omega, by go_num, by rw [hS.out, ← hE.out]; rfl⟩
            case measure => simp [intOf]; omega
        · obtain rfl : k = 8 := by omega
          rw [← hT.out]
          go_wp2_with fail
          go_round
          case rel => exact ⟨j + 1, by omega, by go_num, rfl⟩
          case measure => simp [intOf]; omega
    · obtain rfl : j = l.length := by omega
      rw [List.take_length]
      go_wp2
      go_ret
      exact ⟨rfl, rfl⟩

theorem not_nat (y : Nat) (h : y < 4294967296) : 4294967295 ^^^ y = 4294967295 - y := by
  apply Nat.eq_of_testBit_eq
  intro i
  have e1 : (4294967295 : Nat) = 2 ^ 32 - 1 := by decide
  have e2 : 4294967295 - y = 2 ^ 32 - (y + 1) := by omega
  rw [e2, Nat.testBit_two_pow_sub_succ (by omega), Nat.testBit_xor, e1, Nat.testBit_two_pow_sub_one]
  by_cases hi : i < 32
  · simp [hi]
  · have : y.testBit i = false := Nat.testBit_lt_two_pow (Nat.lt_of_lt_of_le h (Nat.pow_le_pow_right (by decide) (by omega) : 2 ^ 32 ≤ 2 ^ i))
    simp [hi, this]
theorem not_u32 (y : Nat) (h : y < 4294967296) : bits .xor .u32 IntKind.u32.max (y : Int) = 4294967295 - (y : Int) := by
  have := u32_xor_nat 4294967295 y (by decide) h
  rw [not_nat y h] at this
  refine (show bits .xor .u32 IntKind.u32.max (y : Int) = bits .xor .u32 ((4294967295 : Nat) : Int) (y : Int) from rfl).trans (this.trans ?_)
  omega
theorem sumN_int (l : List UInt8) : ((sumN l : Nat) : Int) = 4294967295 - ((wordS 4294967295 l : Nat) : Int) := by
  have := wordS_lt l 4294967295 (by decide)
  unfold sumN
  omega

theorem sum_any (ao : Option Addr) (l : List UInt8) (c : Nat) (hm : l.length ≤ 9223372036854775807) (w : World) (h : SlG w.heap.size w ao (bcells l)) :
    Calls Tryz.prog 23 #[.slice ao l.length c] w fun e w' => e = .returned (.int .u32 ((sumN l : Nat) : Int)) ∧ w = w' := by
  have HT := Lib.hid (turned_any 4294967295 (by decide) ao l c hm w h)
  rw [sumN_int]
  have hlt := wordS_lt l 4294967295 (by decide)
  clear h
  generalize wordS 4294967295 l = y at HT hlt
  go_enter Tryz.func23, Tryz.ntmps23
  go_wp2_with (go_at_call 40; refine (HT.out).mono ?_; rintro e w' ⟨rfl, rfl⟩)
  go_ret
  exact ⟨by rw [← not_u32 y hlt]; rfl, rfl⟩
end Go.Proofs.YtagjipkoheimjaaGreatDoor
