/- The document's token: numbers and signs. -/
import Derived.Test.YtebfclanamoldaaDoorRefTok2
namespace Go.Proofs.YtebfclanamoldaaDoor
open Go.RowKit

theorem next_on (l : Bs) (h : nextB digB l = false) : nextB onB l = nextB lowOnB l := by
  cases l with
  | nil => rfl
  | cons c r =>
    have h' : digB c = false := h
    show onB c = lowOnB c
    unfold onB lowOnB
    rw [h', Bool.or_false]

set_option maxRecDepth 100000 in
set_option maxHeartbeats 4000000 in
theorem refTok_number (s : ByteArray) (hm : s.size ≤ 100000) (a : Nat) (ha : a < s.size) (w : World) (hl : lowB s[a] = false) (h63 : s[a].toNat ≠ 63) (h39 : s[a].toNat ≠ 39) (hd : digB s[a] = true) :
    Calls Tryd.prog 19 #[.string s, .int .i64 a] w fun e w' => e = .returned (rtV (numberT (s.data.toList.drop a)) a (a + ((s.data.toList.drop a).takeWhile digB).length)) ∧ Below w.heap.size w w' := by
  have KL := Lib.hid (fun w => refLow_any s[a] w)
  rw [hl] at KL
  have KD0 := Lib.hid (fun w => refDigit_any s[a] w)
  rw [hd] at KD0
  have KDj : Hid (∀ (j : Nat) (hj : j < s.size) (w : World), Calls Tryd.prog 22 #[.int .u8 (s[j].toNat : Int)] w fun e w' => e = .returned (.bool (digB s[j])) ∧ w = w') := fun j hj w => refDigit_any s[j] w
  have KOj : Hid (∀ (j : Nat) (hj : j < s.size) (w : World), Calls Tryd.prog 29 #[.int .u8 (s[j].toNat : Int)] w fun e w' => e = .returned (.bool (onB s[j])) ∧ w = w') := fun j hj w => refOn_any s[j] w
  obtain ⟨E, hE⟩ : ∃ E, E = a + ((s.data.toList.drop a).takeWhile digB).length := ⟨_, rfl⟩
  have hle := takeWhile_len digB s a
  have hT : (⟨((s.data.toList.drop a).takeWhile digB).toArray⟩ : ByteArray) = s.extract a E := by
    rw [extract_eq, show E - a = ((s.data.toList.drop a).takeWhile digB).length by omega, takeWhile_take]
  have hrest : (s.data.toList.drop a).dropWhile digB = s.data.toList.drop E := by rw [hE, drop_step]
  have KN : Hid (∀ w, Calls Tryd.prog 13 #[.string (s.extract a E)] w fun e w' => e = .returned (.tuple #[.int .i64 (numI ((s.data.toList.drop a).takeWhile digB)), .bool (numB ((s.data.toList.drop a).takeWhile digB))]) ∧ w = w') := fun w => by
    have := refNumber_any (s.extract a E) w (by simp; omega)
    rw [← hT] at this ⊢
    exact this
  have hnx : nextB lowOnB ((s.data.toList.drop a).dropWhile digB) = nextB onB (s.data.toList.drop E) := by rw [← next_on _ (next_dropWhile digB _), hrest]
  have HE := Lib.hid hE
  rw [← hE]
  unfold numberT
  rw [hnx]
  generalize (s.data.toList.drop a).dropWhile digB = rest
  have hlen : a ≤ E ∧ E ≤ s.size := by omega
  have HEK : Hid (a + ((s.data.toList.drop a).takeWhile digB).length = E) := hE.symm
  generalize (s.data.toList.drop a).takeWhile digB = t at KN hT ⊢
  generalize numI t = nv at KN
  have i1 : (a : Int) ≤ (E : Int) := by omega
  have i2 : (E : Int) ≤ (s.size : Int) := by omega
  have i3 : (s.size : Int) ≤ 1000000 := by omega
  have ha' : (a : Int) < (s.size : Int) := by omega
  have q63 : ((s[a].toNat : Int) == 63) = false := by simp; omega
  have q39 : ((s[a].toNat : Int) == 39) = false := by simp; omega
  obtain ⟨z, hz⟩ : ∃ z : ByteArray, z = s.extract a E := ⟨_, rfl⟩
  rw [← hz] at hT KN
  have hz' : s.extract a E = z := hz.symm
  have HR : Hid (∀ b, b = (numB t && !nextB onB (s.data.toList.drop E)) → rtV (tkOf 4 t rest b) a E = if b then .tuple #[.agg #[.int .u8 4, .string z, .int .i64 (a : Int)], .int .i64 (E : Int), .int .i64 0] else .tuple #[.agg #[.int .u8 0, .string ⟨#[]⟩, .int .i64 0], .int .i64 0, .int .i64 201]) := fun b _ => by
    cases b with
    | true => rw [← hT]; rfl
    | false => rfl
  rw [HR.out _ rfl]
  have HM := Lib.hid hm
  have HLE := Lib.hid hlen
  clear HE hE hle hT hrest hnx hl hd h63 h39 hz HR hm hlen
  cases hbt : numB t with
  | false =>
    rw [hbt] at KN
    rw [Bool.false_and, if_neg (by simp)]
    clear hbt
    go_enter Tryd.func19, Tryd.ntmps19
    go_wp2_with (first
      | (go_at_call 25; refine (KL.out _).mono ?_; rintro e w' ⟨rfl, rfl⟩)
      | (go_at_call 22; refine (KD0.out _).mono ?_; rintro e w' ⟨rfl, rfl⟩))
    go_loop [12] (fun i => ∃ j : Nat, j ≤ s.size ∧ i = .int .i64 j ∧ Hid (j + ((s.data.toList.drop j).takeWhile digB).length = E)) (fun i => s.size - (intOf i).toNat)
    case atStart => exact ⟨a, Nat.le_of_lt ha, rfl, HEK⟩
    case round =>
      obtain ⟨j, hj, rfl, HJ⟩ := hrel
      have hmm := HM.out
      by_cases hcont : j < s.size ∧ nextB digB (s.data.toList.drop j) = true
      · obtain ⟨hlt, hp0⟩ := hcont
        have hp : digB s[j] = true := by rw [drop_at s j hlt] at hp0; exact hp0
        have KO := Lib.hid (KDj.out j hlt)
        rw [hp] at KO
        have HJ' : Hid (j + 1 + ((s.data.toList.drop (j + 1)).takeWhile digB).length = E) := by
          have h1 := takeWhile_hit digB s j hlt hp
          have h2 := HJ.out
          unfold Hid
          omega
        clear hp hp0 HJ
        go_wp2_with (go_at_call 22; refine (KO.out _).mono ?_; rintro e w' ⟨rfl, rfl⟩)
        go_round
        case rel => exact ⟨j + 1, by omega, by go_num, HJ'⟩
        case measure => simp [intOf]; omega
      · have hstop : nextB digB (s.data.toList.drop j) = false := by
          by_cases hlt : j < s.size
          · have : ¬ nextB digB (s.data.toList.drop j) = true := fun h => hcont ⟨hlt, h⟩
            simpa using this
          · rw [List.drop_of_length_le (by simp; omega)]
            rfl
        obtain rfl : j = E := by
          have h1 := takeWhile_miss digB s j hstop
          have h2 := HJ.out
          omega
        clear HJ hcont HEK
        by_cases hlt : j < s.size
        · have hdj : digB s[j] = false := by rw [drop_at s j hlt] at hstop; exact hstop
          have KO := Lib.hid (KDj.out j hlt)
          rw [hdj] at KO
          clear hdj hstop
          go_wp2_with (first | (go_at_call 22; refine (KO.out _).mono ?_; rintro e w' ⟨rfl, rfl⟩) | (go_at_call 13; refine (KN.out _).mono ?_; rintro e w' ⟨rfl, rfl⟩))
          exact bodyPost_ret (v := .tuple #[.agg #[.int .u8 0, .string ⟨#[]⟩, .int .i64 0], .int .i64 0, .int .i64 201]) (by simp [results, Tryd.results19, go_sem]) rfl ⟨rfl, below_own _⟩
        · have hjs : j = s.size := by omega
          subst hjs
          clear hstop hlt
          go_wp2_with (go_at_call 13; refine (KN.out _).mono ?_; rintro e w' ⟨rfl, rfl⟩)
          exact bodyPost_ret (v := .tuple #[.agg #[.int .u8 0, .string ⟨#[]⟩, .int .i64 0], .int .i64 0, .int .i64 201]) (by simp [results, Tryd.results19, go_sem]) rfl ⟨rfl, below_own _⟩
  | true =>
    rw [hbt] at KN
    rw [Bool.true_and]
    clear hbt
    cases hnx : nextB onB (s.data.toList.drop E) with
    | true =>
      have HNX := Lib.hid hnx
      rw [if_neg (by simp)]
      clear hnx
      go_enter Tryd.func19, Tryd.ntmps19
      go_wp2_with (first
        | (go_at_call 25; refine (KL.out _).mono ?_; rintro e w' ⟨rfl, rfl⟩)
        | (go_at_call 22; refine (KD0.out _).mono ?_; rintro e w' ⟨rfl, rfl⟩))
      go_loop [12] (fun i => ∃ j : Nat, j ≤ s.size ∧ i = .int .i64 j ∧ Hid (j + ((s.data.toList.drop j).takeWhile digB).length = E)) (fun i => s.size - (intOf i).toNat)
      case atStart => exact ⟨a, Nat.le_of_lt ha, rfl, HEK⟩
      case round =>
        obtain ⟨j, hj, rfl, HJ⟩ := hrel
        have hmm := HM.out
        by_cases hcont : j < s.size ∧ nextB digB (s.data.toList.drop j) = true
        · obtain ⟨hlt, hp0⟩ := hcont
          have hp : digB s[j] = true := by rw [drop_at s j hlt] at hp0; exact hp0
          have KO := Lib.hid (KDj.out j hlt)
          rw [hp] at KO
          have HJ' : Hid (j + 1 + ((s.data.toList.drop (j + 1)).takeWhile digB).length = E) := by
            have h1 := takeWhile_hit digB s j hlt hp
            have h2 := HJ.out
            unfold Hid
            omega
          clear hp hp0 HJ
          go_wp2_with (go_at_call 22; refine (KO.out _).mono ?_; rintro e w' ⟨rfl, rfl⟩)
          go_round
          case rel => exact ⟨j + 1, by omega, by go_num, HJ'⟩
          case measure => simp [intOf]; omega
        · have hstop : nextB digB (s.data.toList.drop j) = false := by
            by_cases hlt : j < s.size
            · have : ¬ nextB digB (s.data.toList.drop j) = true := fun h => hcont ⟨hlt, h⟩
              simpa using this
            · rw [List.drop_of_length_le (by simp; omega)]
              rfl
          obtain rfl : j = E := by
            have h1 := takeWhile_miss digB s j hstop
            have h2 := HJ.out
            omega
          clear HJ hcont HEK
          by_cases hlt : j < s.size
          · have hdj : digB s[j] = false := by rw [drop_at s j hlt] at hstop; exact hstop
            have KO := Lib.hid (KDj.out j hlt)
            rw [hdj] at KO
            have KX := Lib.hid (KOj.out j hlt)
            have hnj : onB s[j] = true := by
              have h := HNX.out
              rw [drop_at s j hlt] at h
              exact h
            rw [hnj] at KX
            clear hnj
            clear hdj hstop
            go_wp2_with (first | (go_at_call 22; refine (KO.out _).mono ?_; rintro e w' ⟨rfl, rfl⟩) | (go_at_call 13; refine (KN.out _).mono ?_; rintro e w' ⟨rfl, rfl⟩) | (go_at_call 29; refine (KX.out _).mono ?_; rintro e w' ⟨rfl, rfl⟩))
            exact bodyPost_ret (v := .tuple #[.agg #[.int .u8 0, .string ⟨#[]⟩, .int .i64 0], .int .i64 0, .int .i64 201]) (by simp [results, Tryd.results19, go_sem]) rfl ⟨rfl, below_own _⟩
          · exfalso
            have h := HNX.out
            rw [List.drop_of_length_le (by simp; omega)] at h
            cases h
    | false =>
      have HNX := Lib.hid hnx
      rw [if_pos (by simp)]
      clear hnx
      go_enter Tryd.func19, Tryd.ntmps19
      go_wp2_with (first
        | (go_at_call 25; refine (KL.out _).mono ?_; rintro e w' ⟨rfl, rfl⟩)
        | (go_at_call 22; refine (KD0.out _).mono ?_; rintro e w' ⟨rfl, rfl⟩))
      go_loop [12] (fun i => ∃ j : Nat, j ≤ s.size ∧ i = .int .i64 j ∧ Hid (j + ((s.data.toList.drop j).takeWhile digB).length = E)) (fun i => s.size - (intOf i).toNat)
      case atStart => exact ⟨a, Nat.le_of_lt ha, rfl, HEK⟩
      case round =>
        obtain ⟨j, hj, rfl, HJ⟩ := hrel
        have hmm := HM.out
        by_cases hcont : j < s.size ∧ nextB digB (s.data.toList.drop j) = true
        · obtain ⟨hlt, hp0⟩ := hcont
          have hp : digB s[j] = true := by rw [drop_at s j hlt] at hp0; exact hp0
          have KO := Lib.hid (KDj.out j hlt)
          rw [hp] at KO
          have HJ' : Hid (j + 1 + ((s.data.toList.drop (j + 1)).takeWhile digB).length = E) := by
            have h1 := takeWhile_hit digB s j hlt hp
            have h2 := HJ.out
            unfold Hid
            omega
          clear hp hp0 HJ
          go_wp2_with (go_at_call 22; refine (KO.out _).mono ?_; rintro e w' ⟨rfl, rfl⟩)
          go_round
          case rel => exact ⟨j + 1, by omega, by go_num, HJ'⟩
          case measure => simp [intOf]; omega
        · have hstop : nextB digB (s.data.toList.drop j) = false := by
            by_cases hlt : j < s.size
            · have : ¬ nextB digB (s.data.toList.drop j) = true := fun h => hcont ⟨hlt, h⟩
              simpa using this
            · rw [List.drop_of_length_le (by simp; omega)]
              rfl
          obtain rfl : j = E := by
            have h1 := takeWhile_miss digB s j hstop
            have h2 := HJ.out
            omega
          clear HJ hcont HEK
          by_cases hlt : j < s.size
          · have hdj : digB s[j] = false := by rw [drop_at s j hlt] at hstop; exact hstop
            have KO := Lib.hid (KDj.out j hlt)
            rw [hdj] at KO
            have KX := Lib.hid (KOj.out j hlt)
            have hnj : onB s[j] = false := by
              have h := HNX.out
              rw [drop_at s j hlt] at h
              exact h
            rw [hnj] at KX
            clear hnj
            clear hdj hstop
            go_wp2_with (first | (go_at_call 22; refine (KO.out _).mono ?_; rintro e w' ⟨rfl, rfl⟩) | (go_at_call 13; refine (KN.out _).mono ?_; rintro e w' ⟨rfl, rfl⟩) | (go_at_call 29; refine (KX.out _).mono ?_; rintro e w' ⟨rfl, rfl⟩))
            exact bodyPost_ret (v := .tuple #[.agg #[.int .u8 4, .string z, .int .i64 (a : Int)], .int .i64 (j : Int), .int .i64 0]) (by simp [results, Tryd.results19, go_sem]) rfl ⟨rfl, below_own _⟩
          · have hjs : j = s.size := by omega
            subst hjs
            clear hstop hlt
            go_wp2_with (go_at_call 13; refine (KN.out _).mono ?_; rintro e w' ⟨rfl, rfl⟩)
            exact bodyPost_ret (v := .tuple #[.agg #[.int .u8 4, .string z, .int .i64 (a : Int)], .int .i64 (s.size : Int), .int .i64 0]) (by simp [results, Tryd.results19, go_sem]) rfl ⟨rfl, below_own _⟩
end Go.Proofs.YtebfclanamoldaaDoor
