/- A number brought into a range; are frames more than is gone through. -/
import Derived.Test.YtlkoibincacknaaDoorPut
namespace Go.Proofs.YtlkoibincacknaaDoor
open Go.RowKit

/-- A number from 0 to n - 1. -/
def pickI (x : Int) (n : Nat) : Nat := (x % (n : Int)).toNat
theorem pickI_lt (x : Int) (n : Nat) (h : 0 < n) : pickI x n < n := by
  have h1 := Int.emod_nonneg x (b := (n : Int)) (by omega)
  have h2 := Int.emod_lt_of_pos x (b := (n : Int)) (by omega)
  unfold pickI
  omega

set_option maxRecDepth 100000 in
theorem pick_any (x : Int) (n : Nat) (hn : 0 < n) (hn2 : n ≤ 9223372036854775807) (w : World) :
    Calls Tryd.prog 13 #[.int .i64 x, .int .i64 n] w fun e w' => e = .returned (.int .i64 ((pickI x n : Nat) : Int)) ∧ w = w' := by
  have hp : ((pickI x n : Nat) : Int) = x % (n : Int) := by
    unfold pickI
    have := Int.emod_nonneg x (b := (n : Int)) (by omega)
    omega
  have e0 := Int.emod_nonneg x (b := (n : Int)) (by omega)
  have e1 := Int.emod_lt_of_pos x (b := (n : Int)) (by omega)
  have hd : decide ((n : Int) < 1) = false := by simp; omega
  have hd' : decide (n < 1) = false := by simp; omega
  have hnz : ((n : Int) == 0) = false := by simp; omega
  have HP := Lib.hid hp
  clear hp
  by_cases hP : 0 ≤ x ∨ (n : Int) ∣ x
  · have ht : x.tmod (n : Int) = x % (n : Int) := by rw [Int.tmod_eq_emod, if_pos hP]; simp
    generalize x % (n : Int) = r at HP e0 e1 ht
    have hw : IntKind.i64.wrap r = r := IntWalk.i64_in _ (by omega)
    have hx' : decide (r < 0) = false := by simp; omega
    clear hP
    go_enter Tryd.func13, Tryd.ntmps13
    go_wp2_with fail
    go_ret
    exact ⟨by rw [HP.out]; rfl, rfl⟩
  · have ht : x.tmod (n : Int) = x % (n : Int) - (n : Int) := by rw [Int.tmod_eq_emod, if_neg hP]; simp
    generalize x % (n : Int) = r at HP e0 e1 ht
    have hw : IntKind.i64.wrap (r - (n : Int)) = r - (n : Int) := IntWalk.i64_in _ (by omega)
    have hx' : decide (r - (n : Int) < 0) = true := by simp; omega
    clear hP
    go_enter Tryd.func13, Tryd.ntmps13
    go_wp2_with fail
    go_ret
    exact ⟨by rw [HP.out]; first | rfl | exact congrArg (fun z => Ending.returned (.int .i64 z)) (by omega), rfl⟩

/-- Are frames more than is gone through? -/
def greatF : Nat → List FR → Bool
  | n, [] => decide (20000 < n)
  | n, f :: l => if 20000 < f.2.length ∨ 20000 < n then true else greatF (n + 9 + f.2.length) l
theorem greatF_small (l : List FR) (n : Nat) (h : greatF n l = false) : n + lenF l ≤ 20000 ∧ ∀ f, f ∈ l → f.2.length ≤ 20000 := by
  induction l generalizing n with
  | nil =>
    unfold greatF at h
    simp at h
    exact ⟨by show n + 0 ≤ 20000; omega, fun f hf => by cases hf⟩
  | cons f l ih =>
    unfold greatF at h
    split at h
    · cases h
    · rename_i hh
      obtain ⟨i1, i2⟩ := ih _ h
      rw [lenF_cons]
      refine ⟨by omega, fun g hg => ?_⟩
      rcases List.mem_cons.1 hg with rfl | hg
      · omega
      · exact i2 g hg

set_option maxRecDepth 100000 in
set_option maxHeartbeats 1000000 in
theorem great_any (ao : Option Addr) (l : List FR) (c : Nat) (hm : l.length ≤ 9223372036854775807) (w : World) (hs : SlFr w.heap.size w ao l) :
    Calls Tryd.prog 11 #[.slice ao l.length c] w fun e w' => e = .returned (.bool (greatF 0 l)) ∧ w = w' := by
  have HS := Lib.hid hs
  clear hs
  go_enter Tryd.func11, Tryd.ntmps11
  go_wp2_with fail
  go_loop [3, 4] (fun n i => ∃ j m : Nat, j ≤ l.length ∧ i = .int .i64 j ∧ n = .int .i64 m ∧ m ≤ 40009 ∧ greatF 0 l = greatF m (l.drop j)) (fun _ i => l.length - (intOf i).toNat)
  case atStart => exact ⟨0, 0, by omega, rfl, rfl, by omega, rfl⟩
  case round =>
    obtain ⟨j, m, hj, rfl, rfl, hm4, hg⟩ := hrel
    have HG := Lib.hid hg
    clear hg
    by_cases hlt : j < l.length
    · obtain ⟨sb, off, rfl, hsb, hc⟩ := HS.out.at (by omega)
      obtain ⟨a1, c1, k1, k2, -, -⟩ := hc j hlt
      have HD := Lib.hid (List.drop_eq_getElem_cons hlt)
      clear hc
      generalize (l[j]'hlt) = f at k1 k2 HD
      obtain ⟨k, d⟩ := f
      simp only at k1 k2
      by_cases h1 : 20000 < d.length
      · have g1 : decide ((20000 : Int) < (d.length : Int)) = true := by simp; omega
        have g2 : decide (20000 < d.length) = true := by simp; omega
        have HT : Hid (greatF 0 l = true) := by
          unfold Hid
          rw [HG.out, HD.out]
          unfold greatF
          rw [if_pos (Or.inl h1)]
        clear k1
        go_wp2_with fail
        go_ret
        exact ⟨by rw [HT.out]; rfl, rfl⟩
      · have g1 : decide ((20000 : Int) < (d.length : Int)) = false := by simp; omega
        have g2 : decide (20000 < d.length) = false := by simp; omega
        by_cases h2 : 20000 < m
        · have g3 : decide ((20000 : Int) < (m : Int)) = true := by simp; omega
          have g4 : decide (20000 < m) = true := by simp; omega
          have HT : Hid (greatF 0 l = true) := by
            unfold Hid
            rw [HG.out, HD.out]
            unfold greatF
            rw [if_pos (Or.inr h2)]
          clear k1
          go_wp2_with fail
          go_ret
          exact ⟨by rw [HT.out]; rfl, rfl⟩
        · have g3 : decide ((20000 : Int) < (m : Int)) = false := by simp; omega
          have g4 : decide (20000 < m) = false := by simp; omega
          have HT : Hid (greatF 0 l = greatF (m + 9 + d.length) (l.drop (j + 1))) := by
            unfold Hid
            rw [HG.out, HD.out]
            conv => lhs; unfold greatF
            rw [if_neg (by simp only; omega)]
          clear k1
          go_wp2_with fail
          clear g1 g2 g3 g4
          go_round
          case rel => exact ⟨j + 1, m + 9 + d.length, by omega, by go_num, by go_num, by omega, HT.out⟩
          case measure => simp [intOf]; omega
    · obtain rfl : j = l.length := by omega
      have HT : Hid (greatF 0 l = decide (20000 < m)) := by
        unfold Hid
        rw [HG.out, List.drop_length]
        rfl
      by_cases h2 : 20000 < m
      · have g3 : decide ((20000 : Int) < (m : Int)) = true := by simp; omega
        have g4 : decide (20000 < m) = true := by simp; omega
        rw [g4] at HT
        go_wp2_with fail
        go_ret
        exact ⟨by rw [HT.out]; rfl, rfl⟩
      · have g3 : decide ((20000 : Int) < (m : Int)) = false := by simp; omega
        have g4 : decide (20000 < m) = false := by simp; omega
        rw [g4] at HT
        go_wp2_with fail
        go_ret
        exact ⟨by rw [HT.out]; rfl, rfl⟩
end Go.Proofs.YtlkoibincacknaaDoor
