/- Are frames more than is gone through. -/
import Derived.Test.YtagjipkoheimjaaGreatDoorPut
namespace Go.Proofs.YtagjipkoheimjaaGreatDoor
open Go.RowKit

/-- Are frames more than is gone through? -/
def greatF : Nat → List FR → Bool
  | n, [] => decide (20000 < n)
  | n, f :: l => if 20000 < f.2.length ∨ 20000 < n then true else greatF (n + 9 + f.2.length) l
theorem greatF_small (l : List FR) (n : Nat) (h : greatF n l = false) : n + lenF l ≤ 20000 ∧ ∀ f, f ∈ l → f.2.length ≤ 20000 := by
  induction l generalizing n with
  | nil =>
    unfold greatF at h
    simp at h
    exact ⟨by show n + 0 ≤ 20000; omega, fun f hf => by cases hf⟩
  | cons f l ih =>
    unfold greatF at h
    split at h
    · cases h
    · rename_i hh
      obtain ⟨i1, i2⟩ := ih _ h
      rw [lenF_cons]
      refine ⟨by omega, fun g hg => ?_⟩
      rcases List.mem_cons.1 hg with rfl | hg
      · omega
      · exact i2 g hg

set_option maxRecDepth 100000 in
set_option maxHeartbeats 1000000 in
theorem great_any (ao : Option Addr) (l : List FR) (c : Nat) (hm : l.length ≤ 9223372036854775807) (w : World) (hs : SlFr w.heap.size w ao l) :
    Calls Tryz.prog 6 #[.slice ao l.length c] w fun e w' => e = .returned (.bool (greatF 0 l)) ∧ w = w' := by
  have HS := Lib.hid hs
  clear hs
  go_enter Tryz.func6, Tryz.ntmps6
  go_wp2_with fail
  go_loop [3, 4] (fun n i => ∃ j m : Nat, j ≤ l.length ∧ i = .int .i64 j ∧ n = .int .i64 m ∧ m ≤ 40009 ∧ greatF 0 l = greatF m (l.drop j)) (fun _ i => l.length - (intOf i).toNat)
  case atStart => exact ⟨0, 0, by omega, rfl, rfl, by omega, rfl⟩
  case round =>
    obtain ⟨j, m, hj, rfl, rfl, hm4, hg⟩ := hrel
    have HG := Lib.hid hg
    clear hg
    by_cases hlt : j < l.length
    · obtain ⟨sb, off, rfl, hsb, hc⟩ := HS.out.at (by omega)
      obtain ⟨a1, c1, k1, k2, -, -⟩ := hc j hlt
      have HD := Lib.hid (List.drop_eq_getElem_cons hlt)
      clear hc
      generalize (l[j]'hlt) = f at k1 k2 HD
      obtain ⟨k, d⟩ := f
      simp only at k1 k2
      by_cases h1 : 20000 < d.length
      · have g1 : decide ((20000 : Int) < (d.length : Int)) = true := by simp; omega
        have g2 : decide (20000 < d.length) = true := by simp; omega
        have HT : Hid (greatF 0 l = true) := by
          unfold Hid
          rw [HG.out, HD.out]
          unfold greatF
          rw [if_pos (Or.inl h1)]
        clear k1
        go_wp2_with fail
        go_ret
        exact ⟨by rw [HT.out]; rfl, rfl⟩
      · have g1 : decide ((20000 : Int) < (d.length : Int)) = false := by simp; omega
        have g2 : decide (20000 < d.length) = false := by simp; omega
        by_cases h2 : 20000 < m
        · have g3 : decide ((20000 : Int) < (m : Int)) = true := by simp; omega
          have g4 : decide (20000 < m) = true := by simp; omega
          have HT : Hid (greatF 0 l = true) := by
            unfold Hid
            rw [HG.out, HD.out]
            unfold greatF
            rw [if_pos (Or.inr h2)]
          clear k1
          go_wp2_with fail
          go_ret
          exact ⟨by rw [HT.out]; rfl, rfl⟩
        · have g3 : decide ((20000 : Int) < (m : Int)) = false := by simp; omega
          have g4 : decide (20000 < m) = false := by simp; omega
          have HT : Hid (greatF 0 l = greatF (m + 9 + d.length) (l.drop (j + 1))) := by
            unfold Hid
            rw [HG.out, HD.out]
            conv => lhs; unfold greatF
            rw [if_neg (by simp only; omega)]
          clear k1
          go_wp2_with fail
          clear g1 g2 g3 g4
          go_round
          case rel => exact ⟨j + 1, m + 9 + d.length, by omega, by go_num, by go_num, by omega, HT.out⟩
          case measure => simp [intOf]; omega
    · obtain rfl : j = l.length := by omega
      have HT : Hid (greatF 0 l = decide (20000 < m)) := by
        unfold Hid
        rw [HG.out, List.drop_length]
        rfl
      by_cases h2 : 20000 < m
      · have g3 : decide ((20000 : Int) < (m : Int)) = true := by simp; omega
        have g4 : decide (20000 < m) = true := by simp; omega
        rw [g4] at HT
        go_wp2_with fail
        go_ret
        exact ⟨by rw [HT.out]; rfl, rfl⟩
      · have g3 : decide ((20000 : Int) < (m : Int)) = false := by simp; omega
        have g4 : decide (20000 < m) = false := by simp; omega
        rw [g4] at HT
        go_wp2_with fail
        go_ret
        exact ⟨by rw [HT.out]; rfl, rfl⟩
end Go.Proofs.YtagjipkoheimjaaGreatDoor
