/- What FrameNumbers leans on: frames as long as may be, and one byte longer. -/
import Derived.Test.YtagjipkoheimjaaGreatDoorNumsP
namespace Go.Proofs.YtagjipkoheimjaaGreatDoor
open Go.RowKit

/-- Noughts. -/
def zeros (n : Nat) : List UInt8 := List.replicate n 0
theorem zeros_len (n : Nat) : (zeros n).length = n := List.length_replicate
def l2 : List FR := [(1, zeros 1048576), (2, [])]
def D2 : List UInt8 := l2.flatMap frB
theorem D2_len : D2.length = 1048594 := by
  unfold D2 l2
  simp only [List.flatMap_cons, List.flatMap_nil, List.append_nil, List.length_append, frB_length, zeros_len]
  rfl
theorem l2_ok : OkFs l2 := ok_small _ (fun f hf => by
  simp only [l2, List.mem_cons, List.not_mem_nil, or_false] at hf
  rcases hf with rfl | rfl
  · simp only [zeros_len]
    omega
  · simp)
theorem put2 (W : World) (b : Nat) (h1 : SlG W.heap.size W (some ⟨b, 0, none⟩) (bcells (zeros 1048576))) :
    Calls Tryz.prog 9 #[.slice (some ⟨W.heap.size, 0, none⟩) 2 2] (W.alloc (.cells #[.int .i64 1, .slice (some ⟨b, 0, none⟩) 1048576 1048576, .int .i64 2, .slice none 0 0] 44))
      (fun e w' => ∃ ao c, e = .returned (.tuple #[.slice ao 1048594 c, .int .i64 0]) ∧ w'.ownsRow W.heap.size 5 1 (.slice ao 1048594 c) 1048594 (bcells D2) ∧ Below W.heap.size W w') := by
  have hs := slFr_made W [((1, zeros 1048576), .slice (some ⟨b, 0, none⟩) 1048576 1048576), ((2, []), .slice none 0 0)] (fun p hp => by
    simp only [List.mem_cons, List.not_mem_nil, or_false] at hp
    rcases hp with rfl | rfl
    · exact ⟨_, 1048576, by simp only [zeros_len], h1, fun h => by cases h⟩
    · exact slD_nil _ _ _)
  have hl : (l2.flatMap frB).length = 1048594 := D2_len
  have h := put_any (some ⟨W.heap.size, 0, none⟩) l2 2 (by simp [l2]) _ hs (by rw [hl]; omega)
  rw [putF_ok l2 l2_ok] at h
  refine h.mono fun e w' ⟨ao, c, h1, h2, h3⟩ => ?_
  simp only [hl] at h1 h2
  exact ⟨ao, c, h1, owns_mono h2 (below_own (w := W) _).size, (below_own (w := W) _).trans (h3.mono (below_own (w := W) _).size)⟩
theorem scan2 {W : World} {base : Nat} {ao : Option Addr} {c : Nat} (h : W.ownsRow base 5 1 (.slice ao 1048594 c) 1048594 (bcells D2)) :
    Calls Tryz.prog 16 #[.slice ao 1048594 c] W (fun e w' => ∃ a c', e = .returned (.tuple #[.slice a 2 c', .int .i64 1048594, .bool false]) ∧ Below W.heap.size W w') := by
  have hl := D2_len
  rw [← hl] at h ⊢
  obtain ⟨k1, k2, k3⟩ := owns_cap h
  have hc := scan_any ao D2 c (by rw [hl]; omega) k1 (by unfold maxLen at k2; omega) k3 W (owns_slB h)
  have hp : scanP D2 = (l2, 1048594, false) := by
    have := scan_put l2 l2_ok []
    rw [List.append_nil, scan_nil] at this
    unfold D2
    rw [this, show (l2.flatMap frB).length = 1048594 from hl]
    simp
  rw [hp] at hc
  refine hc.mono fun e w' ⟨a, c', ps, h1, _, _, h4⟩ => ⟨a, c', ?_, h4⟩
  rw [h1]
  rfl
theorem put3b (W : World) (b : Nat) (h1 : SlG W.heap.size W (some ⟨b, 0, none⟩) (bcells (zeros 1048577))) :
    Calls Tryz.prog 9 #[.slice (some ⟨W.heap.size, 0, none⟩) 3 3] (W.alloc (.cells #[.int .i64 0, .slice none 0 0, .int .i64 1, .slice (some ⟨b, 0, none⟩) 1048577 1048577, .int .i64 (-1), .slice none 0 0] 44))
      (fun e w' => ∃ ao c, e = .returned (.tuple #[.slice ao 0 c, .int .i64 3]) ∧ Below W.heap.size W w') := by
  have hs := slFr_made W [((0, []), .slice none 0 0), ((1, zeros 1048577), .slice (some ⟨b, 0, none⟩) 1048577 1048577), ((-1, []), .slice none 0 0)] (fun p hp => by
    simp only [List.mem_cons, List.not_mem_nil, or_false] at hp
    rcases hp with rfl | rfl | rfl
    · exact slD_nil _ _ _
    · exact ⟨_, 1048577, by simp only [zeros_len], h1, fun h => by cases h⟩
    · exact slD_nil _ _ _)
  have hf : faultF (1, zeros 1048577) = 3 := by
    unfold faultF
    rw [if_neg (by simp), if_pos (by simp only [zeros_len]; omega)]
  have h := put_any (some ⟨W.heap.size, 0, none⟩) [(0, []), (1, zeros 1048577), (-1, [])] 3 (by simp) _ hs (by
    simp only [List.flatMap_cons, List.flatMap_nil, List.append_nil, List.length_append, frB_length, zeros_len, List.length_nil]
    omega)
  have hp : putF [(0, []), (1, zeros 1048577), (-1, [])] = ([], 3) := (putF_bad [(0, []), (1, zeros 1048577), (-1, [])] 1 (by simp) (ok_small _ (fun f hf => by simp at hf; subst hf; simp)) (by show faultF (1, zeros 1048577) ≠ 0; rw [hf]; decide)).trans (by show (([] : List UInt8), faultF (1, zeros 1048577)) = ([], 3); rw [hf])
  clear hf
  generalize (zeros 1048577) = Z at h hp
  rw [hp] at h
  refine h.mono fun e w' ⟨ao, c, h1, h2, h3⟩ => ⟨ao, c, ?_, (below_own (w := W) _).trans (h3.mono (below_own (w := W) _).size)⟩
  rw [h1]
  rfl
theorem put2b (W : World) (b : Nat) (h1 : SlG W.heap.size W (some ⟨b, 0, none⟩) (bcells (zeros 1048577))) :
    Calls Tryz.prog 9 #[.slice (some ⟨W.heap.size, 0, none⟩) 2 2] (W.alloc (.cells #[.int .i64 (-1), .slice none 0 0, .int .i64 1, .slice (some ⟨b, 0, none⟩) 1048577 1048577] 44))
      (fun e w' => ∃ ao c, e = .returned (.tuple #[.slice ao 0 c, .int .i64 2]) ∧ Below W.heap.size W w') := by
  have hs := slFr_made W [((-1, []), .slice none 0 0), ((1, zeros 1048577), .slice (some ⟨b, 0, none⟩) 1048577 1048577)] (fun p hp => by
    simp only [List.mem_cons, List.not_mem_nil, or_false] at hp
    rcases hp with rfl | rfl
    · exact slD_nil _ _ _
    · exact ⟨_, 1048577, by simp only [zeros_len], h1, fun h => by cases h⟩)
  have hf : faultF (-1, []) = 2 := by
    unfold faultF
    rw [if_pos (by simp)]
  have h := put_any (some ⟨W.heap.size, 0, none⟩) [(-1, []), (1, zeros 1048577)] 2 (by simp) _ hs (by
    simp only [List.flatMap_cons, List.flatMap_nil, List.append_nil, List.length_append, frB_length, zeros_len, List.length_nil]
    omega)
  rw [putF_bad [(-1, []), (1, zeros 1048577)] 0 (by simp) (fun f hf => by simp at hf) (by show faultF (-1, []) ≠ 0; rw [hf]; decide)] at h
  refine h.mono fun e w' ⟨ao, c, h1, h2, h3⟩ => ⟨ao, c, ?_, (below_own (w := W) _).trans (h3.mono (below_own (w := W) _).size)⟩
  rw [h1]
  show Ending.returned (.tuple #[.slice ao 0 c, .int .i64 ((faultF (-1, []) : Nat) : Int)]) = _
  rw [hf]
  rfl
theorem putsNil (W : World) : Calls Tryz.prog 3 #[.slice none 0 0] W (YesP W) :=
  framePuts_any none [] 0 W ⟨[], rfl, (fun h => absurd rfl h), fun p hp => by cases hp⟩ (by simp)
end Go.Proofs.YtagjipkoheimjaaGreatDoor
