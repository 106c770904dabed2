/- The document's own look at a frame: it is put again, and compared. The plain part. -/
import Derived.Test.YtagjipkoheimjaaGreatDoorFrames
namespace Go.Proofs.YtagjipkoheimjaaGreatDoor

theorem data_length (b : List UInt8) (h : 9 + num4 b ≤ b.length) : (dataB b).length = num4 b := by
  unfold dataB
  rw [List.length_take, List.length_drop]
  omega
theorem octI_kind (b : List UInt8) : octI ((kindB b).toNat : Int) = kindB b := by
  unfold octI
  rw [Int.toNat_natCast]
  apply UInt8.toNat_inj.1
  rw [UInt8.toNat_ofNat']
  have := (kindB b).toNat_lt
  omega
theorem put_again (b : List UInt8) (h1 : num4 b ≤ 1048576) (h2 : 9 + num4 b ≤ b.length) : putF [(((kindB b).toNat : Int), dataB b)] = (frB (((kindB b).toNat : Int), dataB b), 0) := by
  have hk := (kindB b).toNat_lt
  rw [putF_ok _ (fun f hf => by
    obtain rfl : f = (((kindB b).toNat : Int), dataB b) := by simpa using hf
    exact ok_fault ⟨by simp only; omega, by simp only; omega, by simp only; rw [data_length b h2]; exact h1⟩)]
  simp
theorem again_iff (b : List UInt8) (h2 : 9 + num4 b ≤ b.length) : frB (((kindB b).toNat : Int), dataB b) = b.take (9 + num4 b) ↔ num4 (b.drop 5) = sumN (kindB b :: dataB b) := by
  have e1 : frB (((kindB b).toNat : Int), dataB b) = b.take 4 ++ (kindB b :: (be4 (sumN (kindB b :: dataB b)) ++ dataB b)) := by
    unfold frB sumF
    simp only
    rw [data_length b h2, be4_num4 b (by omega), octI_kind]
  have h5 : 4 ≤ (b.drop 5).length := by rw [List.length_drop]; omega
  rw [e1, ← take_parts b (num4 b) h2]
  show b.take 4 ++ (kindB b :: (be4 (sumN (kindB b :: dataB b)) ++ dataB b)) = b.take 4 ++ (kindB b :: ((b.drop 5).take 4 ++ dataB b)) ↔ _
  constructor
  · intro h
    have h3 := List.append_cancel_left h
    have h4 := (List.cons.inj h3).2
    have h6 := List.append_cancel_right h4
    have h7 : b.drop 5 = be4 (sumN (kindB b :: dataB b)) ++ (b.drop 5).drop 4 := by rw [h6, List.take_append_drop]
    rw [h7]
    exact num4_be4 _ (sumN_lt _) _
  · intro h
    rw [← h, be4_num4 _ h5]
/-- The document's way to tell a frame, and what it tells. -/
theorem ref_first (b : List UInt8) (h1 : num4 b ≤ 1048576) (h2 : 9 + num4 b ≤ b.length) : firstF b = if frB (((kindB b).toNat : Int), dataB b) = b.take (9 + num4 b) then some (((kindB b).toNat : Int), dataB b) else none := by
  unfold firstF
  by_cases h : num4 (b.drop 5) = sumN (kindB b :: dataB b)
  · rw [if_pos ⟨h1, h⟩, if_pos ((again_iff b h2).2 h)]
  · rw [if_neg (fun q => h q.2), if_neg (fun q => h ((again_iff b h2).1 q))]
end Go.Proofs.YtagjipkoheimjaaGreatDoor
