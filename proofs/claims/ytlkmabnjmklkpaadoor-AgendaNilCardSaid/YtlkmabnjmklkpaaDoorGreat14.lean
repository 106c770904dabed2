/- Are matches more than is gone through. -/
import Derived.Test.YtlkmabnjmklkpaaDoorSal14
namespace Go.Proofs.YtlkmabnjmklkpaaDoor
open Go.RowKit

def lenT (l : List TK) : Nat := (l.map fun t => t.2.length).sum
theorem lenT_take (l : List TK) (j : Nat) (h : j < l.length) : lenT (l.take (j + 1)) = lenT (l.take j) + (l[j]).2.length := by
  unfold lenT
  rw [List.take_add_one, List.getElem?_eq_getElem h, List.map_append, List.sum_append]
  simp
theorem lenT_le (l : List TK) (j : Nat) : lenT (l.take j) ≤ lenT l := by
  have : l = l.take j ++ l.drop j := (List.take_append_drop j l).symm
  conv => rhs; rw [this]
  unfold lenT
  rw [List.map_append, List.sum_append]
  omega
theorem lenT_mem {l : List TK} {t : TK} (h : t ∈ l) : t.2.length ≤ lenT l := by
  obtain ⟨j, hj, rfl⟩ := List.getElem_of_mem h
  have h1 := lenT_take l j hj
  have h2 := lenT_le l (j + 1)
  omega
def greatB (l : List TK) : Bool := decide (400 < l.length + lenT l)

set_option maxRecDepth 100000 in
set_option maxHeartbeats 2000000 in
theorem great_any (l : List TK) (ao : Option Addr) (c : Nat) (hm : l.length ≤ 281474976710656) (hk : ∀ t, t ∈ l → t.2.length ≤ 281474976710656) (w : World) (h : SlTk w.heap.size w ao l) :
    Calls Tryd.prog 11 #[.slice ao l.length c] w fun e w' => e = .returned (.bool (greatB l)) ∧ w = w' := by
  have HS := Lib.hid h
  have HK := Lib.hid hk
  clear h hk
  go_enter Tryd.func11, Tryd.ntmps11
  go_wp2_with fail
  go_loop [3, 4] (fun n i => ∃ j m : Nat, j ≤ l.length ∧ i = .int .i64 j ∧ n = .int .i64 m ∧ m = l.length + lenT (l.take j) ∧ m ≤ 281474976710656 + 281474976710656) (fun _ i => l.length - (intOf i).toNat)
  case atStart => exact ⟨0, l.length, by omega, rfl, rfl, by simp [lenT], by omega⟩
  case round =>
    obtain ⟨j, m, hj, rfl, rfl, hmj, hmx⟩ := hrel
    have HMj := Lib.hid hmj
    clear hmj
    by_cases hlt : j < l.length
    · have hji : decide ((j : Int) < (l.length : Int)) = true := by simp; omega
      have hji' : decide (j < l.length) = true := by simp; omega
      by_cases h4 : m ≤ 400
      · have h5 : decide ((m : Int) ≤ 400) = true := by simp; omega
        have h6 : decide (m ≤ 400) = true := by simp; omega
        obtain ⟨sb, off, rfl, hsb, hc⟩ := HS.out.at (by omega)
        obtain ⟨a1, c1, k1, k2, -, -⟩ := hc j hlt
        have hkl := HK.out _ (List.getElem_mem hlt)
        have HN := Lib.hid (lenT_take l j hlt)
        have hjl : (j : Int) < (l.length : Int) := by omega
        clear hc k1
        generalize (l[j]'hlt) = f at k2 HN hkl
        obtain ⟨r, d⟩ := f
        simp only at k2 hkl
        have HNx : Hid (m + d.length = l.length + lenT (l.take (j + 1))) := by
          have h1 := HMj.out
          have h2 := HN.out
          simp only at h2
          rw [Hid]
          omega
        clear HN HMj
        go_wp2_with fail
        go_round
        case rel => exact ⟨j + 1, m + d.length, by omega, by go_num, by go_num, HNx.out, by omega⟩
        case measure => simp [intOf]; omega
      · have h5 : decide ((m : Int) ≤ 400) = false := by simp; omega
        have h6 : decide (m ≤ 400) = false := by simp; omega
        have h7 : decide ((400 : Int) < (m : Int)) = true := by simp; omega
        have h8 : decide (400 < m) = true := by simp; omega
        have HE : Hid (greatB l = true) := by
          have h1 := HMj.out
          have h2 := lenT_le l j
          rw [Hid, greatB]
          exact decide_eq_true (by omega)
        clear HMj
        go_wp2_with fail
        go_ret
        exact ⟨by rw [HE.out]; rfl, rfl⟩
    · obtain rfl : j = l.length := by omega
      have hji : decide ((l.length : Int) < (l.length : Int)) = false := by simp
      by_cases h4 : m ≤ 400
      · have h7 : decide ((400 : Int) < (m : Int)) = false := by simp; omega
        have h8 : decide (400 < m) = false := by simp; omega
        have HE : Hid (greatB l = false) := by
          have h1 := HMj.out
          rw [List.take_length] at h1
          rw [Hid, greatB]
          exact decide_eq_false (by omega)
        clear HMj
        go_wp2_with fail
        go_ret
        exact ⟨by rw [HE.out]; rfl, rfl⟩
      · have h7 : decide ((400 : Int) < (m : Int)) = true := by simp; omega
        have h8 : decide (400 < m) = true := by simp; omega
        have HE : Hid (greatB l = true) := by
          have h1 := HMj.out
          rw [List.take_length] at h1
          rw [Hid, greatB]
          exact decide_eq_true (by omega)
        clear HMj
        go_wp2_with fail
        go_ret
        exact ⟨by rw [HE.out]; rfl, rfl⟩
end Go.Proofs.YtlkmabnjmklkpaaDoor
