/- Bytes that were lent are written over. -/
import Derived.Test.YtagjipkoheimjaaGreatDoorLentB
namespace Go.Proofs.YtagjipkoheimjaaGreatDoor
open Go.RowKit

set_option maxRecDepth 100000 in
set_option maxHeartbeats 1000000 in
theorem overB_any (g : Nat) (l : List UInt8) (w : World) (hl : l.length ≤ 90000) (hg : LentAt w g l) :
    Calls Tryz.prog 18 #[.slice (some ⟨g, 0, none⟩) l.length (l.length + 12)] w fun e w' => e = .returned (.tuple #[]) ∧ w.grownBy w' (some g) := by
  obtain ⟨cur, h1, h2⟩ := hg
  have hcs : cur.size = l.length + 12 := by rw [← Array.length_toList, h2, List.length_append, bcells_length, marksB_length]
  have H1 := Lib.hid h1
  have H2 := Lib.hid hcs
  clear h1 h2 hcs
  go_enter Tryz.func18, Tryz.ntmps18
  go_wp2
  go_loopw [3] (fun i wr => ∃ (k : Nat) (cs : Array Value), k ≤ l.length + 12 ∧ i = .int .i64 k ∧ wr.heap[g]? = some (.cells cs 5 (0, 0)) ∧ cs.size = l.length + 12 ∧ w.grownBy wr (some g)) (fun i _ => l.length + 12 - (intOf i).toNat)
  case atStart => exact ⟨0, cur, by omega, rfl, H1.out, H2.out, World.grownBy.refl _ _⟩
  case round =>
    obtain ⟨k, cs, hk, rfl, hh, hs, hb⟩ := hrel
    have HBr := Lib.hid hb
    have HH := Lib.hid hh
    have HS := Lib.hid hs
    clear hb hh hs H1 H2
    by_cases hlt : k < l.length + 12
    · have hlti : (k : Int) < (l.length : Int) + 12 := by omega
      have ho : wr.cell? ⟨g, k, none⟩ = some (cs[k]'(by rw [HS.out]; exact hlt)) := by rw [Lib.cell_of_heap HH.out, Array.getElem?_eq_getElem (by rw [HS.out]; exact hlt)]
      have hf := Lib.frozen_of_heap HH.out k
      generalize (cs[k]'(by rw [HS.out]; exact hlt)) = x at ho
      have C := Lib.hid (fun W => markByte_any 2 k (by omega) (by omega) (by omega) (by omega) W)
      generalize mbI 2 (k : Int) = y at C
      go_wp2_with (go_at_call 36; refine (C.out _).mono ?_; rintro e w' ⟨rfl, rfl⟩)
      have hn := Lib.hid (Lib.heap_setCell_same (i := k) HH.out (.int .u8 y))
      have hgn := Lib.hid (Lib.grownBy_setB HBr.out k (.int .u8 y))
      go_roundw
      case rel => exact ⟨k + 1, cs.setIfInBounds k (.int .u8 y), by omega, by go_num, hn.out, by rw [Array.size_setIfInBounds]; exact HS.out, hgn.out⟩
      case measure => simp [intOf]; omega
    · have hltz : ¬ (k : Int) < (l.length : Int) + 12 := by omega
      go_wp2
      first | go_end0 | go_ret
      exact ⟨rfl, HBr.out⟩
end Go.Proofs.YtagjipkoheimjaaGreatDoor
