/- Rows of ints: whether they are the same; lent: a copy with marks behind it; kept; written over. -/
import Derived.Test.YtlkmabnjmklkpaaDoorBase14
namespace Go.Proofs.YtlkmabnjmklkpaaDoor
open Go.RowKit

def YesG (w : World) (e : Ending) (w' : World) : Prop := e = .returned (.bool true) ∧ Gr w w'
/-- The call answered this; only draws and new blocks. -/
def SaysG (b : Bool) (w : World) (e : Ending) (w' : World) : Prop := e = .returned (.bool b) ∧ Gr w w'

set_option maxRecDepth 100000 in
set_option maxHeartbeats 1000000 in
theorem sameI_any (l1 l2 : List Int) (ao1 ao2 : Option Addr) (c1 c2 : Nat) (hm1 : l1.length ≤ 9223372036854775807) (hm2 : l2.length ≤ 9223372036854775807) (w : World) (h1 : SlG w.heap.size w ao1 (icells l1)) (h2 : SlG w.heap.size w ao2 (icells l2)) :
    Calls Tryd.prog 22 #[.slice ao1 l1.length c1, .slice ao2 l2.length c2] w (SaysG (decide (l1 = l2)) w) := by
  have HA := Lib.hid h1
  have HB := Lib.hid h2
  clear h1 h2
  have mixed : Tryd.prog.follows .mixedOrders = true := by kernel_rfl
  by_cases hll : l1.length = l2.length
  · go_enter Tryd.func22, Tryd.ntmps22
    go_wp2_with fail
    go_loopw [5] (fun i wr => ∃ j : Nat, j ≤ l1.length ∧ i = .int .i64 j ∧ Hid (l1.take j = l2.take j) ∧ Gr w wr) (fun i _ => l1.length - (intOf i).toNat)
    case atStart => exact ⟨0, by omega, rfl, rfl, Gr.refl _⟩
    case round =>
      obtain ⟨j, hj, rfl, HT, hfr⟩ := hrel
      have HFr := Lib.hid hfr
      clear hfr
      by_cases hlt : j < l1.length
      · have hlt2 : j < l2.length := by omega
        obtain ⟨sb, off, rfl, hsb, hc⟩ := (HA.out.below HFr.out.below).cellI (by omega)
        obtain ⟨sb2, off2, rfl, hsb2, hc2⟩ := (HB.out.below HFr.out.below).cellI (by omega)
        have d1 := hc j hlt
        have d2 := hc2 j hlt2
        have HN1 : Hid (l1.take (j + 1) = l1.take j ++ [l1[j]]) := by rw [Hid, List.take_add_one, List.getElem?_eq_getElem hlt]; rfl
        have HN2 : Hid (l2.take (j + 1) = l2.take j ++ [l2[j]]) := by rw [Hid, List.take_add_one, List.getElem?_eq_getElem hlt2]; rfl
        have HNe : Hid (l1[j] ≠ l2[j] → l1 ≠ l2) := fun h e => h (by subst e; rfl)
        clear hc hc2
        generalize l1[j] = z1 at d1 HN1 HNe
        generalize l2[j] = z2 at d2 HN2 HNe
        by_cases hz : z1 = z2
        · subst hz
          go_wp2_with fail
          go_quiet (fail)
          go_wp2
          go_roundw
          case rel => exact ⟨j + 1, by omega, by go_num, by rw [Hid, HN1.out, HN2.out, HT.out], HFr.out.drewN _⟩
          case measure => simp [intOf]; omega
        · have hd : (z1 == z2) = false := by simpa using hz
          go_wp2_with fail
          go_quiet (fail)
          go_wp2
          go_ret
          exact ⟨by rw [decide_eq_false (HNe.out hz)]; rfl, HFr.out.drewN _⟩
      · obtain rfl : j = l1.length := by omega
        have he : l1 = l2 := by
          have := HT.out
          rw [List.take_length, hll, List.take_length] at this
          exact this
        have HE := Lib.hid he
        clear he
        go_wp2
        go_ret
        exact ⟨by rw [decide_eq_true HE.out]; rfl, HFr.out⟩
  · have HE : Hid (l1 ≠ l2) := fun e => hll (by rw [e])
    have hd : ((l1.length : Int) == (l2.length : Int)) = false := by simp; omega
    have hd' : (l1.length == l2.length) = false := by simp; omega
    go_enter Tryd.func22, Tryd.ntmps22
    go_wp2
    go_ret
    exact ⟨by rw [decide_eq_false HE.out]; rfl, Gr.refl _⟩

/-- The mark of a place in a list of numbers. -/
def mbI (k i : Int) : Int := 1000003 * (k + 7) + i
def marksI (n : Nat) : List Value := (List.range n).map fun (i : Nat) => .int .i64 (mbI 1 (i : Int))
theorem marksI_succ (n : Nat) : marksI (n + 1) = marksI n ++ [.int .i64 (mbI 1 (n : Int))] := by
  unfold marksI; rw [List.range_succ, List.map_append]; rfl
theorem marksI_length (n : Nat) : (marksI n).length = n := by unfold marksI; simp
theorem marksI_get (n i : Nat) (h : i < n) : (marksI n)[i]? = some (.int .i64 (mbI 1 (i : Int))) := by
  unfold marksI
  rw [List.getElem?_map, List.getElem?_range h]
  rfl

/-- A row that was lent at block g: ints, and twelve marks. -/
def LentAt (w : World) (g : Nat) (l : List Int) : Prop := ∃ cur, w.heap[g]? = some (.cells cur 3 (0, 0)) ∧ cur.toList = icells l ++ marksI 12
theorem LentAt.size {w : World} {g : Nat} {l : List Int} (h : LentAt w g l) : g < w.heap.size := by
  obtain ⟨cur, h1, _⟩ := h
  exact lt_of_heap h1
theorem LentAt.keep {w w' : World} {g : Nat} {l : List Int} (h : LentAt w g l) (b : w'.heap[g]? = w.heap[g]?) : LentAt w' g l := by
  obtain ⟨cur, h1, h2⟩ := h
  exact ⟨cur, b.trans h1, h2⟩
theorem LentAt.below {w w' : World} {g : Nat} {l : List Int} (h : LentAt w g l) (b : Below w.heap.size w w') : LentAt w' g l := h.keep (b.block g h.size)
theorem LentAt.slG {w : World} {g : Nat} {l : List Int} (h : LentAt w g l) : SlG w.heap.size w (some ⟨g, 0, none⟩) (icells l) := by
  obtain ⟨cur, h1, h2⟩ := h
  refine fun _ => ⟨g, 0, rfl, lt_of_heap h1, fun j u hj => ?_⟩
  rw [Nat.zero_add, Lib.cell_of_heap h1, ← Array.getElem?_toList, h2]
  have hl := (List.getElem?_eq_some_iff.1 hj).1
  rw [List.getElem?_append_left hl]
  exact hj
theorem LentAt.cell {w : World} {g : Nat} {l : List Int} (h : LentAt w g l) (j : Nat) (hj : j < l.length) : w.cell? ⟨g, j, none⟩ = some (.int .i64 l[j]) := by
  obtain ⟨cur, h1, h2⟩ := h
  rw [Lib.cell_of_heap h1, ← Array.getElem?_toList, h2, List.getElem?_append_left (by rw [icells_length]; exact hj)]
  simp [icells, hj]
theorem LentAt.mark {w : World} {g : Nat} {l : List Int} (h : LentAt w g l) (m : Nat) (hm : m < 12) : w.cell? ⟨g, l.length + m, none⟩ = some (.int .i64 (mbI 1 (m : Int))) := by
  obtain ⟨cur, h1, h2⟩ := h
  rw [Lib.cell_of_heap h1, ← Array.getElem?_toList, h2, List.getElem?_append_right (by rw [icells_length]; omega), icells_length, Nat.add_sub_cancel_left]
  exact marksI_get 12 m hm

def LentP (l : List Int) (w : World) (e : Ending) (w' : World) : Prop :=
  e = .returned (.slice (some ⟨w.heap.size, 0, none⟩) l.length (l.length + 12)) ∧ LentAt w' w.heap.size l ∧ Below w.heap.size w w'

end Go.Proofs.YtlkmabnjmklkpaaDoor
