/- What texts of a shape are asked. -/
import Derived.Test.YtfmjhbaenpbfoaaGreatDoorTurn
import Derived.RangeFuncLeaves
namespace Go.Proofs.YtfmjhbaenpbfoaaGreatDoor
open Go.RowKit

def oneZ : List ByteArray := [⟨#[45]⟩, ⟨#[110, 111, 116]⟩]
def opsZ : List ByteArray := [⟨#[111, 114]⟩, ⟨#[97, 110, 100]⟩, ⟨#[61]⟩, ⟨#[33, 61]⟩, ⟨#[60]⟩, ⟨#[60, 61]⟩, ⟨#[62]⟩, ⟨#[62, 61]⟩, ⟨#[43]⟩, ⟨#[45]⟩, ⟨#[42]⟩]
/-- The operators lie where they are laid, and so do strconv's errors. -/
structure Laid (w : World) : Prop where
  errs : Errs w
  one : ∀ (i : Nat) s, oneZ[i]? = some s → w.cell? ⟨0, i, none⟩ = some (.string s)
  two : ∀ (i : Nat) s, opsZ[i]? = some s → w.cell? ⟨1, i, none⟩ = some (.string s)
theorem Laid.below {w w' : World} (h : Laid w) (b : Below w.heap.size w w') : Laid w' :=
  ⟨h.errs.below b, fun i s hs => (b.cell (p := ⟨0, i, none⟩) (show 0 < w.heap.size by have := h.errs.two; omega)).trans (h.one i s hs), fun i s hs => (b.cell (p := ⟨1, i, none⟩) (show 1 < w.heap.size by have := h.errs.two; omega)).trans (h.two i s hs)⟩

/-- A line of the table: a kind, what a text must be, a number's ends, kids in turn. -/
structure Sh where
  kind : Int
  text : ByteArray → Bool
  low : Int
  high : Int
  least : Int
  most : Int
  rows : List (List Int)

/-- What is asked of a text, as a function's contract. -/
structure TextOK (f : FuncId) (p : ByteArray → Bool) : Prop where
  ent : ∀ args w, (callFunc f args).run Tryz.prog w = .ok (.enter f args) w
  run : ∀ (s : ByteArray) (w : World), s.size ≤ 281474976710656 → Laid w → Calls Tryz.prog f #[.string s] w fun e w' => e = .returned (.bool (p s)) ∧ Below w.heap.size w w'

theorem text_empty : TextOK 46 (fun s => s.toList.isEmpty) := ⟨enters_of Tryz.func46 (by kernel_rfl) rfl, fun s w _ _ => (isEmpty_any s w).mono fun e w' h => ⟨h.1, by rw [← h.2]; exact Below.refl _ _⟩⟩
theorem text_name : TextOK 48 (fun s => tokK s == 2) := ⟨enters_of Tryz.func48 (by kernel_rfl) rfl, fun s w _ h => nodeName_any s w h.errs⟩
theorem text_word : TextOK 49 (fun s => tokK s == 2 || tokK s == 1) := ⟨enters_of Tryz.func49 (by kernel_rfl) rfl, fun s w _ h => nodeWord_any s w h.errs⟩
theorem text_number : TextOK 50 (fun s => numB s.data.toList) := ⟨enters_of Tryz.func50 (by kernel_rfl) rfl, fun s w hs h => nodeNumber_any s w hs h.errs⟩

theorem info_str : (Tryz.prog.info? 9).map (fun i => i.size) = some 1 := by kernel_rfl
theorem run_index_str (w : World) (ta : TypeId) (n : Nat) (ha : Tryz.prog.underlying ta = some (.array n 9)) (arr : Array Value) (j : Nat) (hj : j < n) (v : Value) (h : arr[j]? = some v) : (Instr.index ta (.agg arr) (.int .i64 j)).run Tryz.prog w = .ok v w := by
  have hs := info_str
  cases hi : Tryz.prog.info? 9 with
  | none => rw [hi] at hs; cases hs
  | some i =>
    rw [hi] at hs
    have hz : i.size = 1 := Option.some.inj hs
    have hu : Tryz.prog.underlying 9 = some .string := Tryz.underlying9
    have hp : (part 9 arr j).run Tryz.prog w = .ok v w := by simp [part, isAgg, run_underlying hu, h]
    simp [Instr.index, asIntOf, run_underlying ha, sizeOf, typeInfo, hi, hz, hj, hp, Result.andThen]

set_option maxRecDepth 100000 in
set_option maxHeartbeats 1000000 in
theorem text_one : TextOK 51 (fun s => oneZ.any fun z => s.toList == z.toList) := by
  refine ⟨enters_of Tryz.func51 (by kernel_rfl) rfl, ?_⟩
  intro s w _ hL
  have k0 := hL.one 0 _ rfl
  have k1 := hL.one 1 _ rfl
  clear hL
  go_enter Tryz.func51, Tryz.ntmps51
  go_wp2_with fail
  clear k0 k1
  obtain ⟨arr, harr⟩ : ∃ arr : Array Value, arr = #[.string ⟨#[45]⟩, .string ⟨#[110, 111, 116]⟩] := ⟨_, rfl⟩
  rw [← harr]
  have HA : Hid (∀ (j : Nat) z, oneZ[j]? = some z → arr[j]? = some (.string z)) := by
    unfold Hid
    subst harr
    intro j z hz
    have hj := (List.getElem?_eq_some_iff.1 hz).1
    match j, hj with
    | 0, _ => cases hz; rfl
    | 1, _ => cases hz; rfl
  clear harr
  go_loopw [6] (fun i wr => ∃ j : Nat, j ≤ 2 ∧ i = .int .i64 j ∧ Hid ((oneZ.any fun z => s.toList == z.toList) = ((oneZ.drop j).any fun z => s.toList == z.toList)) ∧ w = wr) (fun i _ => 2 - (intOf i).toNat)
  case atStart => exact ⟨0, by omega, rfl, rfl, by trivial⟩
  case round =>
    obtain ⟨j, hj, rfl, HJ, rfl⟩ := hrel
    by_cases hlt : j < 2
    · have hjn : (j : Int) < 2 := by omega
      have hlz : j < oneZ.length := hlt
      have hx := HA.out j oneZ[j] (List.getElem?_eq_getElem hlz)
      have hrun := run_index_str w 129 2 Tryz.underlying129 arr j hlt _ hx
      clear hx
      have HJ1 : Hid ((oneZ.any fun z => s.toList == z.toList) = ((s.toList == (oneZ[j]).toList) || ((oneZ.drop (j + 1)).any fun z => s.toList == z.toList))) := by
        have := HJ.out
        rw [List.drop_eq_getElem_cons hlz, List.any_cons] at this
        exact this
      clear HJ
      generalize oneZ[j] = z at hrun HJ1
      cases hb : s.toList == z.toList with
      | true =>
        have HR : Hid ((oneZ.any fun z => s.toList == z.toList) = true) := by
          have := HJ1.out
          rw [hb, Bool.true_or] at this
          exact this
        clear HJ1
        go_wp2_with fail
        go_ret
        exact ⟨by rw [HR.out]; rfl, Below.refl _ _⟩
      | false =>
        have HR : Hid ((oneZ.any fun z => s.toList == z.toList) = ((oneZ.drop (j + 1)).any fun z => s.toList == z.toList)) := by
          have := HJ1.out
          rw [hb, Bool.false_or] at this
          exact this
        clear HJ1
        go_wp2_with fail
        go_roundw
        case rel => exact ⟨j + 1, by omega, by go_num, HR, by trivial⟩
        case measure => simp [intOf]; omega
    · obtain rfl : j = 2 := by omega
      have HR : Hid ((oneZ.any fun z => s.toList == z.toList) = false) := HJ.out
      clear HJ
      go_wp2_with fail
      go_ret
      exact ⟨by rw [HR.out]; rfl, Below.refl _ _⟩
set_option maxRecDepth 100000 in
set_option maxHeartbeats 1000000 in
theorem text_two : TextOK 52 (fun s => opsZ.any fun z => s.toList == z.toList) := by
  refine ⟨enters_of Tryz.func52 (by kernel_rfl) rfl, ?_⟩
  intro s w _ hL
  have k0 := hL.two 0 _ rfl
  have k1 := hL.two 1 _ rfl
  have k2 := hL.two 2 _ rfl
  have k3 := hL.two 3 _ rfl
  have k4 := hL.two 4 _ rfl
  have k5 := hL.two 5 _ rfl
  have k6 := hL.two 6 _ rfl
  have k7 := hL.two 7 _ rfl
  have k8 := hL.two 8 _ rfl
  have k9 := hL.two 9 _ rfl
  have k10 := hL.two 10 _ rfl
  clear hL
  go_enter Tryz.func52, Tryz.ntmps52
  go_wp2_with fail
  clear k0 k1 k2 k3 k4 k5 k6 k7 k8 k9 k10
  obtain ⟨arr, harr⟩ : ∃ arr : Array Value, arr = #[.string ⟨#[111, 114]⟩, .string ⟨#[97, 110, 100]⟩, .string ⟨#[61]⟩, .string ⟨#[33, 61]⟩, .string ⟨#[60]⟩, .string ⟨#[60, 61]⟩, .string ⟨#[62]⟩, .string ⟨#[62, 61]⟩, .string ⟨#[43]⟩, .string ⟨#[45]⟩, .string ⟨#[42]⟩] := ⟨_, rfl⟩
  rw [← harr]
  have HA : Hid (∀ (j : Nat) z, opsZ[j]? = some z → arr[j]? = some (.string z)) := by
    unfold Hid
    subst harr
    intro j z hz
    have hj := (List.getElem?_eq_some_iff.1 hz).1
    match j, hj with
    | 0, _ => cases hz; rfl
    | 1, _ => cases hz; rfl
    | 2, _ => cases hz; rfl
    | 3, _ => cases hz; rfl
    | 4, _ => cases hz; rfl
    | 5, _ => cases hz; rfl
    | 6, _ => cases hz; rfl
    | 7, _ => cases hz; rfl
    | 8, _ => cases hz; rfl
    | 9, _ => cases hz; rfl
    | 10, _ => cases hz; rfl
  clear harr
  go_loopw [6] (fun i wr => ∃ j : Nat, j ≤ 11 ∧ i = .int .i64 j ∧ Hid ((opsZ.any fun z => s.toList == z.toList) = ((opsZ.drop j).any fun z => s.toList == z.toList)) ∧ w = wr) (fun i _ => 11 - (intOf i).toNat)
  case atStart => exact ⟨0, by omega, rfl, rfl, by trivial⟩
  case round =>
    obtain ⟨j, hj, rfl, HJ, rfl⟩ := hrel
    by_cases hlt : j < 11
    · have hjn : (j : Int) < 11 := by omega
      have hlz : j < opsZ.length := hlt
      have hx := HA.out j opsZ[j] (List.getElem?_eq_getElem hlz)
      have hrun := run_index_str w 130 11 Tryz.underlying130 arr j hlt _ hx
      clear hx
      have HJ1 : Hid ((opsZ.any fun z => s.toList == z.toList) = ((s.toList == (opsZ[j]).toList) || ((opsZ.drop (j + 1)).any fun z => s.toList == z.toList))) := by
        have := HJ.out
        rw [List.drop_eq_getElem_cons hlz, List.any_cons] at this
        exact this
      clear HJ
      generalize opsZ[j] = z at hrun HJ1
      cases hb : s.toList == z.toList with
      | true =>
        have HR : Hid ((opsZ.any fun z => s.toList == z.toList) = true) := by
          have := HJ1.out
          rw [hb, Bool.true_or] at this
          exact this
        clear HJ1
        go_wp2_with fail
        go_ret
        exact ⟨by rw [HR.out]; rfl, Below.refl _ _⟩
      | false =>
        have HR : Hid ((opsZ.any fun z => s.toList == z.toList) = ((opsZ.drop (j + 1)).any fun z => s.toList == z.toList)) := by
          have := HJ1.out
          rw [hb, Bool.false_or] at this
          exact this
        clear HJ1
        go_wp2_with fail
        go_roundw
        case rel => exact ⟨j + 1, by omega, by go_num, HR, by trivial⟩
        case measure => simp [intOf]; omega
    · obtain rfl : j = 11 := by omega
      have HR : Hid ((opsZ.any fun z => s.toList == z.toList) = false) := HJ.out
      clear HJ
      go_wp2_with fail
      go_ret
      exact ⟨by rw [HR.out]; rfl, Below.refl _ _⟩
end Go.Proofs.YtfmjhbaenpbfoaaGreatDoor
