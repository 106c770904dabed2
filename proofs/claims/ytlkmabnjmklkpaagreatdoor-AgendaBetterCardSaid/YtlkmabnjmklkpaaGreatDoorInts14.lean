/- Rows of ints: whether they are the same; lent: a copy with marks behind it; kept; written over. -/
import Derived.Test.YtlkmabnjmklkpaaGreatDoorBase14
namespace Go.Proofs.YtlkmabnjmklkpaaGreatDoor
open Go.RowKit

def YesG (w : World) (e : Ending) (w' : World) : Prop := e = .returned (.bool true) ∧ Gr w w'
/-- The call answered this; only draws and new blocks. -/
def SaysG (b : Bool) (w : World) (e : Ending) (w' : World) : Prop := e = .returned (.bool b) ∧ Gr w w'

set_option maxRecDepth 100000 in
set_option maxHeartbeats 1000000 in
theorem sameI_any (l1 l2 : List Int) (ao1 ao2 : Option Addr) (c1 c2 : Nat) (hm1 : l1.length ≤ 9223372036854775807) (hm2 : l2.length ≤ 9223372036854775807) (w : World) (h1 : SlG w.heap.size w ao1 (icells l1)) (h2 : SlG w.heap.size w ao2 (icells l2)) :
    Calls Tryz.prog 47 #[.slice ao1 l1.length c1, .slice ao2 l2.length c2] w (SaysG (decide (l1 = l2)) w) := by
  have HA := Lib.hid h1
  have HB := Lib.hid h2
  clear h1 h2
  have mixed : Tryz.prog.follows .mixedOrders = true := by kernel_rfl
  by_cases hll : l1.length = l2.length
  · go_enter Tryz.func47, Tryz.ntmps47
    go_wp2_with fail
    go_loopw [5] (fun i wr => ∃ j : Nat, j ≤ l1.length ∧ i = .int .i64 j ∧ Hid (l1.take j = l2.take j) ∧ Gr w wr) (fun i _ => l1.length - (intOf i).toNat)
    case atStart => exact ⟨0, by omega, rfl, rfl, Gr.refl _⟩
    case round =>
      obtain ⟨j, hj, rfl, HT, hfr⟩ := hrel
      have HFr := Lib.hid hfr
      clear hfr
      by_cases hlt : j < l1.length
      · have hlt2 : j < l2.length := by omega
        obtain ⟨sb, off, rfl, hsb, hc⟩ := (HA.out.below HFr.out.below).cellI (by omega)
        obtain ⟨sb2, off2, rfl, hsb2, hc2⟩ := (HB.out.below HFr.out.below).cellI (by omega)
        have d1 := hc j hlt
        have d2 := hc2 j hlt2
        have HN1 : Hid (l1.take (j + 1) = l1.take j ++ [l1[j]]) := by rw [Hid, List.take_add_one, List.getElem?_eq_getElem hlt]; rfl
        have HN2 : Hid (l2.take (j + 1) = l2.take j ++ [l2[j]]) := by rw [Hid, List.take_add_one, List.getElem?_eq_getElem hlt2]; rfl
        have HNe : Hid (l1[j] ≠ l2[j] → l1 ≠ l2) := fun h e => h (by subst e; rfl)
        clear hc hc2
        generalize l1[j] = z1 at d1 HN1 HNe
        generalize l2[j] = z2 at d2 HN2 HNe
        by_cases hz : z1 = z2
        · subst hz
          go_wp2_with fail
          go_quiet (fail)
          go_wp2
          go_roundw
          case rel => exact ⟨j + 1, by omega, by go_num, by rw [Hid, HN1.out, HN2.out, HT.out], HFr.out.drewN _⟩
          case measure => simp [intOf]; omega
        · have hd : (z1 == z2) = false := by simpa using hz
          go_wp2_with fail
          go_quiet (fail)
          go_wp2
          go_ret
          exact ⟨by rw [decide_eq_false (HNe.out hz)]; rfl, HFr.out.drewN _⟩
      · obtain rfl : j = l1.length := by omega
        have he : l1 = l2 := by
          have := HT.out
          rw [List.take_length, hll, List.take_length] at this
          exact this
        have HE := Lib.hid he
        clear he
        go_wp2
        go_ret
        exact ⟨by rw [decide_eq_true HE.out]; rfl, HFr.out⟩
  · have HE : Hid (l1 ≠ l2) := fun e => hll (by rw [e])
    have hd : ((l1.length : Int) == (l2.length : Int)) = false := by simp; omega
    have hd' : (l1.length == l2.length) = false := by simp; omega
    go_enter Tryz.func47, Tryz.ntmps47
    go_wp2
    go_ret
    exact ⟨by rw [decide_eq_false HE.out]; rfl, Gr.refl _⟩

/-- The mark of a place in a list of numbers. -/
def mbI (k i : Int) : Int := 1000003 * (k + 7) + i
def marksI (n : Nat) : List Value := (List.range n).map fun (i : Nat) => .int .i64 (mbI 1 (i : Int))
theorem marksI_succ (n : Nat) : marksI (n + 1) = marksI n ++ [.int .i64 (mbI 1 (n : Int))] := by
  unfold marksI; rw [List.range_succ, List.map_append]; rfl
theorem marksI_length (n : Nat) : (marksI n).length = n := by unfold marksI; simp
theorem marksI_get (n i : Nat) (h : i < n) : (marksI n)[i]? = some (.int .i64 (mbI 1 (i : Int))) := by
  unfold marksI
  rw [List.getElem?_map, List.getElem?_range h]
  rfl

theorem mark_any (k i : Int) (hk : 0 ≤ k) (hk2 : k ≤ 10) (hi : 0 ≤ i) (hi2 : i ≤ 100000) (w : World) :
    Calls Tryz.prog 55 #[.int .i64 k, .int .i64 i] w fun e w' => e = .returned (.int .i64 (1000003 * (k + 7) + i)) ∧ w = w' := by
  go_enter Tryz.func55, Tryz.ntmps55
  go_wp2
  go_ret
  exact ⟨rfl, rfl⟩

theorem markI_any (k i : Int) (hk : 0 ≤ k) (hk2 : k ≤ 10) (hi : 0 ≤ i) (hi2 : i ≤ 100000) (w : World) :
    Calls Tryz.prog 55 #[.int .i64 k, .int .i64 i] w fun e w' => e = .returned (.int .i64 (mbI k i)) ∧ w = w' := mark_any k i hk hk2 hi hi2 w

/-- A row that was lent at block g: ints, and twelve marks. -/
def LentAt (w : World) (g : Nat) (l : List Int) : Prop := ∃ cur, w.heap[g]? = some (.cells cur 3 (0, 0)) ∧ cur.toList = icells l ++ marksI 12
theorem LentAt.size {w : World} {g : Nat} {l : List Int} (h : LentAt w g l) : g < w.heap.size := by
  obtain ⟨cur, h1, _⟩ := h
  exact lt_of_heap h1
theorem LentAt.keep {w w' : World} {g : Nat} {l : List Int} (h : LentAt w g l) (b : w'.heap[g]? = w.heap[g]?) : LentAt w' g l := by
  obtain ⟨cur, h1, h2⟩ := h
  exact ⟨cur, b.trans h1, h2⟩
theorem LentAt.below {w w' : World} {g : Nat} {l : List Int} (h : LentAt w g l) (b : Below w.heap.size w w') : LentAt w' g l := h.keep (b.block g h.size)
theorem LentAt.slG {w : World} {g : Nat} {l : List Int} (h : LentAt w g l) : SlG w.heap.size w (some ⟨g, 0, none⟩) (icells l) := by
  obtain ⟨cur, h1, h2⟩ := h
  refine fun _ => ⟨g, 0, rfl, lt_of_heap h1, fun j u hj => ?_⟩
  rw [Nat.zero_add, Lib.cell_of_heap h1, ← Array.getElem?_toList, h2]
  have hl := (List.getElem?_eq_some_iff.1 hj).1
  rw [List.getElem?_append_left hl]
  exact hj
theorem LentAt.cell {w : World} {g : Nat} {l : List Int} (h : LentAt w g l) (j : Nat) (hj : j < l.length) : w.cell? ⟨g, j, none⟩ = some (.int .i64 l[j]) := by
  obtain ⟨cur, h1, h2⟩ := h
  rw [Lib.cell_of_heap h1, ← Array.getElem?_toList, h2, List.getElem?_append_left (by rw [icells_length]; exact hj)]
  simp [icells, hj]
theorem LentAt.mark {w : World} {g : Nat} {l : List Int} (h : LentAt w g l) (m : Nat) (hm : m < 12) : w.cell? ⟨g, l.length + m, none⟩ = some (.int .i64 (mbI 1 (m : Int))) := by
  obtain ⟨cur, h1, h2⟩ := h
  rw [Lib.cell_of_heap h1, ← Array.getElem?_toList, h2, List.getElem?_append_right (by rw [icells_length]; omega), icells_length, Nat.add_sub_cancel_left]
  exact marksI_get 12 m hm

def LentP (l : List Int) (w : World) (e : Ending) (w' : World) : Prop :=
  e = .returned (.slice (some ⟨w.heap.size, 0, none⟩) l.length (l.length + 12)) ∧ LentAt w' w.heap.size l ∧ Below w.heap.size w w'

set_option maxRecDepth 100000 in
set_option maxHeartbeats 1000000 in
theorem lentI_any (ao : Option Addr) (c : Nat) (l : List Int) (w : World) (hl : l.length ≤ 100000) (h : SlI w ao l c) :
    Calls Tryz.prog 28 #[.slice ao l.length c] w (LentP l w) := by
  obtain ⟨i0, hi, hz0, hz1, hz2⟩ := info_parts infoI
  have hcells : ∀ w1, Below w.heap.size w w1 → ∀ ad, ao = some ad → ∀ j u, (icells l)[j]? = some u → w1.cell? (ad.add j) = some u := fun w1 hb => (h.below hb).cells
  have HC := Lib.hid hcells
  have HAO : Hid (ao = none → l.length = 0 ∧ c = 0) := fun e => ⟨by rw [(h.nil e).1]; rfl, (h.nil e).2⟩
  clear hcells h
  go_enter Tryz.func28, Tryz.ntmps28
  go_wp2_with (first
    | (at_make; refine wpList_make_own _ rfl _ _ 22 rfl w.heap.size 3 i0 (.int .i64 0) 1 Tryz.underlying22 hi hz0 hz1 .i64 .i64 _ (l.length + 12) rfl rfl (by omega) (by rw [hz2]; omega) (by unfold maxLen; omega) (Nat.le_refl _) ?_; intro w0 hown0 hgrow0)
    | (at_builtin; refine wpList_append_fits_any _ rfl (.tmp 9) (.tmp 10) 22 rfl w.heap.size 3 i0 1 Tryz.underlying22 hi hz1 w.heap.size 0 (l.length + 12) _ rfl hown0 ao l.length c (icells l) rfl (by rw [icells_length, Nat.mul_one]) HAO.out (HC.out _ ((Below.refl _ _).grown hgrow0 (Nat.le_refl _) (fun k h => by cases h))) (icells_one l) (by omega) ?_; intro w1 hown1 hgrow1; simp only [Nat.zero_add, List.nil_append] at hown1))
  have HB1 : Below w.heap.size w w1 := ((Below.refl _ _).grown hgrow0 (Nat.le_refl _) (fun k h => by cases h)).grown hgrow1 hgrow0.size (fun k h => by cases h; exact Nat.le_refl _)
  clear hgrow0 hgrow1 HC HAO hown0
  go_loopw [3, 4] (fun v i wr => ∃ k : Nat, k ≤ 12 ∧ i = .int .i64 k ∧ v = .slice (some ⟨w.heap.size, 0, none⟩) (l.length + k) (l.length + 12) ∧ wr.ownsRow w.heap.size 3 1 (.slice (some ⟨w.heap.size, 0, none⟩) (l.length + k) (l.length + 12)) (l.length + k) (icells l ++ marksI k) ∧ Below w.heap.size w wr) (fun _ i _ => 12 - (intOf i).toNat)
  case atStart => exact ⟨0, by omega, rfl, rfl, by simpa [marksI] using hown1, HB1⟩
  case round =>
    obtain ⟨k, hk, rfl, rfl, hown, hb⟩ := hrel
    have HBr := Lib.hid hb
    clear hb hown1 HB1
    have hsz : w.heap.size ≤ wr.heap.size := HBr.out.size
    go_wp2_with (first
      | (go_at_call 55; refine (markI_any 1 k (by omega) (by omega) (by omega) (by omega) _).mono ?_; rintro e w' ⟨rfl, rfl⟩)
      | (at_builtin; refine wpList_append_fits _ rfl (.tmp 16) (.tmp 19) 22 rfl w.heap.size 3 i0 1 Tryz.underlying22 hi hz1 w.heap.size (l.length + k) (l.length + 12) _ rfl (hown.alloc _) ⟨wr.heap.size, 0, none⟩ 1 1 [.int .i64 (mbI 1 (k : Int))] rfl rfl (fun j u hu => by rw [Addr.add_lit, Nat.zero_add]; exact cells_made wr _ _ j u (by simpa using hu)) (fun u hu => by simp at hu; subst hu; rfl) (by omega) ?_; intro w4 hown4 hgrow4))
    · have R : w4.ownsRow w.heap.size 3 1 (.slice (some ⟨w.heap.size, 0, none⟩) (l.length + (k + 1)) (l.length + 12)) (l.length + (k + 1)) (icells l ++ marksI (k + 1)) := by
        rw [marksI_succ, ← List.append_assoc]
        exact hown4
      have HB4 : Below w.heap.size w w4 := (HBr.out.alloc hsz _).grown hgrow4 (by simp; omega) (fun k h => by cases h; exact Nat.le_refl _)
      clear hown4 hgrow4 hown
      go_roundw
      case rel => exact ⟨k + 1, by omega, by go_num, rfl, R, HB4⟩
      case measure => simp [intOf]; omega
    · have hk12 : k = 12 := by omega
      subst hk12
      have HR : LentAt wr w.heap.size l := by
        rcases hown.2 with ⟨h', _⟩ | ⟨g', cap', cur, h', _, hg, _, _, hs, ht⟩
        · simp at h'
        · simp only [Value.slice.injEq, Option.some.injEq, Addr.mk.injEq, and_true, true_and] at h'
          obtain ⟨rfl, rfl⟩ := h'
          refine ⟨cur, hg, ?_⟩
          rw [← ht, List.take_of_length_le (by rw [Array.length_toList]; omega)]
      have HR' := Lib.hid HR
      clear hown HR
      go_wp2
      go_ret
      exact ⟨rfl, HR'.out, HBr.out⟩

set_option maxRecDepth 100000 in
set_option maxHeartbeats 1000000 in
theorem keptI_any (g : Nat) (ao : Option Addr) (c : Nat) (l : List Int) (w : World) (hl : l.length ≤ 100000) (hg : LentAt w g l) (h : SlG w.heap.size w ao (icells l)) :
    Calls Tryz.prog 34 #[.slice (some ⟨g, 0, none⟩) l.length (l.length + 12), .slice ao l.length c] w (YesG w) := by
  have HG := Lib.hid hg
  have HS := Lib.hid h
  clear hg h
  have mixed : Tryz.prog.follows .mixedOrders = true := by kernel_rfl
  go_enter Tryz.func34, Tryz.ntmps34
  go_wp2
  go_loopw [6] (fun i wr => ∃ k : Nat, k ≤ l.length + 12 ∧ i = .int .i64 k ∧ Gr w wr) (fun i _ => l.length + 12 - (intOf i).toNat)
  case atStart => exact ⟨0, by omega, rfl, Gr.refl _⟩
  case round =>
    obtain ⟨k, hk, rfl, hb⟩ := hrel
    have HBr := Lib.hid hb
    clear hb
    by_cases hlt : k < l.length + 12
    · have hlti : (k : Int) < (l.length : Int) + 12 := by omega
      by_cases hkn : k < l.length
      · have ho := (HG.out.below HBr.out.below).cell k hkn
        obtain ⟨sb, off, rfl, _, hc⟩ := (HS.out.below HBr.out.below).cellI (by omega)
        have hr := hc k hkn
        clear hc HG HS
        generalize l[k] = x at ho hr
        have hd : decide ((k : Int) < (l.length : Int)) = true := by simp; omega
        have hd2 : decide ((l.length : Int) ≤ (k : Int)) = false := by simp; omega
        have hd' : decide (k < l.length) = true := by simp; omega
        have hd2' : decide (l.length ≤ k) = false := by simp; omega
        have hki : (k : Int) < (l.length : Int) := by omega
        go_wp2_with fail
        clear hkn
        go_quiet (fail)
        go_wp2
        have HBn : Gr w (wr.drewN nq) := HBr.out.drewN _
        clear hd hd2 hd' hd2' HBr
        go_roundw
        case rel => exact ⟨k + 1, by omega, by go_num, HBn⟩
        case measure => simp [intOf]; omega
      · have hm : k - l.length < 12 := by omega
        have ho := (HG.out.below HBr.out.below).mark (k - l.length) hm
        rw [show l.length + (k - l.length) = k by omega] at ho
        obtain ⟨m, hmk⟩ : ∃ m, m = k - l.length := ⟨_, rfl⟩
        rw [← hmk] at ho hm
        have hsub : (k : Int) - (l.length : Int) = (m : Int) := by omega
        have C := Lib.hid (fun W => markI_any 1 m (by omega) (by omega) (by omega) (by omega) W)
        have hd : decide ((k : Int) < (l.length : Int)) = false := by simp; omega
        have hd2 : decide ((l.length : Int) ≤ (k : Int)) = true := by simp; omega
        have hd' : decide (k < l.length) = false := by simp; omega
        have hd2' : decide (l.length ≤ k) = true := by simp; omega
        clear HG HS hkn hmk
        generalize mbI 1 (m : Int) = x at ho C
        go_wp2_with fail
        go_quiet (first | (go_at_call 55; exact Calls.quiet_of_same ((C.out _).mono fun _ _ ⟨h, h'⟩ => ⟨h, h'.symm⟩)))
        go_wp2
        have HBn : Gr w (wr.drewN nq) := HBr.out.drewN _
        clear hd hd2 hd' hd2' HBr
        go_roundw
        case rel => exact ⟨k + 1, by omega, by go_num, HBn⟩
        case measure => simp [intOf]; omega
    · have hltz : ¬ (k : Int) < (l.length : Int) + 12 := by omega
      go_wp2
      go_ret
      exact ⟨rfl, HBr.out⟩

end Go.Proofs.YtlkmabnjmklkpaaGreatDoor
