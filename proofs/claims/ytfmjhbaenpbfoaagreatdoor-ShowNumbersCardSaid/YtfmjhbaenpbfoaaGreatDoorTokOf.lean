/- The program's own asking of texts: tokenOf, isEmpty, isName, isNameOrWord, isNumber. -/
import Derived.Test.YtfmjhbaenpbfoaaGreatDoorTokens
import Derived.Test.YtfmjhbaenpbfoaaGreatDoorRefKids
namespace Go.Proofs.YtfmjhbaenpbfoaaGreatDoor
open Go.RowKit

/-- Which kind of token all of a text is. -/
def tokK (s : ByteArray) : Int :=
  match (toldOf s.data.toList).1 with
  | [] => 0
  | x :: _ => if x.1.text = s.data.toList then x.1.kind else 0
theorem text_beq (b : Bs) (s : ByteArray) : (((⟨b.toArray⟩ : ByteArray).toList == s.toList) = decide (b = s.data.toList)) := by
  rw [ByteArray.toList_eq, ByteArray.toList_eq]
  by_cases h : b = s.data.toList
  · rw [decide_eq_true h]
    simp [h]
  · rw [decide_eq_false h]
    exact beq_eq_false_iff_ne.2 (by simpa using h)

set_option maxRecDepth 100000 in
set_option maxHeartbeats 2000000 in
theorem tokenOf_any (s : ByteArray) (w : World) (he : Errs w) :
    Calls Tryz.prog 76 #[.string s] w fun e w' => e = .returned (.int .u8 (tokK s)) ∧ Below w.heap.size w w' := by
  have KT := Lib.hid (tokens_any s w he)
  have HK : Hid (tokK s = match (toldOf s.data.toList).1 with | [] => 0 | x :: _ => if x.1.text = s.data.toList then x.1.kind else 0) := rfl
  obtain ⟨⟨ys, f1, f2⟩, hq⟩ : ∃ q, q = toldOf s.data.toList := ⟨_, rfl⟩
  rw [← hq] at KT HK
  clear hq he
  generalize tokK s = kk at HK ⊢
  cases ys with
  | nil =>
    obtain rfl : kk = 0 := HK.out
    go_enter Tryz.func76, Tryz.ntmps76
    go_wp2_with (go_at_call 30; go_must (refine (KT.out).mono ?_; rintro e w1 ⟨ao, c, rfl, ho, hb⟩; have HB := Lib.hid hb; clear ho hb))
    go_ret
    exact ⟨rfl, below_new HB.out _⟩
  | cons x ys =>
    have hk1 : kk = if x.1.text = s.data.toList then x.1.kind else 0 := HK.out
    have hbq := text_beq x.1.text s
    have hl : ((x :: ys).length : Int) = (ys.length : Int) + 1 := by simp
    have hl0 : ((x :: ys).length : Int) ≠ 0 := by omega
    go_enter Tryz.func76, Tryz.ntmps76
    go_wp2_with (go_at_call 30; go_must (refine (KT.out).mono ?_; rintro e w1 ⟨ao, c, rfl, ho, hb⟩; refine Hid.out ?_))
    have HB := Lib.hid hb
    obtain ⟨g, rfl, c0, c1, hg⟩ : ∃ g, ao = some ⟨g, 0, none⟩ ∧ w1.cell? ⟨g, 0, none⟩ = some (.int .u8 x.1.kind) ∧ w1.cell? ⟨g, 1, none⟩ = some (.string ⟨x.1.text.toArray⟩) ∧ g < w1.heap.size := by
      rcases ho.2 with ⟨h1, h2⟩ | ⟨g, cap, cur, h1, _, hg, _⟩
      · simp at h2
      · simp only [Value.slice.injEq] at h1
        obtain ⟨rfl, _, rfl⟩ := h1
        refine ⟨g, rfl, ?_, ?_, lt_of_heap hg⟩
        · have := ho.cells (g := g) rfl 0 _ rfl
          rwa [Addr.add_lit, Nat.zero_add] at this
        · have := ho.cells (g := g) rfl 1 _ rfl
          rwa [Addr.add_lit, Nat.zero_add] at this
    have k0 : ∀ O, (w1.alloc O).cell? ⟨g, 0, none⟩ = some (.int .u8 x.1.kind) := fun O => ((below_own (w := w1) O).cell (p := ⟨g, 0, none⟩) hg).trans c0
    have k1 : ∀ O, (w1.alloc O).cell? ⟨g, 1, none⟩ = some (.string ⟨x.1.text.toArray⟩) := fun O => ((below_own (w := w1) O).cell (p := ⟨g, 1, none⟩) hg).trans c1
    clear ho hb KT HK c0 c1 hg hl hl0
    refine Lib.hid ?_
    by_cases h : x.1.text = s.data.toList
    · rw [decide_eq_true h] at hbq
      rw [if_pos h] at hk1
      have HK1 := Lib.hid hk1
      clear h hk1
      generalize (⟨x.1.text.toArray⟩ : ByteArray) = z at k1 hbq
      generalize x.1.kind = xk at k0 HK1
      go_wp2_with fail
      all_goals
        go_ret
        rw [HK1.out]
        exact ⟨rfl, below_new HB.out _⟩
    · rw [decide_eq_false h] at hbq
      rw [if_neg h] at hk1
      have HK1 := Lib.hid hk1
      clear h hk1
      generalize (⟨x.1.text.toArray⟩ : ByteArray) = z at k1 hbq
      generalize x.1.kind = xk at k0
      go_wp2_with fail
      all_goals
        go_ret
        rw [HK1.out]
        exact ⟨rfl, below_new HB.out _⟩

theorem isEmpty_any (s : ByteArray) (w : World) : Calls Tryz.prog 46 #[.string s] w fun e w' => e = .returned (.bool s.toList.isEmpty) ∧ w = w' := by
  by_cases hs : 0 < s.size
  · obtain ⟨hem, -⟩ := size_pos hs
    have HE := Lib.hid hem
    go_enter Tryz.func46, Tryz.ntmps46
    go_wp2
    go_ret
    rw [HE.out]
    exact ⟨rfl, rfl⟩
  · obtain ⟨hem, -⟩ := size_zero hs
    have HE : Hid (s.toList.isEmpty = true) := by unfold Hid; rw [hem]; rfl
    go_enter Tryz.func46, Tryz.ntmps46
    go_wp2
    go_ret
    rw [HE.out]
    exact ⟨rfl, rfl⟩
theorem nodeName_any (s : ByteArray) (w : World) (he : Errs w) : Calls Tryz.prog 48 #[.string s] w fun e w' => e = .returned (.bool (tokK s == 2)) ∧ Below w.heap.size w w' := by
  have K := Lib.hid (tokenOf_any s w he)
  generalize tokK s = k at K ⊢
  go_enter Tryz.func48, Tryz.ntmps48
  go_wp2_with (go_at_call 76; go_must (refine (K.out).mono ?_; rintro e w1 ⟨rfl, hb⟩))
  go_ret
  exact ⟨rfl, hb⟩
theorem nodeWord_any (s : ByteArray) (w : World) (he : Errs w) : Calls Tryz.prog 49 #[.string s] w fun e w' => e = .returned (.bool (tokK s == 2 || tokK s == 1)) ∧ Below w.heap.size w w' := by
  have K1 := Lib.hid (nodeName_any s w he)
  have K2 := Lib.hid (fun W (h : Below w.heap.size w W) => tokenOf_any s W (he.below h))
  generalize tokK s = k at K1 K2 ⊢
  cases h : (k == 2) with
  | true =>
    rw [h] at K1
    go_enter Tryz.func49, Tryz.ntmps49
    go_wp2_with (go_at_call 48; go_must (refine (K1.out).mono ?_; rintro e w1 ⟨rfl, hb⟩))
    go_ret
    exact ⟨rfl, hb⟩
  | false =>
    rw [h] at K1
    go_enter Tryz.func49, Tryz.ntmps49
    go_wp2_with (first
      | (go_at_call 48; go_must (refine (K1.out).mono ?_; rintro e w1 ⟨rfl, hb⟩; have HB := Lib.hid hb; clear hb))
      | (go_at_call 76; go_must (refine (K2.out _ HB.out).mono ?_; rintro e w2 ⟨rfl, hb⟩)))
    go_ret
    exact ⟨rfl, below_step HB.out hb⟩

theorem nodeNumber_any (s : ByteArray) (w : World) (hs : s.size ≤ 281474976710656) (he : Errs w) : Calls Tryz.prog 50 #[.string s] w fun e w' => e = .returned (.bool (numB s.data.toList)) ∧ Below w.heap.size w w' := by
  have K := Lib.hid (number_any s w hs he)
  generalize numB s.data.toList = y at K ⊢
  generalize numI s.data.toList = x at K
  go_enter Tryz.func50, Tryz.ntmps50
  go_wp2_with (go_at_call 77; go_must (refine (K.out).mono ?_; rintro e w1 ⟨rfl, hb⟩))
  go_ret
  exact ⟨rfl, hb⟩
end Go.Proofs.YtfmjhbaenpbfoaaGreatDoor
