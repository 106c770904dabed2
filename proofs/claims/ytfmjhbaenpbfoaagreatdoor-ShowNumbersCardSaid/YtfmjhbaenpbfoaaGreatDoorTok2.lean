/- The kinds of tokens: word, number, sign; blanks. -/
import Derived.Test.YtfmjhbaenpbfoaaGreatDoorTok
namespace Go.Proofs.YtfmjhbaenpbfoaaGreatDoor
open Go.RowKit

theorem tkOf_rest (k : Int) (t rest : Bs) (b : Bool) : (tkOf k t rest b).rest = rest := by unfold tkOf tkBad; split <;> rfl

/-- The result's cell, behind a call that made memory. -/
theorem lex_cells {R : Nat} {w w1 w2 : World} (h : Fr R (w.alloc (.cells lexC 99)) w1) (hR : R < w.heap.size) (b : Below w1.heap.size w1 w2) : w2.heap[w.heap.size]? = some (.cells lexC 99 (0, 0)) :=
  (b.block _ (lt_of_heap (h.made hR))).trans (h.made hR)

set_option maxRecDepth 100000 in
set_option maxHeartbeats 1000000 in
theorem word_any (R k : Nat) (s : ByteArray) (hm : s.size ≤ 1000000) (w : World) (h : Rd w R s k) (hk : k ≤ s.size) :
    Calls Tryz.prog 113 #[.pointer (some ⟨R, 0, none⟩)] w fun e w' => e = .returned (tkV (wordT (s.data.toList.drop k)) 0) ∧ To R s (wordT (s.data.toList.drop k)).rest w w' := by
  have KN := Lib.hid (nameBytes_any R k s hm (w.alloc (.cells lexC 99)) (h.alloc _) hk)
  have HR : Hid (R < w.heap.size) := h.lt
  have hne : w.heap.size ≠ R := by have := h.lt; omega
  have HNE := Lib.hid hne
  have hrest : (wordT (s.data.toList.drop k)).rest = (s.data.toList.drop k).dropWhile onB := by unfold wordT; split <;> exact tkOf_rest _ _ _ _
  rw [hrest]
  have hT : wordT (s.data.toList.drop k) = if wordsB.contains ((s.data.toList.drop k).takeWhile onB) then tkOf 1 ((s.data.toList.drop k).takeWhile onB) ((s.data.toList.drop k).dropWhile onB) true else tkOf 2 ((s.data.toList.drop k).takeWhile onB) ((s.data.toList.drop k).dropWhile onB) (nameB ((s.data.toList.drop k).takeWhile onB)) := rfl
  rw [hT]
  generalize (s.data.toList.drop k).takeWhile onB = t at KN ⊢
  generalize (s.data.toList.drop k).dropWhile onB = rest at KN ⊢
  have KW := Lib.hid (fun w' => isWord_any t w')
  clear h hrest hT hne
  cases hw : wordsB.contains t with
  | true =>
    rw [hw] at KW
    rw [if_pos rfl]
    clear hw
    go_enter Tryz.func113, Tryz.ntmps113
    go_wp2_with (first
      | (go_at_call 149; refine (KN.out).mono ?_; rintro e w1 ⟨rfl, hw⟩; have HW := Lib.hid hw; clear hw)
      | (go_at_call 150; refine (words_any _).mono ?_; rintro e w2 ⟨rfl, rfl⟩)
      | (go_at_call 82; refine (KW.out _).mono ?_; rintro e w2 ⟨rfl, rfl⟩)
      | (go_at_call 151; refine (told_yes _ _ _).mono ?_; rintro e w3 ⟨rfl, hb3⟩; have HB3 := Lib.hid (below_step (below_own _) hb3); clear hb3
         have HH := Lib.hid (lex_cells HW.out.fr HR.out HB3.out)
         have c0 : w3.cell? ⟨w.heap.size, 0, none⟩ = some (.int .u8 0) := Lib.cell_of_heap HH.out 0
         have c1 : w3.cell? ⟨w.heap.size, 1, none⟩ = some (.string ⟨#[]⟩) := Lib.cell_of_heap HH.out 1
         have c2 : w3.cell? ⟨w.heap.size, 2, none⟩ = some (.int .i64 0) := Lib.cell_of_heap HH.out 2
         have f0 : ∀ j, w3.frozen? ⟨w.heap.size, j, none⟩ = false := fun j => Lib.frozen_of_heap HH.out j))
    exact bodyPost_ret (v := .tuple #[.agg #[.int .u8 1, .string ⟨t.toArray⟩, .int .i64 0], .int .i64 0]) (by simp [results, Tryz.results113, go_sem, c0, c1, c2]) rfl ⟨rfl, ((((HW.out.below HB3.out).alloc).setNew (Nat.le_refl _) HNE.out _ _).setNew (Nat.le_refl _) HNE.out _ _).setNew (Nat.le_refl _) HNE.out _ _⟩
  | false =>
    rw [hw] at KW
    rw [if_neg (by simp)]
    clear hw
    have KI := Lib.hid (fun w' => isName_any t w')
    have KT := Lib.hid (fun w' => told_any 2 t rest (nameB t) w')
    generalize nameB t = b at KI KT ⊢
    obtain ⟨⟨er, kk, tx, rs⟩, hx⟩ : ∃ x, tkOf 2 t rest b = x := ⟨_, rfl⟩
    rw [hx] at KT ⊢
    unfold tkV at KT
    simp only at KT
    clear hx
    go_enter Tryz.func113, Tryz.ntmps113
    go_wp2_with (first
      | (go_at_call 149; refine (KN.out).mono ?_; rintro e w1 ⟨rfl, hw⟩; have HW := Lib.hid hw; clear hw)
      | (go_at_call 150; refine (words_any _).mono ?_; rintro e w2 ⟨rfl, rfl⟩)
      | (go_at_call 82; refine (KW.out _).mono ?_; rintro e w2 ⟨rfl, rfl⟩)
      | (go_at_call 152; refine (KI.out _).mono ?_; rintro e w2 ⟨rfl, hb2⟩; have HB2 := Lib.hid (below_step (below_own _) hb2); clear hb2)
      | (go_at_call 151; refine (KT.out _).mono ?_; rintro e w3 ⟨rfl, hb3⟩; have HB3 := Lib.hid (below_step HB2.out hb3); clear hb3
         have HH := Lib.hid (lex_cells HW.out.fr HR.out HB3.out)
         have c0 : w3.cell? ⟨w.heap.size, 0, none⟩ = some (.int .u8 0) := Lib.cell_of_heap HH.out 0
         have c1 : w3.cell? ⟨w.heap.size, 1, none⟩ = some (.string ⟨#[]⟩) := Lib.cell_of_heap HH.out 1
         have c2 : w3.cell? ⟨w.heap.size, 2, none⟩ = some (.int .i64 0) := Lib.cell_of_heap HH.out 2
         have f0 : ∀ j, w3.frozen? ⟨w.heap.size, j, none⟩ = false := fun j => Lib.frozen_of_heap HH.out j))
    exact bodyPost_ret (v := .tuple #[.agg #[.int .u8 kk, .string ⟨tx.toArray⟩, .int .i64 0], .int .i64 er]) (by simp [results, Tryz.results113, go_sem, c0, c1, c2]) rfl ⟨rfl, ((((HW.out.below HB3.out).alloc).setNew (Nat.le_refl _) HNE.out _ _).setNew (Nat.le_refl _) HNE.out _ _).setNew (Nat.le_refl _) HNE.out _ _⟩

abbrev signsZ : List ByteArray := signsB.map fun t => ⟨t.toArray⟩
abbrev signsC : Array Value := #[.string ⟨#[61, 62]⟩, .string ⟨#[33, 61]⟩, .string ⟨#[60, 61]⟩, .string ⟨#[62, 61]⟩, .string ⟨#[40]⟩, .string ⟨#[41]⟩, .string ⟨#[123]⟩, .string ⟨#[125]⟩, .string ⟨#[44]⟩, .string ⟨#[59]⟩, .string ⟨#[61]⟩, .string ⟨#[60]⟩, .string ⟨#[62]⟩, .string ⟨#[43]⟩, .string ⟨#[45]⟩, .string ⟨#[42]⟩, .string ⟨#[95]⟩]
theorem signs_get (j : Nat) (hj : j < signsZ.length) : (signsZ[j]).data.toList = signsB[j]'(by simpa using hj) := by simp [signsZ]

theorem signOne_yes (R k : Nat) (s : ByteArray) (hm : s.size ≤ 1000000) (w : World) (h : Rd w R s k) (hk : k ≤ s.size) (t : Bs) (ht : signsB.find? (fun t => t.isPrefixOf (s.data.toList.drop k)) = some t) :
    Calls Tryz.prog 155 #[.pointer (some ⟨R, 0, none⟩), .slice (some ⟨w.heap.size, 0, none⟩) 17 17] (w.alloc (.cells signsC 9)) fun e w' => e = .returned (.string ⟨t.toArray⟩) ∧ To R s ((s.data.toList.drop k).drop t.length) w w' := by
  obtain ⟨hp, j, hj, hjt, hmiss⟩ := List.find?_eq_some_iff_getElem.1 ht
  have hjz : j < signsZ.length := by simpa using hj
  have ez : signsZ[j] = ⟨t.toArray⟩ := by simp [signsZ, hjt]
  have el : (signsZ[j]).data.toList = t := by rw [ez]
  have hle : t.length ≤ s.size - k := by
    have h1 := (List.isPrefixOf_iff_prefix.1 hp).length_le
    simpa using h1
  have hh := skipOne_yes R k w.heap.size 17 17 signsZ s hm _ (h.alloc _) hk (sets_made w signsZ signsC 9 rfl) rfl (by decide) j hjz (by rw [el]; exact hp) (fun i hi hij => by rw [signs_get]; have h1 := hmiss i hij; rwa [Bool.not_eq_true'] at h1)
  rw [el, ez] at hh
  exact hh.mono fun _ _ ⟨h1, h2⟩ => ⟨h1, _, by omega, by rw [← List.drop_drop], h2.alloc⟩
theorem signOne_no (R k : Nat) (s : ByteArray) (w : World) (h : Rd w R s k) (hk : k ≤ s.size) (ht : signsB.find? (fun t => t.isPrefixOf (s.data.toList.drop k)) = none) :
    Calls Tryz.prog 155 #[.pointer (some ⟨R, 0, none⟩), .slice (some ⟨w.heap.size, 0, none⟩) 17 17] (w.alloc (.cells signsC 9)) fun e w' => e = .returned (.string ⟨#[]⟩) ∧ To R s (s.data.toList.drop k) w w' := by
  have hmiss := List.find?_eq_none.1 ht
  have hh := skipOne_no R k w.heap.size 17 17 signsZ s _ (h.alloc _) hk (sets_made w signsZ signsC 9 rfl) rfl (by decide) (fun i hi => by rw [signs_get]; exact Bool.eq_false_iff.2 (hmiss _ (List.getElem_mem _)))
  exact hh.mono fun _ _ ⟨h1, m, h2⟩ => ⟨h1, k, hk, rfl, by rw [← h2]; exact ⟨(h.alloc _).drewN m, ((Fr.refl R w).alloc _).drewN m⟩⟩

set_option maxRecDepth 100000 in
set_option maxHeartbeats 1000000 in
theorem sign_any (R k : Nat) (s : ByteArray) (hm : s.size ≤ 1000000) (w : World) (h : Rd w R s k) (hk : k ≤ s.size) :
    Calls Tryz.prog 117 #[.pointer (some ⟨R, 0, none⟩)] w fun e w' => e = .returned (tkV (signT (s.data.toList.drop k)) 0) ∧ To R s (signT (s.data.toList.drop k)).rest w w' := by
  have HR : Hid (R < w.heap.size) := h.lt
  have HNE : Hid (w.heap.size ≠ R) := by have := h.lt; unfold Hid; omega
  unfold signT
  cases ht : signsB.find? (fun t => t.isPrefixOf (s.data.toList.drop k)) with
  | none =>
    have KN := Lib.hid (signOne_no R k s (w.alloc (.cells lexC 99)) (h.alloc _) hk ht)
    rw [World.size_alloc] at KN
    show Calls _ _ _ _ fun e w' => e = .returned (.tuple #[.agg #[.int .u8 0, .string ⟨#[]⟩, .int .i64 0], .int .i64 200]) ∧ To R s (s.data.toList.drop k) w w'
    generalize s.data.toList.drop k = rest at KN ⊢
    clear h ht
    go_enter Tryz.func117, Tryz.ntmps117
    go_wp2_with (go_at_call 155; refine (KN.out).mono ?_; rintro e w3 ⟨rfl, hw⟩; have HW := Lib.hid hw; clear hw
                 have HH := Lib.hid (HW.out.fr.made HR.out)
                 have c0 : w3.cell? ⟨w.heap.size, 0, none⟩ = some (.int .u8 0) := Lib.cell_of_heap HH.out 0
                 have c1 : w3.cell? ⟨w.heap.size, 1, none⟩ = some (.string ⟨#[]⟩) := Lib.cell_of_heap HH.out 1
                 have c2 : w3.cell? ⟨w.heap.size, 2, none⟩ = some (.int .i64 0) := Lib.cell_of_heap HH.out 2
                 have f0 : ∀ j, w3.frozen? ⟨w.heap.size, j, none⟩ = false := fun j => Lib.frozen_of_heap HH.out j)
    exact bodyPost_ret (v := .tuple #[.agg #[.int .u8 0, .string ⟨#[]⟩, .int .i64 0], .int .i64 200]) (by simp [results, Tryz.results117, go_sem, c0, c1, c2]) rfl ⟨rfl, ((HW.out.alloc.setNew (Nat.le_refl _) HNE.out _ _).setNew (Nat.le_refl _) HNE.out _ _).setNew (Nat.le_refl _) HNE.out _ _⟩
  | some t =>
    have KN := Lib.hid (signOne_yes R k s hm (w.alloc (.cells lexC 99)) (h.alloc _) hk t ht)
    rw [World.size_alloc] at KN
    show Calls _ _ _ _ fun e w' => e = .returned (.tuple #[.agg #[.int .u8 6, .string ⟨t.toArray⟩, .int .i64 0], .int .i64 0]) ∧ To R s ((s.data.toList.drop k).drop t.length) w w'
    generalize (s.data.toList.drop k).drop t.length = rest at KN ⊢
    have hne : t ≠ [] := by
      have h1 := List.mem_of_find?_eq_some ht
      have h2 : ∀ u ∈ signsB, u ≠ [] := by decide
      exact h2 t h1
    obtain ⟨y, hy⟩ : ∃ y : ByteArray, y = ⟨t.toArray⟩ := ⟨_, rfl⟩
    rw [← hy] at KN ⊢
    have e1 : y.toList.isEmpty = false := by
      rw [hy, Lib.toList_data]
      cases t with
      | nil => exact absurd rfl hne
      | cons => rfl
    have e2 : (y.toList = []) = False := by
      rw [hy, Lib.toList_data]
      simpa using hne
    clear h ht hne hy
    go_enter Tryz.func117, Tryz.ntmps117
    go_wp2_with (first
      | (go_at_call 155; refine (KN.out).mono ?_; rintro e w1 ⟨rfl, hw⟩; have HW := Lib.hid hw; clear hw)
      | (go_at_call 151; refine (told_yes _ _ _).mono ?_; rintro e w3 ⟨rfl, hb3⟩; have HB3 := Lib.hid hb3; clear hb3
         have HH := Lib.hid (lex_cells HW.out.fr HR.out HB3.out)
         have c0 : w3.cell? ⟨w.heap.size, 0, none⟩ = some (.int .u8 0) := Lib.cell_of_heap HH.out 0
         have c1 : w3.cell? ⟨w.heap.size, 1, none⟩ = some (.string ⟨#[]⟩) := Lib.cell_of_heap HH.out 1
         have c2 : w3.cell? ⟨w.heap.size, 2, none⟩ = some (.int .i64 0) := Lib.cell_of_heap HH.out 2
         have f0 : ∀ j, w3.frozen? ⟨w.heap.size, j, none⟩ = false := fun j => Lib.frozen_of_heap HH.out j))
    exact bodyPost_ret (v := .tuple #[.agg #[.int .u8 6, .string y, .int .i64 0], .int .i64 0]) (by simp [results, Tryz.results117, go_sem, c0, c1, c2]) rfl ⟨rfl, ((((HW.out.below HB3.out).alloc).setNew (Nat.le_refl _) HNE.out _ _).setNew (Nat.le_refl _) HNE.out _ _).setNew (Nat.le_refl _) HNE.out _ _⟩
end Go.Proofs.YtfmjhbaenpbfoaaGreatDoor
