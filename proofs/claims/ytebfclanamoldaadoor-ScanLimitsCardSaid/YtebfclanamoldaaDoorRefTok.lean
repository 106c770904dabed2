/- The document's token, at a place where neither a blank nor a # stands. -/
import Derived.Test.YtebfclanamoldaaDoorRefNm
import Derived.Test.YtebfclanamoldaaDoorPlacesP
import Derived.Test.YtebfclanamoldaaDoorPlaces
namespace Go.Proofs.YtebfclanamoldaaDoor
open Go.RowKit

/-- What it tells: the token, its end, no error; or nothing, and the error. -/
def rtV (x : Tk) (a e : Nat) : Value := if x.err = 0 then .tuple #[.agg #[.int .u8 x.kind, .string ⟨x.text.toArray⟩, .int .i64 (a : Int)], .int .i64 (e : Int), .int .i64 0] else .tuple #[.agg #[.int .u8 0, .string ⟨#[]⟩, .int .i64 0], .int .i64 0, .int .i64 x.err]

theorem Lex3.other {W : World} {b : Nat} {x y z : Value} (h : Lex3 W b x y z) {b' : Nat} (hb : b' ≠ b) (i : Nat) (v : Value) : Lex3 (W.setCell ⟨b', i, none⟩ v) b x y z :=
  ⟨(World.cell?_setCell_other _ _ _ _ (fun e => by cases e; exact hb rfl)).trans h.c0, (World.cell?_setCell_other _ _ _ _ (fun e => by cases e; exact hb rfl)).trans h.c1, (World.cell?_setCell_other _ _ _ _ (fun e => by cases e; exact hb rfl)).trans h.c2⟩

theorem word_short (t : Bs) (h : wordsB.contains t = true) : t.length ≤ 24 := by
  have h1 : ∀ u ∈ wordsB, u.length ≤ 24 := by decide
  exact h1 t (List.contains_iff_mem.1 h)

set_option maxRecDepth 100000 in
set_option maxHeartbeats 4000000 in
theorem refTok_word (s : ByteArray) (hm : s.size ≤ 1000000) (a : Nat) (ha : a < s.size) (w : World) (hl : lowB s[a] = true) :
    Calls Tryd.prog 19 #[.string s, .int .i64 a] w fun e w' => e = .returned (rtV (wordT (s.data.toList.drop a)) a (a + ((s.data.toList.drop a).takeWhile onB).length)) ∧ Below w.heap.size w w' := by
  have KL := Lib.hid (fun w => refLow_any s[a] w)
  rw [hl] at KL
  have KR := Lib.hid (fun w => refRun_any a s hm (Nat.le_of_lt ha) w)
  have KW := Lib.hid (fun w => refWord_any ((s.data.toList.drop a).takeWhile onB) w)
  obtain ⟨E, hE⟩ : ∃ E, E = a + ((s.data.toList.drop a).takeWhile onB).length := ⟨_, rfl⟩
  have hle := takeWhile_len onB s a
  have hT : (⟨((s.data.toList.drop a).takeWhile onB).toArray⟩ : ByteArray) = s.extract a E := by
    rw [extract_eq, show E - a = ((s.data.toList.drop a).takeWhile onB).length by omega, takeWhile_take]
  have hlow : nextB lowB ((s.data.toList.drop a).takeWhile onB) = true := by
    rw [drop_at s a ha, List.takeWhile_cons_of_pos (by simp [onB, hl])]
    exact hl
  rw [← hE] at KR ⊢
  have hws := word_short ((s.data.toList.drop a).takeWhile onB)
  have hlen : ((s.data.toList.drop a).takeWhile onB).length = E - a := by omega
  have HN1 : Hid (w.heap.size + 1 ≠ w.heap.size) := by unfold Hid; omega
  unfold wordT
  generalize (s.data.toList.drop a).takeWhile onB = t at KW hT hlow hws hlen ⊢
  generalize (s.data.toList.drop a).dropWhile onB = rest
  rw [hT] at KW
  have i1 : (a : Int) ≤ (E : Int) := by omega
  have i2 : (E : Int) ≤ (s.size : Int) := by omega
  have i3 : (s.size : Int) ≤ 1000000 := by omega
  have ha' : (a : Int) < (s.size : Int) := by omega
  have ht0 : (⟨t.toArray⟩ : ByteArray).data.toList = t := rfl
  obtain ⟨z, hz⟩ : ∃ z : ByteArray, z = s.extract a E := ⟨_, rfl⟩
  rw [← hz] at hT KW
  have W1B : Hid (Below w.heap.size w ((w.alloc (.cells lexC 41)).alloc (.cells #[.int .u8 2, .string z, .int .i64 (a : Int)] 41))) := below_new (below_own _) _
  have HL4 : Hid (((w.alloc (.cells lexC 41)).alloc (.cells #[.int .u8 2, .string z, .int .i64 (a : Int)] 41)).heap[w.heap.size]? = some (.cells lexC 41 (0, 0))) := (Below.heap_alloc _ _ _ (by simp)).trans (heap_alloc_new w _)
  have HL9 : Hid (((w.alloc (.cells lexC 41)).alloc (.cells #[.int .u8 2, .string z, .int .i64 (a : Int)] 41)).heap[w.heap.size + 1]? = some (.cells #[.int .u8 2, .string z, .int .i64 (a : Int)] 41 (0, 0))) := by
    have := heap_alloc_new (w.alloc (.cells lexC 41)) (.cells #[.int .u8 2, .string z, .int .i64 (a : Int)] 41)
    rwa [World.size_alloc] at this
  have HZ := Lib.hid hz
  by_cases h24 : E - a ≤ 24
  · have j1 : ¬ (24 : Int) < (E : Int) - (a : Int) := by omega
    have j2 : decide ((24 : Int) < (E : Int) - (a : Int)) = false := by simp; omega
    have hE24 : t.length ≤ 24 := by omega
    cases hw : wordsB.contains t with
    | true =>
      rw [hw] at KW
      rw [if_pos rfl]
      have hR : rtV (tkOf 1 t rest true) a E = .tuple #[.agg #[.int .u8 1, .string z, .int .i64 (a : Int)], .int .i64 (E : Int), .int .i64 0] := by
        rw [← hT]
        rfl
      rw [hR]
      have hz' : s.extract a E = z := hz.symm
      clear hR hT hlow hws hlen hE24 hE hle h24 hl ht0 hm hz hw
      go_enter Tryd.func19, Tryd.ntmps19
      go_wp2_with (first
        | (go_at_call 25; refine (KL.out _).mono ?_; rintro e w' ⟨rfl, rfl⟩)
        | (go_at_call 26; refine (KR.out _).mono ?_; rintro e w' ⟨rfl, rfl⟩)
        | (go_at_call 27; refine (KW.out _).mono ?_; rintro e w2 ⟨rfl, hb2⟩
           have K4 := Lib.hid ((hb2.block _ (lt_of_heap HL4.out)).trans HL4.out)
           have K9 := Lib.hid ((hb2.block _ (lt_of_heap HL9.out)).trans HL9.out)
           have HB2 := Lib.hid (below_step W1B.out hb2)
           have c0 : w2.cell? ⟨w.heap.size, 0, none⟩ = some (.int .u8 0) := Lib.cell_of_heap K4.out 0
           have c1 : w2.cell? ⟨w.heap.size, 1, none⟩ = some (.string ⟨#[]⟩) := Lib.cell_of_heap K4.out 1
           have c2 : w2.cell? ⟨w.heap.size, 2, none⟩ = some (.int .i64 0) := Lib.cell_of_heap K4.out 2
           have f0 : ∀ j, w2.frozen? ⟨w.heap.size, j, none⟩ = false := fun j => Lib.frozen_of_heap K4.out j
           have d0 : w2.cell? ⟨w.heap.size + 1, 0, none⟩ = some (.int .u8 2) := Lib.cell_of_heap K9.out 0
           have d1 : w2.cell? ⟨w.heap.size + 1, 1, none⟩ = some (.string z) := Lib.cell_of_heap K9.out 1
           have d2 : w2.cell? ⟨w.heap.size + 1, 2, none⟩ = some (.int .i64 (a : Int)) := Lib.cell_of_heap K9.out 2
           have g0 : ∀ j, w2.frozen? ⟨w.heap.size + 1, j, none⟩ = false := fun j => Lib.frozen_of_heap K9.out j
           clear hb2))
      obtain ⟨e0, e1, e2⟩ := (((Lex3.other (b := w.heap.size) ⟨c0, c1, c2⟩ (b' := w.heap.size + 1) (by omega) 0 (.int .u8 1)).set0 (.int .u8 1)).set1 (.string z)).set2 (.int .i64 (a : Int))
      exact bodyPost_ret (v := .tuple #[.agg #[.int .u8 1, .string z, .int .i64 (a : Int)], .int .i64 (E : Int), .int .i64 0]) (by simp [results, Tryd.results19, go_sem, e0, e1, e2]) rfl ⟨rfl, (((HB2.out.setCell (p := ⟨w.heap.size + 1, 0, none⟩) (show w.heap.size ≤ w.heap.size + 1 by omega) _).setCell (p := ⟨w.heap.size, 0, none⟩) (Nat.le_refl _) _).setCell (p := ⟨w.heap.size, 1, none⟩) (Nat.le_refl _) _).setCell (p := ⟨w.heap.size, 2, none⟩) (Nat.le_refl _) _⟩
    | false =>
      rw [hw] at KW
      rw [if_neg (by simp)]
      have hnm : nameB t = true := by
        unfold nameB
        rw [hlow, decide_eq_true hE24]
        rfl
      have hR : rtV (tkOf 2 t rest (nameB t)) a E = .tuple #[.agg #[.int .u8 2, .string z, .int .i64 (a : Int)], .int .i64 (E : Int), .int .i64 0] := by
        rw [← hT, hnm]
        rfl
      rw [hR]
      have hz' : s.extract a E = z := hz.symm
      clear hR hT hlow hws hlen hE24 hE hle h24 hl ht0 hm hz hw hnm
      go_enter Tryd.func19, Tryd.ntmps19
      go_wp2_with (first
        | (go_at_call 25; refine (KL.out _).mono ?_; rintro e w' ⟨rfl, rfl⟩)
        | (go_at_call 26; refine (KR.out _).mono ?_; rintro e w' ⟨rfl, rfl⟩)
        | (go_at_call 27; refine (KW.out _).mono ?_; rintro e w2 ⟨rfl, hb2⟩
           have K4 := Lib.hid ((hb2.block _ (lt_of_heap HL4.out)).trans HL4.out)
           have K9 := Lib.hid ((hb2.block _ (lt_of_heap HL9.out)).trans HL9.out)
           have HB2 := Lib.hid (below_step W1B.out hb2)
           have c0 : w2.cell? ⟨w.heap.size, 0, none⟩ = some (.int .u8 0) := Lib.cell_of_heap K4.out 0
           have c1 : w2.cell? ⟨w.heap.size, 1, none⟩ = some (.string ⟨#[]⟩) := Lib.cell_of_heap K4.out 1
           have c2 : w2.cell? ⟨w.heap.size, 2, none⟩ = some (.int .i64 0) := Lib.cell_of_heap K4.out 2
           have f0 : ∀ j, w2.frozen? ⟨w.heap.size, j, none⟩ = false := fun j => Lib.frozen_of_heap K4.out j
           have d0 : w2.cell? ⟨w.heap.size + 1, 0, none⟩ = some (.int .u8 2) := Lib.cell_of_heap K9.out 0
           have d1 : w2.cell? ⟨w.heap.size + 1, 1, none⟩ = some (.string z) := Lib.cell_of_heap K9.out 1
           have d2 : w2.cell? ⟨w.heap.size + 1, 2, none⟩ = some (.int .i64 (a : Int)) := Lib.cell_of_heap K9.out 2
           have g0 : ∀ j, w2.frozen? ⟨w.heap.size + 1, j, none⟩ = false := fun j => Lib.frozen_of_heap K9.out j
           clear hb2))
      obtain ⟨e0, e1, e2⟩ := ((Lex3.set0 (b := w.heap.size) ⟨c0, c1, c2⟩ (.int .u8 2)).set1 (.string z)).set2 (.int .i64 (a : Int))
      exact bodyPost_ret (v := .tuple #[.agg #[.int .u8 2, .string z, .int .i64 (a : Int)], .int .i64 (E : Int), .int .i64 0]) (by simp [results, Tryd.results19, go_sem, e0, e1, e2]) rfl ⟨rfl, ((HB2.out.setCell (p := ⟨w.heap.size, 0, none⟩) (Nat.le_refl _) _).setCell (p := ⟨w.heap.size, 1, none⟩) (Nat.le_refl _) _).setCell (p := ⟨w.heap.size, 2, none⟩) (Nat.le_refl _) _⟩
  · have j1 : (24 : Int) < (E : Int) - (a : Int) := by omega
    have j2 : decide ((24 : Int) < (E : Int) - (a : Int)) = true := by simp; omega
    have hwf : wordsB.contains t = false := by
      rw [Bool.eq_false_iff]
      intro h
      have := hws h
      omega
    have hnm : nameB t = false := by
      unfold nameB
      rw [decide_eq_false (by omega)]
      simp
    rw [if_neg (by rw [hwf]; simp), hnm]
    show Calls _ _ _ _ fun e w' => e = .returned (.tuple #[.agg #[.int .u8 0, .string ⟨#[]⟩, .int .i64 0], .int .i64 0, .int .i64 201]) ∧ Below w.heap.size w w'
    have hz' : s.extract a E = z := hz.symm
    clear hT hlow hws hlen hE hle h24 hl ht0 hm hz hnm hwf KW HZ
    go_enter Tryd.func19, Tryd.ntmps19
    go_wp2_with (first
      | (go_at_call 25; refine (KL.out _).mono ?_; rintro e w' ⟨rfl, rfl⟩)
      | (go_at_call 26; refine (KR.out _).mono ?_; rintro e w' ⟨rfl, rfl⟩))
    obtain ⟨e0, e1, e2⟩ : Lex3 ((w.alloc (.cells lexC 41)).alloc (.cells #[.int .u8 2, .string z, .int .i64 (a : Int)] 41)) w.heap.size (.int .u8 0) (.string ⟨#[]⟩) (.int .i64 0) := ⟨Lib.cell_of_heap HL4.out 0, Lib.cell_of_heap HL4.out 1, Lib.cell_of_heap HL4.out 2⟩
    exact bodyPost_ret (v := .tuple #[.agg #[.int .u8 0, .string ⟨#[]⟩, .int .i64 0], .int .i64 0, .int .i64 201]) (by simp [results, Tryd.results19, go_sem, e0, e1, e2]) rfl ⟨rfl, W1B.out⟩
end Go.Proofs.YtebfclanamoldaaDoor
