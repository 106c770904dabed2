/- Numbers; blanks and comments go by. -/
import Derived.Test.YtfmjhbaenpbfoaaGreatDoorTok2
namespace Go.Proofs.YtfmjhbaenpbfoaaGreatDoor
open Go.RowKit

theorem To.errs {R : Nat} {s : ByteArray} {rest : Bs} {w w1 : World} (h : To R s rest w w1) (he : Errs w) (hR : 5 ≤ R) : Errs w1 := he.fr hR h.fr

set_option maxRecDepth 100000 in
set_option maxHeartbeats 1000000 in
theorem numberTok_any (R k : Nat) (s : ByteArray) (hm : s.size ≤ 1000000) (w : World) (h : Rd w R s k) (hk : k ≤ s.size) (he : Errs w) :
    Calls Tryz.prog 116 #[.pointer (some ⟨R, 0, none⟩)] w fun e w' => e = .returned (tkV (numberT (s.data.toList.drop k)) 0) ∧ To R s (numberT (s.data.toList.drop k)).rest w w' := by
  have KD := Lib.hid (take_set R k 1 [digitsZ] #[.string digitsZ] digB among_digits rfl rfl (by decide) s hm (w.alloc (.cells lexC 99)) (h.alloc _) hk)
  rw [World.size_alloc] at KD
  have HE : Hid (Errs (w.alloc (.cells lexC 99))) := he.below (below_own _)
  have H2 : Hid (5 ≤ R) := h.two
  have HR : Hid (R < w.heap.size) := h.lt
  have HNE : Hid (w.heap.size ≠ R) := by have := h.lt; unfold Hid; omega
  have hrest : (numberT (s.data.toList.drop k)).rest = (s.data.toList.drop k).dropWhile digB := tkOf_rest _ _ _ _
  rw [hrest]
  have hT : numberT (s.data.toList.drop k) = tkOf 4 ((s.data.toList.drop k).takeWhile digB) ((s.data.toList.drop k).dropWhile digB) (numB ((s.data.toList.drop k).takeWhile digB) && !nextB lowOnB ((s.data.toList.drop k).dropWhile digB)) := rfl
  rw [hT]
  have htl := takeWhile_len digB s k
  generalize (s.data.toList.drop k).takeWhile digB = t at KD htl ⊢
  generalize (s.data.toList.drop k).dropWhile digB = rest at KD ⊢
  have KN : Hid (∀ w', Errs w' → Calls Tryz.prog 77 #[.string ⟨t.toArray⟩] w' fun e w'' => e = .returned (.tuple #[.int .i64 (numI t), .bool (numB t)]) ∧ Below w'.heap.size w' w'') := fun w' h => number_any ⟨t.toArray⟩ w' (by simp [ByteArray.size]; omega) h
  have KX : Hid (∀ (k' : Nat) (w' : World), k' ≤ s.size → s.data.toList.drop k' = rest → Rd w' R s k' → Calls Tryz.prog 112 #[.pointer (some ⟨R, 0, none⟩), .slice (some ⟨w'.heap.size, 0, none⟩) 2 2] (w'.alloc (.cells #[.string lettersZ, .string lowZ] 9)) fun e w'' => e = .returned (.bool (nextB lowOnB rest)) ∧ Went R s k' w' w'') := fun k' w' hk' hd hr => by
    rw [← hd]
    exact next_set R k' 2 [lettersZ, lowZ] #[.string lettersZ, .string lowZ] lowOnB among_lowOn rfl rfl (by decide) s w' hr hk'
  generalize numI t = nv at KN
  generalize nextB lowOnB rest = nx at KX ⊢
  clear h hrest hT he htl
  cases hb : numB t with
  | true =>
    rw [hb] at KN
    rw [Bool.true_and]
    have KT := Lib.hid (fun w' => told_any 4 t rest (!nx) w')
    obtain ⟨⟨er, kk, tx, rs⟩, hx⟩ : ∃ x, tkOf 4 t rest (!nx) = x := ⟨_, rfl⟩
    rw [hx] at KT ⊢
    unfold tkV at KT
    simp only at KT
    clear hx hb
    go_enter Tryz.func116, Tryz.ntmps116
    go_wp2_with (first
      | (go_at_call 154; refine (KD.out).mono ?_; rintro e w1 ⟨rfl, k', hk', hd', hw'⟩; have HD := Lib.hid hd'; have HK := Lib.hid hk'; have HW := Lib.hid hw'; clear hd' hk' hw')
      | (go_at_call 77; refine (KN.out _ (HE.out.fr H2.out HW.out.fr)).mono ?_; rintro e w2 ⟨rfl, hb2⟩; have HB2 := Lib.hid hb2; clear hb2)
      | (go_at_call 112; refine (KX.out k' _ HK.out HD.out (HW.out.rd.below HB2.out)).mono ?_; rintro e w3 ⟨rfl, hw3⟩; have HW3 := Lib.hid ((HW.out.below HB2.out).of hw3); clear hw3)
      | (go_at_call 151; refine (KT.out _).mono ?_; rintro e w4 ⟨rfl, hb4⟩; have HB4 := Lib.hid hb4; clear hb4
         have HH := Lib.hid (lex_cells HW3.out.fr HR.out HB4.out)
         have c0 : w4.cell? ⟨w.heap.size, 0, none⟩ = some (.int .u8 0) := Lib.cell_of_heap HH.out 0
         have c1 : w4.cell? ⟨w.heap.size, 1, none⟩ = some (.string ⟨#[]⟩) := Lib.cell_of_heap HH.out 1
         have c2 : w4.cell? ⟨w.heap.size, 2, none⟩ = some (.int .i64 0) := Lib.cell_of_heap HH.out 2
         have f0 : ∀ j, w4.frozen? ⟨w.heap.size, j, none⟩ = false := fun j => Lib.frozen_of_heap HH.out j))
    exact bodyPost_ret (v := .tuple #[.agg #[.int .u8 kk, .string ⟨tx.toArray⟩, .int .i64 0], .int .i64 er]) (by simp [results, Tryz.results116, go_sem, c0, c1, c2]) rfl ⟨rfl, k', HK.out, HD.out, ((((HW3.out.below HB4.out).alloc).setNew (Nat.le_refl _) HNE.out _ _).setNew (Nat.le_refl _) HNE.out _ _).setNew (Nat.le_refl _) HNE.out _ _⟩
  | false =>
    rw [hb] at KN
    rw [Bool.false_and]
    have KT := Lib.hid (fun w' => told_no 4 ⟨t.toArray⟩ w')
    clear hb KX
    go_enter Tryz.func116, Tryz.ntmps116
    go_wp2_with (first
      | (go_at_call 154; refine (KD.out).mono ?_; rintro e w1 ⟨rfl, k', hk', hd', hw'⟩; have HD := Lib.hid hd'; have HK := Lib.hid hk'; have HW := Lib.hid hw'; clear hd' hk' hw')
      | (go_at_call 77; refine (KN.out _ (HE.out.fr H2.out HW.out.fr)).mono ?_; rintro e w2 ⟨rfl, hb2⟩; have HB2 := Lib.hid hb2; clear hb2)
      | (go_at_call 151; refine (KT.out _).mono ?_; rintro e w4 ⟨rfl, hb4⟩; have HB4 := Lib.hid (below_step HB2.out hb4); clear hb4
         have HH := Lib.hid (lex_cells HW.out.fr HR.out HB4.out)
         have c0 : w4.cell? ⟨w.heap.size, 0, none⟩ = some (.int .u8 0) := Lib.cell_of_heap HH.out 0
         have c1 : w4.cell? ⟨w.heap.size, 1, none⟩ = some (.string ⟨#[]⟩) := Lib.cell_of_heap HH.out 1
         have c2 : w4.cell? ⟨w.heap.size, 2, none⟩ = some (.int .i64 0) := Lib.cell_of_heap HH.out 2
         have f0 : ∀ j, w4.frozen? ⟨w.heap.size, j, none⟩ = false := fun j => Lib.frozen_of_heap HH.out j))
    exact bodyPost_ret (v := .tuple #[.agg #[.int .u8 0, .string ⟨#[]⟩, .int .i64 0], .int .i64 201]) (by simp [results, Tryz.results116, go_sem, c0, c1, c2]) rfl ⟨rfl, k', HK.out, HD.out, ((((HW.out.below HB4.out).alloc).setNew (Nat.le_refl _) HNE.out _ _).setNew (Nat.le_refl _) HNE.out _ _).setNew (Nat.le_refl _) HNE.out _ _⟩

theorem drop_step (P : UInt8 → Bool) (s : ByteArray) (j : Nat) : s.data.toList.drop (j + ((s.data.toList.drop j).takeWhile P).length) = (s.data.toList.drop j).dropWhile P := by
  rw [← List.drop_drop, dropWhile_drop]

set_option maxRecDepth 100000 in
set_option maxHeartbeats 1000000 in
theorem passBlanks_any (R k : Nat) (s : ByteArray) (hm : s.size ≤ 1000000) (w : World) (h : Rd w R s k) (hk : k ≤ s.size) :
    Calls Tryz.prog 110 #[.pointer (some ⟨R, 0, none⟩)] w fun e w' => (∃ v, e = .returned v) ∧ To R s (skipS false (s.data.toList.drop k)) w w' := by
  have KP := Lib.hid (fun (j : Nat) (w' : World) (h : Rd w' R s j) (hj : j ≤ s.size) => pass_set R j 1 [blanksZ] #[.string blanksZ] blankB among_blanks rfl rfl (by decide) s hm w' h hj)
  have KN := Lib.hid (fun (j : Nat) (w' : World) (h : Rd w' R s j) (hj : j ≤ s.size) => next_set R j 1 [hashZ] #[.string hashZ] hashB among_hash rfl rfl (by decide) s w' h hj)
  have KT := Lib.hid (fun (j : Nat) (w' : World) (h : Rd w' R s j) (hj : j ≤ s.size) => passTo_any R j s hm w' h hj)
  have K0 := Lib.hid (KP.out k w h hk)
  have HK := Lib.hid hk
  clear h hk
  go_enter Tryz.func110, Tryz.ntmps110
  go_wp2_with (go_at_call 146; refine (K0.out).mono ?_; rintro e w1 ⟨⟨v, rfl⟩, hw⟩; have HW := Lib.hid hw; clear hw; refine Hid.out ?_)
  have HST : Hid (∃ j : Nat, j ≤ s.size ∧ skipS false (s.data.toList.drop j) = skipS false (s.data.toList.drop k) ∧ nextB blankB (s.data.toList.drop j) = false ∧ Went R s j w w1) := by
    refine ⟨_, ?_, ?_, ?_, HW.out⟩
    · have := takeWhile_len blankB s k
      have := HK.out
      omega
    · rw [drop_step, skipS_blank]
    · rw [drop_step, next_dropWhile]
  clear HW K0
  refine Lib.hid ?_
  go_wp2_with fail
  go_loopw [] (fun wr => Hid (∃ j : Nat, j ≤ s.size ∧ skipS false (s.data.toList.drop j) = skipS false (s.data.toList.drop k) ∧ nextB blankB (s.data.toList.drop j) = false ∧ Went R s j w wr)) (fun wr => s.size - placeOf R wr)
  case atStart => exact HST
  case round =>
    obtain ⟨j, hj, hsk, hnb, hwr⟩ := hrel.out
    have HW := Lib.hid hwr
    have HJ := Lib.hid hj
    have HSK := Lib.hid hsk
    have HNB := Lib.hid hnb
    have HPL : Hid (placeOf R wr = j) := hwr.rd.place
    have KNj := Lib.hid (KN.out j wr hwr.rd hj)
    clear HST hrel hj hsk hnb hwr
    cases hh : nextB hashB (s.data.toList.drop j) with
    | false =>
      rw [hh] at KNj
      have HF : Hid (s.data.toList.drop j = skipS false (s.data.toList.drop k)) := by
        unfold Hid
        rw [← HSK.out, skipS_stop _ HNB.out hh]
      clear hh
      go_wp2_with (go_at_call 112; refine (KNj.out).mono ?_; rintro e w2 ⟨rfl, hw2⟩; have HW2 := Lib.hid (HW.out.of hw2); clear hw2)
      go_end0
      exact ⟨⟨_, rfl⟩, j, HJ.out, HF.out, HW2.out⟩
    | true =>
      rw [hh] at KNj
      have HL : Hid (j < s.size ∧ skipS false ((s.data.toList.drop j).dropWhile lineB) = skipS false (s.data.toList.drop k) ∧ 0 < ((s.data.toList.drop j).takeWhile lineB).length) := by
        have hlt : j < s.size := by
          apply Classical.byContradiction
          intro hx
          rw [List.drop_of_length_le (by simp; omega)] at hh
          cases hh
        have hx : hashB s[j] = true := by rw [drop_at s j hlt] at hh; exact hh
        have hl : lineB s[j] = true := by
          have : s[j].toNat = 35 := by simpa [hashB] using hx
          simp [lineB, this]
        refine ⟨hlt, ?_, ?_⟩
        · have h1 := HSK.out
          rw [drop_at s j hlt, skipS_hash _ _ hx] at h1
          rw [drop_at s j hlt]
          exact h1
        · rw [drop_at s j hlt, List.takeWhile_cons_of_pos hl]
          simp
      have HJ1 : Hid (j + ((s.data.toList.drop j).takeWhile lineB).length ≤ s.size) := by
        have := takeWhile_len lineB s j
        have := HJ.out
        unfold Hid
        omega
      clear hh
      go_wp2_with (first
        | (go_at_call 112; refine (KNj.out).mono ?_; rintro e w2 ⟨rfl, hw2⟩; have HW2 := Lib.hid (HW.out.of hw2); clear hw2)
        | (go_at_call 147; refine (KT.out j _ HW2.out.rd HJ.out).mono ?_; rintro e w3 ⟨⟨v3, rfl⟩, hw3⟩; have HW3 := Lib.hid (HW2.out.of hw3); clear hw3)
        | (go_at_call 146; refine (KP.out _ _ HW3.out.rd HJ1.out).mono ?_; rintro e w4 ⟨⟨v4, rfl⟩, hw4⟩; have HW4 := Lib.hid (HW3.out.of hw4); clear hw4))
      go_roundw
      case rel =>
        refine Lib.hid ⟨_, ?_, ?_, ?_, HW4.out⟩
        · have := takeWhile_len blankB s (j + ((s.data.toList.drop j).takeWhile lineB).length)
          have := HJ1.out
          omega
        · rw [drop_step, skipS_blank, drop_step]
          exact HL.out.2.1
        · rw [drop_step, next_dropWhile]
      case measure =>
        rw [HPL.out, HW4.out.rd.place]
        have h1 := HL.out.1
        have h2 := HL.out.2.2
        omega
end Go.Proofs.YtfmjhbaenpbfoaaGreatDoor
