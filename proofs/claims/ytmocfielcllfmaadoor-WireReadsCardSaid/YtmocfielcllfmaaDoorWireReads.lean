/- WireReads is true: whatever is read of any bytes, both readers tell the same. -/
import Derived.Test.YtmocfielcllfmaaDoorReadB
namespace Go.Proofs.YtmocfielcllfmaaDoor
open Go.RowKit

/-- A reader was made; it stands as long as what was made with it stands. -/
def NewK (l : List UInt8) (w : World) (e : Ending) (w' : World) : Prop :=
  ∃ R pb B, e = .returned (.pointer (some ⟨R, 0, none⟩)) ∧ (∀ W : World, w'.heap.size ≤ W.heap.size → (∀ k, w.heap.size ≤ k → k < w'.heap.size → W.heap[k]? = w'.heap[k]?) → RdS W R pb B (l, false)) ∧ w.heap.size ≤ pb ∧ pb < w'.heap.size ∧ B ≤ w'.heap.size ∧ Below w.heap.size w w'

theorem new_keep (ao : Option Addr) (l : List UInt8) (c : Nat) (w : World) (hl : l.length ≤ 140737488355328) (h : SlB w ao l c) :
    Calls Tryd.prog 13 #[.slice ao l.length c] w (NewK l w) := by
  have HC := Lib.hid (clone_any ao l c w hl h)
  clear h
  go_enter Tryd.func13, Tryd.ntmps13
  go_wp2_with (go_at_call 45; refine (HC.out).mono ?_; rintro e w1 ⟨v, rfl, hown, hb⟩; obtain ⟨ao1, c1, rfl⟩ := owns_slice hown; refine Hid.out ?_)
  have HB := Lib.hid hb
  have HOwn := Lib.hid hown
  clear hb hown HC
  refine Lib.hid ?_
  go_wp2
  go_ret
  refine ⟨w1.heap.size + 1, w1.heap.size, w1.heap.size + 2, rfl, fun W hW hk => ?_, HB.out.size, by simp; omega, by simp, below_new (below_new HB.out _) _⟩
  have hsz := HB.out.size
  have e1 : W.heap[w1.heap.size]? = some (.cells #[.slice ao1 l.length c1, .bool false] 97 (0, 0)) := by
    rw [hk _ hsz (by simp; omega), Below.heap_alloc _ _ _ (by simp)]
    exact heap_alloc_new w1 _
  have e2 : W.heap[w1.heap.size + 1]? = some (.cells #[.pointer (some ⟨w1.heap.size, 0, none⟩)] 40 (0, 0)) := by
    rw [hk _ (by omega) (by simp)]
    have := heap_alloc_new (w1.alloc (.cells #[.slice ao1 l.length c1, .bool false] 97)) (.cells #[.pointer (some ⟨w1.heap.size, 0, none⟩)] 40)
    simpa using this
  refine ⟨e2, by omega, ⟨ao1, c1, e1, ?_⟩, by omega, by omega, by simpa using hW⟩
  rcases HOwn.out.2 with ⟨h1, h0⟩ | ⟨g, cap, cur, h1, hg, hh, hn, hm, hs, ht⟩
  · have := List.eq_nil_of_length_eq_zero h0
    subst this
    simp only [Value.slice.injEq] at h1
    obtain ⟨rfl, _, rfl⟩ := h1
    exact Cut.nil _ _ _
  · simp only [Value.slice.injEq] at h1
    obtain ⟨rfl, _, rfl⟩ := h1
    have hlt := lt_of_heap hh
    have hgW : W.heap[g]? = some (.cells cur 5 (0, 0)) := by
      have s2 : g < (w1.alloc (.cells #[.slice (some ⟨g, 0, none⟩) l.length c1, .bool false] 97)).heap.size := by simp; omega
      rw [hk g hg (Nat.lt_of_lt_of_le s2 (by simp)), Below.heap_alloc _ _ _ s2, Below.heap_alloc _ _ _ hlt]
      exact hh
    refine ⟨hn, hm, by simp, fun hl => ⟨g, 0, rfl, by omega, by omega, fun j hj => ?_⟩⟩
    rw [Nat.zero_add, Lib.cell_of_heap hgW]
    have e : (cur.toList.take (l.length * 1))[j]? = (bcells l)[j]? := by rw [ht]
    have hj2 : j < l.length := hj
    have hj' : j < l.length * 1 := by omega
    rw [List.getElem?_take_of_lt hj'] at e
    simpa [Lib.byteCells, hj2] using e

theorem hx5 {W w : World} {ao2 : Option Addr} {xs : List Int} (h : SlI W.heap.size W ao2 xs) (b : Below W.heap.size W w) : SlI W.heap.size w ao2 xs := h.below b

set_option maxRecDepth 100000 in
set_option maxHeartbeats 4000000 in
theorem wireReads_any (ao : Option Addr) (l : List UInt8) (c : Nat) (ao2 : Option Addr) (xs : List Int) (c2 : Nat) (W : World) (hb : SlG W.heap.size W ao (bcells l)) (hn : ao = none → c = 0) (hc : l.length ≤ c) (hcm : c ≤ maxLen) (hx : SlI W.heap.size W ao2 xs) (hxl : xs.length ≤ 9223372036854775807) :
    Calls Tryd.prog 4 #[.slice ao l.length c, .slice ao2 xs.length c2] W (YesP W) := by
  by_cases hbig : 20000 < l.length
  · have hd : decide ((20000 : Int) < (l.length : Int)) = true := by simp; omega
    have hd' : decide (20000 < l.length) = true := by simp; omega
    clear hcm
    go_enter Tryd.func4, Tryd.ntmps4
    go_wp2_with (go_at_call 7; refine (awake_any _).mono ?_; rintro e w' ⟨rfl, hb⟩)
    go_ret
    exact ⟨rfl, hb⟩
  · have hd : decide ((20000 : Int) < (l.length : Int)) = false := by simp; omega
    have hd' : decide (20000 < l.length) = false := by simp; omega
    have HBG : Hid (l.length ≤ 20000) := by unfold Hid; omega
    have HRow := Lib.hid hb
    have HX := Lib.hid hx
    have HNil := Lib.hid hn
    have HCap := Lib.hid hc
    have HCm := Lib.hid hcm
    have KL := Lib.hid (lentB_any ao c l W (by omega) (hb.slB hn))
    clear hb hx hn hc hcm hbig
    go_enter Tryd.func4, Tryd.ntmps4
    go_wp2_with (go_at_call 8; refine (KL.out).mono ?_; rintro e w1 ⟨rfl, hL, hb⟩; refine Hid.out ?_)
    have HL := Lib.hid hL
    have HG1 := Lib.hid hL.size
    have HB1 := Lib.hid hb
    have KN := Lib.hid (new_keep (some ⟨W.heap.size, 0, none⟩) l (l.length + 12) w1 (by have := HBG.out; omega) (hL.slG.slB (by simp)))
    clear hL hb KL hd hd'
    refine Lib.hid ?_
    go_wp2_with (go_at_call 13; refine (KN.out).mono ?_; rintro e w2 ⟨R, pb, B, rfl, hK, hpb, hpb2, hBs, hb⟩; refine Hid.out ?_)
    have HK := Lib.hid hK
    have HPB := Lib.hid hpb
    have HPB2 := Lib.hid hpb2
    have HBs := Lib.hid hBs
    have HB2 := Lib.hid hb
    have HL2 := Lib.hid (HL.out.below hb)
    have HW2 := Lib.hid (below_step HB1.out hb)
    have KK := Lib.hid (keptB_any W.heap.size ao c l _ (by have := HBG.out; omega) (HL2.out.below (below_own (.cells #[.slice ao l.length c, .int .i64 0, .bool false] 35))) (HRow.out.up (below_new HW2.out (.cells #[.slice ao l.length c, .int .i64 0, .bool false] 35)) (by have := HW2.out.size; simp; omega)))
    have HL3 := Lib.hid (HL2.out.below (below_own (.cells #[.slice ao l.length c, .int .i64 0, .bool false] 35)))
    clear hK hpb hpb2 hBs hb KN HL
    refine Lib.hid ?_
    go_wp2_with (go_at_call 10; refine (KK.out).mono ?_; rintro e w4 ⟨rfl, hb⟩; refine Hid.out ?_)
    have HB4 := Lib.hid hb
    have KO := Lib.hid (overB_any W.heap.size l w4 (by have := HBG.out; omega) (HL3.out.below hb))
    clear hb KK
    refine Lib.hid ?_
    go_wp2_with (go_at_call 11; refine (KO.out).mono ?_; rintro e w5 ⟨rfl, hg⟩; refine Hid.out ?_)
    have HSz : Hid (w2.heap.size + 1 ≤ w5.heap.size) := by
      have h1 := HB4.out.size
      have h2 := hg.size
      unfold Hid
      simp at h1
      omega
    have hW1 : W.heap.size < w1.heap.size := HG1.out
    have HT : Hid (Two w5 R pb B w2.heap.size W.heap.size ao l c (l, false) ∧ Below W.heap.size W w5) := by
      have hkeep : ∀ k, w1.heap.size ≤ k → k < (w2.alloc (.cells #[.slice ao l.length c, .int .i64 0, .bool false] 35)).heap.size → w5.heap[k]? = (w2.alloc (.cells #[.slice ao l.length c, .int .i64 0, .bool false] 35)).heap[k]? := fun k hk1 hk2 => by
        rw [hg.block k (Nat.lt_of_lt_of_le hk2 HB4.out.size) (fun e => by have := Option.some.inj e; omega)]
        exact HB4.out.block k hk2
      have hbel : Below W.heap.size W w5 := (below_new HW2.out _).trans ((HB4.out.mono (by have := HW2.out.size; simp; omega)).trans ⟨hg.os, hg.tape, hg.output, hg.size, fun k hk => hg.block k (by have := HB4.out.size; have := HW2.out.size; simp at *; omega) (fun e => by have := Option.some.inj e; omega)⟩)
      have hs2 := HB2.out.size
      have hD : w5.heap[w2.heap.size]? = some (.cells #[.slice ao l.length c, .int .i64 0, .bool false] 35 (0, 0)) := by
        rw [hkeep _ hs2 (by simp)]
        exact heap_alloc_new w2 _
      refine ⟨⟨HK.out w5 (by have := HSz.out; omega) (fun k hk1 hk2 => ?_), ⟨⟨0, false, hD, Nat.zero_le _, rfl⟩, HRow.out.below hbel, HNil.out, HCap.out, by have := HBG.out; omega, HCm.out, by have := HW2.out.size; omega, hbel.size⟩, ?_, HBs.out, ?_⟩, hbel⟩
      · rw [hkeep k hk1 (by simp; omega), Below.heap_alloc _ _ _ hk2]
      · have := HPB2.out
        omega
      · have := HPB.out
        have := HB1.out.size
        omega
    have HX5 := Lib.hid (hx5 HX.out HT.out.2)
    have KB := Lib.hid (bad_any R pb B (l, false) w5 HT.out.1.rd)
    have KD := Lib.hid (done_any R pb B (l, false) w5 HT.out.1.rd)
    have KR := Lib.hid (rdone_any w2.heap.size W.heap.size ao l c (l, false) w5 HT.out.1.rf)
    clear hg KO HB4 HL3 HL2 HB2 HW2 HK HPB HPB2 HBs HSz hW1 HG1 HB1
    generalize doneB (l, false) = bd at KD KR
    refine Lib.hid ?_
    go_wp2_with (first
      | (go_at_call 14; refine (KB.out).mono ?_; rintro e w' ⟨rfl, rfl⟩)
      | (go_at_call 15; refine (KD.out).mono ?_; rintro e w' ⟨rfl, rfl⟩)
      | (go_at_call 16; refine (KR.out).mono ?_; rintro e w6 ⟨rfl, n6, rfl⟩; refine Hid.out ?_))
    have HT6 := Lib.hid (HT.out.1.below (RowKit_drewN (Below.refl _ _) n6))
    have HB6 := Lib.hid (RowKit_drewN HT.out.2 n6)
    clear KB KD KR HT
    refine Lib.hid ?_
    have hbd : (bd != bd) = false := by cases bd <;> rfl
    go_wp2_with fail
    clear hbd
    have HXB : Hid (∀ w', Below W.heap.size W w' → SlI W.heap.size w' ao2 xs) := fun w' b => HX.out.below b
    clear HX5 HX
    go_loopw [8] (fun i wr => ∃ (j : Nat) (s : St), j ≤ xs.length ∧ i = .int .i64 j ∧ Two wr R pb B w2.heap.size W.heap.size ao l c s ∧ Below W.heap.size W wr) (fun i _ => xs.length - (intOf i).toNat)
    case atStart => exact ⟨0, (l, false), by omega, rfl, HT6.out, HB6.out⟩
    case round =>
      obtain ⟨j, s, hj, rfl, htw, hbl⟩ := hrel
      have HTw := Lib.hid htw
      have HBl := Lib.hid hbl
      clear htw hbl HT6 HB6
      by_cases hlt : j < xs.length ∧ j < 300
      · obtain ⟨sb, off, rfl, hsb, hcx⟩ := (HXB.out _ HBl.out) (by omega)
        have cx := hcx j hlt.1
        have g1 : decide ((j : Int) < (xs.length : Int)) = true := by simp; omega
        have g2 : decide ((j : Int) < 300) = true := by simp; omega
        have g3 : decide (j < xs.length) = true := by simp; omega
        have g4 : decide (j < 300) = true := by simp; omega
        have KR := Lib.hid (fun x w' h => read_any R pb B w2.heap.size W.heap.size (ao := ao) (l0 := l) (c := c) (s := s) x w' h)
        have hlt1 : j < xs.length := hlt.1
        clear hcx
        generalize xs[j] = x at cx
        clear hlt
        go_wp2_with fail
        go_region_with (first
          | (go_at_call 17; refine (KR.out _ _ ?_).mono ?_; (first | exact HTw.out | exact HTw.out.below (Below.refl _ _).drew); rintro e w7 ⟨s', rfl, htw, hbl⟩; obtain ⟨l', b'⟩ := s'; have HTn := Lib.hid htw; have HBn := Lib.hid (show Below W.heap.size wr w7 from (show Below W.heap.size wr wr.drew from (Below.refl _ _).drew).trans hbl); have cq := htw.rf.cells.2.1; clear htw hbl; obtain ⟨dd, hdd⟩ : ∃ dd, dd = doneB (l', b') := ⟨_, rfl⟩; have HDD := Lib.hid hdd; clear hdd)
          | (go_at_call 14; refine (bad_any R pb B (l', b') _ ?_).mono ?_; (first | exact HTn.out.rd | exact HTn.out.rd.drewN _); rintro e w' ⟨rfl, rfl⟩)
          | (go_at_call 15; refine (done_any R pb B (l', b') _ ?_).mono ?_; (first | exact HTn.out.rd | exact HTn.out.rd.drewN _); rw [← HDD.out]; rintro e w' ⟨rfl, rfl⟩)
          | (go_at_call 16; refine (rdone_any w2.heap.size W.heap.size ao l c (l', b') _ ?_).mono ?_; (first | exact HTn.out.rf | exact HTn.out.rf.drewN _); rw [← HDD.out]; rintro e w8 ⟨rfl, n8, rfl⟩))
        all_goals
          have HTz := Lib.hid (HTn.out.below (RowKit_drewN (Below.refl _ _) n8))
          have HBz := Lib.hid (RowKit_drewN (HBl.out.trans HBn.out) n8)
          clear cq HTn HBn HTw HBl
          go_wp2_with fail
          go_roundw
          case rel => exact ⟨j + 1, (l', b'), by omega, by go_num, HTz.out, HBz.out⟩
          case measure => simp [intOf]; omega
      · by_cases hl : j < xs.length
        · have g1 : decide ((j : Int) < (xs.length : Int)) = true := by simp; omega
          have g2 : decide ((j : Int) < 300) = false := by simp; omega
          have g3 : decide (j < xs.length) = true := by simp; omega
          have g4 : decide (j < 300) = false := by simp; omega
          clear hlt
          go_wp2_with (go_at_call 7; refine (awake_any _).mono ?_; rintro e w' ⟨rfl, hb⟩)
          go_ret
          exact ⟨rfl, below_step HBl.out hb⟩
        · have g1 : decide ((j : Int) < (xs.length : Int)) = false := by simp; omega
          have g3 : decide (j < xs.length) = false := by simp; omega
          clear hlt
          go_wp2_with (go_at_call 7; refine (awake_any _).mono ?_; rintro e w' ⟨rfl, hb⟩)
          go_ret
          exact ⟨rfl, below_step HBl.out hb⟩
end Go.Proofs.YtmocfielcllfmaaDoor
