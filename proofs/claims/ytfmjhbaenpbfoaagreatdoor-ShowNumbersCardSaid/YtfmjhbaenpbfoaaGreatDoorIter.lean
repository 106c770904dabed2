/- The function that is ranged over: all tokens, one behind the other. -/
import Derived.Test.YtfmjhbaenpbfoaaGreatDoorRange
namespace Go.Proofs.YtfmjhbaenpbfoaaGreatDoor
open Go.RowKit
attribute [local go_sem] Oper.semAt_some

abbrev Y := Tk × Nat
/-- What is told, one behind the other: tokens to the end, or to the first fault. -/
def seqF (N : Nat) : Nat → Bs → List Y
  | 0, _ => []
  | f + 1, l => (tokT (skipS false l), N - (skipS false l).length) :: if (tokT (skipS false l)).err = 0 ∧ (tokT (skipS false l)).kind ≠ 7 then seqF N f (tokT (skipS false l)).rest else []
theorem seqF_succ (N f : Nat) (l : Bs) : seqF N (f + 1) l = (tokT (skipS false l), N - (skipS false l).length) :: if (tokT (skipS false l)).err = 0 ∧ (tokT (skipS false l)).kind ≠ 7 then seqF N f (tokT (skipS false l)).rest else [] := rfl
abbrev encY (x : Y) : Array Value := #[.agg #[.int .u8 x.1.kind, .string ⟨x.1.text.toArray⟩, .int .i64 (x.2 : Int)], .int .i64 x.1.err]

theorem takeWhile_pos (P : UInt8 → Bool) (c : UInt8) (l : Bs) (h : P c = true) : ((c :: l).dropWhile P).length < (c :: l).length := by
  rw [List.dropWhile_cons_of_pos h]
  have := takeDrop_len P l
  simp
  omega
theorem tok_less (l : Bs) (he : (tokT l).err = 0) (hk : (tokT l).kind ≠ 7) : (tokT l).rest.length < l.length := by
  cases l with
  | nil => exact absurd rfl hk
  | cons c r =>
    have eT : tokT (c :: r) = if lowB c then wordT (c :: r) else if decide (c.toNat = 63) then namedT 3 r else if decide (c.toNat = 39) then namedT 5 r else if digB c then numberT (c :: r) else signT (c :: r) := rfl
    rw [eT] at he ⊢
    have hnamed : ∀ k, (namedT k r).rest.length < (c :: r).length := fun k => by
      have e : (namedT k r).rest = r.dropWhile onB := tkOf_rest _ _ _ _
      rw [e]
      have := takeDrop_len onB r
      simp
      omega
    by_cases h0 : lowB c = true
    · rw [if_pos h0] at he ⊢
      have e : (wordT (c :: r)).rest = (c :: r).dropWhile onB := by unfold wordT; split <;> exact tkOf_rest _ _ _ _
      rw [e]
      exact takeWhile_pos onB c r (by simp [onB, h0])
    · rw [if_neg h0] at he ⊢
      by_cases h1 : decide (c.toNat = 63) = true
      · rw [if_pos h1]
        exact hnamed 3
      · rw [if_neg h1] at he ⊢
        by_cases h2 : decide (c.toNat = 39) = true
        · rw [if_pos h2]
          exact hnamed 5
        · rw [if_neg h2] at he ⊢
          by_cases h3 : digB c = true
          · rw [if_pos h3]
            have e : (numberT (c :: r)).rest = (c :: r).dropWhile digB := tkOf_rest _ _ _ _
            rw [e]
            exact takeWhile_pos digB c r h3
          · rw [if_neg h3] at he ⊢
            unfold signT at he ⊢
            cases ht : signsB.find? (fun t => t.isPrefixOf (c :: r)) with
            | none =>
              rw [ht] at he
              have he' : (200 : Int) = 0 := he
              exact absurd he' (by decide)
            | some t =>
              have h4 := List.mem_of_find?_eq_some ht
              have h5 : ∀ u ∈ signsB, 0 < u.length := by decide
              have h6 := h5 t h4
              show ((c :: r).drop t.length).length < (c :: r).length
              rw [List.length_drop, List.length_cons]
              omega

theorem Rd.lets {R T : Nat} {s : ByteArray} {k : Nat} {W W' : World} (h : Rd W R s k) (l : Lets R T W W') : Rd W' R s k := by
  have e := l.same R (Or.inl rfl) h.lt
  refine ⟨h.two, Nat.lt_of_lt_of_le h.lt l.size, ?_, ?_, ?_⟩
  · rw [← h.src]; unfold World.cell?; simp only [e]
  · rw [← h.pos]; unfold World.cell?; simp only [e]
  · rw [← h.froz]; unfold World.frozen?; simp only [e]
theorem Errs.lets {R T : Nat} {W W' : World} (h : Errs W) (l : Lets R T W W') : Errs W' := by
  obtain ⟨h2, ⟨a, c, h3⟩, ⟨d, e, h4⟩⟩ := h
  refine ⟨Nat.le_trans h2 l.size, ⟨a, c, ?_⟩, ⟨d, e, ?_⟩⟩
  · rw [← h3]; unfold World.cell?; simp only [l.same 3 (Or.inr (Or.inr (by omega))) (by omega)]
  · rw [← h4]; unfold World.cell?; simp only [l.same 4 (Or.inr (Or.inr (by omega))) (by omega)]

set_option maxRecDepth 100000 in
set_option maxHeartbeats 4000000 in
theorem iter_in (n l Bs' : Nat) (hn : 1 ≤ n) (s : ByteArray) (hm : s.size ≤ 1000000) (J Jx : List Y → World → Prop) (W : World)
    (hJ : ∀ p X Z, J p X → X.grownBy Z (some W.heap.size) → J p Z)
    (hY : ∀ pre x W0 W1, J pre W0 → W.heap.size < W0.heap.size → W0.grownBy W1 (some W.heap.size) → W0.heap.size < W1.heap.size → pre.length < s.size + 1 → YieldAt Fence.wide (n - 1) Tryz.prog l (encY x) W1 fun e W' =>
      (e = .returned (.bool true) ∧ J (pre ++ [x]) W' ∧ Lets W.heap.size W0.heap.size W1 W') ∨ (e = .returned (.bool false) ∧ Jx (pre ++ [x]) W'))
    (hsrc : W.cell? ⟨Bs', 0, none⟩ = some (.string s)) (he : Errs W) (h0 : J [] W) :
    CallsIn Fence.wide n Tryz.prog 80 #[.func (.yield l) #[] #[], .pointer (some ⟨Bs', 0, none⟩)] W fun e W' => (∃ v, e = .returned v) ∧
      ((∃ xs, xs = seqF s.size (s.size + 1) s.data.toList ∧ J xs W') ∨ (∃ pre, pre <+: seqF s.size (s.size + 1) s.data.toList ∧ Jx pre W')) := by
  have H2 : Hid (5 ≤ W.heap.size) := he.two
  have HJ0 : Hid (J [] (W.alloc (.cells #[.string s, .int .i64 0] 137))) := hJ _ _ _ h0 (World.grownBy_alloc _ _ _)
  have HE0 : Hid (Errs (W.alloc (.cells #[.string s, .int .i64 0] 137))) := he.below (below_own _)
  have HM := Lib.hid hm
  have HJ := Lib.hid hJ
  have HYY := Lib.hid hY
  clear he h0 hm hJ hY
  refine callsIn_of_wp Tryz.func80 rfl trivial ?_ rfl
  simp only [Tryz.ntmps80, List.size_toArray, List.length_cons, List.length_nil, Nat.reduceAdd, Nat.reduceSub, Array.replicate_succ, Array.replicate_zero, List.push_toArray, List.append_toArray, List.nil_append, List.cons_append]
  gi_wp2
  have HRD : Hid (Rd (W.alloc (.cells #[.string s, .int .i64 0] 137)) W.heap.size s 0) := by
    refine ⟨H2.out, by simp, ?_, ?_, ?_⟩
    · exact cells_made _ _ _ _ _ rfl
    · exact cells_made _ _ _ _ _ rfl
    · exact Lib.frozen_of_heap (heap_alloc_new _ _) 1
  gi_loopw [] (fun wr => Hid (∃ (pre : List Y) (j : Nat), j ≤ s.size ∧ pre.length ≤ j ∧ seqF s.size (s.size + 1) s.data.toList = pre ++ seqF s.size (s.size + 1 - pre.length) (s.data.toList.drop j) ∧ J pre wr ∧ Rd wr W.heap.size s j ∧ Errs wr)) (fun wr => s.size - placeOf W.heap.size wr)
  case atStart => exact Lib.hid ⟨[], 0, Nat.zero_le _, Nat.le_refl _, rfl, HJ0.out, HRD.out, HE0.out⟩
  case round =>
    obtain ⟨pre, j, hj, hpj, hseq, hJs, hrd, her⟩ := hrel.out
    clear hrel HRD HJ0 HE0 hsrc
    have KT := Lib.hid (token_any W.heap.size j s HM.out wr hrd hj her)
    have HPL : Hid (placeOf W.heap.size wr = j) := hrd.place
    have HER := Lib.hid her
    have HLT := Lib.hid hrd.lt
    have HJS := Lib.hid hJs
    have HLEN : Hid (pre.length < s.size + 1) := by unfold Hid; omega
    have hf : s.size + 1 - pre.length = (s.size - pre.length) + 1 := by omega
    rw [hf, seqF_succ s.size (s.size - pre.length)] at hseq
    have hskl := skipS_len false (s.data.toList.drop j)
    have hless := tok_less (skipS false (s.data.toList.drop j))
    generalize s.size - (skipS false (s.data.toList.drop j)).length = a at KT hseq
    generalize tokT (skipS false (s.data.toList.drop j)) = x at KT hseq hless
    have HLESS : Hid (x.err = 0 → x.kind ≠ 7 → x.rest.length < s.size - j) := fun h1 h2 => by
      have := hless h1 h2
      simp at hskl
      omega
    have HPJ := Lib.hid hpj
    have HSJ := Lib.hid hj
    obtain ⟨er, kk, tx, rs⟩ := x
    unfold tkV at KT
    simp only at KT hseq
    have HSEQ := Lib.hid hseq
    clear hseq hskl hless hpj hj hf hJs hrd her
    by_cases hc : er = 0 ∧ kk ≠ 7
    · obtain ⟨rfl, hk7⟩ := hc
      have q1 : (kk == 7) = false := by simpa using hk7
      have HC : Hid (kk ≠ 7) := hk7
      have HS2 : Hid (seqF s.size (s.size + 1) s.data.toList = (pre ++ [(⟨0, kk, tx, rs⟩, a)]) ++ seqF s.size (s.size - pre.length) rs) := by
        unfold Hid
        rw [HSEQ.out, if_pos ⟨rfl, hk7⟩, List.append_assoc]
        rfl
      have HRL : Hid (rs.length < s.size - j) := HLESS.out rfl hk7
      clear hk7 HSEQ HLESS
      gi_wp2
      refine ⟨trivial, ?_⟩
      gi_at_call 81
      refine (callsIn_wide.2 (KT.out)).mono ?_
      rintro e w1 ⟨rfl, j', hj', hd', hw'⟩
      have HW := Lib.hid hw'
      obtain ⟨fn, tmps, assign, body, hy, hR⟩ := HYY.out pre (⟨0, kk, tx, rs⟩, a) w1 (w1.alloc (.cells #[.int .u8 kk, .string ⟨tx.toArray⟩, .int .i64 (a : Int)] 99)) (HJ.out _ _ _ HJS.out hw'.fr) (Nat.lt_of_lt_of_le HLT.out hw'.fr.size) (World.grownBy_alloc _ _ _) (by simp) HLEN.out
      simp only [encY] at hy
      have HD := Lib.hid hd'
      have HJ' := Lib.hid hj'
      clear hd' hj' hw'
      gi_wp2
      refine hR.mono ?_
      rintro e W3 (⟨rfl, hJ3, hL3⟩ | ⟨rfl, hJx3⟩)
      · have hk3 : W3.cell? ⟨w1.heap.size, 0, none⟩ = some (.int .u8 kk) := Lib.cell_of_heap ((hL3.same w1.heap.size (Or.inr (Or.inl rfl)) (by simp)).trans (heap_alloc_new w1 _)) 0
        have HL3 := Lib.hid hL3
        have HJ3 := Lib.hid hJ3
        clear hL3 hJ3
        gi_wp2
        have hjl : j' = s.size - rs.length := by
          have e := congrArg List.length HD.out
          simp at e
          have := HJ'.out
          omega
        have hrl := HRL.out
        have hpj := HPJ.out
        have hjs := HSJ.out
        have hrd3 : Rd W3 W.heap.size s j' := (HW.out.rd.alloc _).lets HL3.out
        go_roundw
        case rel =>
          refine Lib.hid ⟨pre ++ [(⟨0, kk, tx, rs⟩, a)], j', HJ'.out, ?_, ?_, HJ3.out, hrd3, ?_⟩
          · rw [List.length_append, List.length_singleton]
            omega
          · rw [HS2.out, HD.out, List.length_append, List.length_singleton, show s.size + 1 - (pre.length + 1) = s.size - pre.length by omega]
          · exact ((HER.out.fr H2.out HW.out.fr).below (below_own _)).lets HL3.out
        case measure =>
          rw [hrd3.place, HPL.out]
          omega
      · gi_wp2
        refine bodyPost_ret (results_none rfl _ _ _) rfl ?_
        exact ⟨⟨_, rfl⟩, .inr ⟨pre ++ [(⟨0, kk, tx, rs⟩, a)], ⟨_, HS2.out.symm⟩, hJx3⟩⟩
    · have HS2 : Hid (seqF s.size (s.size + 1) s.data.toList = pre ++ [(⟨er, kk, tx, rs⟩, a)]) := by
        unfold Hid
        rw [HSEQ.out, if_neg hc]
      clear HSEQ HLESS
      by_cases he0 : er = 0
      · subst he0
        obtain rfl : kk = 7 := by
          apply Classical.byContradiction
          intro hx
          exact hc ⟨rfl, hx⟩
        clear hc
        gi_wp2
        refine ⟨trivial, ?_⟩
        gi_at_call 81
        refine (callsIn_wide.2 (KT.out)).mono ?_
        rintro e w1 ⟨rfl, j', hj', hd', hw'⟩
        have HW := Lib.hid hw'
        obtain ⟨fn, tmps, assign, body, hy, hR⟩ := HYY.out pre (⟨0, 7, tx, rs⟩, a) w1 (w1.alloc (.cells #[.int .u8 7, .string ⟨tx.toArray⟩, .int .i64 (a : Int)] 99)) (HJ.out _ _ _ HJS.out hw'.fr) (Nat.lt_of_lt_of_le HLT.out hw'.fr.size) (World.grownBy_alloc _ _ _) (by simp) HLEN.out
        simp only [encY] at hy
        have HD := Lib.hid hd'
        have HJ' := Lib.hid hj'
        clear hd' hj' hw'
        gi_wp2
        refine hR.mono ?_
        rintro e W3 (⟨rfl, hJ3, hL3⟩ | ⟨rfl, hJx3⟩)
        · have hk3 : W3.cell? ⟨w1.heap.size, 0, none⟩ = some (.int .u8 7) := Lib.cell_of_heap ((hL3.same w1.heap.size (Or.inr (Or.inl rfl)) (by simp)).trans (heap_alloc_new w1 _)) 0
          clear hL3
          gi_wp2
          refine bodyPost_ret (results_none rfl _ _ _) rfl ?_
          exact ⟨⟨_, rfl⟩, .inl ⟨_, HS2.out.symm, hJ3⟩⟩
        · gi_wp2
          refine bodyPost_ret (results_none rfl _ _ _) rfl ?_
          exact ⟨⟨_, rfl⟩, .inr ⟨_, ⟨[], by rw [List.append_nil]; exact HS2.out.symm⟩, hJx3⟩⟩
      · have q0 : (er != 0) = true := by simpa using he0
        clear hc he0
        gi_wp2
        refine ⟨trivial, ?_⟩
        gi_at_call 81
        refine (callsIn_wide.2 (KT.out)).mono ?_
        rintro e w1 ⟨rfl, j', hj', hd', hw'⟩
        have HW := Lib.hid hw'
        obtain ⟨fn, tmps, assign, body, hy, hR⟩ := HYY.out pre (⟨er, kk, tx, rs⟩, a) w1 (w1.alloc (.cells #[.int .u8 kk, .string ⟨tx.toArray⟩, .int .i64 (a : Int)] 99)) (HJ.out _ _ _ HJS.out hw'.fr) (Nat.lt_of_lt_of_le HLT.out hw'.fr.size) (World.grownBy_alloc _ _ _) (by simp) HLEN.out
        simp only [encY] at hy
        have HD := Lib.hid hd'
        have HJ' := Lib.hid hj'
        clear hd' hj' hw'
        gi_wp2
        refine hR.mono ?_
        rintro e W3 (⟨rfl, hJ3, hL3⟩ | ⟨rfl, hJx3⟩)
        · clear hL3
          gi_wp2
          refine bodyPost_ret (results_none rfl _ _ _) rfl ?_
          exact ⟨⟨_, rfl⟩, .inl ⟨_, HS2.out.symm, hJ3⟩⟩
        · gi_wp2
          refine bodyPost_ret (results_none rfl _ _ _) rfl ?_
          exact ⟨⟨_, rfl⟩, .inr ⟨_, ⟨[], by rw [List.append_nil]; exact HS2.out.symm⟩, hJx3⟩⟩
end Go.Proofs.YtfmjhbaenpbfoaaGreatDoor
