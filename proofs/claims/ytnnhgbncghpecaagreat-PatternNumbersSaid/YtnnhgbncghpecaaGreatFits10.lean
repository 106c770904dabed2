/- Whether an argument and a value fit. -/
import Derived.Test.YtnnhgbncghpecaaGreatBindF10
namespace Go.Proofs.YtnnhgbncghpecaaGreat
open Go.RowKit

/-- Where a variable of a match is read. -/
theorem M10.reads {B : Nat} {w : World} {nb n : Nat} {e0 e : E10} {ho : Option Addr} {hc : Nat} {vo : Option Addr} {vc : Nat} {bd : Bool} (h : M10 B w nb n e0 e ho hc vo vc bd) {k : Nat} (hk : k < n) :
    ∃ g1 o1 c1 g2 o2 c2, w.heap[nb]? = some (.cells #[.slice (some ⟨g1, o1, none⟩) n c1, .slice (some ⟨g2, o2, none⟩) n c2, .slice ho n hc, .slice vo n vc, .bool bd] 70 (0, 0)) ∧ g1 < w.heap.size ∧ g2 < w.heap.size ∧
      w.cell? ⟨g1, o1 + k, none⟩ = some (.bool (e.1.getD k false)) ∧ w.cell? ⟨g2, o2 + k * 3, none⟩ = some (.int .u8 (e.2.getD k zeroT).1) ∧ w.cell? ⟨g2, o2 + k * 3 + 1, none⟩ = some (.int .i64 (e.2.getD k zeroT).2.1) ∧ w.cell? ⟨g2, o2 + k * 3 + 2, none⟩ = some (.string (e.2.getD k zeroT).2.2) := by
  obtain ⟨a1, c1, a2, c2, h1, h2, h3⟩ := h.slices
  have q1 := cellsB_get e.1 k (by rw [h.even.1]; exact hk)
  obtain ⟨q2, q3, q4⟩ := cellsV_get e.2 k (by rw [h.even.2]; exact hk)
  have hlt := h.lt
  cases bd with
  | false =>
    obtain ⟨e1, e2, rfl⟩ := h2 rfl
    simp only [Value.slice.injEq, true_and] at e1 e2
    obtain ⟨rfl, rfl⟩ := e1
    obtain ⟨rfl, rfl⟩ := e2
    obtain ⟨g1, o1, rfl, l1, r1⟩ := h.ahead.has.row (fun hn => by rw [hn] at q1; cases q1)
    obtain ⟨g2, o2, rfl, l2, r2⟩ := h.ahead.vals.row (fun hn => by rw [hn] at q2; cases q2)
    have hB := h.low
    exact ⟨g1, o1, c1, g2, o2, c2, h1, by omega, by omega, r1 _ _ q1, r2 _ _ q2, by rw [Nat.add_assoc]; exact r2 _ _ q3, by rw [Nat.add_assoc]; exact r2 _ _ q4⟩
  | true =>
    have hO := h3 rfl
    obtain ⟨g1, c1', cur1, e1, -, hg1, -, -, hc1⟩ := owns_at hO.has (by have := h.even.1; omega)
    obtain ⟨g2, c2', cur2, e2, -, hg2, -, -, hc2⟩ := owns_at hO.vals (by have := h.even.2; omega)
    rw [h.even.1] at e1 hc1
    rw [h.even.2] at e2 hc2
    simp only [Value.slice.injEq, true_and] at e1 e2
    obtain ⟨rfl, rfl⟩ := e1
    obtain ⟨rfl, rfl⟩ := e2
    refine ⟨g1, 0, c1, g2, 0, c2, h1, lt_of_heap hg1, lt_of_heap hg2, ?_, ?_, ?_, ?_⟩
    · rw [Nat.zero_add, hc1 k (by omega)]; exact q1
    · rw [Nat.zero_add, hc2 (k * 3) (by omega)]; exact q2
    · rw [Nat.zero_add, hc2 (k * 3 + 1) (by omega)]; exact q3
    · rw [Nat.zero_add, hc2 (k * 3 + 2) (by omega)]; exact q4

theorem below_drewN {B : Nat} {a w : World} (h : Below B a w) (m : Nat) : Below B a (w.drewN m) := ⟨h.os, h.tape, h.output, h.size, h.block⟩
def FitsP (B nb n : Nat) (e0 e : E10) (ho : Option Addr) (hc : Nat) (vo : Option Addr) (vc : Nat) (bd : Bool) (a : A10) (v : V3) (w : World) (r : Ending) (w' : World) : Prop :=
  ((∃ e' bd', fit1 a v e = some e' ∧ r = .returned (.bool true) ∧ M10 B w' nb n e0 e' ho hc vo vc bd' ∧ (bd = true → bd' = true) ∧ (a.kind = 2 → bd' = true)) ∨ (fit1 a v e = none ∧ r = .returned (.bool false) ∧ M10 B w' nb n e0 e ho hc vo vc bd)) ∧ MFr B nb w w'
section
variable {B : Nat} {w : World} {nb n : Nat} {e0 e : E10} {ho : Option Addr} {hc : Nat} {vo : Option Addr} {vc : Nat} {bd : Bool}
theorem FitsP.yes {a : A10} {v : V3} {w' : World} (h : fit1 a v e = some e) (hk : a.kind ≠ 2) (hM : M10 B w' nb n e0 e ho hc vo vc bd) (hF : MFr B nb w w') : FitsP B nb n e0 e ho hc vo vc bd a v w (.returned (.bool true)) w' :=
  ⟨Or.inl ⟨e, bd, h, rfl, hM, fun h => h, fun h => absurd h hk⟩, hF⟩
theorem FitsP.no {a : A10} {v : V3} {w' : World} (h : fit1 a v e = none) (hM : M10 B w' nb n e0 e ho hc vo vc bd) (hF : MFr B nb w w') : FitsP B nb n e0 e ho hc vo vc bd a v w (.returned (.bool false)) w' :=
  ⟨Or.inr ⟨h, rfl, hM⟩, hF⟩
theorem FitsP.of {a : A10} {v : V3} {w' : World} {b : Bool} (h : fit1 a v e = if b = true then some e else none) (hk : a.kind ≠ 2) (hM : M10 B w' nb n e0 e ho hc vo vc bd) (hF : MFr B nb w w') : FitsP B nb n e0 e ho hc vo vc bd a v w (.returned (.bool b)) w' := by
  cases b with
  | true => exact .yes h hk hM hF
  | false => exact .no h hM hF

set_option maxRecDepth 100000 in
set_option maxHeartbeats 4000000 in
theorem fits_easy (h : M10 B w nb n e0 e ho hc vo vc bd) (hB : B ≤ w.heap.size) (a : A10) (v : V3) (h2 : a.kind ≠ 2) (h3 : a.kind ≠ 3) :
    Calls Tryz.prog 56 #[.pointer (some ⟨nb, 0, none⟩), aggA a, aggV v] w (FitsP B nb n e0 e ho hc vo vc bd a v w) := by
  have HB : Hid (∀ o1 o2, Below w.heap.size w ((w.alloc o1).alloc o2)) := fun o1 o2 => below_new (below_own _) _
  have HM := Lib.hid (fun W (hb : Below w.heap.size w W) => h.old hb)
  have HF := Lib.hid (fun W (hb : Below w.heap.size w W) => MFr.of_below (nb := nb) hb hB)
  obtain ⟨ak, ai, av1, av2, av3⟩ := a
  obtain ⟨v1, v2, v3⟩ := v
  simp only at h2 h3
  clear h hB
  by_cases h1 : ak = 1
  · subst h1
    have hfit : fit1 ⟨1, ai, av1, av2, av3⟩ (v1, v2, v3) e = some e := rfl
    have HFit := Lib.hid hfit
    clear hfit
    go_enter Tryz.func56, Tryz.ntmps56
    go_wp2
    go_ret
    exact .yes HFit.out (show (1 : Int) ≠ 2 by decide) (HM.out _ (HB.out _ _)) (HF.out _ (HB.out _ _))
  · by_cases h4 : ak = 4
    · subst h4
      have heq := fun W => eqV av1 av2 v1 v2 av3 v3 W
      have hg := eqGuardV
      have HFit : Hid (fit1 ⟨4, ai, av1, av2, av3⟩ (v1, v2, v3) e = if eqvB (av1, av2, av3) (v1, v2, v3) = true then some e else none) := rfl
      generalize eqvB (av1, av2, av3) (v1, v2, v3) = b at *
      go_enter Tryz.func56, Tryz.ntmps56
      go_wp2
      go_ret
      exact .of HFit.out (show (4 : Int) ≠ 2 by decide) (HM.out _ (HB.out _ _)) (HF.out _ (HB.out _ _))
    · have HFit : Hid (fit1 ⟨ak, ai, av1, av2, av3⟩ (v1, v2, v3) e = none) := by
        unfold fit1
        rw [if_neg h1, if_neg h2, if_neg h3, if_neg h4]
        exact rfl
      have b1 : (ak == 1) = false := by simp [h1]
      have b2 : (ak == 2) = false := by simp [h2]
      have b3 : (ak == 3) = false := by simp [h3]
      have b4 : (ak == 4) = false := by simp [h4]
      clear h1 h2 h3 h4
      go_enter Tryz.func56, Tryz.ntmps56
      go_wp2
      go_ret
      exact .no HFit.out (HM.out _ (HB.out _ _)) (HF.out _ (HB.out _ _))

set_option maxRecDepth 100000 in
set_option maxHeartbeats 4000000 in
theorem fits_bind (h : M10 B w nb n e0 e ho hc vo vc bd) (hB : B ≤ w.heap.size) (i : Int) (av v : V3) :
    Calls Tryz.prog 56 #[.pointer (some ⟨nb, 0, none⟩), aggA ⟨2, i, av⟩, aggV v] w (FitsP B nb n e0 e ho hc vo vc bd ⟨2, i, av⟩ v w) := by
  have HB : Hid (∀ o1 o2, Below w.heap.size w ((w.alloc o1).alloc o2)) := fun o1 o2 => below_new (below_own _) _
  have HM := Lib.hid (fun W (hb : Below w.heap.size w W) => h.old hb)
  have HF := Lib.hid (fun W (hb : Below w.heap.size w W) => MFr.of_below (nb := nb) hb hB)
  have he := h.even.1
  clear h hB
  obtain ⟨av1, av2, av3⟩ := av
  cases hk : known10 i n with
  | false =>
    have HFit : Hid (fit1 ⟨2, i, av1, av2, av3⟩ v e = none) := by
      unfold fit1
      rw [if_neg (show ¬ (2 : Int) = 1 by decide), if_pos rfl, he, hk]
      exact rfl
    have HN := Lib.hid (fun W (hb : Below w.heap.size w W) => bind_no (HM.out W hb) i hk v)
    clear hk
    obtain ⟨v1, v2, v3⟩ := v
    go_enter Tryz.func56, Tryz.ntmps56
    go_wp2_with (go_at_call 91; go_must (refine (HN.out _ (HB.out _ _)).mono ?_; rintro e w1 ⟨rfl, hb⟩; have HB2 := Lib.hid ((HB.out _ _).trans (hb.mono (HB.out _ _).size)); clear hb))
    go_ret
    exact .no HFit.out (HM.out _ HB2.out) (HF.out _ HB2.out)
  | true =>
    obtain ⟨k, rfl, hlt⟩ := known10_iff.1 hk
    have HFit : Hid (fit1 ⟨2, k, av1, av2, av3⟩ v e = some (bind10 k v e)) := by
      unfold fit1
      rw [if_neg (show ¬ (2 : Int) = 1 by decide), if_pos rfl, he, hk]
      exact rfl
    have HN := Lib.hid (fun W (hb : Below w.heap.size w W) => bind_any (HM.out W hb) k hlt v)
    clear hk
    obtain ⟨v1, v2, v3⟩ := v
    go_enter Tryz.func56, Tryz.ntmps56
    go_wp2_with (go_at_call 91; go_must (refine (HN.out _ (HB.out _ _)).mono ?_; rintro r w1 ⟨rfl, hm, hf⟩; have HM2 := Lib.hid hm; have HF2 := Lib.hid ((HF.out _ (HB.out _ _)).trans hf); clear hm hf))
    go_ret
    exact ⟨Or.inl ⟨_, _, HFit.out, rfl, HM2.out, fun _ => rfl, fun _ => rfl⟩, HF2.out⟩

set_option maxRecDepth 100000 in
set_option maxHeartbeats 4000000 in
theorem fits_var (h : M10 B w nb n e0 e ho hc vo vc bd) (hB : B ≤ w.heap.size) (i : Int) (av v : V3) :
    Calls Tryz.prog 56 #[.pointer (some ⟨nb, 0, none⟩), aggA ⟨3, i, av⟩, aggV v] w (FitsP B nb n e0 e ho hc vo vc bd ⟨3, i, av⟩ v w) := by
  have HB : Hid (∀ o1 o2, Below w.heap.size w ((w.alloc o1).alloc o2)) := fun o1 o2 => below_new (below_own _) _
  have HM := Lib.hid (fun W (hb : Below w.heap.size w W) => h.old hb)
  have HF := Lib.hid (fun W (hb : Below w.heap.size w W) => MFr.of_below (nb := nb) hb hB)
  have he := h.even.1
  have HK := Lib.hid (fun W (hb : Below w.heap.size w W) => knows_any (HM.out W hb) i)
  obtain ⟨av1, av2, av3⟩ := av
  obtain ⟨v1, v2, v3⟩ := v
  have mixed : Tryz.prog.follows .mixedOrders = true := by kernel_rfl
  cases hk : known10 i n with
  | false =>
    rw [hk] at HK
    have HFit : Hid (fit1 ⟨3, i, av1, av2, av3⟩ (v1, v2, v3) e = none) := by
      unfold fit1
      rw [if_neg (show ¬ (3 : Int) = 1 by decide), if_neg (show ¬ (3 : Int) = 2 by decide), if_pos rfl, he, hk]
      exact rfl
    clear hk h hB
    go_enter Tryz.func56, Tryz.ntmps56
    go_wp2_with fail
    go_quiet (first | (go_at_call 92; exact Calls.quiet_of_same ((HK.out _ (below_drewN (HB.out _ _) _)).mono fun _ _ ⟨h, h'⟩ => ⟨h, h'.symm⟩)))
    go_wp2
    go_ret
    exact .no HFit.out (HM.out _ (below_drewN (HB.out _ _) _)) (HF.out _ (below_drewN (HB.out _ _) _))
  | true =>
    rw [hk] at HK
    obtain ⟨k, rfl, hlt⟩ := known10_iff.1 hk
    have HFit : Hid (fit1 ⟨3, k, av1, av2, av3⟩ (v1, v2, v3) e = if (e.1.getD k false && eqvB (e.2.getD k zeroT) (v1, v2, v3)) = true then some e else none) := by
      unfold fit1
      rw [if_neg (show ¬ (3 : Int) = 1 by decide), if_neg (show ¬ (3 : Int) = 2 by decide), if_pos rfl, he, hk]
      exact rfl
    obtain ⟨g1, o1, c1, g2, o2, c2, hnb, l1, l2, x1, x2, x3, x4⟩ := h.reads hlt
    have hln := h.lt
    have y := fun j => Lib.cell_of_heap hnb j
    have hli : (k : Int) < (n : Int) := by omega
    have hfew := h.few
    clear hk h hB hnb he
    cases hh : e.1.getD k false with
    | false =>
      rw [hh] at HFit x1
      clear x2 x3 x4 hh
      go_enter Tryz.func56, Tryz.ntmps56
      go_wp2_with fail
      go_quiet (first | (go_at_call 92; exact Calls.quiet_of_same ((HK.out _ (below_drewN (HB.out _ _) _)).mono fun _ _ ⟨h, h'⟩ => ⟨h, h'.symm⟩)))
      go_wp2
      go_ret
      exact .no HFit.out (HM.out _ (below_drewN (HB.out _ _) _)) (HF.out _ (below_drewN (HB.out _ _) _))
    | true =>
      rw [hh, Bool.true_and] at HFit
      rw [hh] at x1
      generalize e.2.getD k zeroT = u at *
      obtain ⟨u1, u2, u3⟩ := u
      have heq := fun W => eqV u1 u2 v1 v2 u3 v3 W
      have hg := eqGuardV
      generalize eqvB (u1, u2, u3) (v1, v2, v3) = b at *
      simp only at x2 x3 x4
      clear hh
      go_enter Tryz.func56, Tryz.ntmps56
      go_wp2_with fail
      go_quiet (first | (go_at_call 92; exact Calls.quiet_of_same ((HK.out _ (below_drewN (HB.out _ _) _)).mono fun _ _ ⟨h, h'⟩ => ⟨h, h'.symm⟩)))
      go_wp2
      go_ret
      exact .of HFit.out (show (3 : Int) ≠ 2 by decide) (HM.out _ (below_drewN (HB.out _ _) _)) (HF.out _ (below_drewN (HB.out _ _) _))
/-- Whether an argument and a value fit. -/
theorem fits_any (h : M10 B w nb n e0 e ho hc vo vc bd) (hB : B ≤ w.heap.size) (a : A10) (v : V3) :
    Calls Tryz.prog 56 #[.pointer (some ⟨nb, 0, none⟩), aggA a, aggV v] w (FitsP B nb n e0 e ho hc vo vc bd a v w) := by
  obtain ⟨ak, ai, av⟩ := a
  by_cases h2 : ak = 2
  · subst h2
    exact fits_bind h hB ai av v
  · by_cases h3 : ak = 3
    · subst h3
      exact fits_var h hB ai av v
    · exact fits_easy h hB ⟨ak, ai, av⟩ v h2 h3
end
end Go.Proofs.YtnnhgbncghpecaaGreat
