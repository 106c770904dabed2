/- AgendaBetter answers yes, whatever came in, given what the program's Better and the law's awake tell. -/
import Derived.Test.YtlkmabnjmklkpaaGreatDoorTwoT14
import Derived.Test.YtlkmabnjmklkpaaGreatDoorGreat14
import Derived.Test.YtlkmabnjmklkpaaGreatDoorTab14
namespace Go.Proofs.YtlkmabnjmklkpaaGreatDoor
open Go.RowKit
set_option maxRecDepth 100000

theorem below_three {w : World} (o1 o2 o3 : Obj) : Below w.heap.size w (((w.alloc o1).alloc o2).alloc o3) := below_new (below_two w o1 o2) o3
/-- What the program's Better tells. -/
def BetterTells : Prop := ∀ (s : List Int) (x y : TK) (ao ao1 ao2 : Option Addr) (c c1 c2 : Nat) (W : World), s.length ≤ 1000000 → x.2.length ≤ 1000000 → y.2.length ≤ 1000000 → SlG W.heap.size W ao (rcells s) → SlG W.heap.size W ao1 (icells x.2) → SlG W.heap.size W ao2 (icells y.2) → (ao = none → c = 0) → (ao1 = none → c1 = 0) → (ao2 = none → c2 = 0) → s.length ≤ c → x.2.length ≤ c1 → y.2.length ≤ c2 →
  Calls Tryz.prog 10 #[aggR ao s.length c, aggK x.1 ao1 x.2.length c1, aggK y.1 ao2 y.2.length c2] W (SaysP (better14 s x y) W)
def AwakeTells : Prop := ∀ W : World, Tab14 W → Calls Tryz.prog 7 #[] W (YesP W)

set_option maxHeartbeats 8000000 in
theorem agendaBetter_of (hBT : BetterTells) (hAT : AwakeTells) (s : List Int) (x y : TK) (so ao1 ao2 : Option Addr) (sc c1 c2 : Nat) (w : World) (hs : Sl10 w.heap.size w s.length so sc (icells s)) (h1 : Sl10 w.heap.size w x.2.length ao1 c1 (icells x.2)) (h2 : Sl10 w.heap.size w y.2.length ao2 c2 (icells y.2)) (hl1 : x.2.length ≤ 281474976710656) (hl2 : y.2.length ≤ 281474976710656) (htab : Tab14 w) :
    Calls Tryz.prog 3 #[.slice so s.length sc, aggK x.1 ao1 x.2.length c1, aggK y.1 ao2 y.2.length c2] w (YesP w) := by
  obtain ⟨k1, d1⟩ := x
  obtain ⟨k2, d2⟩ := y
  simp only at h1 h2 hl1 hl2 ⊢
  have mixed : Tryz.prog.follows .mixedOrders = true := by kernel_rfl
  have HBT := Lib.hid hBT
  have HAT := Lib.hid (fun W (hW : Below w.heap.size w W) => hAT W (htab.on hW))
  have HS := Lib.hid hs
  have H1 := Lib.hid h1
  have H2 := Lib.hid h2
  have hb2 := below_two w (.cells #[.int .i64 k1, .slice ao1 d1.length c1] 24) (.cells #[.int .i64 k2, .slice ao2 d2.length c2] 24)
  obtain ⟨q1, q2⟩ := heap_two (w := w) (.cells #[.int .i64 k1, .slice ao1 d1.length c1] 24) (.cells #[.int .i64 k2, .slice ao2 d2.length c2] 24)
  have HB2 := Lib.hid hb2
  have HQ1 := Lib.hid q1
  have HQ2 := Lib.hid q2
  have hsm : s.length ≤ 9223372036854775807 := by have := hs.cap; have := hs.top; unfold maxLen at this; omega
  clear hBT hAT hs h1 h2 hb2 q1 q2 htab
  by_cases h4 : 400 < s.length
  · have hd : decide ((400 : Int) < (s.length : Int)) = true := by simp; omega
    have hd' : decide (400 < s.length) = true := by simp; omega
    go_enter Tryz.func3, Tryz.ntmps3
    go_wp2_with (go_at_call 7; go_must (refine (HAT.out _ HB2.out).mono ?_; rintro e w1 ⟨rfl, hb⟩; have HE := Lib.hid (HB2.out.trans (hb.mono HB2.out.size)); clear hb))
    go_ret
    exact ⟨rfl, HE.out⟩
  · have hd : decide ((400 : Int) < (s.length : Int)) = false := by simp; omega
    have hd' : decide (400 < s.length) = false := by simp; omega
    -- the row of both that great is asked of
    have hrow : SlTk ((((w.alloc (.cells #[.int .i64 k1, .slice ao1 d1.length c1] 24)).alloc (.cells #[.int .i64 k2, .slice ao2 d2.length c2] 24)).alloc (.cells #[.int .i64 k1, .slice ao1 d1.length c1, .int .i64 k2, .slice ao2 d2.length c2] 24)).heap.size) ((((w.alloc (.cells #[.int .i64 k1, .slice ao1 d1.length c1] 24)).alloc (.cells #[.int .i64 k2, .slice ao2 d2.length c2] 24)).alloc (.cells #[.int .i64 k1, .slice ao1 d1.length c1, .int .i64 k2, .slice ao2 d2.length c2] 24))) (some ⟨w.heap.size + 1 + 1, 0, none⟩) [(k1, d1), (k2, d2)] := by
      have b3 := below_three (w := w) (.cells #[.int .i64 k1, .slice ao1 d1.length c1] 24) (.cells #[.int .i64 k2, .slice ao2 d2.length c2] 24) (.cells #[.int .i64 k1, .slice ao1 d1.length c1, .int .i64 k2, .slice ao2 d2.length c2] 24)
      obtain ⟨_, _, q3⟩ := heap_three (w := w) (.cells #[.int .i64 k1, .slice ao1 d1.length c1] 24) (.cells #[.int .i64 k2, .slice ao2 d2.length c2] 24) (.cells #[.int .i64 k1, .slice ao1 d1.length c1, .int .i64 k2, .slice ao2 d2.length c2] 24)
      refine ⟨[((k1, d1), .slice ao1 d1.length c1), ((k2, d2), .slice ao2 d2.length c2)], rfl, fun _ => ⟨w.heap.size + 2, 0, rfl, lt_of_heap q3, fun j u hu => ?_⟩, fun p hp => ?_⟩
      · rw [Nat.zero_add, Lib.cell_of_heap q3]
        simpa [cellsTk] using hu
      · simp only [List.mem_cons, List.not_mem_nil, or_false] at hp
        rcases hp with rfl | rfl
        · exact ⟨ao1, c1, rfl, H1.out.row.up b3 b3.size, fun hn => (H1.out.nil hn).2⟩
        · exact ⟨ao2, c2, rfl, H2.out.row.up b3 b3.size, fun hn => (H2.out.nil hn).2⟩
    have KG := Lib.hid (great_any [(k1, d1), (k2, d2)] (some ⟨w.heap.size + 1 + 1, 0, none⟩) 2 (by simp) (fun t ht => by
      simp only [List.mem_cons, List.not_mem_nil, or_false] at ht
      rcases ht with rfl | rfl
      · exact hl1
      · exact hl2) _ hrow)
    simp only [List.length_cons, List.length_nil, Nat.zero_add] at KG
    have HB3 := Lib.hid (below_three (w := w) (.cells #[.int .i64 k1, .slice ao1 d1.length c1] 24) (.cells #[.int .i64 k2, .slice ao2 d2.length c2] 24) (.cells #[.int .i64 k1, .slice ao1 d1.length c1, .int .i64 k2, .slice ao2 d2.length c2] 24))
    clear hrow hl1 hl2
    cases hgr : greatB [(k1, d1), (k2, d2)] with
    | true =>
      rw [hgr] at KG
      go_enter Tryz.func3, Tryz.ntmps3
      go_wp2_with (first
        | (go_at_call 6; go_must (refine (KG.out).mono ?_; rintro e w1 ⟨rfl, rfl⟩))
        | (go_at_call 7; go_must (refine (HAT.out _ HB3.out).mono ?_; rintro e w1 ⟨rfl, hb⟩; have HE := Lib.hid (HB3.out.trans (hb.mono HB3.out.size)); clear hb)))
      go_ret
      exact ⟨rfl, HE.out⟩
    | false =>
      rw [hgr] at KG
      have hsum : 2 + (d1.length + d2.length) ≤ 400 := by
        have := hgr
        unfold greatB lenT at this
        simp at this
        omega
      have hs4 : s.length ≤ 1000000 := by omega
      have KOf := Lib.hid (fun W (hW : Below w.heap.size w W) => of_any s so sc hs4 W (HS.out.row.up hW hW.size))
      go_enter Tryz.func3, Tryz.ntmps3
      go_wp2_with (first
        | (go_at_call 6; go_must (refine (KG.out).mono ?_; rintro e w1 ⟨rfl, rfl⟩))
        | (go_at_call 8; go_must (refine (KOf.out _ HB3.out).mono ?_; rintro e w5 ⟨v5, rfl, ho5, hb5⟩; obtain ⟨ro, rc, rfl⟩ := owns_slice ho5; have HO5 := Lib.hid ho5; have HB5 := Lib.hid hb5; clear ho5 hb5)))
      have hr5 := heap_alloc_new w5 (.cells #[.slice none 0 0, .slice ro s.length rc] 31)
      have hb8 := below_own (w := w5) (.cells #[.slice none 0 0, .slice ro s.length rc] 31)
      have HB8 := Lib.hid ((HB3.out.trans (HB5.out.mono HB3.out.size)).trans (hb8.mono (Nat.le_trans HB3.out.size HB5.out.size)))
      have HR8 := Lib.hid (show SlG (w5.alloc (.cells #[.slice none 0 0, .slice ro s.length rc] 31)).heap.size (w5.alloc (.cells #[.slice none 0 0, .slice ro s.length rc] 31)) ro (rcells s) from (owns_slG HO5.out).up hb8 hb8.size)
      have hrn : ro = none → rc = 0 := fun e => by
        subst e
        rcases HO5.out.2 with ⟨h1, _⟩ | ⟨g, cap, cur, h1, _⟩
        · simp only [Value.slice.injEq] at h1
          exact h1.2.2
        · simp at h1
      have hrc : s.length ≤ rc := by
        rcases HO5.out.2 with ⟨h1, h2⟩ | ⟨g, cap, cur, h1, _, _, hc, _⟩
        · omega
        · simp only [Value.slice.injEq] at h1
          omega
      have qq1 := (HB5.out.block _ (lt_of_heap (alloc_keep HQ1.out _))).trans (alloc_keep HQ1.out _)
      have qq2 := (HB5.out.block _ (lt_of_heap (alloc_keep HQ2.out _))).trans (alloc_keep HQ2.out _)
      have Q1 := Lib.hid (alloc_keep qq1 (.cells #[.slice none 0 0, .slice ro s.length rc] 31))
      have Q2 := Lib.hid (alloc_keep qq2 (.cells #[.slice none 0 0, .slice ro s.length rc] 31))
      have Q3 := Lib.hid hr5
      clear qq1 qq2 hr5 hb8 HQ1 HQ2 HO5 HB5 KG
      generalize hw8 : w5.alloc (.cells #[.slice none 0 0, .slice ro s.length rc] 31) = w8 at HB8 HR8 Q1 Q2 Q3 ⊢
      clear hw8
      generalize w5.heap.size = b7 at Q3 ⊢
      generalize ha0 : ({ tmps := _, defers := _ } : Act) = a0
      have o : Lo a0 w8 k1 k2 d1 d2 ao1 ao2 c1 c2 w.heap.size (w.heap.size + 1) := by
        rw [← ha0]
        exact ⟨rfl, rfl, rfl, H1.out.row.up HB8.out HB8.out.size, H2.out.row.up HB8.out HB8.out.size, fun e => (H1.out.nil e).2, fun e => (H2.out.nil e).2, by omega, by omega, Q1.out, Q2.out⟩
      refine wp_region_inv (fun listed a W => Lf a0 w8 k1 k2 d1 d2 ao1 ao2 c1 c2 (fun j => listed.getD j false) a W) mixed (by kernel_rfl) ⟨_, (fillF_self a0 slotsL (fun d hd => by rw [o.size]; exact (by decide : ∀ d ∈ slotsL, d < 74) d hd)).symm, Ld.start _ _ _ _ _ _ _ _ _ _ (fun j => replicate_getD _ j)⟩
        (fun listed a W i hs h hi => by
          obtain ⟨x, rfl, hW⟩ := h
          have hs8 : listed.size = 8 := hs
          have hi8 : i < 8 := ready_lt hi
          have neg : listed.getD i false = false := ready_not hs hi
          have el : (fun j => (listed.setIfInBounds i true).getD j false) = setL (fun j => listed.getD j false) i := funext fun j => getD_listed (by omega) j
          refine wpOp_mono (K := Lf a0 w8 k1 k2 d1 d2 ao1 ao2 c1 c2 (setL (fun j => listed.getD j false) i)) (fun a' w' h' => by show Lf _ _ _ _ _ _ _ _ _ _ (fun j => (listed.setIfInBounds i true).getD j false) _ _; rw [el]; exact h') ?_
          clear el ha0
          obtain rfl | rfl | rfl | rfl | rfl | rfl | rfl | rfl : i = 0 ∨ i = 1 ∨ i = 2 ∨ i = 3 ∨ i = 4 ∨ i = 5 ∨ i = 6 ∨ i = 7 := by omega
          · exact Ld.op0 o hW rfl neg
          · exact Ld.op1 o hW rfl neg (waits_done hi (by kernel_rfl))
          · exact Ld.op2 o hW rfl neg
          · exact Ld.op3 o hW rfl neg (waits_done hi (by kernel_rfl))
          · exact Ld.op4 o hW rfl neg
          · exact Ld.op5 o hW rfl neg
          · exact Ld.op6 o hW rfl neg (waits_done hi (by kernel_rfl)) (waits_done hi (by kernel_rfl)) (waits_done hi (by kernel_rfl))
          · exact Ld.op7 o hW rfl neg (waits_done hi (by kernel_rfl)) (waits_done hi (by kernel_rfl)) (waits_done hi (by kernel_rfl)))
        (fun listed a W h hall => ?_)
      obtain ⟨x, rfl, hW⟩ := h
      obtain ⟨⟨g1, ⟨b8, e8, hz8, hb8⟩, hL1, hg1⟩, -⟩ := hW.f6 (hall 6 (by decide))
      obtain ⟨⟨g2, ⟨b9, e9, hz9, hb9⟩, hL2, hg2⟩, -⟩ := hW.f7 (hall 7 (by decide))
      obtain ⟨g3, e24, -, -⟩ := hW.f1 (hall 1 (by decide))
      obtain ⟨g4, e26, -, -⟩ := hW.f3 (hall 3 (by decide))
      have e23 := hW.f0 (hall 0 (by decide))
      have e25 := hW.f2 (hall 2 (by decide))
      have HBW := Lib.hid hW.bel
      have HLx := Lib.hid hL1
      have HLy := Lib.hid hL2
      have P8 := Lib.hid hb8
      have P9 := Lib.hid hb9
      refine (by assumption : ∀ (a : Act) (w : World), Code.wp _ _ _ a w → _) _ W ?_
      clear hL1 hL2 hW hall o hb8 hb9 hz8 hz9 hg1 hg2
      simp only [fillF, slotsL, e23, e24, e25, e26, e8, e9]
      clear e23 e24 e25 e26 e8 e9
      rw [← ha0]
      clear ha0
      go_simp
      have P4 := Lib.hid ((HBW.out.block _ (lt_of_heap Q1.out)).trans Q1.out)
      have P5 := Lib.hid ((HBW.out.block _ (lt_of_heap Q2.out)).trans Q2.out)
      have P7 := Lib.hid ((HBW.out.block _ (lt_of_heap Q3.out)).trans Q3.out)
      have HR9 := Lib.hid (HR8.out.up HBW.out HBW.out.size)
      have HBw := Lib.hid (HB8.out.trans (HBW.out.mono HB8.out.size))
      have HX9 := Lib.hid (H1.out.row.up HBw.out HBw.out.size)
      have HY9 := Lib.hid (H2.out.row.up HBw.out HBw.out.size)
      clear Q1 Q2 Q3 HR8 HB8 HBW
      have c40 := cellW (lt_of_heap P4.out) (Lib.cell_of_heap P4.out 0 : _ = some _)
      have c41 := cellW (lt_of_heap P4.out) (Lib.cell_of_heap P4.out 1 : _ = some _)
      have c50 := cellW (lt_of_heap P5.out) (Lib.cell_of_heap P5.out 0 : _ = some _)
      have c51 := cellW (lt_of_heap P5.out) (Lib.cell_of_heap P5.out 1 : _ = some _)
      have c70 := cellW (lt_of_heap P7.out) (Lib.cell_of_heap P7.out 0 : _ = some _)
      have c71 := cellW (lt_of_heap P7.out) (Lib.cell_of_heap P7.out 1 : _ = some _)
      have c80 := cellW (lt_of_heap P8.out) (Lib.cell_of_heap P8.out 0 : _ = some _)
      have c81 := cellW (lt_of_heap P8.out) (Lib.cell_of_heap P8.out 1 : _ = some _)
      have c90 := cellW (lt_of_heap P9.out) (Lib.cell_of_heap P9.out 0 : _ = some _)
      have c91 := cellW (lt_of_heap P9.out) (Lib.cell_of_heap P9.out 1 : _ = some _)
      have hn1 := fun e => (H1.out.nil e).2
      have hn2 := fun e => (H2.out.nil e).2
      have hc1 := H1.out.cap
      have hc2 := H2.out.cap
      have HLs := Lib.hid (And.intro (show d1.length ≤ 1000000 by omega) (show d2.length ≤ 1000000 by omega))
      have KA := Lib.hid (fun Z (hZ : Below W.heap.size W Z) => HBT.out s (k1, d1) (k2, d2) ro (some ⟨g1, 0, none⟩) (some ⟨g2, 0, none⟩) rc (d1.length + 12) (d2.length + 12) Z hs4 HLs.out.1 HLs.out.2 (HR9.out.up hZ hZ.size) (HLx.out.slG.up hZ hZ.size) (HLy.out.slG.up hZ hZ.size) hrn (fun e => by cases e) (fun e => by cases e) hrc (Nat.le_add_right _ _) (Nat.le_add_right _ _))
      have KB := Lib.hid (fun Z (hZ : Below W.heap.size W Z) => refBetter_any s (k1, d1) (k2, d2) ro ao1 ao2 rc c1 c2 HLs.out.1 HLs.out.2 Z (HR9.out.up hZ hZ.size) (HX9.out.up hZ hZ.size) (HY9.out.up hZ hZ.size))
      have KC := Lib.hid (fun Z (hZ : Below W.heap.size W Z) => HBT.out s (k2, d2) (k1, d1) ro (some ⟨g2, 0, none⟩) (some ⟨g1, 0, none⟩) rc (d2.length + 12) (d1.length + 12) Z hs4 HLs.out.2 HLs.out.1 (HR9.out.up hZ hZ.size) (HLy.out.slG.up hZ hZ.size) (HLx.out.slG.up hZ hZ.size) hrn (fun e => by cases e) (fun e => by cases e) hrc (Nat.le_add_right _ _) (Nat.le_add_right _ _))
      have KD := Lib.hid (fun Z (hZ : Below W.heap.size W Z) => refBetter_any s (k2, d2) (k1, d1) ro ao2 ao1 rc c2 c1 HLs.out.2 HLs.out.1 Z (HR9.out.up hZ hZ.size) (HY9.out.up hZ hZ.size) (HX9.out.up hZ hZ.size))
      have KE := Lib.hid (fun Z (hZ : Below W.heap.size W Z) => HBT.out s (k1, d1) (k1, d1) ro ao1 ao1 rc c1 c1 Z hs4 HLs.out.1 HLs.out.1 (HR9.out.up hZ hZ.size) (HX9.out.up hZ hZ.size) (HX9.out.up hZ hZ.size) hrn hn1 hn1 hrc hc1 hc1)
      rw [better_irr] at KE
      simp only at KA KB KC KD KE
      generalize better14 s (k1, d1) (k2, d2) = bxy at KA KB
      generalize better14 s (k2, d2) (k1, d1) = byx at KC KD
      clear hn1 hn2 hc1 hc2
      go_wp2_with fail
      refine wp_region_quiet_bel (by assumption) (by kernel_rfl) ?_
      repeat (go_big_quiet_step (fail))
      go_big_quiet_step ((go_at_call 10; go_must (exact (KA.out _ (BelW.h _)).mono fun _ w' h => ⟨h.1, ⟨w', (BelW.h _).trans (h.2.mono (BelW.h _).size)⟩, rfl⟩)))
      repeat (go_big_quiet_step (fail))
      go_big_quiet_step ((go_at_call 11; go_must (exact (KB.out _ (BelW.h _)).mono fun _ w' h => ⟨h.1, ⟨w', (BelW.h _).trans (h.2.mono (BelW.h _).size)⟩, rfl⟩)))
      repeat (go_big_quiet_step (fail))
      go_big_quiet_step ((go_at_call 10; go_must (exact (KC.out _ (BelW.h _)).mono fun _ w' h => ⟨h.1, ⟨w', (BelW.h _).trans (h.2.mono (BelW.h _).size)⟩, rfl⟩)))
      repeat (go_big_quiet_step (fail))
      go_big_quiet_step ((go_at_call 11; go_must (exact (KD.out _ (BelW.h _)).mono fun _ w' h => ⟨h.1, ⟨w', (BelW.h _).trans (h.2.mono (BelW.h _).size)⟩, rfl⟩)))
      repeat (go_big_quiet_step (fail))
      refine wpQuiet_nil ?_
      rintro _ ⟨p, rfl⟩
      clear c40 c41 c50 c51 c70 c71 c80 c81 c90 c91 KA KB KC KD
      go_wp2_with fail
      generalize ha0 : ({ tmps := _, defers := _ } : Act) = a0
      have e_4 : a0.eval (.tmp 4) = .pointer (some ⟨w.heap.size, 0, none⟩) := by rw [← ha0]; rfl
      have e_5 : a0.eval (.tmp 5) = .pointer (some ⟨w.heap.size + 1, 0, none⟩) := by rw [← ha0]; rfl
      have e_7 : a0.eval (.tmp 7) = .pointer (some ⟨b7, 0, none⟩) := by rw [← ha0]; rfl
      have e_8 : a0.eval (.tmp 8) = .pointer (some ⟨b8, 0, none⟩) := by rw [← ha0]; rfl
      have e_9 : a0.eval (.tmp 9) = .pointer (some ⟨b9, 0, none⟩) := by rw [← ha0]; rfl
      have e_0 : a0.eval (.tmp 0) = .slice so s.length sc := by rw [← ha0]; rfl
      have e_10 : a0.eval (.tmp 10) = .bool true := by rw [← ha0]; rfl
      have hsz : a0.tmps.size = 74 := by rw [← ha0]; rfl
      have hdf : a0.defers = [] := by rw [← ha0]
      clear ha0
      have HPw : Hid (∀ Z, Below p.w.heap.size p.w Z → Below W.heap.size W Z) := fun Z hZ => p.h.trans (hZ.mono p.h.size)
      have hm : ∀ Z, Below p.w.heap.size p.w Z → _ := fun Z hZ => And.intro (((HPw.out Z hZ).block _ (lt_of_heap P4.out)).trans P4.out) (And.intro (((HPw.out Z hZ).block _ (lt_of_heap P5.out)).trans P5.out) (And.intro (((HPw.out Z hZ).block _ (lt_of_heap P7.out)).trans P7.out) (And.intro (((HPw.out Z hZ).block _ (lt_of_heap P8.out)).trans P8.out) (((HPw.out Z hZ).block _ (lt_of_heap P9.out)).trans P9.out))))
      have hKx := fun Z (hZ : Below p.w.heap.size p.w Z) => keptTok_any k1 d1 g1 ao1 d1.length (d1.length + 12) d1.length c1 rfl rfl rfl (by omega) Z (HLx.out.below (HPw.out Z hZ)) (HX9.out.up (HPw.out Z hZ) (HPw.out Z hZ).size)
      have hKy := fun Z (hZ : Below p.w.heap.size p.w Z) => keptTok_any k2 d2 g2 ao2 d2.length (d2.length + 12) d2.length c2 rfl rfl rfl (by omega) Z (HLy.out.below (HPw.out Z hZ)) (HY9.out.up (HPw.out Z hZ) (HPw.out Z hZ).size)
      have hOf := fun Z (hZ : Below p.w.heap.size p.w Z) => KOf.out Z (HBw.out.trans ((HPw.out Z hZ).mono HBw.out.size))
      have hSR := fun Z (hZ : Below p.w.heap.size p.w Z) (ao : Option Addr) (c : Nat) (hs : SlG Z.heap.size Z ao (rcells s)) => sameRules_any s ro ao rc c hs4 Z (HR9.out.up (HPw.out Z hZ) (HPw.out Z hZ).size) hs
      have hBt := fun Z (hZ : Below p.w.heap.size p.w Z) => KE.out Z (HPw.out Z hZ)
      have hAw := fun Z (hZ : Below p.w.heap.size p.w Z) => HAT.out Z (HBw.out.trans ((HPw.out Z hZ).mono HBw.out.size))
      have HEnd := Lib.hid (HBw.out.trans (p.h.mono HBw.out.size))
      refine wp_region_st bLD (bLF p.w k1 k2 d1 d2 s g1 g2 w.heap.size (w.heap.size + 1) b7 b8 b9 ao1 ao2 so ro c1 c2 sc rc) (bLJ p.w k1 k2 d1 d2 s g1 g2 w.heap.size (w.heap.size + 1) b7 b8 b9 ao1 ao2 so ro c1 c2 sc rc) 28 mixed (by kernel_rfl) rfl (by kernel_rfl) (by rw [hsz]; kernel_rfl) (below_drew (Below.refl _ _))
          (fun ll aa ww i hi hs nl hw => by
            have h : i = 0 ∨ i = 1 ∨ i = 2 ∨ i = 3 ∨ i = 4 ∨ i = 5 ∨ i = 6 ∨ i = 7 ∨ i = 8 ∨ i = 9 ∨ i = 10 ∨ i = 11 ∨ i = 12 ∨ i = 13 ∨ i = 14 ∨ i = 15 ∨ i = 16 ∨ i = 17 ∨ i = 18 ∨ i = 19 ∨ i = 20 ∨ i = 21 ∨ i = 22 ∨ i = 23 ∨ i = 24 ∨ i = 25 ∨ i = 26 ∨ i = 27 := by omega
            rcases h with rfl | rfl | rfl | rfl | rfl | rfl | rfl | rfl | rfl | rfl | rfl | rfl | rfl | rfl | rfl | rfl | rfl | rfl | rfl | rfl | rfl | rfl | rfl | rfl | rfl | rfl | rfl | rfl
            · exact bL_s0 _ k1 k2 d1 d2 s g1 g2 w.heap.size (w.heap.size + 1) b7 b8 b9 ao1 ao2 so ro c1 c2 sc rc e_4 e_5 e_7 e_8 e_9 e_0 e_10 hm hKx hKy hOf hSR hBt hAw hs rfl nl 
            · exact bL_s1 _ k1 k2 d1 d2 s g1 g2 w.heap.size (w.heap.size + 1) b7 b8 b9 ao1 ao2 so ro c1 c2 sc rc e_4 e_5 e_7 e_8 e_9 e_0 e_10 hm hKx hKy hOf hSR hBt hAw hs rfl nl (hw 0 (by kernel_rfl))
            · exact bL_s2 _ k1 k2 d1 d2 s g1 g2 w.heap.size (w.heap.size + 1) b7 b8 b9 ao1 ao2 so ro c1 c2 sc rc e_4 e_5 e_7 e_8 e_9 e_0 e_10 hm hKx hKy hOf hSR hBt hAw hs rfl (wantedB_of rfl (yieldsB_of (b := true) rfl rfl (hs.get (i := 1) (by decide) (hw 1 (by kernel_rfl)) rfl))) nl (hw 1 (by kernel_rfl))
            · exact bL_s3 _ k1 k2 d1 d2 s g1 g2 w.heap.size (w.heap.size + 1) b7 b8 b9 ao1 ao2 so ro c1 c2 sc rc e_4 e_5 e_7 e_8 e_9 e_0 e_10 hm hKx hKy hOf hSR hBt hAw hs rfl (wantedB_of rfl (yieldsB_of (b := true) rfl rfl (hs.get (i := 1) (by decide) (hw 1 (by kernel_rfl)) rfl))) nl (hw 1 (by kernel_rfl))
            · exact bL_s4 _ k1 k2 d1 d2 s g1 g2 w.heap.size (w.heap.size + 1) b7 b8 b9 ao1 ao2 so ro c1 c2 sc rc e_4 e_5 e_7 e_8 e_9 e_0 e_10 hm hKx hKy hOf hSR hBt hAw hs rfl (wantedB_of rfl (yieldsB_of (b := true) rfl rfl (hs.get (i := 1) (by decide) (hw 1 (by kernel_rfl)) rfl))) nl (hw 1 (by kernel_rfl)) (hw 2 (by kernel_rfl)) (hw 3 (by kernel_rfl))
            · exact bL_s5 _ k1 k2 d1 d2 s g1 g2 w.heap.size (w.heap.size + 1) b7 b8 b9 ao1 ao2 so ro c1 c2 sc rc e_4 e_5 e_7 e_8 e_9 e_0 e_10 hm hKx hKy hOf hSR hBt hAw hs rfl nl (hw 1 (by kernel_rfl)) (hw 4 (by kernel_rfl))
            · exact bL_s6 _ k1 k2 d1 d2 s g1 g2 w.heap.size (w.heap.size + 1) b7 b8 b9 ao1 ao2 so ro c1 c2 sc rc e_4 e_5 e_7 e_8 e_9 e_0 e_10 hm hKx hKy hOf hSR hBt hAw hs rfl nl (hw 4 (by kernel_rfl)) (hw 5 (by kernel_rfl))
            · exact bL_s7 _ k1 k2 d1 d2 s g1 g2 w.heap.size (w.heap.size + 1) b7 b8 b9 ao1 ao2 so ro c1 c2 sc rc e_4 e_5 e_7 e_8 e_9 e_0 e_10 hm hKx hKy hOf hSR hBt hAw hs rfl (wantedB_of rfl (yieldsB_of (b := true) rfl rfl (hs.get (i := 6) (by decide) (hw 6 (by kernel_rfl)) rfl))) nl (hw 6 (by kernel_rfl))
            · exact bL_s8 _ k1 k2 d1 d2 s g1 g2 w.heap.size (w.heap.size + 1) b7 b8 b9 ao1 ao2 so ro c1 c2 sc rc e_4 e_5 e_7 e_8 e_9 e_0 e_10 hm hKx hKy hOf hSR hBt hAw hs rfl (wantedB_of rfl (yieldsB_of (b := true) rfl rfl (hs.get (i := 6) (by decide) (hw 6 (by kernel_rfl)) rfl))) nl (hw 6 (by kernel_rfl))
            · exact bL_s9 _ k1 k2 d1 d2 s g1 g2 w.heap.size (w.heap.size + 1) b7 b8 b9 ao1 ao2 so ro c1 c2 sc rc e_4 e_5 e_7 e_8 e_9 e_0 e_10 hm hKx hKy hOf hSR hBt hAw hs rfl (wantedB_of rfl (yieldsB_of (b := true) rfl rfl (hs.get (i := 6) (by decide) (hw 6 (by kernel_rfl)) rfl))) nl (hw 6 (by kernel_rfl)) (hw 7 (by kernel_rfl)) (hw 8 (by kernel_rfl))
            · exact bL_s10 _ k1 k2 d1 d2 s g1 g2 w.heap.size (w.heap.size + 1) b7 b8 b9 ao1 ao2 so ro c1 c2 sc rc e_4 e_5 e_7 e_8 e_9 e_0 e_10 hm hKx hKy hOf hSR hBt hAw hs rfl nl (hw 6 (by kernel_rfl)) (hw 9 (by kernel_rfl))
            · exact bL_s11 _ k1 k2 d1 d2 s g1 g2 w.heap.size (w.heap.size + 1) b7 b8 b9 ao1 ao2 so ro c1 c2 sc rc e_4 e_5 e_7 e_8 e_9 e_0 e_10 hm hKx hKy hOf hSR hBt hAw hs rfl nl (hw 9 (by kernel_rfl)) (hw 10 (by kernel_rfl))
            · exact bL_s12 _ k1 k2 d1 d2 s g1 g2 w.heap.size (w.heap.size + 1) b7 b8 b9 ao1 ao2 so ro c1 c2 sc rc e_4 e_5 e_7 e_8 e_9 e_0 e_10 hm hKx hKy hOf hSR hBt hAw hs rfl (wantedB_of rfl (yieldsB_of (b := true) rfl rfl (hs.get (i := 11) (by decide) (hw 11 (by kernel_rfl)) rfl))) nl (hw 11 (by kernel_rfl))
            · exact bL_s13 _ k1 k2 d1 d2 s g1 g2 w.heap.size (w.heap.size + 1) b7 b8 b9 ao1 ao2 so ro c1 c2 sc rc e_4 e_5 e_7 e_8 e_9 e_0 e_10 hm hKx hKy hOf hSR hBt hAw hs rfl (wantedB_of rfl (yieldsB_of (b := true) rfl rfl (hs.get (i := 11) (by decide) (hw 11 (by kernel_rfl)) rfl))) nl (hw 11 (by kernel_rfl))
            · exact bL_s14 _ k1 k2 d1 d2 s g1 g2 w.heap.size (w.heap.size + 1) b7 b8 b9 ao1 ao2 so ro c1 c2 sc rc e_4 e_5 e_7 e_8 e_9 e_0 e_10 hm hKx hKy hOf hSR hBt hAw hs rfl (wantedB_of rfl (yieldsB_of (b := true) rfl rfl (hs.get (i := 11) (by decide) (hw 11 (by kernel_rfl)) rfl))) nl (hw 11 (by kernel_rfl)) (hw 13 (by kernel_rfl))
            · exact bL_s15 _ k1 k2 d1 d2 s g1 g2 w.heap.size (w.heap.size + 1) b7 b8 b9 ao1 ao2 so ro c1 c2 sc rc e_4 e_5 e_7 e_8 e_9 e_0 e_10 hm hKx hKy hOf hSR hBt hAw hs rfl (wantedB_of rfl (yieldsB_of (b := true) rfl rfl (hs.get (i := 11) (by decide) (hw 11 (by kernel_rfl)) rfl))) nl (hw 11 (by kernel_rfl)) (hw 12 (by kernel_rfl)) (hw 14 (by kernel_rfl))
            · exact bL_s16 _ k1 k2 d1 d2 s g1 g2 w.heap.size (w.heap.size + 1) b7 b8 b9 ao1 ao2 so ro c1 c2 sc rc e_4 e_5 e_7 e_8 e_9 e_0 e_10 hm hKx hKy hOf hSR hBt hAw hs rfl nl (hw 11 (by kernel_rfl)) (hw 15 (by kernel_rfl))
            · exact bL_s17 _ k1 k2 d1 d2 s g1 g2 w.heap.size (w.heap.size + 1) b7 b8 b9 ao1 ao2 so ro c1 c2 sc rc e_4 e_5 e_7 e_8 e_9 e_0 e_10 hm hKx hKy hOf hSR hBt hAw hs rfl nl (hw 15 (by kernel_rfl)) (hw 16 (by kernel_rfl))
            · exact bL_s18 _ k1 k2 d1 d2 s g1 g2 w.heap.size (w.heap.size + 1) b7 b8 b9 ao1 ao2 so ro c1 c2 sc rc e_4 e_5 e_7 e_8 e_9 e_0 e_10 hm hKx hKy hOf hSR hBt hAw hs rfl (wantedB_of rfl (yieldsB_of (b := true) rfl rfl (hs.get (i := 17) (by decide) (hw 17 (by kernel_rfl)) rfl))) nl (hw 17 (by kernel_rfl))
            · exact bL_s19 _ k1 k2 d1 d2 s g1 g2 w.heap.size (w.heap.size + 1) b7 b8 b9 ao1 ao2 so ro c1 c2 sc rc e_4 e_5 e_7 e_8 e_9 e_0 e_10 hm hKx hKy hOf hSR hBt hAw hs rfl (wantedB_of rfl (yieldsB_of (b := true) rfl rfl (hs.get (i := 17) (by decide) (hw 17 (by kernel_rfl)) rfl))) nl (hw 17 (by kernel_rfl))
            · exact bL_s20 _ k1 k2 d1 d2 s g1 g2 w.heap.size (w.heap.size + 1) b7 b8 b9 ao1 ao2 so ro c1 c2 sc rc e_4 e_5 e_7 e_8 e_9 e_0 e_10 hm hKx hKy hOf hSR hBt hAw hs rfl (wantedB_of rfl (yieldsB_of (b := true) rfl rfl (hs.get (i := 17) (by decide) (hw 17 (by kernel_rfl)) rfl))) nl (hw 17 (by kernel_rfl))
            · exact bL_s21 _ k1 k2 d1 d2 s g1 g2 w.heap.size (w.heap.size + 1) b7 b8 b9 ao1 ao2 so ro c1 c2 sc rc e_4 e_5 e_7 e_8 e_9 e_0 e_10 hm hKx hKy hOf hSR hBt hAw hs rfl (wantedB_of rfl (yieldsB_of (b := true) rfl rfl (hs.get (i := 17) (by decide) (hw 17 (by kernel_rfl)) rfl))) nl (hw 17 (by kernel_rfl)) (hw 18 (by kernel_rfl)) (hw 19 (by kernel_rfl)) (hw 20 (by kernel_rfl))
            · exact bL_s22 _ k1 k2 d1 d2 s g1 g2 w.heap.size (w.heap.size + 1) b7 b8 b9 ao1 ao2 so ro c1 c2 sc rc e_4 e_5 e_7 e_8 e_9 e_0 e_10 hm hKx hKy hOf hSR hBt hAw hs rfl (wantedB_of rfl (yieldsB_of (b := true) rfl rfl (hs.get (i := 17) (by decide) (hw 17 (by kernel_rfl)) rfl))) nl (hw 17 (by kernel_rfl)) (hw 21 (by kernel_rfl))
            · exact bL_s23 _ k1 k2 d1 d2 s g1 g2 w.heap.size (w.heap.size + 1) b7 b8 b9 ao1 ao2 so ro c1 c2 sc rc e_4 e_5 e_7 e_8 e_9 e_0 e_10 hm hKx hKy hOf hSR hBt hAw hs rfl nl (hw 17 (by kernel_rfl)) (hw 22 (by kernel_rfl))
            · exact bL_s24 _ k1 k2 d1 d2 s g1 g2 w.heap.size (w.heap.size + 1) b7 b8 b9 ao1 ao2 so ro c1 c2 sc rc e_4 e_5 e_7 e_8 e_9 e_0 e_10 hm hKx hKy hOf hSR hBt hAw hs rfl nl (hw 21 (by kernel_rfl)) (hw 23 (by kernel_rfl))
            · exact bL_s25 _ k1 k2 d1 d2 s g1 g2 w.heap.size (w.heap.size + 1) b7 b8 b9 ao1 ao2 so ro c1 c2 sc rc e_4 e_5 e_7 e_8 e_9 e_0 e_10 hm hKx hKy hOf hSR hBt hAw hs rfl (wantedB_of rfl (yieldsB_of (b := true) rfl rfl (hs.get (i := 24) (by decide) (hw 24 (by kernel_rfl)) rfl))) nl (hw 24 (by kernel_rfl))
            · exact bL_s26 _ k1 k2 d1 d2 s g1 g2 w.heap.size (w.heap.size + 1) b7 b8 b9 ao1 ao2 so ro c1 c2 sc rc e_4 e_5 e_7 e_8 e_9 e_0 e_10 hm hKx hKy hOf hSR hBt hAw hs rfl nl (hw 24 (by kernel_rfl)) (hw 25 (by kernel_rfl))
            · exact bL_s27 _ k1 k2 d1 d2 s g1 g2 w.heap.size (w.heap.size + 1) b7 b8 b9 ao1 ao2 so ro c1 c2 sc rc e_4 e_5 e_7 e_8 e_9 e_0 e_10 hm hKx hKy hOf hSR hBt hAw hs rfl nl (hw 0 (by kernel_rfl)) (hw 1 (by kernel_rfl)) (hw 2 (by kernel_rfl)) (hw 3 (by kernel_rfl)) (hw 4 (by kernel_rfl)) (hw 5 (by kernel_rfl)) (hw 6 (by kernel_rfl)) (hw 7 (by kernel_rfl)) (hw 8 (by kernel_rfl)) (hw 9 (by kernel_rfl)) (hw 10 (by kernel_rfl)) (hw 11 (by kernel_rfl)) (hw 12 (by kernel_rfl)) (hw 13 (by kernel_rfl)) (hw 14 (by kernel_rfl)) (hw 15 (by kernel_rfl)) (hw 16 (by kernel_rfl)) (hw 17 (by kernel_rfl)) (hw 18 (by kernel_rfl)) (hw 19 (by kernel_rfl)) (hw 20 (by kernel_rfl)) (hw 21 (by kernel_rfl)) (hw 22 (by kernel_rfl)) (hw 23 (by kernel_rfl)) (hw 24 (by kernel_rfl)) (hw 25 (by kernel_rfl)) (hw 26 (by kernel_rfl)))
        ?_
      intro ll aa ww hall hst
      have h6 : aa.eval (.tmp 6) = .bool true := hst.get (i := 27) (by decide) (hall 27 (by decide)) rfl
      have hd6 : aa.defers = [] := hst.defs.trans hdf
      have hJ : Below p.w.heap.size p.w ww := hst.j
      have HFin := Lib.hid (HEnd.out.trans (hJ.mono HEnd.out.size))
      clear hst hall hm hKx hKy hOf hSR hBt hAw hJ
      have h6' : aa.tmps.getD 6 undef = .bool true := h6
      go_wp2_with fail
      refine bodyPost_ret (v := .bool true) ?_ hd6 ⟨rfl, HFin.out⟩
      simp [results, Tryz.results3, go_sem]
      simpa [Act.eval] using h6
end Go.Proofs.YtlkmabnjmklkpaaGreatDoor
