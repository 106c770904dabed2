/- The document's own Same. -/
import Derived.Test.YtmjblkcbkekcbaaGreatDoorRefT
import Derived.Test.YtmjblkcbkekcbaaGreatDoorLentT
namespace Go.Proofs.YtmjblkcbkekcbaaGreatDoor
open Go.RowKit

def RefSameOK (t : T) : Prop := ∀ (u : T) (w : World) (v1 v2 : Value), Lies w.heap.size w t v1 → Lies w.heap.size w u v2 → Calls Tryz.prog 16 #[agg t v1, agg u v2] w (fun e w' => e = .returned (.bool (t.same u)) ∧ Gr w w')

abbrev boxN (t : T) (v : Value) : Obj := .cells #[.int .u8 t.kind, .string t.text, .int .i64 t.num, .int .i64 t.pos, v] 25

set_option maxRecDepth 100000 in
set_option maxHeartbeats 4000000 in
theorem refSame_step (t : T) (ih : ∀ k, k ∈ t.kids → RefSameOK k) : RefSameOK t := by
  intro u w v1 v2 h1 h2
  obtain ⟨a1, c1, ps1, rfl, k1⟩ := h1.out
  obtain ⟨a2, c2, ps2, rfl, k2⟩ := h2.out
  have HA := Lib.hid k1
  have HB := Lib.hid k2
  have HI := Lib.hid ih
  have hlm := k1.len64
  have hlm2 := k2.len64
  have HE := Lib.hid (T.same_eq t u)
  have HG := Lib.hid (gr_two w (boxN t (.slice a1 t.kids.length c1)) (boxN u (.slice a2 u.kids.length c2)))
  clear h1 h2 ih k1 k2
  have mixed : Tryz.prog.follows .mixedOrders = true := by kernel_rfl
  unfold agg
  by_cases hk : t.kind = u.kind
  · by_cases hs : t.text.toList = u.text.toList
    · by_cases hn : t.num = u.num
      · by_cases hl : t.kids.length = u.kids.length
        · have HE1 : Hid (t.same u = sameL t.kids u.kids) := by
            unfold Hid
            rw [HE.out, hk, hs, hn]
            simp
          have hs' : (t.text.toList == u.text.toList) = true := by simp [hs]
          have hl' : ((t.kids.length : Int) != (u.kids.length : Int)) = false := by simp [hl]
          have hk' : (t.kind != u.kind) = false := by simp [hk]
          have hn' : (t.num != u.num) = false := by simp [hn]
          have HL := Lib.hid hl
          clear HE hs hl hk hn
          go_enter Tryz.func16, Tryz.ntmps16
          go_wp2_with fail
          go_loopw [5] (fun i wr => ∃ j : Nat, j ≤ t.kids.length ∧ i = .int .i64 j ∧ Hid (t.same u = sameL (t.kids.drop j) (u.kids.drop j)) ∧ Hid (Gr ((w.alloc (boxN t (.slice a1 t.kids.length c1))).alloc (boxN u (.slice a2 u.kids.length c2))) wr)) (fun i _ => t.kids.length - (intOf i).toNat)
          case atStart => exact ⟨0, by omega, rfl, HE1, Gr.refl _⟩
          case round =>
            obtain ⟨j, hj, rfl, HN, HFr⟩ := hrel
            obtain ⟨hb1, hb2⟩ := two_boxes HFr.out.below
            have b4 : wr.cell? ⟨w.heap.size, 4, none⟩ = some (.slice a1 t.kids.length c1) := hb1 4
            have b9 : wr.cell? ⟨w.heap.size + 1, 4, none⟩ = some (.slice a2 u.kids.length c2) := hb2 4
            clear hb1 hb2
            by_cases hlt : j < t.kids.length
            · have hjn : (j : Int) < (t.kids.length : Int) := by omega
              have hlt2 : j < u.kids.length := by have := HL.out; omega
              have hjn2 : (j : Int) < (u.kids.length : Int) := by omega
              have hw : Gr w wr := HG.out.trans HFr.out
              obtain ⟨sb, off, rfl, hsb, hc⟩ := (HA.out.up hw.below hw.below.size).at (by omega)
              obtain ⟨sb2, off2, rfl, hsb2, hc2⟩ := (HB.out.up hw.below hw.below.size).at (by omega)
              obtain ⟨u1, d0, d1, d2, d3, d4, hL1⟩ := hc j hlt
              obtain ⟨u2, e0, e1, e2, e3, e4, hL2⟩ := hc2 j hlt2
              have KK : Hid (∀ W, Gr wr W → Calls Tryz.prog 16 #[agg t.kids[j] u1, agg u.kids[j] u2] W (fun e w' => e = .returned (.bool ((t.kids[j]).same u.kids[j])) ∧ Gr W w')) := fun W hW => HI.out _ (List.getElem_mem hlt) u.kids[j] W u1 u2 (hL1.up hW.below hW.below.size) (hL2.up hW.below hW.below.size)
              have hbz : w.heap.size < wr.heap.size ∧ w.heap.size + 1 < wr.heap.size := by
                have := HFr.out.below.size
                simp at this
                omega
              have d0' := cellG hsb d0
              have d1' := cellG hsb d1
              have d2' := cellG hsb d2
              have d3' := cellG hsb d3
              have d4' := cellG hsb d4
              have e0' := cellG hsb2 e0
              have e1' := cellG hsb2 e1
              have e2' := cellG hsb2 e2
              have e3' := cellG hsb2 e3
              have e4' := cellG hsb2 e4
              have b4' := cellG hbz.1 b4
              have b9' := cellG hbz.2 b9
              have HN1 : Hid (t.same u = ((t.kids[j]).same u.kids[j] && sameL (t.kids.drop (j + 1)) (u.kids.drop (j + 1)))) := by
                unfold Hid
                rw [HN.out, sameL_step t u j hlt hlt2]
              unfold agg at KK
              clear hc hc2 hL1 hL2 HA HB HI hw d0 d1 d2 d3 d4 e0 e1 e2 e3 e4 hbz
              generalize (t.kids[j]'hlt).same (u.kids[j]'hlt2) = y at KK HN1
              generalize (t.kids[j]'hlt).kind = tk at d0' KK
              generalize (t.kids[j]'hlt).text = tt at d1' KK
              generalize (t.kids[j]'hlt).num = tn at d2' KK
              generalize (t.kids[j]'hlt).pos = tp at d3' KK
              generalize (u.kids[j]'hlt2).kind = uk at e0' KK
              generalize (u.kids[j]'hlt2).text = ut at e1' KK
              generalize (u.kids[j]'hlt2).num = un at e2' KK
              generalize (u.kids[j]'hlt2).pos = up at e3' KK
              cases y with
              | true =>
                go_wp2_with fail
                refine wp_region_quiet_grown (by assumption) (by kernel_rfl) ?_
                repeat (go_big_quiet_step (first | (go_at_call 16; go_must (exact Calls.grown_of ((KK.out _ ⟨_, _, rfl⟩).mono fun _ _ h => ⟨h.1, h.2.out⟩)))))
                refine wpQuiet_nil ?_
                intro _ hw'
                obtain ⟨⟨nq, osq⟩, hw''⟩ := hw'
                subst hw''
                have HBn := Lib.hid (HFr.out.trans ⟨nq, osq, rfl⟩)
                go_wp2
                clear KK d0' d1' d2' d3' d4' e0' e1' e2' e3' e4' b4' b9' b4 b9 HFr
                have HN2 : Hid (t.same u = sameL (t.kids.drop (j + 1)) (u.kids.drop (j + 1))) := by
                  unfold Hid
                  rw [HN1.out, Bool.true_and]
                go_roundw
                case rel => exact ⟨j + 1, by omega, by go_num, HN2, HBn⟩
                case measure => simp [intOf]; omega
              | false =>
                have HR : Hid (t.same u = false) := by
                  unfold Hid
                  rw [HN1.out, Bool.false_and]
                clear HN HN1
                go_wp2_with fail
                refine wp_region_quiet_grown (by assumption) (by kernel_rfl) ?_
                repeat (go_big_quiet_step (first | (go_at_call 16; go_must (exact Calls.grown_of ((KK.out _ ⟨_, _, rfl⟩).mono fun _ _ h => ⟨h.1, h.2.out⟩)))))
                refine wpQuiet_nil ?_
                intro _ hw'
                obtain ⟨⟨nq, osq⟩, hw''⟩ := hw'
                subst hw''
                have HBn := Lib.hid (HFr.out.trans ⟨nq, osq, rfl⟩)
                go_wp2
                go_ret
                rw [HR.out]
                exact ⟨rfl, HG.out.trans HBn.out⟩
            · obtain rfl : j = t.kids.length := by omega
              have HR : Hid (t.same u = true) := by
                unfold Hid
                rw [HN.out, List.drop_length, HL.out, List.drop_length, sameL_nil]
              clear HN HE1
              go_wp2_with fail
              go_ret
              rw [HR.out]
              exact ⟨rfl, HG.out.trans HFr.out⟩
        · have HR : Hid (t.same u = false) := by
            unfold Hid
            rw [HE.out, sameL_len _ _ hl]
            simp
          have hl' : ((t.kids.length : Int) != (u.kids.length : Int)) = true := bne_iff_ne.2 (by omega)
          have hs' : (t.text.toList == u.text.toList) = true := by simp [hs]
          have hk' : (t.kind != u.kind) = false := by simp [hk]
          have hn' : (t.num != u.num) = false := by simp [hn]
          clear HE hs hl hk hn
          rw [HR.out]
          go_enter Tryz.func16, Tryz.ntmps16
          go_wp2_with fail
          go_ret
          exact ⟨rfl, HG.out⟩
      · have HR : Hid (t.same u = false) := by
          unfold Hid
          rw [HE.out, beq_eq_false_iff_ne.2 hn]
          simp
        have hn' : (t.num != u.num) = true := bne_iff_ne.2 hn
        have hs' : (t.text.toList == u.text.toList) = true := by simp [hs]
        have hk' : (t.kind != u.kind) = false := by simp [hk]
        clear HE hs hk hn
        rw [HR.out]
        go_enter Tryz.func16, Tryz.ntmps16
        go_wp2_with fail
        go_ret
        exact ⟨rfl, HG.out⟩
    · have HR : Hid (t.same u = false) := by
        unfold Hid
        rw [HE.out, beq_eq_false_iff_ne.2 hs]
        simp
      have hs' : (t.text.toList == u.text.toList) = false := beq_eq_false_iff_ne.2 hs
      have hk' : (t.kind != u.kind) = false := by simp [hk]
      clear HE hs hk
      rw [HR.out]
      go_enter Tryz.func16, Tryz.ntmps16
      go_wp2_with fail
      go_ret
      exact ⟨rfl, HG.out⟩
  · have HR : Hid (t.same u = false) := by
      unfold Hid
      rw [HE.out, beq_eq_false_iff_ne.2 hk]
      simp
    have hk' : (t.kind != u.kind) = true := bne_iff_ne.2 hk
    clear HE hk
    rw [HR.out]
    go_enter Tryz.func16, Tryz.ntmps16
    go_wp2_with fail
    go_ret
    exact ⟨rfl, HG.out⟩
theorem refSame_any (t : T) : RefSameOK t := T.ind refSame_step t
end Go.Proofs.YtmjblkcbkekcbaaGreatDoor
