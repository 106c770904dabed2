/- What is the same is told so: trees. -/
import Derived.Test.YtnnhgbncghpecaaGreatTree10
namespace Go.Proofs.YtnnhgbncghpecaaGreat
open Go.RowKit

def SameOK (t : X) : Prop := ∀ (w : World) (v1 v2 : Value), Lies w.heap.size w t v1 → Lies w.heap.size w t v2 → Calls Tryz.prog 49 #[agg t v1, agg t v2] w (YesG w)
def SamesOK (t : X) : Prop := ∀ (w : World) (v1 v2 : Value), Lies w.heap.size w t v1 → Lies w.heap.size w t v2 → Calls Tryz.prog 61 #[v1, v2] w (YesG w)

set_option maxRecDepth 100000 in
set_option maxHeartbeats 1000000 in
theorem sameE_step (t : X) (h : SamesOK t) : SameOK t := by
  intro w v1 v2 h1 h2
  have HB := Lib.hid (gr_two w (.cells #[.int .u8 t.kind, .int .u8 t.vk, .int .i64 t.vn, .string t.vs, .int .i64 t.var, .int .u8 t.op, v1] 31) (.cells #[.int .u8 t.kind, .int .u8 t.vk, .int .i64 t.vn, .string t.vs, .int .i64 t.var, .int .u8 t.op, v2] 31))
  have HV := Lib.hid (h _ v1 v2 (h1.up HB.out.below HB.out.below.size) (h2.up HB.out.below HB.out.below.size))
  obtain ⟨a1, c1, ps1, rfl, -⟩ := h1.out
  obtain ⟨a2, c2, ps2, rfl, -⟩ := h2.out
  have heq := fun W => eqV t.vk t.vn t.vk t.vn t.vs t.vs W
  rw [(eqvB_iff (t.vk, t.vn, t.vs) (t.vk, t.vn, t.vs)).2 rfl] at heq
  have hg := eqGuardV
  clear h1 h2 h
  unfold agg
  generalize t.kind = tk at HB HV ⊢
  generalize t.vk = ta at HB HV heq ⊢
  generalize t.vn = tb at HB HV heq ⊢
  generalize t.vs = tc at HB HV heq ⊢
  generalize t.var = td at HB HV ⊢
  generalize t.op = te at HB HV ⊢
  generalize t.kids.length = n at HB HV ⊢
  go_enter Tryz.func49, Tryz.ntmps49
  go_wp2_with (go_at_call 61; go_must (refine (HV.out).mono ?_; rintro e w1 ⟨rfl, hg⟩))
  go_ret
  exact ⟨rfl, HB.out.trans hg⟩

set_option maxRecDepth 100000 in
set_option maxHeartbeats 2000000 in
theorem sameEs_step (t : X) (ih : ∀ k, k ∈ t.kids → SameOK k) : SamesOK t := by
  intro w v1 v2 h1 h2
  obtain ⟨a1, c1, ps1, rfl, k1⟩ := h1.out
  obtain ⟨a2, c2, ps2, rfl, k2⟩ := h2.out
  have HA := Lib.hid k1
  have HB := Lib.hid k2
  have HI := Lib.hid ih
  have hm : t.kids.length ≤ 9223372036854775807 := by have := k1.cap; have := k1.top; unfold maxLen at this; omega
  clear h1 h2 ih k1 k2
  have mixed : Tryz.prog.follows .mixedOrders = true := by kernel_rfl
  go_enter Tryz.func61, Tryz.ntmps61
  go_wp2_with fail
  go_loopw [5] (fun i wr => ∃ j : Nat, j ≤ t.kids.length ∧ i = .int .i64 j ∧ Hid (Gr w wr)) (fun i _ => t.kids.length - (intOf i).toNat)
  case atStart => exact ⟨0, by omega, rfl, Gr.refl _⟩
  case round =>
    obtain ⟨j, hj, rfl, HFr⟩ := hrel
    by_cases hlt : j < t.kids.length
    · obtain ⟨sb, off, rfl, hsb, hc⟩ := (HA.out.up HFr.out.below HFr.out.below.size).at (by omega)
      obtain ⟨sb2, off2, rfl, hsb2, hc2⟩ := (HB.out.up HFr.out.below HFr.out.below.size).at (by omega)
      obtain ⟨u1, d0, d1, d2, d3, d4, d5, d6, hL1⟩ := hc j hlt
      obtain ⟨u2, e0, e1, e2, e3, e4, e5, e6, hL2⟩ := hc2 j hlt
      have KK : Hid (∀ W, Gr wr W → Calls Tryz.prog 49 #[agg t.kids[j] u1, agg t.kids[j] u2] W (YesG W)) := fun W hW => HI.out _ (List.getElem_mem hlt) W u1 u2 (hL1.up hW.below hW.below.size) (hL2.up hW.below hW.below.size)
      unfold agg at KK
      have d0' := cellG hsb d0
      have d1' := cellG hsb d1
      have d2' := cellG hsb d2
      have d3' := cellG hsb d3
      have d4' := cellG hsb d4
      have d5' := cellG hsb d5
      have d6' := cellG hsb d6
      have e0' := cellG hsb2 e0
      have e1' := cellG hsb2 e1
      have e2' := cellG hsb2 e2
      have e3' := cellG hsb2 e3
      have e4' := cellG hsb2 e4
      have e5' := cellG hsb2 e5
      have e6' := cellG hsb2 e6
      clear hc hc2 hL1 hL2 d0 d1 d2 d3 d4 d5 d6 e0 e1 e2 e3 e4 e5 e6 HA HB HI
      generalize (t.kids[j]'hlt).kind = tk at d0' e0' KK
      generalize (t.kids[j]'hlt).vk = ta at d1' e1' KK
      generalize (t.kids[j]'hlt).vn = tb at d2' e2' KK
      generalize (t.kids[j]'hlt).vs = tc at d3' e3' KK
      generalize (t.kids[j]'hlt).var = td at d4' e4' KK
      generalize (t.kids[j]'hlt).op = te at d5' e5' KK
      have hjn : (j : Int) < (t.kids.length : Int) := by omega
      generalize t.kids.length = n at hjn hj hlt hm ⊢
      go_wp2_with fail
      refine wp_region_quiet_grown (by assumption) (by kernel_rfl) ?_
      repeat (go_big_quiet_step (first | (go_at_call 49; go_must (exact Calls.grown_of ((KK.out _ ⟨_, _, rfl⟩).mono fun _ _ h => ⟨h.1, h.2.out⟩)))))
      refine wpQuiet_nil ?_
      intro _ hw'
      obtain ⟨⟨nq, osq⟩, hw''⟩ := hw'
      subst hw''
      go_wp2
      have HBn : Hid (Gr w (Sort.grow (wr.drewN nq) osq)) := HFr.out.trans ⟨nq, osq, rfl⟩
      clear KK d0' d1' d2' d3' d4' d5' d6' e0' e1' e2' e3' e4' e5' e6' HFr
      go_roundw
      case rel => exact ⟨j + 1, by omega, by go_num, HBn⟩
      case measure => simp [intOf]; omega
    · obtain rfl : j = t.kids.length := by omega
      go_wp2
      go_ret
      exact ⟨rfl, HFr.out⟩

theorem sameE_any (t : X) : SameOK t := X.ind (fun t ih => sameE_step t (sameEs_step t ih)) t
theorem sameEs_any (t : X) : SamesOK t := sameEs_step t fun k _ => sameE_any k
end Go.Proofs.YtnnhgbncghpecaaGreat
