/- What was lent is kept: trees. -/
import Derived.Test.YtnnhgbncghpecaaGreatLent10
namespace Go.Proofs.YtnnhgbncghpecaaGreat
open Go.RowKit

/-- A lent row, opened. -/
theorem LentX.row {base : Nat} {w : World} {t : X} {v : Value} (h : LentX base w t v) :
    ∃ (g : Nat) (ps : List (X × Value)), v = .slice (some ⟨g, 0, none⟩) t.kids.length (t.kids.length + 12) ∧ g < w.heap.size ∧ t.kids.length ≤ 100000 ∧ ps.map Prod.fst = t.kids ∧ (∀ p, p ∈ ps → LentX base w p.1 p.2) ∧
      (∀ (j : Nat) (u : Value), (cellsE (ps ++ mkE 12))[j]? = some u → w.cell? ⟨g, j, none⟩ = some u) := by
  cases h with
  | mk _ g cur ps hk hl hb hg hc hp =>
    refine ⟨g, ps, rfl, lt_of_heap hg, hl, hk, hp, fun j u hu => ?_⟩
    rw [Lib.cell_of_heap hg, ← Array.getElem?_toList, hc]
    exact hu
theorem mkE_at (n i : Nat) (h : i < n) : (mkE n)[i]? = some (X.mk 0 0 0 ⟨#[]⟩ (1000003 * (1 + 7) + (i : Int)) 0 [], .slice none 0 0) := by
  unfold mkE
  rw [List.getElem?_map, List.getElem?_range h]
  rfl
theorem LentX.kid {base : Nat} {w : World} {t : X} {v : Value} (h : LentX base w t v) :
    ∃ g, v = .slice (some ⟨g, 0, none⟩) t.kids.length (t.kids.length + 12) ∧ g < w.heap.size ∧ t.kids.length ≤ 100000 ∧
      (∀ i, (hi : i < t.kids.length) → ∃ v, w.cell? ⟨g, i * 7, none⟩ = some (.int .u8 (t.kids[i]).kind) ∧ w.cell? ⟨g, i * 7 + 1, none⟩ = some (.int .u8 (t.kids[i]).vk) ∧ w.cell? ⟨g, i * 7 + 2, none⟩ = some (.int .i64 (t.kids[i]).vn) ∧ w.cell? ⟨g, i * 7 + 3, none⟩ = some (.string (t.kids[i]).vs) ∧ w.cell? ⟨g, i * 7 + 4, none⟩ = some (.int .i64 (t.kids[i]).var) ∧ w.cell? ⟨g, i * 7 + 5, none⟩ = some (.int .u8 (t.kids[i]).op) ∧ w.cell? ⟨g, i * 7 + 6, none⟩ = some v ∧ LentX base w t.kids[i] v) ∧
      (∀ m, m < 12 → w.cell? ⟨g, (t.kids.length + m) * 7, none⟩ = some (.int .u8 0) ∧ w.cell? ⟨g, (t.kids.length + m) * 7 + 1, none⟩ = some (.int .u8 0) ∧ w.cell? ⟨g, (t.kids.length + m) * 7 + 2, none⟩ = some (.int .i64 0) ∧ w.cell? ⟨g, (t.kids.length + m) * 7 + 3, none⟩ = some (.string ⟨#[]⟩) ∧ w.cell? ⟨g, (t.kids.length + m) * 7 + 4, none⟩ = some (.int .i64 (1000003 * (1 + 7) + (m : Int))) ∧ w.cell? ⟨g, (t.kids.length + m) * 7 + 5, none⟩ = some (.int .u8 0) ∧ w.cell? ⟨g, (t.kids.length + m) * 7 + 6, none⟩ = some (.slice none 0 0)) := by
  obtain ⟨g, ps, rfl, hg, hl, hk, hp, hc⟩ := h.row
  have hpl : ps.length = t.kids.length := by rw [← hk, List.length_map]
  have hall : (ps ++ mkE 12).length = t.kids.length + 12 := by rw [List.length_append, hpl, mkE_length]
  refine ⟨g, rfl, hg, hl, fun i hi => ?_, fun m hm => ?_⟩
  · have hip : i < ps.length := by rw [hpl]; exact hi
    have hia : i < (ps ++ mkE 12).length := by rw [hall]; omega
    have he : (ps[i]).1 = t.kids[i] := by
      have : (ps.map Prod.fst)[i]'(by rw [List.length_map]; exact hip) = t.kids[i] := by simp only [hk]
      rw [← this, List.getElem_map]
    obtain ⟨c0, c1, c2, c3, c4, c5, c6⟩ := cellsE_at (ps ++ mkE 12) i hia
    rw [List.getElem_append_left hip] at c0 c1 c2 c3 c4 c5 c6
    have hl' := hp ps[i] (List.getElem_mem hip)
    rw [he] at c0 c1 c2 c3 c4 c5 hl'
    exact ⟨(ps[i]).2, hc _ _ c0, hc _ _ c1, hc _ _ c2, hc _ _ c3, hc _ _ c4, hc _ _ c5, hc _ _ c6, hl'⟩
  · have hia : t.kids.length + m < (ps ++ mkE 12).length := by rw [hall]; omega
    obtain ⟨c0, c1, c2, c3, c4, c5, c6⟩ := cellsE_at (ps ++ mkE 12) (t.kids.length + m) hia
    have he : (ps ++ mkE 12)[t.kids.length + m] = (X.mk 0 0 0 ⟨#[]⟩ (1000003 * (1 + 7) + (m : Int)) 0 [], .slice none 0 0) := by
      have h1 : (ps ++ mkE 12)[t.kids.length + m]? = some (X.mk 0 0 0 ⟨#[]⟩ (1000003 * (1 + 7) + (m : Int)) 0 [], .slice none 0 0) := by
        rw [List.getElem?_append_right (by omega), hpl, Nat.add_sub_cancel_left]
        exact mkE_at 12 m hm
      rw [List.getElem?_eq_getElem hia] at h1
      exact Option.some.inj h1
    rw [he] at c0 c1 c2 c3 c4 c5 c6
    exact ⟨hc _ _ c0, hc _ _ c1, hc _ _ c2, hc _ _ c3, hc _ _ c4, hc _ _ c5, hc _ _ c6⟩

def KeptEOK (t : X) : Prop := ∀ (w : World) (base : Nat) (v1 v2 : Value), LentX base w t v1 → Lies w.heap.size w t v2 → Calls Tryz.prog 32 #[agg t v1, agg t v2] w (YesG w)
def KeptsEOK (t : X) : Prop := ∀ (w : World) (base : Nat) (v1 v2 : Value), LentX base w t v1 → Lies w.heap.size w t v2 → Calls Tryz.prog 50 #[v1, v2] w (YesG w)

set_option maxRecDepth 100000 in
set_option maxHeartbeats 2000000 in
theorem keptE_step (t : X) (h : KeptsEOK t) : KeptEOK t := by
  intro w base v1 v2 h1 h2
  have HB := Lib.hid (gr_two w (.cells #[.int .u8 t.kind, .int .u8 t.vk, .int .i64 t.vn, .string t.vs, .int .i64 t.var, .int .u8 t.op, v1] 31) (.cells #[.int .u8 t.kind, .int .u8 t.vk, .int .i64 t.vn, .string t.vs, .int .i64 t.var, .int .u8 t.op, v2] 31))
  have HK := Lib.hid (fun W (hW : Gr w W) => h W base v1 v2 (h1.old hW.below) (h2.up hW.below hW.below.size))
  have HS := Lib.hid (fun W (hW : Gr w W) => sameE_any t W v1 v2 ((h1.old hW.below).lies) (h2.up hW.below hW.below.size))
  obtain ⟨g, rfl, _, _⟩ := h1.addr
  obtain ⟨a2, c2, ps2, rfl, -⟩ := h2.out
  clear h1 h2 h
  unfold agg at HS ⊢
  generalize t.kind = tk at HB HS ⊢
  generalize t.vk = ta at HB HS ⊢
  generalize t.vn = tb at HB HS ⊢
  generalize t.vs = tc at HB HS ⊢
  generalize t.var = td at HB HS ⊢
  generalize t.op = te at HB HS ⊢
  generalize t.kids.length = n at HB HS HK ⊢
  go_enter Tryz.func32, Tryz.ntmps32
  go_wp2_with (first
    | (go_at_call 49; go_must (refine (HS.out _ HB.out).mono ?_; rintro e w1 ⟨rfl, hb⟩; have HB1 := Lib.hid (HB.out.trans hb); obtain ⟨b1, b2⟩ := two_boxes hb.below; clear hb))
    | (go_at_call 50; go_must (refine (HK.out _ HB1.out).mono ?_; rintro e w2 ⟨rfl, hb⟩)))
  go_ret
  exact ⟨rfl, HB1.out.trans hb⟩

set_option maxRecDepth 100000 in
set_option maxHeartbeats 4000000 in
theorem keptsE_step (t : X) (ih : ∀ k, k ∈ t.kids → KeptEOK k) : KeptsEOK t := by
  intro w base v1 v2 h1 h2
  obtain ⟨a2, c2, ps2, rfl, k2⟩ := h2.out
  obtain ⟨g, rfl, hg, hl, _, _⟩ := h1.kid
  have HG := Lib.hid h1
  have HS := Lib.hid k2
  have HI := Lib.hid ih
  clear h1 h2 ih k2
  have mixed : Tryz.prog.follows .mixedOrders = true := by kernel_rfl
  go_enter Tryz.func50, Tryz.ntmps50
  go_wp2
  go_loopw [6] (fun i wr => ∃ k : Nat, k ≤ t.kids.length + 12 ∧ i = .int .i64 k ∧ Hid (Gr w wr)) (fun i _ => t.kids.length + 12 - (intOf i).toNat)
  case atStart => exact ⟨0, by omega, rfl, Gr.refl _⟩
  case round =>
    obtain ⟨k, hk, rfl, HBr⟩ := hrel
    by_cases hlt : k < t.kids.length + 12
    · have hlti : (k : Int) < (t.kids.length : Int) + 12 := by omega
      obtain ⟨g', hv, hgz, _, hkids, hmarks⟩ := (HG.out.old HBr.out.below).kid
      obtain rfl : g = g' := by
        injection hv with hv
        injection hv with hv
        injection hv
      by_cases hkn : k < t.kids.length
      · obtain ⟨u1, d0, d1, d2, d3, d4, d5, d6, hL1⟩ := hkids k hkn
        obtain ⟨sb, off, rfl, hsb, hc⟩ := (HS.out.up HBr.out.below HBr.out.below.size).at (by omega)
        obtain ⟨u2, e0, e1, e2, e3, e4, e5, e6, hL2⟩ := hc k hkn
        have KK : Hid (∀ W, Gr wr W → Calls Tryz.prog 32 #[agg t.kids[k] u1, agg t.kids[k] u2] W (YesG W)) := fun W hW => HI.out _ (List.getElem_mem hkn) W base u1 u2 (hL1.old hW.below) (hL2.up hW.below hW.below.size)
        unfold agg at KK
        have d0' := cellG hgz d0
        have d1' := cellG hgz d1
        have d2' := cellG hgz d2
        have d3' := cellG hgz d3
        have d4' := cellG hgz d4
        have d5' := cellG hgz d5
        have d6' := cellG hgz d6
        have e0' := cellG hsb e0
        have e1' := cellG hsb e1
        have e2' := cellG hsb e2
        have e3' := cellG hsb e3
        have e4' := cellG hsb e4
        have e5' := cellG hsb e5
        have e6' := cellG hsb e6
        clear hkids hmarks hc hL1 hL2 d0 d1 d2 d3 d4 d5 d6 e0 e1 e2 e3 e4 e5 e6 HG HS HI hv
        generalize (t.kids[k]'hkn).kind = tk at d0' e0' KK
        generalize (t.kids[k]'hkn).vk = ta at d1' e1' KK
        generalize (t.kids[k]'hkn).vn = tb at d2' e2' KK
        generalize (t.kids[k]'hkn).vs = tc at d3' e3' KK
        generalize (t.kids[k]'hkn).var = td at d4' e4' KK
        generalize (t.kids[k]'hkn).op = te at d5' e5' KK
        generalize t.kids.length = n at hkn hlt hlti hl hk ⊢
        have hd : decide ((k : Int) < (n : Int)) = true := by simp; omega
        have hd2 : decide ((n : Int) ≤ (k : Int)) = false := by simp; omega
        have hd' : decide (k < n) = true := by simp; omega
        have hd2' : decide (n ≤ k) = false := by simp; omega
        have hki : (k : Int) < (n : Int) := by omega
        clear hkn
        go_wp2_with fail
        refine wp_region_quiet_grown (by assumption) (by kernel_rfl) ?_
        repeat (go_big_quiet_step (first | (go_at_call 32; go_must (exact Calls.grown_of ((KK.out _ ⟨_, _, rfl⟩).mono fun _ _ h => ⟨h.1, h.2.out⟩)))))
        refine wpQuiet_nil ?_
        intro _ hw'
        obtain ⟨⟨nq, osq⟩, hw''⟩ := hw'
        subst hw''
        go_wp2
        have HBn : Hid (Gr w (Sort.grow (wr.drewN nq) osq)) := HBr.out.trans ⟨nq, osq, rfl⟩
        clear hd hd2 hd' hd2' HBr KK d0' d1' d2' d3' d4' d5' d6' e0' e1' e2' e3' e4' e5' e6'
        go_roundw
        case rel => exact ⟨k + 1, by omega, by go_num, HBn⟩
        case measure => simp [intOf]; omega
      · have hm : k - t.kids.length < 12 := by omega
        obtain ⟨o0, o1, o2, o3, o4, o5, o6⟩ := hmarks (k - t.kids.length) hm
        rw [show t.kids.length + (k - t.kids.length) = k by omega] at o0 o1 o2 o3 o4 o5 o6
        obtain ⟨m, hmk⟩ : ∃ m, m = k - t.kids.length := ⟨_, rfl⟩
        rw [← hmk] at o4 hm
        have hsub : (k : Int) - (t.kids.length : Int) = (m : Int) := by omega
        have KM := Lib.hid (fun W => markExpr_any 1 (m : Int) (by omega) (by omega) (by omega) (by omega) W)
        generalize (1000003 * (1 + 7) + (m : Int)) = x at o4 KM
        have KS : Hid (∀ W, Calls Tryz.prog 49 #[.agg #[.int .u8 0, .int .u8 0, .int .i64 0, .string ⟨#[]⟩, .int .i64 x, .int .u8 0, .slice none 0 0], .agg #[.int .u8 0, .int .u8 0, .int .i64 0, .string ⟨#[]⟩, .int .i64 x, .int .u8 0, .slice none 0 0]] W (YesG W)) := fun W => by
          have hz : Lies W.heap.size W (X.mk 0 0 0 ⟨#[]⟩ x 0 []) (.slice none 0 0) := .mk (X.mk 0 0 0 ⟨#[]⟩ x 0 []) none 0 [] rfl (fun h => absurd rfl h) (fun _ => rfl) (Nat.le_refl _) (Nat.zero_le _) (fun p hp => by cases hp)
          exact sameE_any (X.mk 0 0 0 ⟨#[]⟩ x 0 []) W _ _ hz hz
        have d0' := cellG hgz o0
        have d1' := cellG hgz o1
        have d2' := cellG hgz o2
        have d3' := cellG hgz o3
        have d4' := cellG hgz o4
        have d5' := cellG hgz o5
        have d6' := cellG hgz o6
        clear o0 o1 o2 o3 o4 o5 o6 hkids hmarks HG HS HI hv
        generalize t.kids.length = n at hkn hlt hlti hl hk hmk hsub ⊢
        have hd : decide ((k : Int) < (n : Int)) = false := by simp; omega
        have hd2 : decide ((n : Int) ≤ (k : Int)) = true := by simp; omega
        have hd' : decide (k < n) = false := by simp; omega
        have hd2' : decide (n ≤ k) = true := by simp; omega
        clear hkn hmk
        go_wp2_with fail
        refine wp_region_quiet_grown (by assumption) (by kernel_rfl) ?_
        repeat (go_big_quiet_step (first
          | (go_at_call 54; go_must (exact Calls.grown_of ((KM.out _).mono fun _ _ h => ⟨h.1, h.2.out⟩)))
          | (go_at_call 49; go_must (exact Calls.grown_of ((KS.out _).mono fun _ _ h => ⟨h.1, h.2.out⟩)))))
        refine wpQuiet_nil ?_
        intro _ hw'
        obtain ⟨⟨nq, osq⟩, hw''⟩ := hw'
        subst hw''
        go_wp2
        have HBn : Hid (Gr w (Sort.grow (wr.drewN nq) osq)) := HBr.out.trans ⟨nq, osq, rfl⟩
        clear hd hd2 hd' hd2' HBr KM KS d0' d1' d2' d3' d4' d5' d6'
        go_roundw
        case rel => exact ⟨k + 1, by omega, by go_num, HBn⟩
        case measure => simp [intOf]; omega
    · have hltz : ¬ (k : Int) < (t.kids.length : Int) + 12 := by omega
      go_wp2
      go_ret
      exact ⟨rfl, HBr.out⟩

theorem keptE_any (t : X) : KeptEOK t := X.ind (fun t ih => keptE_step t (keptsE_step t ih)) t
end Go.Proofs.YtnnhgbncghpecaaGreat
