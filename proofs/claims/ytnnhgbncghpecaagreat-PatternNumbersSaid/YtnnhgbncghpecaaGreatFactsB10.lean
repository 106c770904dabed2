/- Facts looked at again. -/
import Derived.Test.YtnnhgbncghpecaaGreatFacts10
namespace Go.Proofs.YtnnhgbncghpecaaGreat
open Go.RowKit

theorem LentFs.old {g : Nat} {w w' : World} {fl : List F10} {ps : List (F10 × Value)} (h : LentFs g w fl ps) (b : Below w.heap.size w w') : LentFs g w' fl ps := by
  obtain ⟨cur, h1, h2⟩ := h.row
  exact ⟨h.fst, ⟨cur, (b.block g (lt_of_heap h1)).trans h1, h2⟩, fun p hp => (h.each p hp).old b⟩
theorem LentFs.lt {g : Nat} {w : World} {fl : List F10} {ps : List (F10 × Value)} (h : LentFs g w fl ps) : g < w.heap.size := by
  obtain ⟨cur, h1, h2⟩ := h.row
  exact lt_of_heap h1
theorem LentFs.cell {g : Nat} {w : World} {fl : List F10} {ps : List (F10 × Value)} (h : LentFs g w fl ps) (j : Nat) : w.cell? ⟨g, j, none⟩ = (cellsF (ps ++ mkF 12))[j]? := by
  obtain ⟨cur, h1, h2⟩ := h.row
  rw [Lib.cell_of_heap h1, ← Array.getElem?_toList, h2]
theorem mkF_length (n : Nat) : (mkF n).length = n := by simp [mkF]
theorem mkF_get (n i : Nat) (h : i < (mkF n).length) : (mkF n)[i] = (markF i, .slice none 0 0) := by simp [mkF]
theorem LentFs.kid {g : Nat} {w : World} {fl : List F10} {ps : List (F10 × Value)} (h : LentFs g w fl ps) {k : Nat} (hk : k < fl.length) :
    ∃ v, w.cell? ⟨g, k * 3, none⟩ = some (.int .i64 fl[k].id) ∧ w.cell? ⟨g, k * 3 + 1, none⟩ = some (.int .i64 fl[k].type) ∧ w.cell? ⟨g, k * 3 + 2, none⟩ = some v ∧ LentF g w fl[k] v := by
  have hf := h.fst
  subst hf
  have hk' : k < ps.length := by simpa using hk
  obtain ⟨q0, q1, q2⟩ := cellsF_at (ps ++ mkF 12) k (by rw [List.length_append]; omega)
  rw [List.getElem_append_left hk'] at q0 q1 q2
  have he : (ps.map Prod.fst)[k] = ps[k].1 := List.getElem_map _
  rw [he]
  exact ⟨ps[k].2, (h.cell _).trans q0, (h.cell _).trans q1, (h.cell _).trans q2, h.each _ (List.getElem_mem hk')⟩
theorem LentFs.mark {g : Nat} {w : World} {fl : List F10} {ps : List (F10 × Value)} (h : LentFs g w fl ps) {m : Nat} (hm : m < 12) :
    w.cell? ⟨g, (fl.length + m) * 3, none⟩ = some (.int .i64 (8000024 + (m : Int))) ∧ w.cell? ⟨g, (fl.length + m) * 3 + 1, none⟩ = some (.int .i64 0) ∧ w.cell? ⟨g, (fl.length + m) * 3 + 2, none⟩ = some (.slice none 0 0) := by
  have hf := h.fst
  subst hf
  have hl : (ps.map Prod.fst).length = ps.length := by simp
  obtain ⟨q0, q1, q2⟩ := cellsF_at (ps ++ mkF 12) (ps.length + m) (by rw [List.length_append, mkF_length]; omega)
  have e : (ps ++ mkF 12)[ps.length + m]'(by rw [List.length_append, mkF_length]; omega) = (markF m, .slice none 0 0) := by
    rw [List.getElem_append_right (by omega)]
    have : ps.length + m - ps.length = m := by omega
    simp only [this]
    exact mkF_get 12 m (by rw [mkF_length]; exact hm)
  rw [e] at q0 q1 q2
  rw [hl]
  exact ⟨(h.cell _).trans q0, (h.cell _).trans q1, (h.cell _).trans q2⟩
set_option maxRecDepth 100000 in
set_option maxHeartbeats 4000000 in
theorem keptFacts_any (fl : List F10) (g : Nat) (ps : List (F10 × Value)) (a2 : Option Addr) (c2 : Nat) (w : World) (h1 : LentFs g w fl ps) (h2 : Facts10 w.heap.size w fl a2 c2) (hl : fl.length ≤ 100000) (hsm : ∀ f, f ∈ fl → f.args.length ≤ 60) :
    Calls Tryz.prog 38 #[.slice (some ⟨g, 0, none⟩) fl.length (fl.length + 12), .slice a2 fl.length c2] w fun e w' => e = .returned (.bool true) ∧ Gr w w' := by
  have HG := Lib.hid h1
  have HS := Lib.hid h2
  have HSm := Lib.hid hsm
  clear h1 h2 hsm
  have mixed : Tryz.prog.follows .mixedOrders = true := by kernel_rfl
  go_enter Tryz.func38, Tryz.ntmps38
  go_wp2
  go_loopw [6] (fun i wr => ∃ k : Nat, k ≤ fl.length + 12 ∧ i = .int .i64 k ∧ Hid (Gr w wr)) (fun i _ => fl.length + 12 - (intOf i).toNat)
  case atStart => exact ⟨0, by omega, rfl, Gr.refl _⟩
  case round =>
    obtain ⟨k, hk, rfl, HBr⟩ := hrel
    by_cases hlt : k < fl.length + 12
    · have hlti : (k : Int) < (fl.length : Int) + 12 := by omega
      have hG := HG.out.old HBr.out.below
      have hgz := hG.lt
      by_cases hkn : k < fl.length
      · obtain ⟨v, d0, d1, d2, hL1⟩ := hG.kid hkn
        obtain ⟨sb, off, qa, qc, rfl, hsb, e0, e1, e2, hL2⟩ := (HS.out.up HBr.out.below HBr.out.below.size).at hkn
        have KK : Hid (∀ W, Gr wr W → Calls Tryz.prog 14 #[.agg #[.int .i64 fl[k].id, .int .i64 fl[k].type, v], aggF fl[k] qa qc] W fun e w' => e = .returned (.bool true) ∧ Gr W w') := fun W hW => keptFact_yes fl[k] g v qa qc W (HSm.out _ (List.getElem_mem hkn)) (hL1.old hW.below) (hL2.up hW.below hW.below.size)
        obtain ⟨g1, rfl, -, -⟩ := hL1.addr
        unfold aggF at KK
        have d0' := cellG hgz d0
        have d1' := cellG hgz d1
        have d2' := cellG hgz d2
        have e0' := cellG hsb e0
        have e1' := cellG hsb e1
        have e2' := cellG hsb e2
        clear hL1 hL2 d0 d1 d2 e0 e1 e2 HG HS HSm hG
        generalize (fl[k]'hkn).id = tk at d0' e0' KK
        generalize (fl[k]'hkn).type = ta at d1' e1' KK
        generalize (fl[k]'hkn).args.length = m1 at d2' e2' KK
        generalize fl.length = n at hkn hlt hlti hl hk ⊢
        have hd : decide ((k : Int) < (n : Int)) = true := by simp; omega
        have hd2 : decide ((n : Int) ≤ (k : Int)) = false := by simp; omega
        have hd' : decide (k < n) = true := by simp; omega
        have hd2' : decide (n ≤ k) = false := by simp; omega
        have hki : (k : Int) < (n : Int) := by omega
        clear hkn
        go_wp2_with fail
        refine wp_region_quiet_grown (by assumption) (by kernel_rfl) ?_
        repeat (go_big_quiet_step (first | (go_at_call 14; go_must (exact Calls.grown_of ((KK.out _ ⟨_, _, rfl⟩).mono fun _ _ h => ⟨h.1, h.2.out⟩)))))
        refine wpQuiet_nil ?_
        intro _ hw'
        obtain ⟨⟨nq, osq⟩, hw''⟩ := hw'
        subst hw''
        go_wp2
        have HBn : Hid (Gr w (Sort.grow (wr.drewN nq) osq)) := HBr.out.trans ⟨nq, osq, rfl⟩
        clear hd hd2 hd' hd2' HBr KK d0' d1' d2' e0' e1' e2'
        go_roundw
        case rel => exact ⟨k + 1, by omega, by go_num, HBn⟩
        case measure => simp [intOf]; omega
      · have hm : k - fl.length < 12 := by omega
        obtain ⟨o0, o1, o2⟩ := hG.mark hm
        rw [show fl.length + (k - fl.length) = k by omega] at o0 o1 o2
        obtain ⟨m, hmk⟩ : ∃ m, m = k - fl.length := ⟨_, rfl⟩
        rw [← hmk] at o0 hm
        have hsub : (k : Int) - (fl.length : Int) = (m : Int) := by omega
        have KM := Lib.hid (fun W => markFact_any m W (by omega))
        generalize (8000024 + (m : Int)) = x at o0 KM
        have KS : Hid (∀ W, Calls Tryz.prog 33 #[.agg #[.int .i64 x, .int .i64 0, .slice none 0 0], .agg #[.int .i64 x, .int .i64 0, .slice none 0 0]] W fun e w' => e = .returned (.bool true) ∧ Gr W w') := fun W => by
          have hz : Sl10 W.heap.size W ([] : List V3).length none 0 (cellsV []) := ⟨fun h => absurd rfl h, fun _ => ⟨rfl, rfl⟩, Nat.le_refl _, by unfold maxLen; omega⟩
          exact sameFact_yes ⟨x, 0, []⟩ none 0 none 0 W hz hz
        have d0' := cellG hgz o0
        have d1' := cellG hgz o1
        have d2' := cellG hgz o2
        clear o0 o1 o2 HG HS HSm hG
        generalize fl.length = n at hkn hlt hlti hl hk hmk hsub ⊢
        have hd : decide ((k : Int) < (n : Int)) = false := by simp; omega
        have hd2 : decide ((n : Int) ≤ (k : Int)) = true := by simp; omega
        have hd' : decide (k < n) = false := by simp; omega
        have hd2' : decide (n ≤ k) = true := by simp; omega
        clear hkn hmk
        go_wp2_with fail
        refine wp_region_quiet_grown (by assumption) (by kernel_rfl) ?_
        repeat (go_big_quiet_step (first
          | (go_at_call 53; go_must (exact Calls.grown_of ((KM.out _).mono fun _ _ h => ⟨h.1, h.2.out⟩)))
          | (go_at_call 33; go_must (exact Calls.grown_of ((KS.out _).mono fun _ _ h => ⟨h.1, h.2.out⟩)))))
        refine wpQuiet_nil ?_
        intro _ hw'
        obtain ⟨⟨nq, osq⟩, hw''⟩ := hw'
        subst hw''
        go_wp2
        have HBn : Hid (Gr w (Sort.grow (wr.drewN nq) osq)) := HBr.out.trans ⟨nq, osq, rfl⟩
        clear hd hd2 hd' hd2' HBr KM KS d0' d1' d2'
        go_roundw
        case rel => exact ⟨k + 1, by omega, by go_num, HBn⟩
        case measure => simp [intOf]; omega
    · have hltz : ¬ (k : Int) < (fl.length : Int) + 12 := by omega
      go_wp2
      go_ret
      exact ⟨rfl, HBr.out⟩
end Go.Proofs.YtnnhgbncghpecaaGreat
