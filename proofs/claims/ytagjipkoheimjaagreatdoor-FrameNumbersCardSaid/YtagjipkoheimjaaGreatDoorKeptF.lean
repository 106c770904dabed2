/- Frames that were lent are as they were, and so are the marks behind them. -/
import Derived.Test.YtagjipkoheimjaaGreatDoorLentF
namespace Go.Proofs.YtagjipkoheimjaaGreatDoor
open Go.RowKit

theorem cellG {w : World} {b o : Nat} {v : Value} (hb : b < w.heap.size) (h : w.cell? ⟨b, o, none⟩ = some v) : ∀ q os, (Sort.grow (w.drewN q) os).cell? ⟨b, o, none⟩ = some v := fun q os =>
  ((bcell (Gr.below ⟨q, os, rfl⟩)).1 b o hb).trans h
theorem LentRow.size {w : World} {g : Nat} {ps : List (FR × Nat)} (h : LentRow w g ps) : g < w.heap.size := by
  obtain ⟨cur, h1, _⟩ := h
  exact lt_of_heap h1
theorem LentRow.keep {w w' : World} {g : Nat} {ps : List (FR × Nat)} (h : LentRow w g ps) (b : Below w.heap.size w w') : LentRow w' g ps := by
  obtain ⟨cur, h1, h2⟩ := h
  exact ⟨cur, (b.block g (lt_of_heap h1)).trans h1, h2⟩
theorem LentRow.raw {w : World} {g : Nat} {ps : List (FR × Nat)} (h : LentRow w g ps) (j : Nat) : w.cell? ⟨g, j, none⟩ = (cellsFr (ps.map lv ++ mkF 12))[j]? := by
  obtain ⟨cur, h1, h2⟩ := h
  rw [Lib.cell_of_heap h1, ← Array.getElem?_toList, h2]
theorem LentRow.at {w : World} {g : Nat} {ps : List (FR × Nat)} (h : LentRow w g ps) (i : Nat) (hi : i < ps.length) :
    w.cell? ⟨g, i * 2, none⟩ = some (.int .i64 (ps[i]).1.1) ∧ w.cell? ⟨g, i * 2 + 1, none⟩ = some (.slice (some ⟨(ps[i]).2, 0, none⟩) (ps[i]).1.2.length ((ps[i]).1.2.length + 12)) := by
  have hl : i < (ps.map lv ++ mkF 12).length := by rw [List.length_append, List.length_map]; omega
  obtain ⟨h1, h2⟩ := cellsFr_at _ i hl
  have e : (ps.map lv ++ mkF 12)[i] = lv ps[i] := by rw [List.getElem_append_left (by rw [List.length_map]; exact hi), List.getElem_map]
  rw [e] at h1 h2
  exact ⟨(h.raw _).trans h1, (h.raw _).trans h2⟩
theorem LentRow.mk {w : World} {g : Nat} {ps : List (FR × Nat)} (h : LentRow w g ps) (m : Nat) (hm : m < 12) :
    w.cell? ⟨g, (ps.length + m) * 2, none⟩ = some (.int .i64 (1000003 * (1 + 7) + (m : Int))) ∧ w.cell? ⟨g, (ps.length + m) * 2 + 1, none⟩ = some (.slice none 0 0) := by
  have hl : ps.length + m < (ps.map lv ++ mkF 12).length := by rw [List.length_append, List.length_map, mkF_length]; omega
  obtain ⟨h1, h2⟩ := cellsFr_at _ _ hl
  have e : (ps.map lv ++ mkF 12)[ps.length + m] = ((1000003 * (1 + 7) + (m : Int), []), .slice none 0 0) := by
    rw [List.getElem_append_right (by rw [List.length_map]; omega)]
    simp [mkF]
  rw [e] at h1 h2
  exact ⟨(h.raw _).trans h1, (h.raw _).trans h2⟩

set_option maxRecDepth 100000 in
set_option maxHeartbeats 2000000 in
theorem keptFrames_any (g base : Nat) (ao : Option Addr) (c : Nat) (l : List FR) (ps : List (FR × Nat)) (hp : ps.map Prod.fst = l) (hl : l.length ≤ 100000) (hk : ∀ f, f ∈ l → f.2.length ≤ 100000) (w : World) (hg : LentRow w g ps) (hd : LentD w base ps) (hs : SlFr w.heap.size w ao l) :
    Calls Tryz.prog 10 #[.slice (some ⟨g, 0, none⟩) l.length (l.length + 12), .slice ao l.length c] w (YesP w) := by
  have hpl : ps.length = l.length := by rw [← hp, List.length_map]
  have HP := Lib.hid (And.intro hp hpl)
  have HG := Lib.hid hg
  have HD := Lib.hid hd
  have HS := Lib.hid hs
  have HK := Lib.hid hk
  clear hg hd hs hk hp hpl
  have mixed : Tryz.prog.follows .mixedOrders = true := by kernel_rfl
  go_enter Tryz.func10, Tryz.ntmps10
  go_wp2
  go_loopw [6] (fun i wr => ∃ k : Nat, k ≤ l.length + 12 ∧ i = .int .i64 k ∧ Below w.heap.size w wr) (fun i _ => l.length + 12 - (intOf i).toNat)
  case atStart => exact ⟨0, by omega, rfl, Below.refl _ _⟩
  case round =>
    obtain ⟨k, hk, rfl, hb⟩ := hrel
    have HBr := Lib.hid hb
    clear hb
    by_cases hlt : k < l.length + 12
    · have hlti : (k : Int) < (l.length : Int) + 12 := by omega
      have hgr := (HG.out.keep HBr.out)
      have hgz := hgr.size
      by_cases hkn : k < l.length
      · obtain ⟨hp, hpl⟩ := HP.out
        have hkp : k < ps.length := by omega
        obtain ⟨o1, o2⟩ := hgr.at k hkp
        have hld := ((HD.out.below HBr.out).lent ps[k] (List.getElem_mem hkp)).1
        have he : (ps[k]).1 = l[k] := by
          have : (ps.map Prod.fst)[k]'(by rw [List.length_map]; exact hkp) = l[k] := by simp only [hp]
          rw [← this, List.getElem_map]
        obtain ⟨sb, off, rfl, hsb, hc⟩ := (HS.out.below HBr.out).at (by omega)
        obtain ⟨a1, c1, k1, k2, hx, -⟩ := hc k hkn
        have hdl := HK.out l[k] (List.getElem_mem hkn)
        rw [he] at o1 o2 hld
        have hx' := hx.up (Below.refl _ _) HBr.out.size
        generalize (ps[k]).2 = g1 at o2 hld
        clear he hc hx hp hpl hkp
        generalize l[k] = f at o1 o2 hld k1 k2 hx' hdl
        obtain ⟨x, d⟩ := f
        simp only at o1 o2 hld k1 k2 hx' hdl
        have KK := Lib.hid (fun W (hW : Gr wr W) => keptFrameG x d g1 a1 d.length (d.length + 12) d.length c1 rfl rfl rfl hdl W (hld.below hW.below) (hx'.up hW.below hW.below.size))
        have a1' := cellG hgz o1
        have a2' := cellG hgz o2
        have hsb' : sb < wr.heap.size := Nat.lt_of_lt_of_le hsb HBr.out.size
        have a3' := cellG hsb' k1
        have a4' := cellG hsb' k2
        clear o1 o2 k1 k2 hld hx' hdl hgr hgz hsb hsb' HG HD HS HK HP
        have hd : decide ((k : Int) < (l.length : Int)) = true := by simp; omega
        have hd2 : decide ((l.length : Int) ≤ (k : Int)) = false := by simp; omega
        have hd' : decide (k < l.length) = true := by simp; omega
        have hd2' : decide (l.length ≤ k) = false := by simp; omega
        have hki : (k : Int) < (l.length : Int) := by omega
        clear hkn
        go_wp2_with fail
        refine wp_region_quiet_grown (by assumption) (by kernel_rfl) ?_
        repeat (go_big_quiet_step (first | (go_at_call 29; go_must (exact Calls.grown_of ((KK.out _ ⟨_, _, rfl⟩).mono fun _ _ h => ⟨h.1, h.2.out⟩)))))
        refine wpQuiet_nil ?_
        intro _ hw'
        obtain ⟨⟨nq, osq⟩, hw''⟩ := hw'
        subst hw''
        go_wp2
        have HBn : Below w.heap.size w (Sort.grow (wr.drewN nq) osq) := below_step HBr.out (Gr.below ⟨nq, osq, rfl⟩)
        clear hd hd2 hd' hd2' HBr KK a1' a2' a3' a4'
        go_roundw
        case rel => exact ⟨k + 1, by omega, by go_num, HBn⟩
        case measure => simp [intOf]; omega
      · obtain ⟨hp, hpl⟩ := HP.out
        have hm : k - l.length < 12 := by omega
        obtain ⟨o1, o2⟩ := hgr.mk (k - l.length) hm
        rw [hpl, show l.length + (k - l.length) = k by omega] at o1 o2
        obtain ⟨m, hmk⟩ : ∃ m, m = k - l.length := ⟨_, rfl⟩
        rw [← hmk] at o1 hm
        have hsub : (k : Int) - (l.length : Int) = (m : Int) := by omega
        have KM := Lib.hid (fun W => markFrameG 1 (m : Int) (by omega) (by omega) (by omega) (by omega) W)
        generalize (1000003 * (1 + 7) + (m : Int)) = x at o1 KM
        have KS := Lib.hid (fun W => sameFrameG x [] none none 0 0 0 0 rfl rfl (by simp) W (fun h => absurd rfl h) (fun h => absurd rfl h))
        have a1' := cellG hgz o1
        have a2' := cellG hgz o2
        clear o1 o2 hgr hgz HG HD HS HK HP hp hpl
        have hd : decide ((k : Int) < (l.length : Int)) = false := by simp; omega
        have hd2 : decide ((l.length : Int) ≤ (k : Int)) = true := by simp; omega
        have hd' : decide (k < l.length) = false := by simp; omega
        have hd2' : decide (l.length ≤ k) = true := by simp; omega
        clear hkn hmk
        go_wp2_with fail
        refine wp_region_quiet_grown (by assumption) (by kernel_rfl) ?_
        repeat (go_big_quiet_step (first
          | (go_at_call 25; go_must (exact Calls.grown_of ((KM.out _).mono fun _ _ h => ⟨h.1, h.2.out⟩)))
          | (go_at_call 30; go_must (exact Calls.grown_of ((KS.out _).mono fun _ _ h => ⟨h.1, h.2.out⟩)))))
        refine wpQuiet_nil ?_
        intro _ hw'
        obtain ⟨⟨nq, osq⟩, hw''⟩ := hw'
        subst hw''
        go_wp2
        have HBn : Below w.heap.size w (Sort.grow (wr.drewN nq) osq) := below_step HBr.out (Gr.below ⟨nq, osq, rfl⟩)
        clear hd hd2 hd' hd2' HBr KM KS a1' a2'
        go_roundw
        case rel => exact ⟨k + 1, by omega, by go_num, HBn⟩
        case measure => simp [intOf]; omega
    · have hltz : ¬ (k : Int) < (l.length : Int) + 12 := by omega
      go_wp2
      go_ret
      exact ⟨rfl, HBr.out⟩
end Go.Proofs.YtagjipkoheimjaaGreatDoor
