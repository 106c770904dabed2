/- slices.BinarySearchFunc of matches, by the order's method value. -/
import Derived.Test.YtlkmabnjmklkpaaDoorSet14
namespace Go.Proofs.YtlkmabnjmklkpaaDoor
open Go.RowKit

/-- Where m stands, or would, in the row ws. -/
structure At14 (s : List Int) (ws : List MV) (m : TK) (i : Nat) (b : Bool) : Prop where
  le : i ≤ ws.length
  lo : ∀ k, (h : k < ws.length) → k < i → better14 s (ws[k]).1 m = true
  hi : ∀ k, (h : k < ws.length) → i ≤ k → better14 s (ws[k]).1 m = false
  is : b = decide (∃ h : i < ws.length, (ws[i]).1 = m)
def SearchP (s : List Int) (ws : List MV) (m : TK) (w : World) (e : Ending) (w' : World) : Prop := ∃ i b, e = .returned (.tuple #[.int .i64 (i : Nat), .bool b]) ∧ At14 s ws m i b ∧ Gr w w'

theorem row_lo {s : List Int} {ws : List MV} (hr : Row14 s (ws.map Prod.fst)) {a b : Nat} (hab : a ≤ b) (hb : b < ws.length) {m : TK} (h : better14 s (ws[b]).1 m = true) : better14 s (ws[a]'(by omega)).1 m = true := by
  by_cases e : a = b
  · subst e; exact h
  · have := List.pairwise_iff_getElem.1 hr a b (by simp; omega) (by simpa using hb) (by omega)
    simp only [List.getElem_map] at this
    exact better_trans s _ _ _ this h

set_option maxRecDepth 100000 in
set_option maxHeartbeats 8000000 in
theorem search_any (s : List Int) (so wo : Option Addr) (sc wc n : Nat) (ws : List MV) (m : MV) (w : World) (hn : ws.length = n) (hn2 : n ≤ 1000000) (hs : SlG w.heap.size w so (icells s)) (hrow : SlG w.heap.size w wo (mcells ws)) (hok : ∀ p, p ∈ ws → Mt w.heap.size w p.1 p.2.1.1 p.2.2.1 ∧ p.1.2.length ≤ 1000000) (hsr : Row14 s (ws.map Prod.fst)) (hm : Mt w.heap.size w m.1 m.2.1.1 m.2.2.1) (hml : m.1.2.length ≤ 1000000) :
    Calls Tryd.prog 34 #[.slice wo n wc, mval m, .func (.func 28) #[aggO so s.length sc] #[]] w (SearchP s ws m.1 w) := by
  have mixed : Tryd.prog.follows .mixedOrders = true := by kernel_rfl
  have eg : ∀ args w, (callFunc 28 args).run Tryd.prog w = .ok (.enter 28 args) w := enters_of Tryd.func28 (by kernel_rfl) rfl
  obtain ⟨⟨k, ids⟩, ⟨a1, c1⟩, ⟨a2, c2⟩⟩ := m
  simp only at hm hml ⊢
  have HS := Lib.hid hs
  have HR := Lib.hid hrow
  have HOK := Lib.hid hok
  have HSr := Lib.hid hsr
  have HM := Lib.hid hm
  have HN := Lib.hid hn
  have HG0 := Lib.hid ((Gr.refl w).alloc (.cells #[.int .i64 k, .slice a1 ids.length c1, .slice a2 ids.length c2] 59))
  have HQ0 : Hid ((w.alloc (.cells #[.int .i64 k, .slice a1 ids.length c1, .slice a2 ids.length c2] 59)).heap[w.heap.size]? = some (.cells #[.int .i64 k, .slice a1 ids.length c1, .slice a2 ids.length c2] 59 (0, 0))) := heap_alloc_new w _
  -- what is known in every world behind the box
  have HX : Hid (∀ W, Gr (w.alloc (.cells #[.int .i64 k, .slice a1 ids.length c1, .slice a2 ids.length c2] 59)) W → (W.cell? ⟨w.heap.size, 0, none⟩ = some (.int .i64 k) ∧ W.cell? ⟨w.heap.size, 1, none⟩ = some (.slice a1 ids.length c1) ∧ W.cell? ⟨w.heap.size, 2, none⟩ = some (.slice a2 ids.length c2)) ∧
      ∀ sb off, wo = some ⟨sb, off, none⟩ → ∀ h, (hh : h < ws.length) → W.cell? ⟨sb, off + h * 3, none⟩ = some (.int .i64 (ws[h]).1.1) ∧ W.cell? ⟨sb, off + h * 3 + 1, none⟩ = some (.slice (ws[h]).2.1.1 (ws[h]).1.2.length (ws[h]).2.1.2) ∧ W.cell? ⟨sb, off + h * 3 + 2, none⟩ = some (.slice (ws[h]).2.2.1 (ws[h]).1.2.length (ws[h]).2.2.2) ∧
        Calls Tryd.prog 28 #[aggO so s.length sc, mval ws[h], mval ((k, ids), (a1, c1), (a2, c2))] W (NumG (cmp14 s (ws[h]).1 (k, ids)) W)) := fun W hW => by
    have hb := HG0.out.trans hW
    have hq := (hW.below.block _ (lt_of_heap HQ0.out)).trans HQ0.out
    refine ⟨⟨Lib.cell_of_heap hq 0, Lib.cell_of_heap hq 1, Lib.cell_of_heap hq 2⟩, fun sb off e h hh => ?_⟩
    obtain ⟨sb', off', e', lt, hc⟩ := (HR.out.below hb.below) (by intro e; have := congrArg List.length e; rw [mcells_length] at this; simp at this; omega)
    rw [e] at e'
    obtain ⟨rfl, rfl⟩ : sb = sb' ∧ off = off' := by
      have := Option.some.inj e'
      simp only [Addr.mk.injEq] at this
      exact ⟨this.1, this.2.1⟩
    obtain ⟨x0, x1, x2⟩ := mcells_at ws h hh
    have hp := HOK.out ws[h] (List.getElem_mem hh)
    refine ⟨hc _ _ x0, by rw [Nat.add_assoc]; exact hc _ _ x1, by rw [Nat.add_assoc]; exact hc _ _ x2, ?_⟩
    exact compare_any s (ws[h]).1 (k, ids) so (ws[h]).2.1.1 (ws[h]).2.2.1 a1 a2 sc (ws[h]).2.1.2 (ws[h]).2.2.2 c1 c2 (Nat.le_trans hp.2 (by omega)) (Nat.le_trans hml (by omega)) W (HS.out.up hb.below hb.below.size) (hp.1.up hb.below hb.below.size) (HM.out.up hb.below hb.below.size)
  clear hs hrow hok hsr hm hn
  go_enter Tryd.func34, Tryd.ntmps34
  go_wp2_with fail
  go_loopw [9, 10] (fun vi vj wr => ∃ lo hi : Nat, vi = .int .i64 lo ∧ vj = .int .i64 hi ∧ lo ≤ hi ∧ hi ≤ n ∧ Hid (Gr (w.alloc (.cells #[.int .i64 k, .slice a1 ids.length c1, .slice a2 ids.length c2] 59)) wr) ∧ Hid (∀ q, (h : q < ws.length) → q < lo → better14 s (ws[q]).1 (k, ids) = true) ∧ Hid (∀ q, (h : q < ws.length) → hi ≤ q → better14 s (ws[q]).1 (k, ids) = false)) (fun vi vj _ => (intOf vj).toNat - (intOf vi).toNat)
  case atStart => exact ⟨0, n, rfl, rfl, by omega, Nat.le_refl _, Gr.refl _, (fun q _ hq => absurd hq (Nat.not_lt_zero _)), fun q h hq => by have := HN.out; omega⟩
  case round =>
    obtain ⟨lo, hi, rfl, rfl, hlh, hin, HW, HLo, HHi⟩ := hrel
    by_cases hlt : lo < hi
    · have hh : (lo + hi) / 2 < ws.length := by have := HN.out; omega
      obtain ⟨sb, off, rfl, _⟩ := HR.out (by intro e; have := congrArg List.length e; rw [mcells_length] at this; simp at this; omega)
      have hf : ∀ nn os, _ := fun nn os => HX.out (Sort.grow (wr.drewN nn) os) (HW.out.trans ⟨nn, os, rfl⟩)
      have b0 : ∀ nn os, (Sort.grow (wr.drewN nn) os).cell? ⟨w.heap.size, 0, none⟩ = _ := fun nn os => (hf nn os).1.1
      have b1 : ∀ nn os, (Sort.grow (wr.drewN nn) os).cell? ⟨w.heap.size, 1, none⟩ = _ := fun nn os => (hf nn os).1.2.1
      have b2 : ∀ nn os, (Sort.grow (wr.drewN nn) os).cell? ⟨w.heap.size, 2, none⟩ = _ := fun nn os => (hf nn os).1.2.2
      have g0 : ∀ nn os, (Sort.grow (wr.drewN nn) os).cell? ⟨sb, off + (lo + hi) / 2 * 3, none⟩ = _ := fun nn os => ((hf nn os).2 sb off rfl _ hh).1
      have g1 : ∀ nn os, (Sort.grow (wr.drewN nn) os).cell? ⟨sb, off + (lo + hi) / 2 * 3 + 1, none⟩ = _ := fun nn os => ((hf nn os).2 sb off rfl _ hh).2.1
      have g2 : ∀ nn os, (Sort.grow (wr.drewN nn) os).cell? ⟨sb, off + (lo + hi) / 2 * 3 + 2, none⟩ = _ := fun nn os => ((hf nn os).2 sb off rfl _ hh).2.2.1
      have hcg : ∀ nn os, Calls Tryd.prog 28 #[aggO so s.length sc, mval ws[(lo + hi) / 2], mval ((k, ids), (a1, c1), (a2, c2))] (Sort.grow (wr.drewN nn) os) fun e w' => e = .returned (.int .i64 (cmp14 s (ws[(lo + hi) / 2]).1 (k, ids))) ∧ ∃ q os'', w' = Sort.grow ((Sort.grow (wr.drewN nn) os).drewN q) os'' := fun nn os => ((hf nn os).2 sb off rfl _ hh).2.2.2
      have HLo2 : Hid (better14 s (ws[(lo + hi) / 2]).1 (k, ids) = true → ∀ q, (h : q < ws.length) → q < (lo + hi) / 2 + 1 → better14 s (ws[q]).1 (k, ids) = true) := fun hb q h hq => row_lo HSr.out (by omega) hh hb
      have HHi2 : Hid (better14 s (ws[(lo + hi) / 2]).1 (k, ids) = false → ∀ q, (h : q < ws.length) → (lo + hi) / 2 ≤ q → better14 s (ws[q]).1 (k, ids) = false) := fun hb q h hq => by
        cases hc : better14 s (ws[q]).1 (k, ids) with
        | false => rfl
        | true =>
          have := row_lo HSr.out hq h hc
          rw [this] at hb
          cases hb
      have HCm := Lib.hid (cmp14_neg s (ws[(lo + hi) / 2]).1 (k, ids))
      have q1 : ((lo : Int) + (hi : Int)) / 2 < (n : Int) := by have := HN.out; omega
      have q3 : (0 : Int) ≤ ((lo : Int) + (hi : Int)) / 2 := by omega
      have q4 : (((lo : Int) + (hi : Int)) / 2).toNat = (lo + hi) / 2 := by omega
      have q2 : (lo : Int) < (hi : Int) := by omega
      clear hf
      generalize ws[(lo + hi) / 2] = y at g0 g1 g2 hcg HLo2 HHi2 HCm
      clear hh
      obtain ⟨⟨yk, yl⟩, ⟨ya, yc⟩, ⟨yd, ye⟩⟩ := y
      dsimp only [mval] at g0 g1 g2 hcg HLo2 HHi2 HCm
      generalize hcc : cmp14 s (yk, yl) (k, ids) = cc at hcg HCm
      by_cases hlv : cc < 0
      · have hd : decide (cc < 0) = true := decide_eq_true hlv
        go_wp2_with fail
        go_quiet_grown (first | (go_at_fn 28; refine Calls.grown_of (hcg _ _)) | (go_at_call 28; refine Calls.grown_of (hcg _ _)))
        have HG : Hid (Gr (w.alloc (.cells #[.int .i64 k, .slice a1 ids.length c1, .slice a2 ids.length c2] 59)) (Sort.grow (wr.drewN nq) osq)) := HW.out.trans ⟨nq, osq, rfl⟩
        have HL := Lib.hid (HLo2.out (HCm.out.1 hlv))
        have hn2' := hn2
        have q6 : IntKind.i64.wrap (((lo : Int) + (hi : Int)) / 2 + 1) = ((lo : Int) + (hi : Int)) / 2 + 1 := by rw [IntKind.wrap_i64]; omega
        clear hn2'
        clear b0 b1 b2 g0 g1 g2 hcg hlv hd
        generalize Sort.grow (wr.drewN nq) osq = wz at HG ⊢
        go_wp2_with fail
        go_roundw
        case measure => simp [intOf]; omega
        case rel => exact ⟨(lo + hi) / 2 + 1, hi, by rw [show ((lo : Int) + (hi : Int)) / 2 + 1 = (((lo + hi) / 2 + 1 : Nat) : Int) by omega], rfl, by omega, hin, HG, HL, HHi⟩
      · have hd : decide (cc < 0) = false := decide_eq_false hlv
        have HH := Lib.hid (HHi2.out (by
          cases hb : better14 s (yk, yl) (k, ids) with
          | false => rfl
          | true => exact absurd (HCm.out.2 hb) hlv))
        go_wp2_with fail
        go_quiet_grown (first | (go_at_fn 28; refine Calls.grown_of (hcg _ _)) | (go_at_call 28; refine Calls.grown_of (hcg _ _)))
        have HG : Hid (Gr (w.alloc (.cells #[.int .i64 k, .slice a1 ids.length c1, .slice a2 ids.length c2] 59)) (Sort.grow (wr.drewN nq) osq)) := HW.out.trans ⟨nq, osq, rfl⟩
        have q5 : ((lo : Int) + (hi : Int)) / 2 = (((lo + hi) / 2 : Nat) : Int) := by omega
        clear b0 b1 b2 g0 g1 g2 hcg hlv hd
        generalize Sort.grow (wr.drewN nq) osq = wz at HG ⊢
        go_wp2_with fail
        go_roundw
        case measure => simp [intOf]; omega
        case rel => exact ⟨lo, (lo + hi) / 2, rfl, by rw [← q5], by omega, by omega, HG, HLo, HH⟩
    · obtain rfl : hi = lo := by omega
      have HWn := HN.out
      by_cases hn : hi < n
      · have hh : hi < ws.length := by omega
        obtain ⟨sb, off, rfl, _⟩ := HR.out (by intro e; have := congrArg List.length e; rw [mcells_length] at this; simp at this; omega)
        have hf : ∀ nn os, _ := fun nn os => HX.out (Sort.grow (wr.drewN nn) os) (HW.out.trans ⟨nn, os, rfl⟩)
        have b0 : ∀ nn os, (Sort.grow (wr.drewN nn) os).cell? ⟨w.heap.size, 0, none⟩ = _ := fun nn os => (hf nn os).1.1
        have b1 : ∀ nn os, (Sort.grow (wr.drewN nn) os).cell? ⟨w.heap.size, 1, none⟩ = _ := fun nn os => (hf nn os).1.2.1
        have b2 : ∀ nn os, (Sort.grow (wr.drewN nn) os).cell? ⟨w.heap.size, 2, none⟩ = _ := fun nn os => (hf nn os).1.2.2
        have g0 : ∀ nn os, (Sort.grow (wr.drewN nn) os).cell? ⟨sb, off + hi * 3, none⟩ = _ := fun nn os => ((hf nn os).2 sb off rfl _ hh).1
        have g1 : ∀ nn os, (Sort.grow (wr.drewN nn) os).cell? ⟨sb, off + hi * 3 + 1, none⟩ = _ := fun nn os => ((hf nn os).2 sb off rfl _ hh).2.1
        have g2 : ∀ nn os, (Sort.grow (wr.drewN nn) os).cell? ⟨sb, off + hi * 3 + 2, none⟩ = _ := fun nn os => ((hf nn os).2 sb off rfl _ hh).2.2.1
        have hcg : ∀ nn os, Calls Tryd.prog 28 #[aggO so s.length sc, mval ws[hi], mval ((k, ids), (a1, c1), (a2, c2))] (Sort.grow (wr.drewN nn) os) fun e w' => e = .returned (.int .i64 (cmp14 s (ws[hi]).1 (k, ids))) ∧ ∃ q os'', w' = Sort.grow ((Sort.grow (wr.drewN nn) os).drewN q) os'' := fun nn os => ((hf nn os).2 sb off rfl _ hh).2.2.2
        have HCz := Lib.hid (cmp14_zero s (ws[hi]).1 (k, ids))
        have HAt : Hid (∀ b, b = decide ((ws[hi]).1 = (k, ids)) → At14 s ws (k, ids) hi b) := fun b hb => ⟨by omega, HLo.out, HHi.out, by
          rw [hb]
          by_cases he : (ws[hi]).1 = (k, ids)
          · rw [decide_eq_true he, decide_eq_true ⟨hh, he⟩]
          · rw [decide_eq_false he, decide_eq_false (fun ⟨_, h⟩ => he h)]⟩
        have q1 : (hi : Int) < (n : Int) := by omega
        clear hf HWn
        generalize ws[hi] = y at g0 g1 g2 hcg HCz HAt
        clear hh
        obtain ⟨⟨yk, yl⟩, ⟨ya, yc⟩, ⟨yd, ye⟩⟩ := y
        dsimp only [mval] at g0 g1 g2 hcg HCz HAt
        generalize hcc : cmp14 s (yk, yl) (k, ids) = cc at hcg HCz
        have HB : Hid ((cc == 0) = decide ((yk, yl) = (k, ids))) := by
          by_cases hz : cc = 0
          · rw [Hid, decide_eq_true (HCz.out.1 hz)]; simpa using hz
          · rw [Hid, decide_eq_false (fun e => hz (HCz.out.2 e))]; simpa using hz
        have HAt2 : Hid (At14 s ws (k, ids) hi (cc == 0)) := HAt.out _ HB.out
        clear HAt HB HCz hcc
        go_wp2_with fail
        go_quiet_grown (first | (go_at_fn 28; refine Calls.grown_of (hcg _ _)) | (go_at_call 28; refine Calls.grown_of (hcg _ _)))
        have HG : Hid (Gr w (Sort.grow (wr.drewN nq) osq)) := HG0.out.trans (HW.out.trans ⟨nq, osq, rfl⟩)
        clear b0 b1 b2 g0 g1 g2 hcg
        generalize Sort.grow (wr.drewN nq) osq = wz at HG ⊢
        go_wp2
        go_ret2
        exact ⟨hi, _, rfl, HAt2.out, HG.out⟩
      · have HAt : Hid (At14 s ws (k, ids) hi false) := ⟨by omega, HLo.out, HHi.out, (decide_eq_false (fun ⟨h, _⟩ => by omega)).symm⟩
        have q1 : decide ((hi : Int) < (n : Int)) = false := by simp; omega
        have q2 : decide (hi < n) = false := by simp; omega
        have HG : Hid (Gr w wr.drew) := (HG0.out.trans HW.out).drew
        clear HWn
        go_wp2_with fail
        go_big_region_o
        all_goals go_wp2
        go_ret2
        exact ⟨hi, false, rfl, HAt.out, HG.out⟩
end Go.Proofs.YtlkmabnjmklkpaaDoor
