/- The program's Eval. -/
import Derived.Test.YtkbkkhfmejpbeaaEval9
import Derived.Test.YtkbkkhfmejpbeaaKept9
namespace Go.Proofs.Ytkbkkhfmejpbeaa
open Go.RowKit

/-- v is the slice of an expression's kids, each of which stands in memory without marks. -/
structure Kids9 (B : Nat) (w : World) (t : X) (v : Value) : Prop where
  ex : ∃ ao c kb ko, v = .slice ao t.kids.length c ∧ t.kids.length ≤ c ∧ c ≤ maxLen ∧ (0 < t.kids.length → ao = some ⟨kb, ko, none⟩) ∧ ∀ i, (hi : i < t.kids.length) → At9 B w ⟨kb, ko + i * 7, none⟩ t.kids[i]
theorem Kids9.up {B B' : Nat} {w w' : World} {t : X} {v : Value} (h : Kids9 B w t v) (b : Below B w w') (hB : B ≤ B') : Kids9 B' w' t v := by
  obtain ⟨ao, c, kb, ko, e, hl, hm, ha, hk⟩ := h.ex
  exact ⟨ao, c, kb, ko, e, hl, hm, ha, fun i hi => (hk i hi).up b hB⟩
theorem Kids9.at {B : Nat} {w : World} {t : X} {v : Value} (h : Kids9 B w t v) {sb o : Nat} (hb : sb < B) (hg : ∃ cs ty, w.heap[sb]? = some (.cells cs ty (0, 0)))
    (c0 : w.cell? ⟨sb, o, none⟩ = some (.int .u8 t.kind)) (c1 : w.cell? ⟨sb, o + 1, none⟩ = some (.int .u8 t.vk)) (c2 : w.cell? ⟨sb, o + 2, none⟩ = some (.int .i64 t.vn)) (c3 : w.cell? ⟨sb, o + 3, none⟩ = some (.string t.vs)) (c4 : w.cell? ⟨sb, o + 4, none⟩ = some (.int .i64 t.var)) (c5 : w.cell? ⟨sb, o + 5, none⟩ = some (.int .u8 t.op)) (c6 : w.cell? ⟨sb, o + 6, none⟩ = some v) : At9 B w ⟨sb, o, none⟩ t := by
  obtain ⟨ao, c, kb, ko, rfl, hl, hm, ha, hk⟩ := h.ex
  exact .mk t sb o ao c kb ko hb hg c0 c1 c2 c3 c4 c5 c6 hl hm ha hk
theorem LentX.kids9 {base : Nat} {w : World} (t : X) : ∀ {v : Value}, LentX base w t v → Kids9 w.heap.size w t v := by
  induction t using X.ind with
  | h t ih =>
    intro v h
    have hg0 : ∃ g cs ty, v = .slice (some ⟨g, 0, none⟩) t.kids.length (t.kids.length + 12) ∧ w.heap[g]? = some (.cells cs ty (0, 0)) := by
      cases h with
      | mk _ g cur ps hk hl hb hg hc hp => exact ⟨g, cur, _, rfl, hg⟩
    obtain ⟨g', cs, ty, hv, hgc⟩ := hg0
    obtain ⟨g, rfl, hg, hl, hkids, -⟩ := h.kid
    simp only [Value.slice.injEq, Option.some.injEq, Addr.mk.injEq, and_true] at hv
    obtain rfl := hv
    refine ⟨_, _, g, 0, rfl, by omega, by unfold maxLen; omega, fun _ => rfl, fun i hi => ?_⟩
    obtain ⟨u, d0, d1, d2, d3, d4, d5, d6, hL⟩ := hkids i hi
    rw [Nat.zero_add]
    exact (ih _ (List.getElem_mem hi) hL).at hg ⟨cs, ty, hgc⟩ d0 d1 d2 d3 d4 d5 d6

theorem evalL_one (vs : List V3) (t : X) : evalL vs [t] = if (evalX vs t).2 = 0 then ([(evalX vs t).1], 0) else ([], (evalX vs t).2) := by
  rw [evalL_cons, evalL_nil]
  simp

set_option maxRecDepth 100000 in
set_option maxHeartbeats 4000000 in
theorem eval_any (t : X) (v : Value) (vo : Option Addr) (vc : Nat) (vs : List V3) (w : World) (hk : Kids9 w.heap.size w t v) (hv : Vars w.heap.size w vo vc vs) (hh : Held t) (hN : t.wt ≤ 900000) :
    Calls Try.prog 10 #[agg t v, .slice vo vs.length vc] w (DoPost (evalX vs t) w) := by
  obtain ⟨E, hE⟩ : ∃ E : Array Value, E = #[.int .u8 t.kind, .int .u8 t.vk, .int .i64 t.vn, .string t.vs, .int .i64 t.var, .int .u8 t.op, v] := ⟨_, rfl⟩
  have hB3 : Below w.heap.size w (((w.alloc (.cells E 29)).alloc (.cells #[.int .u8 0, .int .i64 0, .string ⟨#[]⟩] 25)).alloc (.cells E 29)) := ((below_own _).alloc (by simp) _).alloc (by simp; omega) _
  have hb := alloc_at (w := ((w.alloc (.cells E 29)).alloc (.cells #[.int .u8 0, .int .i64 0, .string ⟨#[]⟩] 25))) (n := w.heap.size + 1 + 1) (by simp) (.cells E 29)
  have hat : At9 (((w.alloc (.cells E 29)).alloc (.cells #[.int .u8 0, .int .i64 0, .string ⟨#[]⟩] 25)).alloc (.cells E 29)).heap.size (((w.alloc (.cells E 29)).alloc (.cells #[.int .u8 0, .int .i64 0, .string ⟨#[]⟩] 25)).alloc (.cells E 29)) ⟨w.heap.size + 1 + 1, 0, none⟩ t :=
    (hk.up hB3 hB3.size).at (lt_of_heap hb) ⟨_, _, hb⟩ ((Lib.cell_of_heap hb 0).trans (by rw [hE]; rfl)) ((Lib.cell_of_heap hb 1).trans (by rw [hE]; rfl)) ((Lib.cell_of_heap hb 2).trans (by rw [hE]; rfl)) ((Lib.cell_of_heap hb 3).trans (by rw [hE]; rfl)) ((Lib.cell_of_heap hb 4).trans (by rw [hE]; rfl)) ((Lib.cell_of_heap hb 5).trans (by rw [hE]; rfl)) ((Lib.cell_of_heap hb 6).trans (by rw [hE]; rfl))
  have HA := all_any _ vo vc vs (hv.up hB3 hB3.size) (w.heap.size + 1 + 1) 0 1 [t] (fun i hi => by
    obtain rfl : i = 0 := by simpa using hi
    exact hat) (fun x hx => by rw [List.mem_singleton.1 hx]; exact hh) (fun x hx => by rw [List.mem_singleton.1 hx]; simp; omega) (by simp)
  unfold AllP at HA
  rw [evalL_one] at HA
  have hZ2 : (((w.alloc (.cells E 29)).alloc (.cells #[.int .u8 0, .int .i64 0, .string ⟨#[]⟩] 25)).alloc (.cells E 29)).heap[w.heap.size + 1]? = some (.cells #[.int .u8 0, .int .i64 0, .string ⟨#[]⟩] 25 (0, 0)) := alloc_keep (alloc_at (by simp) _) _
  have HZ := Lib.hid hZ2
  have HB3 := Lib.hid hB3
  have HV := Lib.hid hv.fine
  have HH := Lib.hid hh
  subst hE
  clear hat hb hk hv hh hN hB3 hZ2
  by_cases h0 : (evalX vs t).2 = 0
  · rw [if_pos h0] at HA
    have HC := Lib.hid HA
    have hp : DoPost (evalX vs t) w = fun e w' => e = .returned (.tuple #[.agg #[.int .u8 (evalX vs t).1.1, .int .i64 (evalX vs t).1.2.1, .string (evalX vs t).1.2.2], .int .i64 0]) ∧ Below w.heap.size w w' := by
      unfold DoPost
      rw [h0]
    rw [hp]
    clear hp HA h0 HV HH
    generalize (evalX vs t).1 = r at HC ⊢
    obtain ⟨r1, r2, r3⟩ := r
    unfold agg
    go_enter Try.func10, Try.ntmps10
    go_wp2_with (go_at_call 14; go_must (refine (HC.out).mono ?_; rintro e w1 ⟨q, rfl, hb, h1, -⟩; obtain ⟨g, rfl, hg, hr⟩ := h1 rfl; have hat := hr 0 (by simp); have a1 := hat.k; have a2 := hat.n; have a3 := hat.s; have HN := Lib.hid ((hb.block (w.heap.size + 1) (by simp)).trans HZ.out); have n0 := Lib.cell_of_heap HN.out 0; have n1 := Lib.cell_of_heap HN.out 1; have n2 := Lib.cell_of_heap HN.out 2; have nf := fun j => Lib.frozen_of_heap HN.out j; have HB := Lib.hid hb; clear hb h1 hr hat))
    refine val_end Try.results10 rfl rfl rfl HN.out rfl fun W3 _ g3 => ⟨rfl, ?_⟩
    exact (HB3.out.trans (HB.out.mono HB3.out.size)).grown g3 (Nat.le_trans HB3.out.size HB.out.size) (fun k hk => by obtain rfl := Option.some.inj hk; omega)
  · rw [if_neg h0] at HA
    have HC := Lib.hid HA
    have hev : (evalX vs t).1 = zeroT := by
      rcases eval_what vs HV.out t HH.out with ⟨h1, _⟩ | ⟨_, h1⟩
      · exact absurd h1 h0
      · exact h1
    have hp : DoPost (evalX vs t) w = fun e w' => e = .returned (.tuple #[.agg #[.int .u8 0, .int .i64 0, .string ⟨#[]⟩], .int .i64 (evalX vs t).2]) ∧ Below w.heap.size w w' := by
      unfold DoPost
      rw [hev]
      rfl
    rw [hp]
    have hd : ((evalX vs t).2 != 0) = true := by simp [h0]
    have H0 := Lib.hid h0
    clear hp HA h0 hev HV HH
    generalize (evalX vs t).2 = r at HC hd H0 ⊢
    unfold agg
    go_enter Try.func10, Try.ntmps10
    go_wp2_with (go_at_call 14; go_must (refine (HC.out).mono ?_; rintro e w1 ⟨q, rfl, hb, -, h1⟩; obtain rfl := h1 H0.out; have HN := Lib.hid ((hb.block (w.heap.size + 1) (by simp)).trans HZ.out); have n0 := Lib.cell_of_heap HN.out 0; have n1 := Lib.cell_of_heap HN.out 1; have n2 := Lib.cell_of_heap HN.out 2; have nf := fun j => Lib.frozen_of_heap HN.out j; have HB := Lib.hid hb; clear hb h1))
    refine val_end Try.results10 rfl rfl rfl HN.out rfl fun W3 _ g3 => ⟨rfl, ?_⟩
    exact (HB3.out.trans (HB.out.mono HB3.out.size)).grown g3 (Nat.le_trans HB3.out.size HB.out.size) (fun k hk => by obtain rfl := Option.some.inj hk; omega)
end Go.Proofs.Ytkbkkhfmejpbeaa
