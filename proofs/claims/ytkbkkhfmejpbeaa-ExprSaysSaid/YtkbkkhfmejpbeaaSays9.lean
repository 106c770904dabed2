/- ExprSays is true of any expression over any variables. -/
import Derived.Test.YtkbkkhfmejpbeaaLight9
import Derived.Test.YtkbkkhfmejpbeaaKeptV9
import Derived.Test.YtkbkkhfmejpbeaaAwake9
namespace Go.Proofs.Ytkbkkhfmejpbeaa
open Go.RowKit

theorem lies_one {w : World} {t : X} {v : Value} {b : Nat} (hl : Lies w.heap.size w t v) (hb : w.heap[b]? = some (.cells (seven t v).toArray 29 (0, 0))) : Lies w.heap.size w (X.mk 0 0 0 ⟨#[]⟩ 0 0 [t]) (.slice (some ⟨b, 0, none⟩) 1 1) := by
  refine .mk (X.mk 0 0 0 ⟨#[]⟩ 0 0 [t]) (some ⟨b, 0, none⟩) 1 [(t, v)] rfl (fun _ => ⟨b, 0, rfl, lt_of_heap hb, fun j u hu => ?_⟩) (fun h => by cases h) (Nat.le_refl _) (by unfold maxLen; omega) (fun p hp => by rw [List.mem_singleton.1 hp]; exact hl)
  rw [Nat.zero_add, Lib.cell_of_heap hb, ← Array.getElem?_toList]
  exact hu
theorem lightX_facts {zs : List V3} {t : X} (h : lightX zs t = true) : zs.length ≤ 30 ∧ manyE t.kids ≤ 300 := by
  unfold lightX at h
  simp only [Bool.and_eq_true, decide_eq_true_eq] at h
  omega
/-- What was lent of a row of values is that row, seen as the variables'. -/
theorem vars_lent {w : World} {g c : Nat} {zs ms : List V3} (hg : g < w.heap.size) (hr : RowAt w g 0 (zs ++ ms)) (hf : zs.length ≤ 1000000) (hm : ∀ x, x ∈ zs → Fine1 x) : Vars w.heap.size w (some ⟨g, 0, none⟩) c zs :=
  ⟨fun _ => ⟨g, 0, rfl, hg, fun j hj => by
    have := hr j (by rw [List.length_append]; omega)
    rwa [List.getElem_append_left hj] at this⟩, hf, hm⟩

/-- Where the variables' values lie, as they came in. -/
structure Came9 (w : World) (vo : Option Addr) (c : Nat) (zs : List V3) : Prop where
  len : zs.length ≤ 9223372036854775807
  nil : vo = none → zs.length = 0 ∧ c = 0
  row : 0 < zs.length → ∃ b off, vo = some ⟨b, off, none⟩ ∧ b < w.heap.size ∧ RowAt w b off zs
  fine : ∀ x, x ∈ zs → Fine1 x
theorem Came9.up {w W : World} {vo : Option Addr} {c : Nat} {zs : List V3} (h : Came9 w vo c zs) (b : Below w.heap.size w W) : Came9 W vo c zs :=
  ⟨h.len, h.nil, fun hl => by
    obtain ⟨sb, off, e, lt, hr⟩ := h.row hl
    exact ⟨sb, off, e, Nat.lt_of_lt_of_le lt b.size, hr.later b lt⟩, h.fine⟩
theorem Came9.vars {w : World} {vo : Option Addr} {c : Nat} {zs : List V3} (h : Came9 w vo c zs) (hf : zs.length ≤ 1000000) : Vars w.heap.size w vo c zs := ⟨h.row, hf, h.fine⟩
theorem Came9.rows {w : World} {vo : Option Addr} {c : Nat} {zs : List V3} (h : Came9 w vo c zs) : 0 < zs.length → ∀ ad, vo = some ad → ∃ b off, ad = ⟨b, off, none⟩ ∧ b < w.heap.size ∧ RowAt w b off zs := fun hl ad e => by
  obtain ⟨b, off, e', lt, hr⟩ := h.row hl
  rw [e] at e'
  exact ⟨b, off, Option.some.inj e', lt, hr⟩

set_option maxRecDepth 100000 in
set_option maxHeartbeats 4000000 in
theorem says_any (t : X) (v : Value) (vo : Option Addr) (c : Nat) (zs : List V3) (w : World) (hl : Lies w.heap.size w t v) (hh : Held t) (hv : Came9 w vo c zs) :
    Calls Try.prog 3 #[agg t v, .slice vo zs.length c] w fun e w' => e = .returned (.bool true) ∧ Below w.heap.size w w' := by
  obtain ⟨E, hE⟩ : ∃ E : Array Value, E = (seven t v).toArray := ⟨_, rfl⟩
  have HLg : Hid (∀ W b, Below w.heap.size w W → W.heap[b]? = some (.cells E 29 (0, 0)) → Calls Try.prog 7 #[.slice vo zs.length c, .slice (some ⟨b, 0, none⟩) 1 1] W fun e w' => e = .returned (.bool (lightX zs t)) ∧ W = w') := fun W b hW hb => by
    subst hE
    exact light_any vo c zs t b 0 W hv.len (hv.up hW).row (fun x hx => (hv.fine x hx).2) (lies_one (hl.up hW hW.size) hb)
  have HB0 := Lib.hid (below_own (w := w) (.cells E 29))
  have HE0 := Lib.hid (alloc_at (w := w) rfl (.cells E 29))
  cases hlx : lightX zs t with
  | false =>
    rw [hlx] at HLg
    have HA := Lib.hid awake_any
    obtain ⟨a1, c1, ps1, rfl, -⟩ := hl.out
    subst hE
    clear hl hh hv hlx
    unfold agg
    go_enter Try.func3, Try.ntmps3
    go_wp2_with (first
      | (go_at_call 6; go_must (refine (HA.out _).mono ?_; rintro e w1 ⟨rfl, hb⟩; have HB := Lib.hid (HB0.out.trans (hb.mono HB0.out.size)); have HE := Lib.hid ((hb.block w.heap.size (by simp)).trans HE0.out); have ye := fun j => Lib.cell_of_heap HE.out j; clear hb))
      | (go_at_call 7; go_must (refine (HLg.out _ _ (HB.out.alloc HB.out.size _) (alloc_at rfl _)).mono ?_; rintro e w2 ⟨rfl, rfl⟩)))
    go_ret
    exact ⟨rfl, HB.out.alloc HB.out.size _⟩
  | true =>
    rw [hlx] at HLg
    obtain ⟨h30, hmany⟩ := lightX_facts hlx
    have hfits := fits_many t (by omega)
    have hwt : t.wt ≤ 900000 := by rw [wt_many]; omega
    have HA := Lib.hid awake_any
    have HLe := Lib.hid (fun W (hW : Below w.heap.size w W) => lentE_any t W v (hl.up hW hW.size) hfits)
    have HLv := Lib.hid (fun W (hW : Below w.heap.size w W) => lentV_any vo zs.length c zs W rfl h30 (hv.up hW).nil (hv.up hW).rows)
    have HEv := Lib.hid (fun W v' g (hk : Kids9 W.heap.size W t v') (hg : g < W.heap.size) (hr : RowAt W g 0 (zs ++ marksV 12)) => eval_any t v' (some ⟨g, 0, none⟩) (zs.length + 12) zs W hk (vars_lent hg hr (by omega) hv.fine) hh hwt)
    have HRf := Lib.hid (fun W (hW : Below w.heap.size w W) => refX_any zs t hfits W v vo c (hl.up hW hW.size) ((hv.up hW).vars (by omega)) hh)
    have HKe := Lib.hid (fun W base v1 (h1 : LentX base W t v1) (hW : Below w.heap.size w W) => keptE_any t W base v1 v h1 (hl.up hW hW.size))
    have HKv := Lib.hid (fun W B (hB : B < W.heap.size) (hW : Below w.heap.size w W) (hr : RowAt W B 0 (zs ++ marksV 12)) => keptV_any vo B zs.length c zs W rfl h30 hB (hv.up hW).nil (hv.up hW).rows hr)
    unfold DoPost at HEv HRf
    generalize evalX zs t = r at HEv HRf
    obtain ⟨⟨r1, r2, r3⟩, r4⟩ := r
    have heq := fun W => eqV r1 r2 r1 r2 r3 r3 W
    rw [(eqvB_iff (r1, r2, r3) (r1, r2, r3)).2 rfl] at heq
    have hg := eqGuardV
    obtain ⟨a1, c1, ps1, rfl, -⟩ := hl.out
    subst hE
    clear hl hh hv hlx hmany hfits hwt
    unfold agg at HLe HEv HRf HKe ⊢
    go_enter Try.func3, Try.ntmps3
    go_wp2_with (first
      | (go_at_call 6; go_must (refine (HA.out _).mono ?_; rintro e w1 ⟨rfl, hb⟩; have HB := Lib.hid (HB0.out.trans (hb.mono HB0.out.size)); have HE := Lib.hid ((hb.block w.heap.size (by simp)).trans HE0.out); have ye := fun j => Lib.cell_of_heap HE.out j; have hel := lt_of_heap HE.out; clear hb))
      | (go_at_call 7; go_must (refine (HLg.out _ _ (HB.out.alloc HB.out.size _) (alloc_at rfl _)).mono ?_; rintro e w2 ⟨rfl, rfl⟩))
      | (go_at_call 8; go_must (refine (HLe.out _ (HB.out.alloc HB.out.size _)).mono ?_; rintro e w3 ⟨v', rfl, hL, hb⟩; obtain ⟨g3, rfl, hgb, hgl⟩ := hL.addr; have HB3 := Lib.hid ((HB.out.alloc HB.out.size _).trans (hb.mono (HB.out.alloc HB.out.size _).size)); have HL3 := Lib.hid hL; have HE3 := Lib.hid ((hb.block w.heap.size (by simp; omega)).trans (alloc_keep HE.out _)); clear hb hL))
      | (go_at_call 9; go_must (refine (HLv.out _ HB3.out).mono ?_; rintro e w4 ⟨rfl, hlt4, hrow, hb⟩; have HB4 := Lib.hid (HB3.out.trans (hb.mono HB3.out.size)); have HL4 := Lib.hid (HL3.out.old hb); have HE4 := Lib.hid ((hb.block w.heap.size (lt_of_heap HE3.out)).trans HE3.out); have HR4 := Lib.hid hrow; clear hb hrow))
      | (go_at_call 10; go_must (refine (HEv.out _ _ _ (LentX.kids9 t (HL4.out.old (below_own _))) (by simp; omega) (HR4.out.later (below_own _) hlt4)).mono ?_; rintro e w5 ⟨rfl, hb⟩; have HB5 := Lib.hid ((HB4.out.alloc HB4.out.size _).trans (hb.mono (HB4.out.alloc HB4.out.size _).size)); have HL5 := Lib.hid ((HL4.out.old (below_own _)).old hb); have HR5 := Lib.hid ((HR4.out.later (below_own _) hlt4).later hb (by simp; omega)); have hlt5 : w3.heap.size < w5.heap.size := (by have := hb.size; simp at this; omega); have HE5 := Lib.hid ((hb.block w.heap.size (by have := lt_of_heap HE4.out; simp; omega)).trans (alloc_keep HE4.out _)); have ye5 := fun j => Lib.cell_of_heap HE5.out j; have hel5 := lt_of_heap HE5.out; have HI5 := Lib.hid ((hb.block w4.heap.size (by simp)).trans (alloc_at rfl _)); have yi5 := fun j => Lib.cell_of_heap HI5.out j; have hil5 := lt_of_heap HI5.out; clear hb))
      | (go_at_call 11; go_must (refine (HRf.out _ (HB5.out.alloc HB5.out.size _)).mono ?_; rintro e w6 ⟨rfl, hb⟩; have HB6 := Lib.hid ((HB5.out.alloc HB5.out.size _).trans (hb.mono (HB5.out.alloc HB5.out.size _).size)); have HL6 := Lib.hid ((HL5.out.old (below_own _)).old hb); have HR6 := Lib.hid ((HR5.out.later (below_own _) hlt5).later hb (by simp; omega)); have hlt6 : w3.heap.size < w6.heap.size := (by have := hb.size; simp at this; omega); have HE6 := Lib.hid ((hb.block w.heap.size (by simp; omega)).trans (alloc_keep HE5.out _)); have ye6 := fun j => Lib.cell_of_heap HE6.out j; have hel6 := lt_of_heap HE6.out; have HI6 := Lib.hid ((hb.block w4.heap.size (by simp; omega)).trans (alloc_keep HI5.out _)); have yi6 := fun j => Lib.cell_of_heap HI6.out j; have hil6 := lt_of_heap HI6.out; have H76 := Lib.hid ((hb.block w5.heap.size (by simp)).trans (alloc_at rfl _)); have y76 := fun j => Lib.cell_of_heap H76.out j; have h7l6 := lt_of_heap H76.out; clear hb))
      | (go_at_call 12; go_must (refine (HKe.out _ _ _ (HL6.out.old (below_own _)) (HB6.out.alloc HB6.out.size _)).mono ?_; rintro e w7 ⟨rfl, hq⟩; have hb := hq.below; have HB7 := Lib.hid ((HB6.out.alloc HB6.out.size _).trans (hb.mono (HB6.out.alloc HB6.out.size _).size)); have HR7 := Lib.hid ((HR6.out.later (below_own _) hlt6).later hb (by simp; omega)); have hlt7 : w3.heap.size < w7.heap.size := (by have := hb.size; simp at this; omega); clear hb hq))
      | (go_at_call 13; go_must (refine (HKv.out _ _ hlt7 HB7.out HR7.out).mono ?_; rintro e w8 ⟨rfl, hb⟩; have HB8 := Lib.hid (HB7.out.trans (hb.mono HB7.out.size)); clear hb)))
    go_ret
    exact ⟨rfl, HB8.out⟩
end Go.Proofs.Ytkbkkhfmejpbeaa
