/- PatternSome answers true, whatever comes in. -/
import Derived.Test.YtnnhgbncghpecaaGreatFactsB10
import Derived.Test.YtnnhgbncghpecaaGreatRefS10
import Derived.Test.YtnnhgbncghpecaaGreatAwake10
namespace Go.Proofs.YtnnhgbncghpecaaGreat
open Go.RowKit

/-- A world in which all that was is as it was. -/
structure BelW (W : World) where
  w : World
  h : Below W.heap.size W w
instance (W : World) : Nonempty (BelW W) := ⟨⟨W, Below.refl _ _⟩⟩
theorem wp_region_quiet_bel {P : Program} {id : Nat} {Q : Exit → Act → World → Prop} {a : Act} {w : World} {l : List Oper} (hm : P.follows .mixedOrders = true) (hB : Region.lexB .any l.toArray = true)
    (h : wpQuiet P l.toArray (fun w' => ∃ p : BelW w, w' = p.w) (fun a' => ∀ w', (∃ p : BelW w, w' = p.w) → Q .normal a' w') l a) : (Code.region id l.toArray true).wp P Q a w :=
  wp_region_quiet (C := fun w' => ∃ p : BelW w, w' = p.w) hm hB ⟨⟨w.drew, RowKit_drewN (Below.refl _ _) 1⟩, rfl⟩ (by simpa using h)
theorem LentFs.facts {g : Nat} {w : World} {fl : List F10} {ps : List (F10 × Value)} (h : LentFs g w fl ps) (hl : fl.length ≤ 100000) (hsm : ∀ f, f ∈ fl → f.args.length ≤ 60) : Facts10 w.heap.size w fl (some ⟨g, 0, none⟩) (fl.length + 12) := by
  refine ⟨⟨ps, h.fst, fun _ => ⟨g, 0, rfl, h.lt, fun j u hu => ?_⟩, fun p hp => ?_⟩, (fun e => by cases e), by omega, by unfold maxLen; omega⟩
  · rw [Nat.zero_add, h.cell, cellsF_append, List.getElem?_append_left (List.getElem?_eq_some_iff.1 hu).1]
    exact hu
  · have hm : p.1 ∈ fl := by
      rw [← h.fst]
      exact List.mem_map_of_mem hp
    obtain ⟨q, e, hs⟩ := (h.each p hp).sl (by have := hsm _ hm; omega)
    exact ⟨_, _, e, hs⟩
section
variable {w : World} {c : C10} {ao : Option Addr} {ac : Nat} {xo : Option Addr} {xc : Nat} {e : E10} {ho : Option Addr} {hc : Nat} {vo : Option Addr} {vc : Nat}
set_option maxRecDepth 100000 in
set_option maxHeartbeats 4000000 in
theorem patternSome_any (fl : List F10) (fo : Option Addr) (fc : Nat) (hA : Sl10 w.heap.size w c.args.length ao ac (cellsA c.args)) (hE : Env10 w.heap.size w e ho hc vo vc) (hF : Facts10 w.heap.size w fl fo fc) :
    Calls Tryz.prog 22 #[aggC c ao ac xo xc, .slice ho e.1.length hc, .slice vo e.2.length vc, .slice fo fl.length fc] w fun r w' => r = .returned (.bool true) ∧ Below w.heap.size w w' := by
  have HAw := Lib.hid (fun W => awake_any W)
  have m1 : c.args.length ≤ 9223372036854775807 := by have := hA.cap; have := hA.top; unfold maxLen at this; omega
  have m2 : e.1.length ≤ 9223372036854775807 := by have := hE.has.cap; have := hE.has.top; unfold maxLen at this; omega
  have m3 : e.2.length ≤ 9223372036854775807 := by have := hE.vals.cap; have := hE.vals.top; unfold maxLen at this; omega
  have m4 : fl.length ≤ 9223372036854775807 := by have := hF.cap; have := hF.top; unfold maxLen at this; omega
  have HB0 : Hid (∀ o, Below w.heap.size w (w.alloc o)) := fun o => below_own o
  have HF := Lib.hid hF
  have HS : Hid (e.1.length ≤ 2000 → ∀ W, Below w.heap.size w W → ∀ q k, Facts10 W.heap.size W fl q k → Calls Tryz.prog 36 #[aggC c ao ac xo xc, aggE e ho hc vo vc, .slice q fl.length k] W fun r w' => r = .returned (.bool (firstB c fl e).isSome) ∧ Below W.heap.size W w') := fun hn W hW q k hf =>
    some10_any c ao ac xo xc e ho hc vo vc fl q k W (hA.up hW hW.size) (hE.up hW hW.size) hf (by omega)
  have HR : Hid (e.1.length ≤ 2000 → ∀ W, Below w.heap.size w W → Calls Tryz.prog 37 #[aggC c ao ac xo xc, aggE e ho hc vo vc, .slice fo fl.length fc] W fun r w' => r = .returned (.bool (firstB c fl e).isSome) ∧ Below W.heap.size W w') := fun hn W hW =>
    refSome_any fl fo fc (hA.up hW hW.size) (hE.up hW hW.size) (hF.up hW hW.size) (by omega)
  unfold aggE at HS HR
  obtain ⟨ck, ct, cl, cx⟩ := c
  simp only at m1 HS HR
  generalize (firstB ⟨ck, ct, cl, cx⟩ fl e).isSome = yb at *
  clear hA hE hF
  generalize e.1.length = n1 at *
  generalize e.2.length = n2 at *
  by_cases t1 : cl.length ≤ 2000
  · have t1' : ¬ (2000 : Int) < (cl.length : Int) := by omega
    by_cases t2 : n1 ≤ 2000
    · have t2' : ¬ (2000 : Int) < (n1 : Int) := by omega
      by_cases t3 : n2 ≤ 2000
      · have t3' : ¬ (2000 : Int) < (n2 : Int) := by omega
        by_cases t4 : fl.length ≤ 300
        · have t4' : ¬ (300 : Int) < (fl.length : Int) := by omega
          have HS2 := Lib.hid (HS.out t2)
          have HR2 := Lib.hid (HR.out t2)
          clear HS HR
          have mixed : Tryz.prog.follows .mixedOrders = true := by kernel_rfl
          go_enter Tryz.func22, Tryz.ntmps22
          go_wp2_with fail
          go_loopw [9] (fun i wr => ∃ j : Nat, j ≤ fl.length ∧ i = .int .i64 j ∧ Hid (∀ k, k < j → (h : k < fl.length) → fl[k].args.length ≤ 50) ∧ wr = w.alloc (.cells (cellsC ⟨ck, ct, cl, cx⟩ ao ac xo xc) 33)) (fun i _ => fl.length - (intOf i).toNat)
          case atStart => exact ⟨0, by omega, rfl, (fun k hk => absurd hk (Nat.not_lt_zero _)), rfl⟩
          case round =>
            obtain ⟨j, hj, rfl, HG, rfl⟩ := hrel
            by_cases hlt : j < fl.length
            · obtain ⟨g, o, a1, k1, rfl, hgB, x0, x1, x2, hs⟩ := HF.out.at hlt
              have hm : fl[j].args.length ≤ 9223372036854775807 := by have := hs.cap; have := hs.top; unfold maxLen at this; omega
              have hjn : (j : Int) < (fl.length : Int) := by omega
              by_cases h50 : fl[j].args.length ≤ 50
              · have HG2 : Hid (∀ k, k < j + 1 → (h : k < fl.length) → fl[k].args.length ≤ 50) := fun k hk hk2 => by
                  rcases Nat.lt_or_ge k j with h | h
                  · exact HG.out k h hk2
                  · obtain rfl : k = j := by omega
                    exact h50
                have h50' : ¬ (50 : Int) < (fl[j].args.length : Int) := by omega
                clear hs HG x0 x1
                generalize fl[j].args.length = m5 at *
                go_wp2_with fail
                go_roundw
                case rel => exact ⟨j + 1, by omega, by go_num, HG2, by first | trivial | rfl⟩
                case measure => simp [intOf]; omega
              · have h50' : (50 : Int) < (fl[j].args.length : Int) := by omega
                clear hs HG x0 x1 h50
                generalize fl[j].args.length = m5 at *
                go_wp2_with (go_at_call 6; go_must (refine (HAw.out _).mono ?_; rintro r w1 ⟨rfl, hb⟩; have HB1 := Lib.hid ((HB0.out _).trans (hb.mono (HB0.out _).size)); clear hb))
                go_ret
                exact ⟨rfl, HB1.out⟩
            · have hsm : ∀ f, f ∈ fl → f.args.length ≤ 60 := fun f hf => by
                obtain ⟨k, hk, rfl⟩ := List.getElem_of_mem hf
                have := HG.out k (by omega) hk
                omega
              obtain rfl : j = fl.length := by omega
              have HSm := Lib.hid hsm
              have HL := Lib.hid (lentFacts_any fl fo fc (w.alloc (.cells (cellsC ⟨ck, ct, cl, cx⟩ ao ac xo xc) 33)) (HF.out.up (below_own _) (below_own _).size) (by omega) hsm)
              have hb1 := HB0.out (.cells (cellsC ⟨ck, ct, cl, cx⟩ ao ac xo xc) 33)
              have hc1 := heap_alloc_new w (.cells (cellsC ⟨ck, ct, cl, cx⟩ ao ac xo xc) 33)
              have hs1 : (w.alloc (.cells (cellsC ⟨ck, ct, cl, cx⟩ ao ac xo xc) 33)).heap.size = w.heap.size + 1 := by simp
              clear hsm HG
              rw [hs1] at HL
              generalize w.alloc (.cells (cellsC ⟨ck, ct, cl, cx⟩ ao ac xo xc) 33) = w0 at *
              have HB00 := Lib.hid hb1
              have HC1 := Lib.hid hc1
              clear hb1 hc1
              go_wp2_with (go_at_call 35; go_must (refine (HL.out).mono ?_; rintro r w1 ⟨ps, rfl, hps, hb⟩; have HPs := Lib.hid hps; have HB1 := Lib.hid (show Below w0.heap.size w0 w1 by rw [hs1]; exact hb); clear hb hps))
              have HB2 : Hid (∀ o, Below w.heap.size w (w1.alloc o)) := fun o => below_new (HB00.out.trans (HB1.out.mono HB00.out.size)) o
              have HPs2 : Hid (∀ o, LentFs (w.heap.size + 1) (w1.alloc o) fl ps) := fun o => HPs.out.old (below_own o)
              have HC2 : Hid (∀ o, (w1.alloc o).heap[w.heap.size]? = some (.cells (cellsC ⟨ck, ct, cl, cx⟩ ao ac xo xc) 33 (0, 0))) := fun o => alloc_keep ((HB1.out.block _ (lt_of_heap HC1.out)).trans HC1.out) o
              obtain ⟨w2, hw2⟩ : ∃ w2, w2 = w1.alloc (.cells #[.slice ho n1 hc, .slice vo n2 vc] 44) := ⟨_, rfl⟩
              have hx := heap_alloc_new w1 (.cells #[.slice ho n1 hc, .slice vo n2 vc] 44)
              have hB2 := HB2.out (.cells #[.slice ho n1 hc, .slice vo n2 vc] 44)
              have hP2 := HPs2.out (.cells #[.slice ho n1 hc, .slice vo n2 vc] 44)
              have hC2 := HC2.out (.cells #[.slice ho n1 hc, .slice vo n2 vc] 44)
              rw [← hw2] at hx hB2 hP2 hC2 ⊢
              clear hw2 HB2 HPs2 HC2 HPs HB1 HB00 HC1 HL HB0
              have y1 : ∀ p : BelW w2, ∀ j, p.w.cell? ⟨w.heap.size, j, none⟩ = (cellsC ⟨ck, ct, cl, cx⟩ ao ac xo xc)[j]? := fun p j => Lib.cell_of_heap ((p.h.block _ (lt_of_heap hC2)).trans hC2) j
              have y2 : ∀ p : BelW w2, ∀ j, p.w.cell? ⟨w1.heap.size, j, none⟩ = (#[Value.slice ho n1 hc, .slice vo n2 vc])[j]? := fun p j => Lib.cell_of_heap ((p.h.block _ (lt_of_heap hx)).trans hx) j
              have KS : Hid (∀ p : BelW w2, Calls Tryz.prog 36 #[aggC ⟨ck, ct, cl, cx⟩ ao ac xo xc, .agg #[.slice ho n1 hc, .slice vo n2 vc], .slice (some ⟨w.heap.size + 1, 0, none⟩) fl.length (fl.length + 12)] p.w fun r w' => r = .returned (.bool yb) ∧ Below p.w.heap.size p.w w') := fun p => HS2.out p.w (hB2.trans (p.h.mono hB2.size)) _ _ ((hP2.old p.h).facts (by omega) HSm.out)
              have KR : Hid (∀ p : BelW w2, Calls Tryz.prog 37 #[aggC ⟨ck, ct, cl, cx⟩ ao ac xo xc, .agg #[.slice ho n1 hc, .slice vo n2 vc], .slice fo fl.length fc] p.w fun r w' => r = .returned (.bool yb) ∧ Below p.w.heap.size p.w w') := fun p => HR2.out p.w (hB2.trans (p.h.mono hB2.size))
              have KK : Hid (∀ p : BelW w2, Calls Tryz.prog 38 #[.slice (some ⟨w.heap.size + 1, 0, none⟩) fl.length (fl.length + 12), .slice fo fl.length fc] p.w fun r w' => r = .returned (.bool true) ∧ Below p.w.heap.size p.w w') := fun p => (keptFacts_any fl (w.heap.size + 1) ps fo fc p.w (hP2.old p.h) (HF.out.up (hB2.trans (p.h.mono hB2.size)) (hB2.trans (p.h.mono hB2.size)).size) (by omega) HSm.out).mono fun _ _ h => ⟨h.1, h.2.below⟩
              have KA : Hid (∀ p : BelW w2, Calls Tryz.prog 6 #[] p.w fun r w' => r = .returned (.bool true) ∧ Below p.w.heap.size p.w w') := fun p => HAw.out p.w
              have HB3 := Lib.hid hB2
              clear hx hB2 hP2 hC2 HS2 HR2 HF HSm HAw
              refine wp_region_quiet_bel (by assumption) (by kernel_rfl) ?_
              cases yb
              all_goals
                repeat (go_big_quiet_step (first
                  | (go_at_call 36; go_must (exact (KS.out _).mono fun _ w' h => ⟨h.1, ⟨w', (BelW.h _).trans (h.2.mono (BelW.h _).size)⟩, rfl⟩))
                  | (go_at_call 37; go_must (exact (KR.out _).mono fun _ w' h => ⟨h.1, ⟨w', (BelW.h _).trans (h.2.mono (BelW.h _).size)⟩, rfl⟩))
                  | (go_at_call 38; go_must (exact (KK.out _).mono fun _ w' h => ⟨h.1, ⟨w', (BelW.h _).trans (h.2.mono (BelW.h _).size)⟩, rfl⟩))
                  | (go_at_call 6; go_must (exact (KA.out _).mono fun _ w' h => ⟨h.1, ⟨w', (BelW.h _).trans (h.2.mono (BelW.h _).size)⟩, rfl⟩))))
                refine wpQuiet_nil ?_
                rintro _ ⟨p, rfl⟩
                go_wp2_with fail
                go_ret
                exact ⟨rfl, HB3.out.trans (p.h.mono HB3.out.size)⟩
        · have t4' : (300 : Int) < (fl.length : Int) := by omega
          clear t4 HS HR HF
          go_enter Tryz.func22, Tryz.ntmps22
          go_wp2_with (go_at_call 6; go_must (refine (HAw.out _).mono ?_; rintro r w1 ⟨rfl, hb⟩; have HB1 := Lib.hid ((HB0.out _).trans (hb.mono (HB0.out _).size)); clear hb))
          go_ret
          exact ⟨rfl, HB1.out⟩
      · have t3' : (2000 : Int) < (n2 : Int) := by omega
        clear t3 HS HR HF
        go_enter Tryz.func22, Tryz.ntmps22
        go_wp2_with (go_at_call 6; go_must (refine (HAw.out _).mono ?_; rintro r w1 ⟨rfl, hb⟩; have HB1 := Lib.hid ((HB0.out _).trans (hb.mono (HB0.out _).size)); clear hb))
        go_ret
        exact ⟨rfl, HB1.out⟩
    · have t2' : (2000 : Int) < (n1 : Int) := by omega
      clear t2 HS HR HF
      go_enter Tryz.func22, Tryz.ntmps22
      go_wp2_with (go_at_call 6; go_must (refine (HAw.out _).mono ?_; rintro r w1 ⟨rfl, hb⟩; have HB1 := Lib.hid ((HB0.out _).trans (hb.mono (HB0.out _).size)); clear hb))
      go_ret
      exact ⟨rfl, HB1.out⟩
  · have t1' : (2000 : Int) < (cl.length : Int) := by omega
    clear t1 HS HR HF
    go_enter Tryz.func22, Tryz.ntmps22
    go_wp2_with (go_at_call 6; go_must (refine (HAw.out _).mono ?_; rintro r w1 ⟨rfl, hb⟩; have HB1 := Lib.hid ((HB0.out _).trans (hb.mono (HB0.out _).size)); clear hb))
    go_ret
    exact ⟨rfl, HB1.out⟩
end
end Go.Proofs.YtnnhgbncghpecaaGreat
