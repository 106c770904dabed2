/- PatternMatches: a condition and a fact are lent, each in a box. -/
import Derived.Test.YtnnhgbncghpecaaGreatFactL10
import Derived.Test.YtnnhgbncghpecaaGreatBagV10
import Derived.Test.YtnnhgbncghpecaaGreatRefS10
namespace Go.Proofs.YtnnhgbncghpecaaGreat
open Go.RowKit

set_option maxRecDepth 100000 in
set_option maxHeartbeats 2000000 in
theorem sameEnv_yes (e : E10) (n m : Nat) (h1 : Option Addr) (c1 : Nat) (v1 : Option Addr) (d1 : Nat) (h2 : Option Addr) (c2 : Nat) (v2 : Option Addr) (d2 : Nat) (w : World) (hn : e.1.length = n) (hm : e.2.length = m) (E1 : Env10 w.heap.size w e h1 c1 v1 d1) (E2 : Env10 w.heap.size w e h2 c2 v2 d2) :
    Calls Tryz.prog 12 #[.agg #[.slice h1 n c1, .slice v1 m d1], .agg #[.slice h2 n c2, .slice v2 m d2]] w fun r w' => r = .returned (.bool true) ∧ Below w.heap.size w w' := by
  obtain ⟨w0, hw0⟩ : ∃ w0, w0 = (w.alloc (.cells #[.slice h1 n c1, .slice v1 m d1] 44)).alloc (.cells #[.slice h2 n c2, .slice v2 m d2] 47) := ⟨_, rfl⟩
  have hb0 : Below w.heap.size w w0 := by rw [hw0]; exact below_new (below_own _) _
  have hs0 : w0.heap.size = w.heap.size + 2 := by rw [hw0]; simp
  obtain ⟨q1, q2⟩ : w0.heap[w.heap.size]? = some (.cells #[.slice h1 n c1, .slice v1 m d1] 44 (0, 0)) ∧ w0.heap[w.heap.size + 1]? = some (.cells #[.slice h2 n c2, .slice v2 m d2] 47 (0, 0)) := by
    rw [hw0]
    exact heap_two _ _
  have HS : Hid (Calls Tryz.prog 29 #[.slice v1 m d1, .slice v2 m d2] w0 fun e w' => e = .returned (.bool true) ∧ Gr w0 w') := by
    have := sameV_yes e.2 v1 d1 v2 d2 w0 (E1.vals.up hb0 hb0.size) (E2.vals.up hb0 hb0.size)
    rw [hm] at this
    exact this
  have HH1 := Lib.hid (fun W (hW : Below w.heap.size w W) => E1.has.up hW hW.size)
  have HH2 := Lib.hid (fun W (hW : Below w.heap.size w W) => E2.has.up hW hW.size)
  have hnn : n ≤ 9223372036854775807 := by have := E1.has.cap; have := E1.has.top; unfold maxLen at this; omega
  have HN := Lib.hid hn
  have HB0 := Lib.hid hb0
  have HQ1 := Lib.hid q1
  have HQ2 := Lib.hid q2
  clear E1 E2 q1 q2 hb0 hn hm
  go_enter Tryz.func12, Tryz.ntmps12
  go_wp2_with (go_at_call 29; go_must (rw [← hw0]; clear hw0; refine (HS.out).mono ?_; rintro e w1 ⟨rfl, hg⟩; have HB1 := Lib.hid (HB0.out.trans (hg.below.mono HB0.out.size)); have H1 := Lib.hid ((hg.below.block w.heap.size (by omega)).trans HQ1.out); have H2 := Lib.hid ((hg.below.block (w.heap.size + 1) (by omega)).trans HQ2.out); clear hg HS HQ1 HQ2 HB0 hs0))
  have HLe : Hid (w1.heap.size ≤ w1.heap.size) := Nat.le_refl _
  go_loopw [5] (fun i wr => ∃ j : Nat, j ≤ n ∧ i = .int .i64 j ∧ Hid (Below w1.heap.size w1 wr)) (fun i _ => n - (intOf i).toNat)
  case atStart => exact ⟨0, by omega, rfl, Below.refl _ _⟩
  case round =>
    obtain ⟨j, hj, rfl, HG⟩ := hrel
    have HBr := Lib.hid (HB1.out.trans (HG.out.mono HB1.out.size))
    have g1 := (HG.out.block w.heap.size (lt_of_heap H1.out)).trans H1.out
    have g2 := (HG.out.block (w.heap.size + 1) (lt_of_heap H2.out)).trans H2.out
    have y1 := fun k => Lib.cell_of_heap g1 k
    have y2 := fun k => Lib.cell_of_heap g2 k
    clear g1 g2
    by_cases hlt : j < n
    · have hje : j < e.1.length := by rw [HN.out]; exact hlt
      obtain ⟨b1, o1, rfl, l1, x1⟩ := (HH1.out wr HBr.out).bat hje
      obtain ⟨b2, o2, rfl, l2, x2⟩ := (HH2.out wr HBr.out).bat hje
      generalize e.1.getD j false = bb at *
      have hjn : (j : Int) < (n : Int) := by omega
      clear HH1 HH2 HN hje
      cases bb with
      | true =>
        as_aux_lemma =>
        go_wp2_with fail
        go_quiet (fail)
        go_wp2
        have HG2 : Hid (Below w1.heap.size w1 (wr.drewN nq)) := HG.out.trans (RowKit_drewN (Below.refl _ _) nq)
        clear HG x1 x2 y1 y2
        go_roundw
        case rel => exact ⟨j + 1, by omega, by go_num, HG2⟩
        case measure => simp [intOf]; omega
      | false =>
        as_aux_lemma =>
        go_wp2_with fail
        go_quiet (fail)
        go_wp2
        have HG2 : Hid (Below w1.heap.size w1 (wr.drewN nq)) := HG.out.trans (RowKit_drewN (Below.refl _ _) nq)
        clear HG x1 x2 y1 y2
        go_roundw
        case rel => exact ⟨j + 1, by omega, by go_num, HG2⟩
        case measure => simp [intOf]; omega
    · obtain rfl : j = n := by omega
      go_wp2
      go_ret
      exact ⟨rfl, HBr.out⟩
end Go.Proofs.YtnnhgbncghpecaaGreat

namespace Go.Proofs.YtnnhgbncghpecaaGreat
open Go.RowKit

theorem litB_own {w : World} {g B : Nat} (hg : w.heap[g]? = some (.cells #[] 4 (0, 0))) (hB : B ≤ g) : w.ownsRow B 4 1 (.slice (some ⟨g, 0, none⟩) 0 0) 0 [] := ⟨rfl, Or.inr ⟨g, 0, #[], rfl, hB, hg, Nat.le_refl _, Nat.zero_le _, rfl, rfl⟩⟩
/-- A row of truths, whatever they are. -/
def RowT (w : World) (base : Nat) (ao : Option Addr) (n c : Nat) : Prop := ∃ l : List Bool, l.length = n ∧ w.ownsRow base 4 1 (.slice ao n c) n (cellsB l)
theorem RowT.bit {w : World} {base n c : Nat} {ao : Option Addr} (h : RowT w base ao n c) {j : Nat} (hj : j < n) : ∃ (g : Nat) (b : Bool), ao = some ⟨g, 0, none⟩ ∧ w.cell? ⟨g, j, none⟩ = some (.bool b) ∧ w.frozen? ⟨g, j, none⟩ = false ∧ base ≤ g ∧ g < w.heap.size ∧ ∀ b', RowT (w.setCell ⟨g, j, none⟩ (.bool b')) base ao n c ∧ w.grownBy (w.setCell ⟨g, j, none⟩ (.bool b')) (some g) := by
  obtain ⟨l, hl, ho⟩ := h
  obtain ⟨g, cap, cur, e, hb, hg, -, -, hc⟩ := owns_at ho (by omega)
  cases e
  refine ⟨g, l.getD j false, rfl, (hc j (by omega)).trans (cellsB_get l j (by omega)), Lib.frozen_of_heap hg j, hb, lt_of_heap hg, fun b' => ?_⟩
  obtain ⟨s1, s2⟩ := World.ownsRow.stored ho j (.bool b')
  exact ⟨⟨l.set j b', by simp [hl], by rw [cellsB_set]; exact s1⟩, s2⟩
theorem two_rows {w : World} {base : Nat} {l1 l2 : List V3} {a1 a2 : Option Addr} {m1 m2 c1 c2 : Nat} (h1 : w.ownsRow base 27 3 (.slice a1 m1 c1) m1 (cellsV l1)) (h2 : w.ownsRow base 27 3 (.slice a2 m2 c2) m2 (cellsV l2)) (ha : ∀ g, (Value.slice a1 m1 c1).ownBlock = some g → (Value.slice a2 m2 c2).ownBlock ≠ some g) :
    Rows w base 27 3 [(a1, m1, c1), (a2, m2, c2)] (fun k => if k = 0 then cellsV l1 else cellsV l2) := by
  refine ⟨fun k hk => ?_, fun j k hj hk hne b hb => ?_⟩
  · match k, hk with
    | 0, _ => exact h1
    | 1, _ => exact h2
  · match j, k, hj, hk with
    | 0, 0, _, _ => exact absurd rfl hne
    | 0, 1, _, _ => exact ha b hb
    | 1, 0, _, _ => exact fun e => ha b e hb
    | 1, 1, _, _ => exact absurd rfl hne

set_option maxRecDepth 100000 in
set_option maxHeartbeats 4000000 in
theorem apartEnv_yes (base : Nat) (lb : List Bool) (va vb : List V3) (na nb ma mb : Nat) (ah : Option Addr) (ac : Nat) (av : Option Addr) (ad : Nat) (bh : Option Addr) (bc : Nat) (bv : Option Addr) (bd : Nat) (w : World) (hB : base ≤ w.heap.size)
    (hTa : RowT w base ah na ac) (hTb : w.ownsRow base 4 1 (.slice bh nb bc) nb (cellsB lb)) (hVa : w.ownsRow base 27 3 (.slice av ma ad) ma (cellsV va)) (hVb : w.ownsRow base 27 3 (.slice bv mb bd) mb (cellsV vb))
    (hh : ∀ g, (Value.slice ah na ac).ownBlock = some g → (Value.slice bh nb bc).ownBlock ≠ some g) (hv : ∀ g, (Value.slice av ma ad).ownBlock = some g → (Value.slice bv mb bd).ownBlock ≠ some g) (hna : na ≤ 100000) (hnb : nb ≤ 100000) (hma : ma ≤ 100000) (hmb : mb ≤ 100000) :
    Calls Tryz.prog 18 #[.agg #[.slice ah na ac, .slice av ma ad], .agg #[.slice bh nb bc, .slice bv mb bd]] w fun r w' => r = .returned (.bool true) ∧ Below base w w' := by
  obtain ⟨i0, hi, hz0, hz1, hz2⟩ := info_parts infoB
  have hlb : lb.length = nb := by have := hTb.1; rw [cellsB_length] at this; omega
  obtain ⟨w0, hw0⟩ : ∃ w0, w0 = ((w.alloc (.cells #[.slice ah na ac, .slice av ma ad] 44)).alloc (.cells #[.slice bh nb bc, .slice bv mb bd] 44)).alloc (.cells #[] 4) := ⟨_, rfl⟩
  have hb0 : Below w.heap.size w w0 := by rw [hw0]; exact below_new (below_new (below_own _) _) _
  have hs0 : w0.heap.size = w.heap.size + 3 := by rw [hw0]; simp
  obtain ⟨q1, q2, q3⟩ : w0.heap[w.heap.size]? = some (.cells #[.slice ah na ac, .slice av ma ad] 44 (0, 0)) ∧ w0.heap[w.heap.size + 1]? = some (.cells #[.slice bh nb bc, .slice bv mb bd] 44 (0, 0)) ∧ w0.heap[w.heap.size + 2]? = some (.cells #[] 4 (0, 0)) := by
    rw [hw0]
    exact heap_three _ _ _
  have hlit : w0.ownsRow (w.heap.size + 2) 4 1 (.slice (some ⟨w.heap.size + 2, 0, none⟩) 0 0) 0 [] := litB_own q3 (Nat.le_refl _)
  have hsl := (owns_sl (owns_below hTb hb0))
  have hce := hsl.cells
  have hni := hsl.nil
  have HQ1 := Lib.hid q1
  have HQ2 := Lib.hid q2
  have HT0 : Hid (RowT w0 base ah na ac) := by obtain ⟨l, h1, h2⟩ := hTa; exact ⟨l, h1, owns_below h2 hb0⟩
  have HTb := Lib.hid (owns_below hTb hb0)
  have HVa := Lib.hid (owns_below hVa hb0)
  have HVb := Lib.hid (owns_below hVb hb0)
  have HB0 := Lib.hid (hb0.mono hB)
  have HLit := Lib.hid hlit
  have HCe := Lib.hid (hce w0 (Below.refl _ _))
  have HNi := Lib.hid hni
  have HLt : Hid (∀ g, (Value.slice ah na ac).ownBlock = some g → base ≤ g ∧ g < w.heap.size) := by obtain ⟨l, h1, h2⟩ := hTa; exact fun g hg => h2.lt g hg
  have HH := Lib.hid hh
  have HV := Lib.hid hv
  have HBs := Lib.hid hB
  have HZ0 := Lib.hid hs0
  have HLb := Lib.hid hlb
  have HBL : Hid (∀ g, (Value.slice bh nb bc).ownBlock = some g → g < w.heap.size) := fun g hg => (hTb.lt g hg).2
  have q3' := q3
  have hl1 : (cellsB lb).length = nb * 1 := by rw [cellsB_length, hlb, Nat.mul_one]
  clear hTa hTb hVa hVb hh hv hB hs0 q1 q2 q3 hb0 hsl hce hni hlit hlb
  go_enter Tryz.func18, Tryz.ntmps18
  go_wp2_with (at_builtin; go_must (rw [← hw0]; refine wpList_append_apart _ rfl (.tmp 8) (.tmp 10) 37 rfl (w.heap.size + 2) 4 i0 (.bool false) 1 1 Tryz.underlying37 hi hz0 hz1 hz2 rfl (by decide) _ 0 [] rfl HLit.out bh nb bc (cellsB lb) rfl hl1 HNi.out HCe.out (cellsB_one _) (by unfold maxLen; omega) (by omega) (by rw [HZ0.out]; omega) ?_; intro v' w3 hown' hgrow' hor; simp only [Nat.zero_add, List.nil_append] at hown'; obtain ⟨wo, wc, rfl⟩ := owns_slice hown'; refine Hid.out ?_))
  have hgr : w0.grownBy w3 (some (w.heap.size + 2)) := hgrow'
  have hown3 : w3.ownsRow (w.heap.size + 2) 4 1 (.slice wo nb wc) nb (cellsB lb) := hown'
  clear hor hgrow' hown'
  have K1 : Hid (w3.heap[w.heap.size]? = some (.cells #[.slice ah na ac, .slice av ma ad] 44 (0, 0))) := (hgr.block w.heap.size (by rw [HZ0.out]; omega) (by simp)).trans HQ1.out
  have K2 : Hid (w3.heap[w.heap.size + 1]? = some (.cells #[.slice bh nb bc, .slice bv mb bd] 44 (0, 0))) := (hgr.block (w.heap.size + 1) (by rw [HZ0.out]; omega) (by simp)).trans HQ2.out
  have hz3 := hgr.size
  have HB3 : Hid (Below base w w3) := HB0.out.grown hgr (by rw [HZ0.out]; have := HBs.out; omega) (fun k hk => by have := HBs.out; obtain rfl := Option.some.inj hk; omega)
  have far : ∀ {e size n : Nat} {v : Value} {xs : List Value}, w0.ownsRow base e size v n xs → (∀ g, v.ownBlock = some g → g < w.heap.size) → w3.ownsRow base e size v n xs := fun h hl => h.kept hgr (Or.inr (fun e => by have := hl _ e; omega))
  have HT3 : Hid (RowT w3 base ah na ac) := by obtain ⟨l, h1, h2⟩ := HT0.out; exact ⟨l, h1, far h2 fun g hg => (HLt.out g hg).2⟩
  have HTb3 : Hid (w3.ownsRow base 4 1 (.slice bh nb bc) nb (cellsB lb)) := far HTb.out HBL.out
  have HVa3 : Hid (w3.ownsRow base 27 3 (.slice av ma ad) ma (cellsV va)) := owns_far (e' := 4) HVa.out (by decide) hgr (fun k hk => by obtain rfl := Option.some.inj hk; exact ⟨_, _, q3'⟩)
  have HVb3 : Hid (w3.ownsRow base 27 3 (.slice bv mb bd) mb (cellsV vb)) := owns_far (e' := 4) HVb.out (by decide) hgr (fun k hk => by obtain rfl := Option.some.inj hk; exact ⟨_, _, q3'⟩)
  have HW3 := Lib.hid hown3
  have HZ3 : Hid (w.heap.size + 2 < w3.heap.size) := by unfold Hid; rw [HZ0.out] at hz3; omega
  clear hgr hown3 hz3 far q3' HQ1 HQ2 HT0 HTb HVa HVb HB0 HLit HCe HNi hl1 hi hz0 hz1 hz2
  refine Lib.hid ?_
  go_wp2_with fail
  have HG0 : Hid (w3.grownBy w3 (Value.slice ah na ac).ownBlock) := World.grownBy.refl _ _
  -- what stands beside a write to the first row
  have HK : Hid (∀ wr, w3.grownBy wr (Value.slice ah na ac).ownBlock → wr.heap[w.heap.size]? = some (.cells #[.slice ah na ac, .slice av ma ad] 44 (0, 0)) ∧ wr.heap[w.heap.size + 1]? = some (.cells #[.slice bh nb bc, .slice bv mb bd] 44 (0, 0)) ∧ wr.ownsRow base 4 1 (.slice bh nb bc) nb (cellsB lb) ∧ wr.ownsRow (w.heap.size + 2) 4 1 (.slice wo nb wc) nb (cellsB lb) ∧ Below base w wr ∧ w.heap.size + 2 < wr.heap.size) := fun wr hg =>
    ⟨(hg.block _ (lt_of_heap K1.out) (fun e => by have := (HLt.out _ e.symm).2; omega)).trans K1.out, (hg.block _ (lt_of_heap K2.out) (fun e => by have := (HLt.out _ e.symm).2; omega)).trans K2.out,
     HTb3.out.kept hg (by
      cases e : (Value.slice bh nb bc).ownBlock with
      | none => exact Or.inl rfl
      | some g => exact Or.inr (fun e' => HH.out g e'.symm e)),
     HW3.out.kept hg (by
      cases e : (Value.slice wo nb wc).ownBlock with
      | none => exact Or.inl rfl
      | some g => exact Or.inr (fun e' => by have h1 := (HW3.out.lt g e).1; have h2 := (HLt.out g e'.symm).2; omega)),
     HB3.out.grown hg (by have := HBs.out; have := HZ3.out; omega) (fun k hk => (HLt.out k hk).1), Nat.lt_of_lt_of_le HZ3.out hg.size⟩
  obtain ⟨lt3, -, ht3⟩ := HT3.out
  have HT3' := Lib.hid ht3
  clear ht3
  go_loopw [6] (fun i wr => ∃ j : Nat, j ≤ na ∧ i = .int .i64 j ∧ Hid (RowT wr base ah na ac) ∧ Hid (w3.grownBy wr (Value.slice ah na ac).ownBlock)) (fun i _ => na - (intOf i).toNat)
  case atStart => exact ⟨0, by omega, rfl, HT3, HG0⟩
  case round =>
    clear HT3 HG0
    obtain ⟨j, hj, rfl, HT, HG⟩ := hrel
    obtain ⟨g1, g2, -, -, -, -⟩ := HK.out wr HG.out
    have y1 := fun k => Lib.cell_of_heap g1 k
    have y2 := fun k => Lib.cell_of_heap g2 k
    clear g1 g2
    by_cases hlt : j < na
    · as_aux_lemma =>
      obtain ⟨g, b, rfl, x1, x2, -, -, x3⟩ := HT.out.bit hlt
      have HS := Lib.hid (x3 (!b))
      have hjn : (j : Int) < (na : Int) := by omega
      clear x3 HT
      go_wp2_with fail
      go_region_with fail
      all_goals
        have R1 : Hid (RowT (wr.drew.setCell ⟨g, j, none⟩ (.bool (!b))) base (some ⟨g, 0, none⟩) na ac) := by
          obtain ⟨l, h1, h2⟩ := HS.out.1
          exact ⟨l, h1, owns_below h2 ⟨rfl, rfl, rfl, Nat.le_refl _, fun _ _ => rfl⟩⟩
        have R2 : Hid (w3.grownBy (wr.drew.setCell ⟨g, j, none⟩ (.bool (!b))) (Value.slice (some (⟨g, 0, none⟩ : Addr)) na ac).ownBlock) := Lib.grownBy_trans (Fr.drew HG.out) (Lib.grownBy_setCell wr.drew g j _)
        clear x1 x2 y1 y2 HS
        go_wp2_with fail
        go_roundw
        case rel => exact ⟨j + 1, by omega, by go_num, R1, R2⟩
        case measure => simp [intOf]; omega
    · obtain rfl : j = na := by omega
      as_aux_lemma =>
      obtain ⟨g1, g2, ho1, ho2, hb1, hz1⟩ := HK.out wr HG.out
      have G1 := Lib.hid g1
      have G2 := Lib.hid g2
      have HO1 := Lib.hid ho1
      have HO2 := Lib.hid ho2
      have HB1 := Lib.hid hb1
      have HZ1 := Lib.hid hz1
      have HVa1 : Hid (wr.ownsRow base 27 3 (.slice av ma ad) ma (cellsV va)) := by
        obtain ⟨l, h1, h2⟩ := HT.out
        exact HVa3.out.kept HG.out (by
          cases e : (Value.slice av ma ad).ownBlock with
          | none => exact Or.inl rfl
          | some g => exact Or.inr (fun e' => by
            obtain ⟨c1, f1, h3⟩ := owns_tag HVa3.out g e
            obtain ⟨c2, f2, h4⟩ := owns_tag HT3'.out g e'.symm
            rw [h3] at h4
            injection h4 with h4
            injection h4 with _ h4 _
            exact absurd h4 (by decide)))
      have HVb1 : Hid (wr.ownsRow base 27 3 (.slice bv mb bd) mb (cellsV vb)) := HVb3.out.kept HG.out (by
          cases e : (Value.slice bv mb bd).ownBlock with
          | none => exact Or.inl rfl
          | some g => exact Or.inr (fun e' => by
            obtain ⟨c1, f1, h3⟩ := owns_tag HVb3.out g e
            obtain ⟨c2, f2, h4⟩ := owns_tag HT3'.out g e'.symm
            rw [h3] at h4
            injection h4 with h4
            injection h4 with _ h4 _
            exact absurd h4 (by decide)))
      clear g1 g2 ho1 ho2 hb1 hz1 HT HG HK HVa3 HVb3 HTb3 HW3 K1 K2 HB3 HZ3 HT3'
      generalize wr = w5 at *
      go_wp2_with fail
      clear y1 y2
      go_loopw [7] (fun i wr => ∃ j : Nat, j ≤ nb ∧ i = .int .i64 j ∧ Hid (Below w5.heap.size w5 wr)) (fun i _ => nb - (intOf i).toNat)
      case atStart => exact ⟨0, by omega, rfl, Below.refl _ _⟩
      case round =>
        as_aux_lemma =>
        obtain ⟨j, hj, rfl, HG⟩ := hrel
        have h1 := (HG.out.block w.heap.size (lt_of_heap G1.out)).trans G1.out
        have h2 := (HG.out.block (w.heap.size + 1) (lt_of_heap G2.out)).trans G2.out
        have y1 := fun k => Lib.cell_of_heap h1 k
        have y2 := fun k => Lib.cell_of_heap h2 k
        by_cases hlt : j < nb
        · obtain ⟨p1, k1, u1, e1, -, -, -, -, z1⟩ := owns_at (owns_below HO1.out HG.out) (by omega)
          obtain ⟨p2, k2, u2, e2, -, -, -, -, z2⟩ := owns_at (owns_below HO2.out HG.out) (by omega)
          have x1 := (z1 j (by omega)).trans (cellsB_get lb j (by rw [HLb.out]; exact hlt))
          have x2 := (z2 j (by omega)).trans (cellsB_get lb j (by rw [HLb.out]; exact hlt))
          cases e1
          cases e2
          have hjn : (j : Int) < (nb : Int) := by omega
          clear z1 z2 h1 h2 HVa1 HVb1 HO1 HO2 G1 G2
          generalize lb.getD j false = bb at *
          cases bb with
          | true =>
            go_wp2_with fail
            go_quiet (fail)
            go_wp2
            have HG2 : Hid (Below w5.heap.size w5 (wr.drewN nq)) := HG.out.trans (RowKit_drewN (Below.refl _ _) nq)
            clear HG x1 x2 y1 y2
            go_roundw
            case rel => exact ⟨j + 1, by omega, by go_num, HG2⟩
            case measure => simp [intOf]; omega
          | false =>
            go_wp2_with fail
            go_quiet (fail)
            go_wp2
            have HG2 : Hid (Below w5.heap.size w5 (wr.drewN nq)) := HG.out.trans (RowKit_drewN (Below.refl _ _) nq)
            clear HG x1 x2 y1 y2
            go_roundw
            case rel => exact ⟨j + 1, by omega, by go_num, HG2⟩
            case measure => simp [intOf]; omega
        · obtain rfl : j = nb := by omega
          clear h1 h2
          obtain ⟨w6, hw6⟩ : ∃ w6, w6 = wr.alloc (.cells #[.slice av ma ad, .slice bv mb bd] 34) := ⟨_, rfl⟩
          have hb6 : Below wr.heap.size wr w6 := by rw [hw6]; exact below_own _
          have hR := two_rows (owns_below (owns_below HVa1.out HG.out) hb6) (owns_below (owns_below HVb1.out HG.out) hb6) HV.out
          have hL : LsAt w6 34 (some ⟨wr.heap.size, 0, none⟩) [((av, ma, ad) : Hd), (bv, mb, bd)] := fun _ => ⟨wr.heap.size, 0, #[.slice av ma ad, .slice bv mb bd], (0, 0), rfl, by rw [hw6]; exact heap_alloc_new wr _, fun k hk => by
            match k, hk with
            | 0, _ => rfl
            | 1, _ => rfl⟩
          have HE := Lib.hid (HB1.out.trans (HG.out.mono (Nat.le_trans HBs.out HB1.out.size)))
          have HE6 := Lib.hid (HE.out.trans (hb6.mono (Nat.le_trans HBs.out HE.out.size)))
          have KA := Lib.hid (apartValues_any base (some ⟨wr.heap.size, 0, none⟩) 2 2 [((av, ma, ad) : Hd), (bv, mb, bd)] _ w6 rfl (Nat.le_trans HBs.out HE6.out.size) hR hL (by simp) (fun h hm => by
            simp only [List.mem_cons, List.not_mem_nil, or_false] at hm
            rcases hm with rfl | rfl
            · exact hma
            · exact hmb))
          clear hR hL hb6 HVa1 HVb1 HO1 HO2 G1 G2
          go_wp2_with (go_at_call 34; go_must (rw [← hw6]; refine (KA.out).mono ?_; rintro e w7 ⟨rfl, h7⟩; have HE7 := Lib.hid (HE6.out.trans h7); clear h7))
          go_ret
          exact ⟨rfl, HE7.out⟩
end Go.Proofs.YtnnhgbncghpecaaGreat

namespace Go.Proofs.YtnnhgbncghpecaaGreat
open Go.RowKit
set_option maxRecDepth 100000

abbrev zeroF : Array Value := #[.int .i64 0, .int .i64 0, .slice none 0 0]
/-- What a condition was lent as, what a fact was; a box. -/
def LentCV (w8 w : World) (c : C10) (y : Value) : Prop := ∃ ga xg, y = aggC c (some ⟨ga, 0, none⟩) (c.args.length + 12) (some ⟨xg, 0, none⟩) (c.test.kids.length + 12) ∧ LentC w8.heap.size w c ga xg
def LentFV (w8 w : World) (f : F10) (y : Value) : Prop := ∃ g, y = aggF f (some ⟨g, 0, none⟩) (f.args.length + 12) ∧ LentR w8.heap.size w g f.args
def BoxX (w8 w : World) (T : TypeId) (cs : Array Value) (y : Value) : Prop := ∃ g, y = .pointer (some ⟨g, 0, none⟩) ∧ w8.heap.size ≤ g ∧ w.heap[g]? = some (.cells cs T (0, 0))
section
variable {w8 w w' : World} {c : C10} {f : F10} {T e : TypeId} {cs : Array Value} {y : Value}
theorem LentX.far {base : Nat} {t : X} {v : Value} (h : LentX base w t v) (k : Far e w w') (hne : 31 ≠ e) : LentX base w' t v := by
  induction h with
  | mk t q cur ps hk hl hb hg hc _ ih => exact .mk t q cur ps hk hl hb (k.1 _ _ _ _ hg hne) hc ih
theorem LentCV.old (h : LentCV w8 w c y) (b : Below w.heap.size w w') : LentCV w8 w' c y := by obtain ⟨ga, xg, h1, h2⟩ := h; exact ⟨ga, xg, h1, h2.old b⟩
theorem LentFV.old (h : LentFV w8 w f y) (b : Below w.heap.size w w') : LentFV w8 w' f y := by obtain ⟨g, h1, h2⟩ := h; exact ⟨g, h1, h2.old b⟩
theorem BoxX.old (h : BoxX w8 w T cs y) (b : Below w.heap.size w w') : BoxX w8 w' T cs y := by obtain ⟨g, h1, h2, h3⟩ := h; exact ⟨g, h1, h2, (b.block g (lt_of_heap h3)).trans h3⟩
theorem LentRA.far {base g : Nat} {zs : List A10} (h : LentRA base w g zs) (k : Far e w w') (hne : 64 ≠ e) : LentRA base w' g zs :=
  have h1 := k.2 _ _ _ _ _ _ hne h.own
  ⟨h1, (h1.lt g rfl).2⟩
theorem LentR.far {base g : Nat} {zs : List V3} (h : LentR base w g zs) (k : Far e w w') (hne : 27 ≠ e) : LentR base w' g zs :=
  have h1 := k.2 _ _ _ _ _ _ hne h.own
  ⟨h1, (h1.lt g rfl).2⟩
theorem LentCV.far (h : LentCV w8 w c y) (k : Far e w w') (h1 : 64 ≠ e) (h2 : 31 ≠ e) : LentCV w8 w' c y := by
  obtain ⟨ga, xg, h3, h4⟩ := h
  exact ⟨ga, xg, h3, h4.args.far k h1, h4.test.far k h2⟩
theorem LentFV.far (h : LentFV w8 w f y) (k : Far e w w') (h1 : 27 ≠ e) : LentFV w8 w' f y := by
  obtain ⟨g, h3, h4⟩ := h
  exact ⟨g, h3, h4.far k h1⟩
theorem BoxX.far (h : BoxX w8 w T cs y) (k : Far e w w') (hne : T ≠ e) : BoxX w8 w' T cs y := by obtain ⟨g, h1, h2, h3⟩ := h; exact ⟨g, h1, h2, k.1 _ _ _ _ h3 hne⟩
theorem three_set {g : Nat} (v0 v1 v2 : Value) (h : w.heap[g]? = some (.cells cs T (0, 0))) (hs : cs.size = 3) : (((w.setCell ⟨g, 0, none⟩ v0).setCell ⟨g, 1, none⟩ v1).setCell ⟨g, 2, none⟩ v2).heap[g]? = some (.cells #[v0, v1, v2] T (0, 0)) ∧ w.grownBy (((w.setCell ⟨g, 0, none⟩ v0).setCell ⟨g, 1, none⟩ v1).setCell ⟨g, 2, none⟩ v2) (some g) := by
  obtain ⟨l⟩ := cs
  match l, hs with
  | [c0, c1, c2], _ =>
    have e := Joins.block_setCell (Joins.block_setCell (Joins.block_setCell h v0 (i := 0)) v1 (i := 1)) v2 (i := 2)
    exact ⟨e, Lib.grownBy_trans (Lib.grownBy_trans (Lib.grownBy_setCell w g 0 v0) (Lib.grownBy_setCell _ g 1 v1)) (Lib.grownBy_setCell _ g 2 v2)⟩
theorem ten_set {g : Nat} (v0 v1 v2 v3 v4 v5 v6 v7 v8 v9 : Value) (h : w.heap[g]? = some (.cells cs T (0, 0))) (hs : cs.size = 10) : ((((((((((w.setCell ⟨g, 0, none⟩ (v0)).setCell ⟨g, 1, none⟩ (v1)).setCell ⟨g, 2, none⟩ (v2)).setCell ⟨g, 3, none⟩ (v3)).setCell ⟨g, 4, none⟩ (v4)).setCell ⟨g, 5, none⟩ (v5)).setCell ⟨g, 6, none⟩ (v6)).setCell ⟨g, 7, none⟩ (v7)).setCell ⟨g, 8, none⟩ (v8)).setCell ⟨g, 9, none⟩ (v9)).heap[g]? = some (.cells #[v0, v1, v2, v3, v4, v5, v6, v7, v8, v9] T (0, 0)) ∧ w.grownBy ((((((((((w.setCell ⟨g, 0, none⟩ (v0)).setCell ⟨g, 1, none⟩ (v1)).setCell ⟨g, 2, none⟩ (v2)).setCell ⟨g, 3, none⟩ (v3)).setCell ⟨g, 4, none⟩ (v4)).setCell ⟨g, 5, none⟩ (v5)).setCell ⟨g, 6, none⟩ (v6)).setCell ⟨g, 7, none⟩ (v7)).setCell ⟨g, 8, none⟩ (v8)).setCell ⟨g, 9, none⟩ (v9)) (some g) := by
  obtain ⟨l⟩ := cs
  match l, hs with
  | [c0, c1, c2, c3, c4, c5, c6, c7, c8, c9], _ =>
    have e0 := Joins.block_setCell h v0 (i := 0)
    simp only [List.setIfInBounds_toArray, List.set_cons_zero] at e0
    have g0 := Lib.grownBy_setCell w g 0 v0
    generalize w.setCell ⟨g, 0, none⟩ v0 = W0 at e0 g0 ⊢
    have e1 := Joins.block_setCell e0 v1 (i := 1)
    simp only [List.setIfInBounds_toArray, List.set_cons_succ, List.set_cons_zero] at e1
    have g1 := Lib.grownBy_trans g0 (Lib.grownBy_setCell W0 g 1 v1)
    generalize W0.setCell ⟨g, 1, none⟩ v1 = W1 at e1 g1 ⊢
    have e2 := Joins.block_setCell e1 v2 (i := 2)
    simp only [List.setIfInBounds_toArray, List.set_cons_succ, List.set_cons_zero] at e2
    have g2 := Lib.grownBy_trans g1 (Lib.grownBy_setCell W1 g 2 v2)
    generalize W1.setCell ⟨g, 2, none⟩ v2 = W2 at e2 g2 ⊢
    have e3 := Joins.block_setCell e2 v3 (i := 3)
    simp only [List.setIfInBounds_toArray, List.set_cons_succ, List.set_cons_zero] at e3
    have g3 := Lib.grownBy_trans g2 (Lib.grownBy_setCell W2 g 3 v3)
    generalize W2.setCell ⟨g, 3, none⟩ v3 = W3 at e3 g3 ⊢
    have e4 := Joins.block_setCell e3 v4 (i := 4)
    simp only [List.setIfInBounds_toArray, List.set_cons_succ, List.set_cons_zero] at e4
    have g4 := Lib.grownBy_trans g3 (Lib.grownBy_setCell W3 g 4 v4)
    generalize W3.setCell ⟨g, 4, none⟩ v4 = W4 at e4 g4 ⊢
    have e5 := Joins.block_setCell e4 v5 (i := 5)
    simp only [List.setIfInBounds_toArray, List.set_cons_succ, List.set_cons_zero] at e5
    have g5 := Lib.grownBy_trans g4 (Lib.grownBy_setCell W4 g 5 v5)
    generalize W4.setCell ⟨g, 5, none⟩ v5 = W5 at e5 g5 ⊢
    have e6 := Joins.block_setCell e5 v6 (i := 6)
    simp only [List.setIfInBounds_toArray, List.set_cons_succ, List.set_cons_zero] at e6
    have g6 := Lib.grownBy_trans g5 (Lib.grownBy_setCell W5 g 6 v6)
    generalize W5.setCell ⟨g, 6, none⟩ v6 = W6 at e6 g6 ⊢
    have e7 := Joins.block_setCell e6 v7 (i := 7)
    simp only [List.setIfInBounds_toArray, List.set_cons_succ, List.set_cons_zero] at e7
    have g7 := Lib.grownBy_trans g6 (Lib.grownBy_setCell W6 g 7 v7)
    generalize W6.setCell ⟨g, 7, none⟩ v7 = W7 at e7 g7 ⊢
    have e8 := Joins.block_setCell e7 v8 (i := 8)
    simp only [List.setIfInBounds_toArray, List.set_cons_succ, List.set_cons_zero] at e8
    have g8 := Lib.grownBy_trans g7 (Lib.grownBy_setCell W7 g 8 v8)
    generalize W7.setCell ⟨g, 8, none⟩ v8 = W8 at e8 g8 ⊢
    have e9 := Joins.block_setCell e8 v9 (i := 9)
    simp only [List.setIfInBounds_toArray, List.set_cons_succ, List.set_cons_zero] at e9
    have g9 := Lib.grownBy_trans g8 (Lib.grownBy_setCell W8 g 9 v9)
    exact ⟨e9, g9⟩
end
section
variable {ops : Array Oper} {Q : Exit → Act → World → Prop} {K : Act → World → Prop} {a : Act} {w : World} {i d : Nat} {ty : TypeId} {pos : String} {after : Array Edge}
theorem wpOp_loadCd {x : Operand} {b : Nat} {k0 k1 k3 k4 k5 k7 k8 : Int} {k6 : ByteArray} {s2 s9 : Option Addr} {n2 m2 n9 m9 : Nat} (hi : ops[i]? = some { dst := some d, op := .load 33 x, type := ty, pos := pos, after := after, guard := none })
    (hx : a.eval x = .pointer (some ⟨b, 0, none⟩)) (hc : w.heap[b]? = some (.cells #[.int .u8 k0, .int .i64 k1, .slice s2 n2 m2, .int .u8 k3, .int .u8 k4, .int .i64 k5, .string k6, .int .i64 k7, .int .u8 k8, .slice s9 n9 m9] 33 (0, 0))) (hK : K (a.put (some d) (.agg #[.int .u8 k0, .int .i64 k1, .slice s2 n2 m2, .int .u8 k3, .int .u8 k4, .int .i64 k5, .string k6, .int .i64 k7, .int .u8 k8, .slice s9 n9 m9])) w) : wpOp Tryz.prog ops Q i K a w := by
  refine wpOp_go hi rfl ?_
  unfold Oper.wp
  have KK := Lib.hid hK
  have hce := fun j => Lib.cell_of_heap hc j
  clear hK hi hc
  generalize a.eval = ρ at *
  go_simp
  exact KK.out
theorem wpOp_allocCd (hi : ops[i]? = some { dst := some d, op := .alloc 33, type := ty, pos := pos, after := after, guard := none })
    (hK : K (a.put (some d) (.pointer (some ⟨w.heap.size, 0, none⟩))) (w.alloc (.cells #[.int .u8 0, .int .i64 0, .slice none 0 0, .int .u8 0, .int .u8 0, .int .i64 0, .string ⟨#[]⟩, .int .i64 0, .int .u8 0, .slice none 0 0] 33))) : wpOp Tryz.prog ops Q i K a w := by
  refine wpOp_go hi rfl ?_
  unfold Oper.wp
  have KK := Lib.hid hK
  clear hK hi
  generalize a.eval = ρ at *
  go_simp
  exact KK.out
theorem wpOp_storeCd {x y : Operand} {g : Nat} {k0 k1 k3 k4 k5 k7 k8 : Int} {k6 : ByteArray} {s2 s9 : Option Addr} {n2 m2 n9 m9 : Nat} (hi : ops[i]? = some { dst := none, op := .store 33 x y, type := ty, pos := pos, after := after, guard := none })
    (hx : a.eval x = .pointer (some ⟨g, 0, none⟩)) (hy : a.eval y = .agg #[.int .u8 k0, .int .i64 k1, .slice s2 n2 m2, .int .u8 k3, .int .u8 k4, .int .i64 k5, .string k6, .int .i64 k7, .int .u8 k8, .slice s9 n9 m9]) (hg : w.heap[g]? = some (.cells #[.int .u8 0, .int .i64 0, .slice none 0 0, .int .u8 0, .int .u8 0, .int .i64 0, .string ⟨#[]⟩, .int .i64 0, .int .u8 0, .slice none 0 0] 33 (0, 0))) (hK : K a ((((((((((w.setCell ⟨g, 0, none⟩ (.int .u8 k0)).setCell ⟨g, 1, none⟩ (.int .i64 k1)).setCell ⟨g, 2, none⟩ (.slice s2 n2 m2)).setCell ⟨g, 3, none⟩ (.int .u8 k3)).setCell ⟨g, 4, none⟩ (.int .u8 k4)).setCell ⟨g, 5, none⟩ (.int .i64 k5)).setCell ⟨g, 6, none⟩ (.string k6)).setCell ⟨g, 7, none⟩ (.int .i64 k7)).setCell ⟨g, 8, none⟩ (.int .u8 k8)).setCell ⟨g, 9, none⟩ (.slice s9 n9 m9))) : wpOp Tryz.prog ops Q i K a w := by
  refine wpOp_go hi rfl ?_
  unfold Oper.wp
  have KK := Lib.hid hK
  have hf := fun j => Lib.frozen_of_heap hg j
  have hce := fun j => Lib.cell_of_heap hg j
  clear hK hi hg
  generalize a.eval = ρ at *
  go_simp
  exact KK.out
theorem wpOp_loadFd {x : Operand} {b : Nat} {k0 k1 : Int} {s2 : Option Addr} {n2 m2 : Nat} (hi : ops[i]? = some { dst := some d, op := .load 36 x, type := ty, pos := pos, after := after, guard := none })
    (hx : a.eval x = .pointer (some ⟨b, 0, none⟩)) (hc : w.heap[b]? = some (.cells #[.int .i64 k0, .int .i64 k1, .slice s2 n2 m2] 36 (0, 0))) (hK : K (a.put (some d) (.agg #[.int .i64 k0, .int .i64 k1, .slice s2 n2 m2])) w) : wpOp Tryz.prog ops Q i K a w := by
  refine wpOp_go hi rfl ?_
  unfold Oper.wp
  have KK := Lib.hid hK
  have hce := fun j => Lib.cell_of_heap hc j
  clear hK hi hc
  generalize a.eval = ρ at *
  go_simp
  exact KK.out
theorem wpOp_allocFd (hi : ops[i]? = some { dst := some d, op := .alloc 36, type := ty, pos := pos, after := after, guard := none })
    (hK : K (a.put (some d) (.pointer (some ⟨w.heap.size, 0, none⟩))) (w.alloc (.cells #[.int .i64 0, .int .i64 0, .slice none 0 0] 36))) : wpOp Tryz.prog ops Q i K a w := by
  refine wpOp_go hi rfl ?_
  unfold Oper.wp
  have KK := Lib.hid hK
  clear hK hi
  generalize a.eval = ρ at *
  go_simp
  exact KK.out
theorem wpOp_storeFd {x y : Operand} {g : Nat} {k0 k1 : Int} {s2 : Option Addr} {n2 m2 : Nat} (hi : ops[i]? = some { dst := none, op := .store 36 x y, type := ty, pos := pos, after := after, guard := none })
    (hx : a.eval x = .pointer (some ⟨g, 0, none⟩)) (hy : a.eval y = .agg #[.int .i64 k0, .int .i64 k1, .slice s2 n2 m2]) (hg : w.heap[g]? = some (.cells #[.int .i64 0, .int .i64 0, .slice none 0 0] 36 (0, 0))) (hK : K a (((w.setCell ⟨g, 0, none⟩ (.int .i64 k0)).setCell ⟨g, 1, none⟩ (.int .i64 k1)).setCell ⟨g, 2, none⟩ (.slice s2 n2 m2))) : wpOp Tryz.prog ops Q i K a w := by
  refine wpOp_go hi rfl ?_
  unfold Oper.wp
  have KK := Lib.hid hK
  have hf := fun j => Lib.frozen_of_heap hg j
  have hce := fun j => Lib.cell_of_heap hg j
  clear hK hi hg
  generalize a.eval = ρ at *
  go_simp
  exact KK.out
end
/-- On the way through the region. -/
structure Ld (w8 : World) (c : C10) (ao : Option Addr) (ac : Nat) (xo : Option Addr) (xc : Nat) (f : F10) (fo : Option Addr) (fc : Nat) (l : Nat → Bool) (x : Nat → Value) (w : World) : Prop where
  bel : Below w8.heap.size w8 w
  f0 : l 0 = true → x 46 = aggC c ao ac xo xc
  f1 : l 1 = true → LentCV w8 w c (x 47)
  f2 : l 2 = true → x 48 = aggF f fo fc
  f3 : l 3 = true → LentFV w8 w f (x 49)
  f4 : l 4 = true → l 6 = false → BoxX w8 w 33 zeroC (x 9)
  f5 : l 5 = true → l 7 = false → BoxX w8 w 36 zeroF (x 10)
  f6 : l 6 = true → (∃ cs, x 47 = .agg cs ∧ BoxX w8 w 33 cs (x 9)) ∧ l 1 = true ∧ l 4 = true
  f7 : l 7 = true → (∃ cs, x 49 = .agg cs ∧ BoxX w8 w 36 cs (x 10)) ∧ l 3 = true ∧ l 5 = true
def slotsL : List Nat := [46, 47, 48, 49, 9, 10]
def Lf (a0 : Act) (w8 : World) (c : C10) (ao : Option Addr) (ac : Nat) (xo : Option Addr) (xc : Nat) (f : F10) (fo : Option Addr) (fc : Nat) (l : Nat → Bool) (a : Act) (w : World) : Prop := ∃ x, a = fillF a0 x slotsL ∧ Ld w8 c ao ac xo xc f fo fc l x w
structure Lo (a0 : Act) (w8 : World) (c : C10) (ao : Option Addr) (ac : Nat) (xo : Option Addr) (xc : Nat) (f : F10) (fo : Option Addr) (fc : Nat) (cb fb : Nat) : Prop where
  size : a0.tmps.size = 135
  s4 : a0.eval (.tmp 4) = .pointer (some ⟨cb, 0, none⟩)
  s5 : a0.eval (.tmp 5) = .pointer (some ⟨fb, 0, none⟩)
  args : Sl10 w8.heap.size w8 c.args.length ao ac (cellsA c.args)
  test : Lies w8.heap.size w8 c.test (.slice xo c.test.kids.length xc)
  fits : Fits c.test
  vals : Sl10 w8.heap.size w8 f.args.length fo fc (cellsV f.args)
  few1 : c.args.length ≤ 2000
  few2 : f.args.length ≤ 2000
  cbox : w8.heap[cb]? = some (.cells (cellsC c ao ac xo xc) 33 (0, 0))
  fbox : w8.heap[fb]? = some (.cells #[.int .i64 f.id, .int .i64 f.type, .slice fo f.args.length fc] 36 (0, 0))
section
variable {ops : Array Oper} {Q : Exit → Act → World → Prop} {a0 a : Act} {w w8 : World} {ty : TypeId} {pos : String} {after : Array Edge} {c : C10} {ao : Option Addr} {ac : Nat} {xo : Option Addr} {xc : Nat} {f : F10} {fo : Option Addr} {fc cb fb : Nat} {l : Nat → Bool} {x : Nat → Value} {ts : Array TypeId}
theorem Lo.get (o : Lo a0 w8 c ao ac xo xc f fo fc cb fb) {t : Nat} (h : t ∈ slotsL) (h2 : t < 135) : (fillF a0 x slotsL).eval (.tmp t) = x t := fillF_mem a0 x t slotsL h (by rw [o.size]; exact h2)
theorem Lo.put {l' : Nat → Bool} {w' : World} {d : Nat} {u : Value} (hd : d ∈ slotsL) (h : Ld w8 c ao ac xo xc f fo fc l' (updF x d u) w') : Lf a0 w8 c ao ac xo xc f fo fc l' ((fillF a0 x slotsL).put (some d) u) w' := ⟨_, fillF_put a0 x d u slotsL hd, h⟩
theorem Ld.op0 (o : Lo a0 w8 c ao ac xo xc f fo fc cb fb) (h : Ld w8 c ao ac xo xc f fo fc l x w) (hi : ops[0]? = some { dst := some 46, op := .load 33 (.tmp 4), type := ty, pos := pos, after := after, guard := none }) (_neg : l 0 = false) : wpOp Tryz.prog ops Q 0 (Lf a0 w8 c ao ac xo xc f fo fc (setL l 0)) (fillF a0 x slotsL) w := by
  have hg := (h.bel.block cb (lt_of_heap o.cbox)).trans o.cbox
  refine wpOp_loadCd hi ((fillF_ne a0 x 4 slotsL (by decide)).trans o.s4) hg ?_
  have hb := Below.refl w.heap.size w
  exact Lo.put (by decide) ⟨h.bel, (fun _ => rfl), (fun c0 => (h.f1 c0).old hb), (fun c0 => h.f2 c0), (fun c0 => (h.f3 c0).old hb), (fun c0 c1 => (h.f4 c0 c1).old hb), (fun c0 c1 => (h.f5 c0 c1).old hb), (fun c0 => by obtain ⟨⟨cs, u1, u2⟩, u3⟩ := h.f6 c0; exact ⟨⟨cs, u1, u2.old hb⟩, u3⟩), (fun c0 => by obtain ⟨⟨cs, u1, u2⟩, u3⟩ := h.f7 c0; exact ⟨⟨cs, u1, u2.old hb⟩, u3⟩)⟩
theorem Ld.op2 (o : Lo a0 w8 c ao ac xo xc f fo fc cb fb) (h : Ld w8 c ao ac xo xc f fo fc l x w) (hi : ops[2]? = some { dst := some 48, op := .load 36 (.tmp 5), type := ty, pos := pos, after := after, guard := none }) (_neg : l 2 = false) : wpOp Tryz.prog ops Q 2 (Lf a0 w8 c ao ac xo xc f fo fc (setL l 2)) (fillF a0 x slotsL) w := by
  have hg := (h.bel.block fb (lt_of_heap o.fbox)).trans o.fbox
  refine wpOp_loadFd hi ((fillF_ne a0 x 5 slotsL (by decide)).trans o.s5) hg ?_
  have hb := Below.refl w.heap.size w
  exact Lo.put (by decide) ⟨h.bel, (fun c0 => h.f0 c0), (fun c0 => (h.f1 c0).old hb), (fun _ => rfl), (fun c0 => (h.f3 c0).old hb), (fun c0 c1 => (h.f4 c0 c1).old hb), (fun c0 c1 => (h.f5 c0 c1).old hb), (fun c0 => by obtain ⟨⟨cs, u1, u2⟩, u3⟩ := h.f6 c0; exact ⟨⟨cs, u1, u2.old hb⟩, u3⟩), (fun c0 => by obtain ⟨⟨cs, u1, u2⟩, u3⟩ := h.f7 c0; exact ⟨⟨cs, u1, u2.old hb⟩, u3⟩)⟩
theorem Ld.op1 (o : Lo a0 w8 c ao ac xo xc f fo fc cb fb) (h : Ld w8 c ao ac xo xc f fo fc l x w) (hi : ops[1]? = some { dst := some 47, op := .call { callee := .value (.func 7), args := #[.tmp 46], argTypes := ts }, type := ty, pos := pos, after := after, guard := none }) (neg : l 1 = false) (l0 : l 0 = true) : wpOp Tryz.prog ops Q 1 (Lf a0 w8 c ao ac xo xc f fo fc (setL l 1)) (fillF a0 x slotsL) w := by
  refine wpOp_call (vs := #[aggC c ao ac xo xc]) hi (enters_of Tryz.func7 (by kernel_rfl) rfl) (by simp [o.get (x := x) (t := 46) (by decide) (by decide), h.f0 l0]) ?_
  refine (lentCond_any c ao ac xo xc w (o.args.up h.bel h.bel.size) (o.test.up h.bel h.bel.size) o.fits o.few1).mono ?_
  rintro e w' ⟨ga, xg, rfl, hL, hb⟩
  refine ⟨_, rfl, ?_⟩
  exact Lo.put (by decide) ⟨h.bel.trans (hb.mono h.bel.size), (fun c0 => h.f0 c0), (fun _ => ⟨ga, xg, rfl, hL.mono h.bel.size⟩), (fun c0 => h.f2 c0), (fun c0 => (h.f3 c0).old hb), (fun c0 c1 => (h.f4 c0 c1).old hb), (fun c0 c1 => (h.f5 c0 c1).old hb), (fun c0 => no_bool neg (h.f6 c0).2.1), (fun c0 => by obtain ⟨⟨cs, u1, u2⟩, u3⟩ := h.f7 c0; exact ⟨⟨cs, u1, u2.old hb⟩, u3⟩)⟩
theorem Ld.op3 (o : Lo a0 w8 c ao ac xo xc f fo fc cb fb) (h : Ld w8 c ao ac xo xc f fo fc l x w) (hi : ops[3]? = some { dst := some 49, op := .call { callee := .value (.func 8), args := #[.tmp 48], argTypes := ts }, type := ty, pos := pos, after := after, guard := none }) (neg : l 3 = false) (l2 : l 2 = true) : wpOp Tryz.prog ops Q 3 (Lf a0 w8 c ao ac xo xc f fo fc (setL l 3)) (fillF a0 x slotsL) w := by
  refine wpOp_call (vs := #[aggF f fo fc]) hi (enters_of Tryz.func8 (by kernel_rfl) rfl) (by simp [o.get (x := x) (t := 48) (by decide) (by decide), h.f2 l2]) ?_
  refine (lentFactR_any f fo fc w (o.vals.up h.bel h.bel.size) o.few2).mono ?_
  rintro e w' ⟨g, rfl, _, hL, hb⟩
  refine ⟨_, rfl, ?_⟩
  exact Lo.put (by decide) ⟨h.bel.trans (hb.mono h.bel.size), (fun c0 => h.f0 c0), (fun c0 => (h.f1 c0).old hb), (fun c0 => h.f2 c0), (fun _ => ⟨g, rfl, hL.mono h.bel.size⟩), (fun c0 c1 => (h.f4 c0 c1).old hb), (fun c0 c1 => (h.f5 c0 c1).old hb), (fun c0 => by obtain ⟨⟨cs, u1, u2⟩, u3⟩ := h.f6 c0; exact ⟨⟨cs, u1, u2.old hb⟩, u3⟩), (fun c0 => no_bool neg (h.f7 c0).2.1)⟩
theorem Ld.op4 (_o : Lo a0 w8 c ao ac xo xc f fo fc cb fb) (h : Ld w8 c ao ac xo xc f fo fc l x w) (hi : ops[4]? = some { dst := some 9, op := .alloc 33, type := ty, pos := pos, after := after, guard := none }) (neg : l 4 = false) : wpOp Tryz.prog ops Q 4 (Lf a0 w8 c ao ac xo xc f fo fc (setL l 4)) (fillF a0 x slotsL) w := by
  refine wpOp_allocCd hi ?_
  have hb := below_own (w := w) (.cells zeroC 33)
  exact Lo.put (by decide) ⟨h.bel.trans (hb.mono h.bel.size), (fun c0 => h.f0 c0), (fun c0 => (h.f1 c0).old hb), (fun c0 => h.f2 c0), (fun c0 => (h.f3 c0).old hb), (fun _ _ => ⟨w.heap.size, rfl, h.bel.size, heap_alloc_new w _⟩), (fun c0 c1 => (h.f5 c0 c1).old hb), (fun c0 => no_bool neg (h.f6 c0).2.2), (fun c0 => by obtain ⟨⟨cs, u1, u2⟩, u3⟩ := h.f7 c0; exact ⟨⟨cs, u1, u2.old hb⟩, u3⟩)⟩
theorem Ld.op5 (_o : Lo a0 w8 c ao ac xo xc f fo fc cb fb) (h : Ld w8 c ao ac xo xc f fo fc l x w) (hi : ops[5]? = some { dst := some 10, op := .alloc 36, type := ty, pos := pos, after := after, guard := none }) (neg : l 5 = false) : wpOp Tryz.prog ops Q 5 (Lf a0 w8 c ao ac xo xc f fo fc (setL l 5)) (fillF a0 x slotsL) w := by
  refine wpOp_allocFd hi ?_
  have hb := below_own (w := w) (.cells zeroF 36)
  exact Lo.put (by decide) ⟨h.bel.trans (hb.mono h.bel.size), (fun c0 => h.f0 c0), (fun c0 => (h.f1 c0).old hb), (fun c0 => h.f2 c0), (fun c0 => (h.f3 c0).old hb), (fun c0 c1 => (h.f4 c0 c1).old hb), (fun _ _ => ⟨w.heap.size, rfl, h.bel.size, heap_alloc_new w _⟩), (fun c0 => by obtain ⟨⟨cs, u1, u2⟩, u3⟩ := h.f6 c0; exact ⟨⟨cs, u1, u2.old hb⟩, u3⟩), (fun c0 => no_bool neg (h.f7 c0).2.2)⟩
theorem Ld.op6 (o : Lo a0 w8 c ao ac xo xc f fo fc cb fb) (h : Ld w8 c ao ac xo xc f fo fc l x w) (hi : ops[6]? = some { dst := none, op := .store 33 (.tmp 9) (.tmp 47), type := ty, pos := pos, after := after, guard := none }) (neg : l 6 = false) (la : l 4 = true) (lb : l 1 = true) : wpOp Tryz.prog ops Q 6 (Lf a0 w8 c ao ac xo xc f fo fc (setL l 6)) (fillF a0 x slotsL) w := by
  obtain ⟨g, eg, hB, hg⟩ := h.f4 la neg
  obtain ⟨ga, xg, e1, -⟩ := h.f1 lb
  refine wpOp_storeCd hi ((o.get (by decide) (by decide)).trans eg) ((o.get (by decide) (by decide)).trans e1) hg ?_
  obtain ⟨q1, q2⟩ := ten_set (.int .u8 c.kind) (.int .i64 c.type) (.slice (some ⟨ga, 0, none⟩) c.args.length (c.args.length + 12)) (.int .u8 c.test.kind) (.int .u8 c.test.vk) (.int .i64 c.test.vn) (.string c.test.vs) (.int .i64 c.test.var) (.int .u8 c.test.op) (.slice (some ⟨xg, 0, none⟩) c.test.kids.length (c.test.kids.length + 12)) hg rfl
  generalize hw' : (((((((((w.setCell ⟨g, 0, none⟩ (.int .u8 c.kind)).setCell ⟨g, 1, none⟩ (.int .i64 c.type)).setCell ⟨g, 2, none⟩ (.slice (some ⟨ga, 0, none⟩) c.args.length (c.args.length + 12))).setCell ⟨g, 3, none⟩ (.int .u8 c.test.kind)).setCell ⟨g, 4, none⟩ (.int .u8 c.test.vk)).setCell ⟨g, 5, none⟩ (.int .i64 c.test.vn)).setCell ⟨g, 6, none⟩ (.string c.test.vs)).setCell ⟨g, 7, none⟩ (.int .i64 c.test.var)).setCell ⟨g, 8, none⟩ (.int .u8 c.test.op)).setCell ⟨g, 9, none⟩ (.slice (some ⟨xg, 0, none⟩) c.test.kids.length (c.test.kids.length + 12)) = w' at q1 q2
  clear hw'
  have hf := far_block hg q2
  have hbel : Below w8.heap.size w8 w' := h.bel.grown q2 h.bel.size (fun k hk => by obtain rfl := Option.some.inj hk; exact hB)
  exact ⟨x, rfl, hbel, (fun c0 => h.f0 c0), (fun c0 => (h.f1 c0).far hf (by decide) (by decide)), (fun c0 => h.f2 c0), (fun c0 => (h.f3 c0).far hf (by decide)), (fun c0 c1 => no_bool c1 rfl), (fun c0 c1 => (h.f5 c0 c1).far hf (by decide)), (fun _ => ⟨⟨_, e1, ⟨g, eg, hB, q1⟩⟩, lb, la⟩), (fun c0 => by obtain ⟨⟨cs, u1, u2⟩, u3⟩ := h.f7 c0; exact ⟨⟨cs, u1, u2.far hf (by decide)⟩, u3⟩)⟩
theorem Ld.op7 (o : Lo a0 w8 c ao ac xo xc f fo fc cb fb) (h : Ld w8 c ao ac xo xc f fo fc l x w) (hi : ops[7]? = some { dst := none, op := .store 36 (.tmp 10) (.tmp 49), type := ty, pos := pos, after := after, guard := none }) (neg : l 7 = false) (la : l 5 = true) (lb : l 3 = true) : wpOp Tryz.prog ops Q 7 (Lf a0 w8 c ao ac xo xc f fo fc (setL l 7)) (fillF a0 x slotsL) w := by
  obtain ⟨g, eg, hB, hg⟩ := h.f5 la neg
  obtain ⟨g1, e1, -⟩ := h.f3 lb
  refine wpOp_storeFd hi ((o.get (by decide) (by decide)).trans eg) ((o.get (by decide) (by decide)).trans e1) hg ?_
  obtain ⟨q1, q2⟩ := three_set (.int .i64 f.id) (.int .i64 f.type) (.slice (some ⟨g1, 0, none⟩) f.args.length (f.args.length + 12)) hg rfl
  generalize hw' : ((w.setCell ⟨g, 0, none⟩ (.int .i64 f.id)).setCell ⟨g, 1, none⟩ (.int .i64 f.type)).setCell ⟨g, 2, none⟩ (.slice (some ⟨g1, 0, none⟩) f.args.length (f.args.length + 12)) = w' at q1 q2
  clear hw'
  have hf := far_block hg q2
  have hbel : Below w8.heap.size w8 w' := h.bel.grown q2 h.bel.size (fun k hk => by obtain rfl := Option.some.inj hk; exact hB)
  exact ⟨x, rfl, hbel, (fun c0 => h.f0 c0), (fun c0 => (h.f1 c0).far hf (by decide) (by decide)), (fun c0 => h.f2 c0), (fun c0 => (h.f3 c0).far hf (by decide)), (fun c0 c1 => (h.f4 c0 c1).far hf (by decide)), (fun c0 c1 => no_bool c1 rfl), (fun c0 => by obtain ⟨⟨cs, u1, u2⟩, u3⟩ := h.f6 c0; exact ⟨⟨cs, u1, u2.far hf (by decide)⟩, u3⟩), (fun _ => ⟨⟨_, e1, ⟨g, eg, hB, q1⟩⟩, lb, la⟩)⟩
theorem Ld.start (w8 : World) (c : C10) (ao : Option Addr) (ac : Nat) (xo : Option Addr) (xc : Nat) (f : F10) (fo : Option Addr) (fc : Nat) (x : Nat → Value) {l : Nat → Bool} (hl : ∀ j, l j = false) : Ld w8 c ao ac xo xc f fo fc l x w8.drew :=
  ⟨below_drew (Below.refl _ _), (fun c0 => no_bool (hl _) c0), (fun c0 => no_bool (hl _) c0), (fun c0 => no_bool (hl _) c0), (fun c0 => no_bool (hl _) c0), (fun c0 _ => no_bool (hl _) c0), (fun c0 _ => no_bool (hl _) c0), (fun c0 => no_bool (hl _) c0), (fun c0 => no_bool (hl _) c0)⟩
end
end Go.Proofs.YtnnhgbncghpecaaGreat
