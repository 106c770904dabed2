/- What is copied and sorted: slices.Clone of numbers, slices.SortFunc of numbers, the greatest first; a match as the program makes it. -/
import Derived.Test.YtlkmabnjmklkpaaDoorCompare14
import Derived.Test.YtlkmabnjmklkpaaDoorBel14
import Derived.Sort.OwnSortedInts
namespace Go.Proofs.YtlkmabnjmklkpaaDoor
open Go.RowKit Go.Sort

set_option maxRecDepth 100000 in
set_option maxHeartbeats 1000000 in
theorem cloneI_any (l : List Int) (ao : Option Addr) (c : Nat) (w : World) (h : SlG w.heap.size w ao (icells l)) (hn : ao = none → c = 0) (hcl : l.length ≤ c) (hl : l.length ≤ 1000000) :
    Calls Tryd.prog 30 #[.slice ao l.length c] w fun e w' => ∃ v, e = .returned v ∧ w'.ownsRow w.heap.size 3 1 v l.length (icells l) ∧ Below w.heap.size w w' := by
  obtain ⟨i0, hi, hz0, hz1, hz2⟩ := info_parts infoI
  cases ao with
  | none =>
    obtain rfl := hn rfl
    obtain rfl : l = [] := List.eq_nil_of_length_eq_zero (by omega)
    have hnil := fun W => (Lib.run_eql_slice_nil_nil (P := Tryd.prog) W 0 0 Tryd.underlying22)
    clear hn hcl hl h
    go_enter Tryd.func30, Tryd.ntmps30
    go_wp2
    go_ret
    exact ⟨_, rfl, World.ownsRow_nil _ _ _ _, Below.refl _ _⟩
  | some ad =>
    have hnil := fun W => (Lib.run_eql_slice_some_nil (P := Tryd.prog) W ad l.length c Tryd.underlying22)
    have hlen : (icells l).length = l.length * 1 := by rw [icells_length]; omega
    have HC : Hid (∀ W, Below w.heap.size w W → ∀ j u, (icells l)[j]? = some u → W.cell? (ad.add j) = some u) := fun W hW j u hu => by
      obtain ⟨sb, off, e, lt, hc⟩ := (h.below hW) (fun hne => by rw [hne] at hu; cases hu)
      obtain rfl := Option.some.inj e
      rw [Addr.add_lit]
      exact hc j u hu
    clear hn h
    generalize l.length = n at *
    go_enter Tryd.func30, Tryd.ntmps30
    go_wp2_with (at_builtin; refine wpList_append_own _ rfl _ _ 22 rfl w.heap.size 3 i0 (.int .i64 0) 1 8 Tryd.underlying22 hi hz0 hz1 hz2 rfl (by decide) _ 0 [] rfl (World.ownsRow_made w #[] 0 (Nat.le_refl _) (Nat.zero_le _) rfl) ad n c (icells l) rfl hlen (HC.out _ (below_own _)) (icells_one _) (by unfold maxLen; omega) (by omega) (by simp) ?_; intro v' w3 hown' hgrow' hnil')
    go_ret
    exact ⟨v', rfl, by simpa using hown', (below_own _).grown hgrow' (by simp) (fun k hk => Nat.le_of_eq (Option.some.inj hk))⟩

/-- The closure's comparison: the greatest first. -/
def cfD14 (x y : Int) : Int := Lib.compareInt y x
theorem ltD14 (x y : Int) : ltOf cfD14 x y = decide (y < x) := by
  unfold ltOf cfD14
  by_cases h : y < x
  · rw [decide_eq_true h, decide_eq_true ((cmpI_neg y x).2 h)]
  · rw [decide_eq_false h, decide_eq_false (fun e => h ((cmpI_neg y x).1 e))]
theorem swoD14 : SWO (ltOf cfD14) where
  irrefl x := by rw [ltD14]; simp
  trans x y z h1 h2 := by rw [ltD14] at *; simp at *; omega
  ntrans x y z h1 h2 := by rw [ltD14] at *; simp at *; omega
theorem totD14 (x y : Int) (h1 : ltOf cfD14 x y = false) (h2 : ltOf cfD14 y x = false) : x = y := by rw [ltD14] at *; simp at *; omega
theorem merge_falls (l : List Int) : l.mergeSort (fun x y => !(ltOf cfD14) y x) = falling14 l := by
  refine falls_is _ l ?_ (List.mergeSort_perm l _)
  have h := List.pairwise_mergeSort (le := fun x y => !(ltOf cfD14) y x) (fun a b c h1 h2 => by simp only [ltD14] at *; simp at *; omega) (fun a b => by simp only [ltD14]; simp; omega) l
  refine List.Pairwise.imp (fun {a b} (h : _) => ?_) h
  rw [ltD14] at h
  simpa using h

set_option maxRecDepth 100000 in
set_option maxHeartbeats 1000000 in
theorem closD14 (x y : Int) (W : World) : Calls Tryd.prog 36 #[.int .i64 x, .int .i64 y] W fun e w' => e = .returned (.int .i64 (cfD14 x y)) ∧ ∃ q os, w' = grow (W.drewN q) os := by
  have KC := Lib.hid (fun W => Tryd.cmp_Compare_int y x W)
  unfold cfD14
  generalize Lib.compareInt y x = r at KC ⊢
  go_enter Tryd.func36, Tryd.ntmps36
  go_wp2_with (go_at_call 37; refine (KC.out _).mono ?_; rintro e w' ⟨rfl, rfl⟩)
  go_ret
  exact ⟨rfl, Gr.refl _⟩

/-- slices.SortFunc of a row of one's own, by the closure: the greatest first. -/
theorem sortI_any (l : List Int) (base : Nat) (ao : Option Addr) (c : Nat) (w : World) (hl : l.length ≤ 1000000) (h : w.ownsRow base 3 1 (.slice ao l.length c) l.length (icells l)) :
    Calls Tryd.prog 35 #[.slice ao l.length c, .func (.func 36) #[] #[]] w fun e w' => e = .returned (.tuple #[]) ∧ w'.ownsRow base 3 1 (.slice ao l.length c) l.length (icells (falling14 l)) ∧ w.grownBy w' (Value.slice ao l.length c).ownBlock := by
  rcases h.2 with ⟨h1, h2⟩ | ⟨g, cap, cur, h1, hb, hg, hn, hcap, hcs, htk⟩
  · obtain rfl : l = [] := List.eq_nil_of_length_eq_zero h2
    have hS := Tryd.slices_SortFunc_none (α := Int) ao c (.func (.func 36) #[] #[]) w
    refine hS.mono ?_
    rintro e w' ⟨rfl, rfl⟩
    exact ⟨rfl, h, World.grownBy.refl _ _⟩
  · simp only [Value.slice.injEq] at h1
    obtain ⟨rfl, _, rfl⟩ := h1
    have eg : ∀ args w, (callFunc 36 args).run Tryd.prog w = .ok (.enter 36 args) w := enters_of Tryd.func36 (by kernel_rfl) rfl
    have hH : Holds (Value.int .i64) w g 0 l.toArray := holds_of_blockI hg (by rw [Nat.mul_one] at htk; exact htk)
    have hS := Tryd.slices_SortFunc_total (Value.int .i64) (fun _ => rfl) cfD14 swoD14 36 #[] g 0 c l.toArray w eg (fun m os dk _ x y => closD14 x y _) hH (lt_of_heap hg) (by simp; omega) totD14
    rw [List.size_toArray] at hS
    refine hS.mono ?_
    rintro e w' ⟨rfl, n, os, rfl⟩
    have he : l.toArray.toList.mergeSort (fun x y => !(ltOf cfD14) y x) = falling14 l := merge_falls l
    rw [he]
    have ho := ownsRow_sortedI (n := n) (os := os) (ts := falling14 l) (ss := l) (falling_len l) hb hg hn hcap hcs
    exact ⟨rfl, ho, grownBy_sortedI _⟩

theorem owns_cap {base : Nat} {w : World} {e size n c : Nat} {ao : Option Addr} {xs : List Value} (h : w.ownsRow base e size (.slice ao n c) n xs) : n ≤ c ∧ (ao = none → c = 0) := by
  rcases h.2 with ⟨h1, h2⟩ | ⟨g, cap, cur, h1, _, _, hn, _⟩
  · simp only [Value.slice.injEq] at h1
    exact ⟨by omega, fun _ => h1.2.2⟩
  · simp only [Value.slice.injEq] at h1
    obtain ⟨rfl, _, rfl⟩ := h1
    exact ⟨hn, fun e => by cases e⟩

/-- A match of the program's own: its Ids, and they sorted, each in a row of its own. -/
def MatP (t : TK) (w : World) (e : Ending) (w' : World) : Prop := ∃ v u, e = .returned (.agg #[.int .i64 t.1, v, u]) ∧ w'.ownsRow w.heap.size 3 1 v t.2.length (icells t.2) ∧ w'.ownsRow w.heap.size 3 1 u t.2.length (icells (falling14 t.2)) ∧ Below w.heap.size w w'
set_option maxRecDepth 100000 in
set_option maxHeartbeats 4000000 in
theorem matchOf_any (t : TK) (ao : Option Addr) (c : Nat) (w : World) (h : SlG w.heap.size w ao (icells t.2)) (hn : ao = none → c = 0) (hcl : t.2.length ≤ c) (hl : t.2.length ≤ 1000000) :
    Calls Tryd.prog 24 #[aggK t.1 ao t.2.length c] w (MatP t w) := by
  obtain ⟨k, l⟩ := t
  simp only at h hcl hl ⊢
  have HB0 := Lib.hid (below_two w (.cells #[.int .i64 k, .slice ao l.length c] 24) (.cells #[.int .i64 0, .slice none 0 0, .slice none 0 0] 59))
  obtain ⟨q1, q2⟩ := heap_two (w := w) (.cells #[.int .i64 k, .slice ao l.length c] 24) (.cells #[.int .i64 0, .slice none 0 0, .slice none 0 0] 59)
  have HQ1 := Lib.hid q1
  have HQ2 := Lib.hid q2
  have hsz2 : ((w.alloc (.cells #[.int .i64 k, .slice ao l.length c] 24)).alloc (.cells #[.int .i64 0, .slice none 0 0, .slice none 0 0] 59)).heap.size = w.heap.size + 1 + 1 := by simp
  have K1 := Lib.hid (cloneI_any l ao c _ (h.up HB0.out HB0.out.size) hn hcl hl)
  clear h q1 q2
  go_enter Tryd.func24, Tryd.ntmps24
  go_wp2_with (go_at_call 30; refine K1.out.mono ?_; rintro e w1 ⟨v, rfl, ho, hb⟩; obtain ⟨av, cv, rfl⟩ := owns_slice ho; have HO1 := Lib.hid ho; have HB1 := Lib.hid hb; have HP1 := Lib.hid ((hb.block _ (lt_of_heap HQ1.out)).trans HQ1.out); have HP2 := Lib.hid ((hb.block _ (lt_of_heap HQ2.out)).trans HQ2.out); have c0 : w1.cell? ⟨w.heap.size, 0, none⟩ = some (.int .i64 k) := Lib.cell_of_heap HP1.out 0; have c1 : w1.cell? ⟨w.heap.size, 1, none⟩ = some (.slice ao l.length c) := Lib.cell_of_heap HP1.out 1; have f1 : w1.frozen? ⟨w.heap.size, 1, none⟩ = false := Lib.frozen_of_heap HP1.out 1; clear ho hb; refine Hid.out ?_)
  refine Lib.hid ?_
  have ho1 : (w1.setCell ⟨w.heap.size, 1, none⟩ (.slice av l.length cv)).ownsRow (w.heap.size + 1 + 1) 3 1 (.slice av l.length cv) l.length (icells l) := by
    have := HO1.out
    rw [hsz2] at this
    exact ownsRow_setCell_below this (by simp; omega) _
  have HO2 := Lib.hid ho1
  obtain ⟨hcap, hnone⟩ := owns_cap ho1
  have K2 := Lib.hid (cloneI_any l av cv (w1.setCell ⟨w.heap.size, 1, none⟩ (.slice av l.length cv)) (owns_slG ho1) hnone hcap hl)
  have HBa : Hid (Below w.heap.size w (w1.setCell ⟨w.heap.size, 1, none⟩ (.slice av l.length cv))) := by
    have h1 : Below w.heap.size w w1 := HB0.out.trans (HB1.out.mono HB0.out.size)
    exact h1.grown (Lib.grownBy_setCell w1 w.heap.size 1 _) h1.size (fun q hq => by obtain rfl := Option.some.inj hq; exact Nat.le_refl _)
  have HR1 := Lib.hid (Lib.heap_setCell_same (i := 1) HP1.out (.slice av l.length cv))
  have HR2 : Hid ((w1.setCell ⟨w.heap.size, 1, none⟩ (.slice av l.length cv)).heap[w.heap.size + 1]? = some (.cells #[.int .i64 0, .slice none 0 0, .slice none 0 0] 59 (0, 0))) := ((Lib.grownBy_setCell w1 w.heap.size 1 _).block _ (lt_of_heap HP2.out) (fun e => by have := Option.some.inj e; omega)).trans HP2.out
  clear ho1 hcap hnone K1 HB0 HQ1 HQ2 HO1 HB1 HP1 HP2
  go_wp2_with (go_at_call 30; refine K2.out.mono ?_; rintro e w2 ⟨u, rfl, ho, hb⟩; obtain ⟨au, cu, rfl⟩ := owns_slice ho; have HO3 := Lib.hid ho; have HB2 := Lib.hid hb; clear ho hb; refine Hid.out ?_)
  refine Lib.hid ?_
  have K3 := Lib.hid (sortI_any l _ au cu w2 hl HO3.out)
  have HSz : Hid (w.heap.size + 1 + 1 ≤ (w1.setCell ⟨w.heap.size, 1, none⟩ (.slice av l.length cv)).heap.size) := by
    have := lt_of_heap HR2.out
    exact this
  go_wp2_with (go_at_call 35; refine K3.out.mono ?_; rintro e w3 ⟨rfl, ho, hg⟩; have HO4 := Lib.hid ho; have HG3 := Lib.hid hg; clear ho hg; refine Hid.out ?_)
  refine Lib.hid ?_
  have hno : ∀ k, (Value.slice au l.length cu).ownBlock = some k → (w1.setCell ⟨w.heap.size, 1, none⟩ (.slice av l.length cv)).heap.size ≤ k := fun k e => (HO3.out.lt k e).1
  have hv3 : w3.ownsRow (w.heap.size + 1 + 1) 3 1 (.slice av l.length cv) l.length (icells l) := by
    refine (owns_below HO2.out HB2.out).kept HG3.out ?_
    cases av with
    | none => exact Or.inl rfl
    | some a =>
      exact Or.inr fun e => by
        have h1 := hno _ e.symm
        have h2 := (HO2.out.lt a.block rfl).2
        omega
  have P1 := Lib.hid ((HG3.out.block _ (Nat.lt_of_lt_of_le (lt_of_heap HR1.out) HB2.out.size) (fun e => by have := hno _ e.symm; have := lt_of_heap HR1.out; omega)).trans ((HB2.out.block _ (lt_of_heap HR1.out)).trans HR1.out))
  have P2 := Lib.hid ((HG3.out.block _ (Nat.lt_of_lt_of_le (lt_of_heap HR2.out) HB2.out.size) (fun e => by have := hno _ e.symm; have := lt_of_heap HR2.out; omega)).trans ((HB2.out.block _ (lt_of_heap HR2.out)).trans HR2.out))
  have HB3 : Hid (Below w.heap.size w w3) := (HBa.out.trans (HB2.out.mono HBa.out.size)).grown HG3.out (Nat.le_trans HBa.out.size HB2.out.size) (fun k e => Nat.le_trans HBa.out.size (hno k e))
  have HU3 := Lib.hid (owns_mono HO4.out (Nat.le_trans (by omega) HSz.out : w.heap.size + 1 + 1 ≤ _))
  have HV3 := Lib.hid hv3
  have c0 : w3.cell? ⟨w.heap.size, 0, none⟩ = some (.int .i64 k) := Lib.cell_of_heap P1.out 0
  have c1 : w3.cell? ⟨w.heap.size, 1, none⟩ = some (.slice av l.length cv) := Lib.cell_of_heap P1.out 1
  have d0 : w3.cell? ⟨w.heap.size + 1, 0, none⟩ = some (.int .i64 0) := Lib.cell_of_heap P2.out 0
  have d1 : w3.cell? ⟨w.heap.size + 1, 1, none⟩ = some (.slice none 0 0) := Lib.cell_of_heap P2.out 1
  have d2 : w3.cell? ⟨w.heap.size + 1, 2, none⟩ = some (.slice none 0 0) := Lib.cell_of_heap P2.out 2
  have f0 : w3.frozen? ⟨w.heap.size + 1, 0, none⟩ = false := Lib.frozen_of_heap P2.out 0
  have f1 : w3.frozen? ⟨w.heap.size + 1, 1, none⟩ = false := Lib.frozen_of_heap P2.out 1
  have f2 : w3.frozen? ⟨w.heap.size + 1, 2, none⟩ = false := Lib.frozen_of_heap P2.out 2
  have HE : Hid (∀ u1 u2 u3, MatP (k, l) w (.returned (.agg #[.int .i64 k, .slice av l.length cv, .slice au l.length cu])) (((w3.setCell ⟨w.heap.size + 1, 0, none⟩ u1).setCell ⟨w.heap.size + 1, 1, none⟩ u2).setCell ⟨w.heap.size + 1, 2, none⟩ u3)) := fun u1 u2 u3 => by
    have hg := Lib.grownBy_trans (Lib.grownBy_trans (Lib.grownBy_setCell w3 (w.heap.size + 1) 0 u1) (Lib.grownBy_setCell _ (w.heap.size + 1) 1 u2)) (Lib.grownBy_setCell _ (w.heap.size + 1) 2 u3)
    have hne : ∀ (v : Value) (xs : List Value), w3.ownsRow (w.heap.size + 1 + 1) 3 1 v l.length xs → v.ownBlock ≠ some (w.heap.size + 1) := fun v xs h e => by
      have := (h.lt _ e).1
      omega
    exact ⟨_, _, rfl, owns_mono (HV3.out.kept hg (Or.inr (hne _ _ HV3.out))) (by omega), owns_mono (HU3.out.kept hg (Or.inr (hne _ _ HU3.out))) (by omega), HB3.out.grown hg HB3.out.size (fun q hq => by
      obtain rfl := Option.some.inj hq
      omega)⟩
  clear hno hv3 HU3 HV3 P1 P2 HB3 HO4 HG3 HO3 HO2 HB2 HR1 HR2 HBa HSz K2 K3
  go_wp2_with fail
  refine bodyPost_ret (v := .agg #[.int .i64 k, .slice av l.length cv, .slice au l.length cu]) (by simp [results, Tryd.results24, go_sem, d0, d1, d2]) rfl (HE.out _ _ _)
end Go.Proofs.YtlkmabnjmklkpaaDoor
