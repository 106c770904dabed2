/- The law's rules: as many as there are saliences. -/
import Derived.Test.YtlkmabnjmklkpaaDoorSal14
namespace Go.Proofs.YtlkmabnjmklkpaaDoor
open Go.RowKit

theorem infoU : (Tryd.prog.info? 73).map (fun i => (i.zero, i.size, i.bytes)) = some (some (.agg #[.string ⟨#[]⟩, .int .i64 0, .int .i64 0, .slice none 0 0, .slice none 0 0]), 5, 80) := by kernel_rfl
/-- Rules of its own of these saliences. -/
def OfP (s : List Int) (w : World) (e : Ending) (w' : World) : Prop := ∃ v, e = .returned (.agg #[.slice none 0 0, v]) ∧ w'.ownsRow w.heap.size 73 5 v s.length (rcells s) ∧ Below w.heap.size w w'
theorem ne_own {w : World} {base e size n : Nat} {v : Value} {xs : List Value} {b : Nat} {cs : Array Value} {t : TypeId} {fz : Nat × Nat} (h : w.ownsRow base e size v n xs) (hb : w.heap[b]? = some (.cells cs t fz)) (ht : e ≠ t) : v.ownBlock ≠ some b := fun he => by
  obtain ⟨cs', fz', h2⟩ := owns_tag h b he
  rw [hb] at h2
  injection h2 with h2
  injection h2 with _ h3 _
  exact ht h3.symm

set_option maxRecDepth 100000 in
set_option maxHeartbeats 4000000 in
theorem of_any (s : List Int) (ao : Option Addr) (c : Nat) (hm : s.length ≤ 1000000) (w : World) (h : SlG w.heap.size w ao (icells s)) :
    Calls Tryd.prog 12 #[.slice ao s.length c] w (OfP s w) := by
  obtain ⟨i0, hi, hz0, hz1, hz2⟩ := info_parts infoU
  have mixed : Tryd.prog.follows .mixedOrders = true := by kernel_rfl
  have HS := Lib.hid h
  clear h
  have HB0 := Lib.hid (below_new (below_own (w := w) (.cells #[.slice none 0 0, .slice none 0 0] 44)) (.cells #[.slice none 0 0, .slice none 0 0] 44))
  obtain ⟨q1, q2⟩ := heap_two (w := w) (.cells #[.slice none 0 0, .slice none 0 0] 44) (.cells #[.slice none 0 0, .slice none 0 0] 44)
  have HQ1 := Lib.hid q1
  have HQ2 := Lib.hid q2
  clear q1 q2
  go_enter Tryd.func12, Tryd.ntmps12
  go_wp2_with fail
  go_loopw [4] (fun i wr => ∃ (j : Nat) (v : Value), j ≤ s.length ∧ i = .int .i64 j ∧ Hid (wr.heap[w.heap.size]? = some (.cells #[.slice none 0 0, .slice none 0 0] 44 (0, 0))) ∧ Hid (wr.heap[w.heap.size + 1]? = some (.cells #[.slice none 0 0, v] 44 (0, 0))) ∧ Hid (wr.ownsRow w.heap.size 73 5 v j (rcells (s.take j))) ∧ Hid (Below w.heap.size w wr)) (fun i _ => s.length - (intOf i).toNat)
  case atStart => exact ⟨0, .slice none 0 0, by omega, rfl, HQ1, HQ2, World.ownsRow_nil _ _ _ _, HB0⟩
  case round =>
    obtain ⟨j, v, hj, rfl, HQa, HQb, HO, HB⟩ := hrel
    clear HQ1 HQ2 HB0
    by_cases hlt : j < s.length
    · obtain ⟨sb, off, rfl, hsb, hc⟩ := (HS.out.below HB.out).cellI (by omega)
      have d1 := hc j hlt
      have c1 : wr.cell? ⟨w.heap.size + 1, 1, none⟩ = some v := Lib.cell_of_heap HQb.out 1
      have f1 : wr.frozen? ⟨w.heap.size + 1, 1, none⟩ = false := Lib.frozen_of_heap HQb.out 1
      have c1' : ∀ o, (wr.alloc o).cell? ⟨w.heap.size + 1, 1, none⟩ = some v := fun o => ((below_own o).cell (p := ⟨w.heap.size + 1, 1, none⟩) (lt_of_heap HQb.out)).trans c1
      have hbz := HB.out.size
      have HTk : Hid (rcells (s.take (j + 1)) = rcells (s.take j) ++ [.string ⟨#[]⟩, .int .i64 s[j], .int .i64 0, .slice none 0 0, .slice none 0 0]) := by
        rw [Hid, List.take_add_one, List.getElem?_eq_getElem hlt, rcells_append]
        rfl
      have hji : (j : Int) < (s.length : Int) := by omega
      clear hc
      generalize s[j] = x at d1 HTk
      obtain ⟨ob, oc, rfl⟩ := owns_slice HO.out
      have HNx : Hid (∀ W8 W9, Below wr.heap.size wr W8 → W8.grownBy W9 (Value.slice ob j oc).ownBlock → W9.heap[w.heap.size]? = some (.cells #[.slice none 0 0, .slice none 0 0] 44 (0, 0)) ∧ W9.heap[w.heap.size + 1]? = some (.cells #[.slice none 0 0, .slice ob j oc] 44 (0, 0)) ∧ Below w.heap.size w W9) := fun W8 W9 h8 h9 => by
        have a1 := (h8.block _ (lt_of_heap HQa.out)).trans HQa.out
        have a2 := (h8.block _ (lt_of_heap HQb.out)).trans HQb.out
        have o8 := owns_below HO.out h8
        exact ⟨(h9.block _ (lt_of_heap a1) (fun e => ne_own o8 a1 (by decide) e.symm)).trans a1, (h9.block _ (lt_of_heap a2) (fun e => ne_own o8 a2 (by decide) e.symm)).trans a2, (HB.out.trans (h8.mono HB.out.size)).grown h9 (Nat.le_trans HB.out.size h8.size) (fun q hq => (o8.lt q hq).1)⟩
      go_wp2_with fail
      go_region_law (refine step_append_any rfl (.tmp 12) (.tmp 18) 42 rfl w.heap.size 73 i0 (.agg #[.string ⟨#[]⟩, .int .i64 0, .int .i64 0, .slice none 0 0, .slice none 0 0]) 5 80 Tryd.underlying42 hi hz0 hz1 hz2 rfl (by decide) _ j _ rfl (World.ownsRow.alloc (owns_below HO.out (below_drew (Below.refl _ _))) _) (some ⟨wr.drew.heap.size, 0, none⟩) 1 1 [.string ⟨#[]⟩, .int .i64 x, .int .i64 0, .slice none 0 0, .slice none 0 0] rfl rfl (by simp) (fun ad had k u hu => by obtain rfl := Option.some.inj had; rw [Addr.add_lit, Nat.zero_add]; exact cells_made wr.drew _ _ k u (by simpa using hu)) (fun u hu => by simp at hu; rcases hu with rfl | rfl | rfl | rfl | rfl <;> rfl) (by unfold maxLen; omega) (by omega) (by simp [World.drew]; omega) ?_; intro v9 w9 hown9 hgrow9; obtain ⟨ob9, oc9, rfl⟩ := owns_slice hown9; obtain ⟨k1, k2, k3⟩ := HNx.out _ w9 (by first | exact (below_drew (Below.refl _ _)).alloc (Nat.le_refl _) _) hgrow9; have HK1 := Lib.hid k1; have HK2 := Lib.hid k2; have HK3 := Lib.hid k3; have HO9 := Lib.hid hown9; have c9 : w9.cell? ⟨w.heap.size + 1, 1, none⟩ = some (.slice ob j oc) := Lib.cell_of_heap HK2.out 1; have f9 : w9.frozen? ⟨w.heap.size + 1, 1, none⟩ = false := Lib.frozen_of_heap HK2.out 1; clear k1 k2 k3 hgrow9 hown9)
      all_goals
        have hg := Lib.grownBy_setCell w9 (w.heap.size + 1) 1 (.slice ob9 (j + 1) oc9)
        have hne : w.heap.size ≠ w.heap.size + 1 := by omega
        have R1 := Lib.hid ((hg.block _ (lt_of_heap HK1.out) (fun e => hne (Option.some.inj e))).trans HK1.out)
        have R2 := Lib.hid (Lib.heap_setCell_same (i := 1) HK2.out (.slice ob9 (j + 1) oc9))
        have R3 : Hid ((w9.setCell ⟨w.heap.size + 1, 1, none⟩ (.slice ob9 (j + 1) oc9)).ownsRow w.heap.size 73 5 (.slice ob9 (j + 1) oc9) (j + 1) (rcells (s.take (j + 1)))) := by
          rw [HTk.out]
          exact HO9.out.kept hg (Or.inr (ne_own HO9.out HK2.out (by decide)))
        have R4 := Lib.hid (HK3.out.grown hg HK3.out.size (fun q hq => by
          obtain rfl := Option.some.inj hq
          omega))
        clear HQa HQb HO HB HK1 HK2 HK3 HO9 c9 f9 c1 c1' f1 d1 hg
        go_wp2_with fail
        go_roundw
        case rel => exact ⟨j + 1, _, by omega, by go_num, R1, R2, R3, R4⟩
        case measure => simp [intOf]; omega
    · obtain rfl : j = s.length := by omega
      have c0 : wr.cell? ⟨w.heap.size + 1, 0, none⟩ = some (.slice none 0 0) := Lib.cell_of_heap HQb.out 0
      have c1 : wr.cell? ⟨w.heap.size + 1, 1, none⟩ = some v := Lib.cell_of_heap HQb.out 1
      have c2 : wr.cell? ⟨w.heap.size, 0, none⟩ = some (.slice none 0 0) := Lib.cell_of_heap HQa.out 0
      have c3 : wr.cell? ⟨w.heap.size, 1, none⟩ = some (.slice none 0 0) := Lib.cell_of_heap HQa.out 1
      have f2 : wr.frozen? ⟨w.heap.size, 0, none⟩ = false := Lib.frozen_of_heap HQa.out 0
      have f3 : wr.frozen? ⟨w.heap.size, 1, none⟩ = false := Lib.frozen_of_heap HQa.out 1
      have hown := HO.out
      rw [List.take_length] at hown
      obtain ⟨ob, oc, rfl⟩ := owns_slice hown
      have HE : Hid (∀ u1 u2, OfP s w (.returned (.agg #[.slice none 0 0, .slice ob s.length oc])) ((wr.setCell ⟨w.heap.size, 0, none⟩ u1).setCell ⟨w.heap.size, 1, none⟩ u2)) := fun u1 u2 => by
        have hg := Lib.grownBy_trans (Lib.grownBy_setCell wr w.heap.size 0 u1) (Lib.grownBy_setCell _ w.heap.size 1 u2)
        exact ⟨_, rfl, hown.kept hg (Or.inr (ne_own hown HQa.out (by decide))), HB.out.grown hg HB.out.size (fun q hq => by
          obtain rfl := Option.some.inj hq
          exact Nat.le_refl _)⟩
      clear HQa HQb HO HB hown
      go_wp2_with fail
      refine bodyPost_ret (v := .agg #[.slice none 0 0, .slice ob s.length oc]) (by first | simp [results, Tryd.results12, go_sem, c2, c3] | simp [results, Tryd.results12, go_sem, c0, c1, c2, c3]) rfl (HE.out _ _)
end Go.Proofs.YtlkmabnjmklkpaaDoor
