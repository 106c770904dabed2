/- The program's order: the rules' saliences. -/
import Derived.Test.YtlkmabnjmklkpaaDoorMatch14
import Derived.Test.YtlkmabnjmklkpaaDoorOf14
namespace Go.Proofs.YtlkmabnjmklkpaaDoor
open Go.RowKit

theorem cells_at2 (w : World) (o : Obj) (cs : Array Value) (t : TypeId) (b j : Nat) (u : Value) (hb : b = w.heap.size + 1) (h : cs[j]? = some u) : ((w.alloc o).alloc (.cells cs t)).cell? ⟨b, j, none⟩ = some u := by
  subst hb
  have := cells_made (w.alloc o) cs t j u h
  simpa using this
/-- Saliences of its own. -/
def OrdP (s : List Int) (w : World) (e : Ending) (w' : World) : Prop := ∃ v, e = .returned (.agg #[v]) ∧ w'.ownsRow w.heap.size 3 1 v s.length (icells s) ∧ Below w.heap.size w w'
set_option maxRecDepth 100000 in
set_option maxHeartbeats 4000000 in
theorem orderOf_any (s : List Int) (ao : Option Addr) (c : Nat) (hm : s.length ≤ 1000000) (w : World) (h : SlG w.heap.size w ao (rcells s)) :
    Calls Tryd.prog 27 #[aggR ao s.length c] w (OrdP s w) := by
  obtain ⟨i0, hi, hz0, hz1, hz2⟩ := info_parts infoI
  have HS := Lib.hid h
  clear h
  have HB0 := Lib.hid (gr_three w (.cells #[.slice none 0 0, .slice ao s.length c] 44) (.cells #[.slice none 0 0] 53) (.cells #[.slice none 0 0] 53)).below
  obtain ⟨q1, q2, q3⟩ := heap_three (w := w) (.cells #[.slice none 0 0, .slice ao s.length c] 44) (.cells #[.slice none 0 0] 53) (.cells #[.slice none 0 0] 53)
  have HQ1 := Lib.hid q2
  have HQ2 := Lib.hid q3
  clear q1 q2 q3
  go_enter Tryd.func27, Tryd.ntmps27
  go_wp2_with fail
  go_loopw [9] (fun i wr => ∃ (j : Nat) (v : Value), j ≤ s.length ∧ i = .int .i64 j ∧ Hid (wr.heap[w.heap.size + 1]? = some (.cells #[.slice none 0 0] 53 (0, 0))) ∧ Hid (wr.heap[w.heap.size + 2]? = some (.cells #[v] 53 (0, 0))) ∧ Hid (wr.ownsRow w.heap.size 3 1 v j (icells (s.take j))) ∧ Hid (Below w.heap.size w wr)) (fun i _ => s.length - (intOf i).toNat)
  case atStart => exact ⟨0, .slice none 0 0, by omega, rfl, HQ1, HQ2, World.ownsRow_nil _ _ _ _, HB0⟩
  case round =>
    obtain ⟨j, v, hj, rfl, HQa, HQb, HO, HB⟩ := hrel
    clear HQ1 HQ2 HB0
    by_cases hlt : j < s.length
    · obtain ⟨sb, off, rfl, _, hc⟩ := (HS.out.below HB.out) (by intro e; have := congrArg List.length e; rw [rcells_length] at this; simp at this; omega)
      obtain ⟨e0, e1, e2, e3, e4⟩ := rcells_at s j hlt
      have d0 := hc _ _ e0
      have d1 := hc _ _ e1
      have d2 := hc _ _ e2
      have d3 := hc _ _ e3
      have d4 := hc _ _ e4
      rw [← Nat.add_assoc] at d1 d2 d3 d4
      have c1 : wr.cell? ⟨w.heap.size + 2, 0, none⟩ = some v := Lib.cell_of_heap HQb.out 0
      have f1 : wr.frozen? ⟨w.heap.size + 2, 0, none⟩ = false := Lib.frozen_of_heap HQb.out 0
      have c1' : ∀ o, (wr.alloc o).cell? ⟨w.heap.size + 2, 0, none⟩ = some v := fun o => ((below_own o).cell (p := ⟨w.heap.size + 2, 0, none⟩) (lt_of_heap HQb.out)).trans c1
      have hbz := HB.out.size
      have HTk : Hid (icells (s.take (j + 1)) = icells (s.take j) ++ [.int .i64 s[j]]) := by
        rw [Hid, List.take_add_one, List.getElem?_eq_getElem hlt, icells_append]
        rfl
      have hji : (j : Int) < (s.length : Int) := by omega
      clear hc e0 e1 e2 e3 e4
      generalize s[j] = x at d1 HTk
      obtain ⟨ob, oc, rfl⟩ := owns_slice HO.out
      have HNx : Hid (∀ W8 W9, Below wr.heap.size wr W8 → W8.grownBy W9 (Value.slice ob j oc).ownBlock → W9.heap[w.heap.size + 1]? = some (.cells #[.slice none 0 0] 53 (0, 0)) ∧ W9.heap[w.heap.size + 2]? = some (.cells #[.slice ob j oc] 53 (0, 0)) ∧ Below w.heap.size w W9) := fun W8 W9 h8 h9 => by
        have a1 := (h8.block _ (lt_of_heap HQa.out)).trans HQa.out
        have a2 := (h8.block _ (lt_of_heap HQb.out)).trans HQb.out
        have o8 := owns_below HO.out h8
        exact ⟨(h9.block _ (lt_of_heap a1) (fun e => ne_own o8 a1 (by decide) e.symm)).trans a1, (h9.block _ (lt_of_heap a2) (fun e => ne_own o8 a2 (by decide) e.symm)).trans a2, (HB.out.trans (h8.mono HB.out.size)).grown h9 (Nat.le_trans HB.out.size h8.size) (fun q hq => (o8.lt q hq).1)⟩
      go_wp2_with (at_builtin; refine wpList_append_own _ rfl _ _ 22 rfl w.heap.size 3 i0 (.int .i64 0) 1 8 Tryd.underlying22 hi hz0 hz1 hz2 rfl (by decide) _ j _ rfl (World.ownsRow.alloc (World.ownsRow.alloc HO.out _) _) ⟨wr.heap.size + 1, 0, none⟩ 1 1 [.int .i64 x] rfl rfl (fun k u hu => by rw [Addr.add_lit, Nat.zero_add]; exact cells_at2 _ _ _ _ _ k u rfl (by simpa using hu)) (fun u hu => by simp at hu; subst hu; rfl) (by unfold maxLen; omega) (by omega) (by simp; omega) ?_; intro v9 w9 hown9 hgrow9 hnil9; obtain ⟨ob9, oc9, rfl⟩ := owns_slice hown9; obtain ⟨k1, k2, k3⟩ := HNx.out _ w9 (below_new (below_own _) _) hgrow9; have HK1 := Lib.hid k1; have HK2 := Lib.hid k2; have HK3 := Lib.hid k3; have HO9 := Lib.hid hown9; have c9 : w9.cell? ⟨w.heap.size + 2, 0, none⟩ = some (.slice ob j oc) := Lib.cell_of_heap HK2.out 0; have f9 : w9.frozen? ⟨w.heap.size + 2, 0, none⟩ = false := Lib.frozen_of_heap HK2.out 0; clear k1 k2 k3 hgrow9 hown9 hnil9)
      have hg := Lib.grownBy_setCell w9 (w.heap.size + 2) 0 (.slice ob9 (j + 1) oc9)
      have R1 := Lib.hid ((hg.block _ (lt_of_heap HK1.out) (fun e => by have := Option.some.inj e; omega)).trans HK1.out)
      have R2 := Lib.hid (Lib.heap_setCell_same (i := 0) HK2.out (.slice ob9 (j + 1) oc9))
      have R3 : Hid ((w9.setCell ⟨w.heap.size + 2, 0, none⟩ (.slice ob9 (j + 1) oc9)).ownsRow w.heap.size 3 1 (.slice ob9 (j + 1) oc9) (j + 1) (icells (s.take (j + 1)))) := by
        rw [HTk.out]
        exact HO9.out.kept hg (Or.inr (ne_own HO9.out HK2.out (by decide)))
      have R4 := Lib.hid (HK3.out.grown hg HK3.out.size (fun q hq => by
        obtain rfl := Option.some.inj hq
        omega))
      clear HQa HQb HO HB HK1 HK2 HK3 HO9 c9 f9 c1 c1' f1 d0 d1 d2 d3 d4 hg
      go_wp2_with fail
      go_roundw
      case rel => exact ⟨j + 1, _, by omega, by go_num, R1, R2, R3, R4⟩
      case measure => simp [intOf]; omega
    · obtain rfl : j = s.length := by omega
      have c0 : wr.cell? ⟨w.heap.size + 2, 0, none⟩ = some v := Lib.cell_of_heap HQb.out 0
      have c2 : wr.cell? ⟨w.heap.size + 1, 0, none⟩ = some (.slice none 0 0) := Lib.cell_of_heap HQa.out 0
      have f2 : wr.frozen? ⟨w.heap.size + 1, 0, none⟩ = false := Lib.frozen_of_heap HQa.out 0
      have hown := HO.out
      rw [List.take_length] at hown
      obtain ⟨ob, oc, rfl⟩ := owns_slice hown
      have HE : Hid (∀ u1, OrdP s w (.returned (.agg #[.slice ob s.length oc])) (wr.setCell ⟨w.heap.size + 1, 0, none⟩ u1)) := fun u1 => by
        have hg := Lib.grownBy_setCell wr (w.heap.size + 1) 0 u1
        exact ⟨_, rfl, hown.kept hg (Or.inr (ne_own hown HQa.out (by decide))), HB.out.grown hg HB.out.size (fun q hq => by
          obtain rfl := Option.some.inj hq
          omega)⟩
      clear HQa HQb HO HB hown
      go_wp2_with fail
      refine bodyPost_ret (v := .agg #[.slice ob s.length oc]) (by simp [results, Tryd.results27, go_sem, c2]) rfl (HE.out _)
end Go.Proofs.YtlkmabnjmklkpaaDoor
