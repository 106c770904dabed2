/- match.tell: the match, told in memory of its own. -/
import Derived.Test.YtlkmabnjmklkpaaDoorRowA14
namespace Go.Proofs.YtlkmabnjmklkpaaDoor
open Go.RowKit

/-- A match told: its Ids in a row of their own. -/
def TellP (t : TK) (w : World) (e : Ending) (w' : World) : Prop := ∃ v, e = .returned (.agg #[.int .i64 t.1, v]) ∧ w'.ownsRow w.heap.size 3 1 v t.2.length (icells t.2) ∧ Below w.heap.size w w'
set_option maxRecDepth 100000 in
set_option maxHeartbeats 4000000 in
theorem tell_any (p : MV) (w : World) (h : SlG w.heap.size w p.2.1.1 (icells p.1.2)) (hn : p.2.1.1 = none → p.2.1.2 = 0) (hc : p.1.2.length ≤ p.2.1.2) (hl : p.1.2.length ≤ 1000000) :
    Calls Tryd.prog 19 #[mval p] w (TellP p.1 w) := by
  obtain ⟨⟨k, l⟩, ⟨a, c⟩, ⟨d, e⟩⟩ := p
  simp only at h hn hc hl ⊢
  have mixed : Tryd.prog.follows .mixedOrders = true := by kernel_rfl
  have HB0 := Lib.hid (below_two w (.cells #[.int .i64 k, .slice a l.length c, .slice d l.length e] 59) (.cells #[.int .i64 0, .slice none 0 0] 24))
  obtain ⟨q1, q2⟩ := heap_two (w := w) (.cells #[.int .i64 k, .slice a l.length c, .slice d l.length e] 59) (.cells #[.int .i64 0, .slice none 0 0] 24)
  have HQ2 := Lib.hid q2
  have hsz2 : ((w.alloc (.cells #[.int .i64 k, .slice a l.length c, .slice d l.length e] 59)).alloc (.cells #[.int .i64 0, .slice none 0 0] 24)).heap.size = w.heap.size + 1 + 1 := by simp
  have hK : ∀ n os, Calls Tryd.prog 30 #[.slice a l.length c] (Sort.grow (((w.alloc (.cells #[.int .i64 k, .slice a l.length c, .slice d l.length e] 59)).alloc (.cells #[.int .i64 0, .slice none 0 0] 24)).drewN n) os) _ := fun n os => cloneI_any l a c _ (h.up (HB0.out.trans ((show Gr _ _ from ⟨n, os, rfl⟩).below.mono (by rw [hsz2]; omega))) (HB0.out.trans ((show Gr _ _ from ⟨n, os, rfl⟩).below.mono (by rw [hsz2]; omega))).size) hn hc hl
  have K1 := Lib.hid (cloneI_any l a c ((w.alloc (.cells #[.int .i64 k, .slice a l.length c, .slice d l.length e] 59)).alloc (.cells #[.int .i64 0, .slice none 0 0] 24)).drew (h.up (below_drew HB0.out) (below_drew HB0.out).size) hn hc hl)
  clear h q1 q2 hK
  go_enter Tryd.func19, Tryd.ntmps19
  go_wp2_with fail
  go_region_with (go_at_call 30; go_must (refine K1.out.mono ?_; rintro e w1 ⟨v, rfl, ho, hb⟩; obtain ⟨av, cv, rfl⟩ := owns_slice ho; have HO1 := Lib.hid ho; have HB1 := Lib.hid hb; have HP2 := Lib.hid ((hb.block _ (lt_of_heap HQ2.out)).trans HQ2.out); have d0 : w1.cell? ⟨w.heap.size + 1, 0, none⟩ = some (.int .i64 0) := Lib.cell_of_heap HP2.out 0; have d1 : w1.cell? ⟨w.heap.size + 1, 1, none⟩ = some (.slice none 0 0) := Lib.cell_of_heap HP2.out 1; have f0 : w1.frozen? ⟨w.heap.size + 1, 0, none⟩ = false := Lib.frozen_of_heap HP2.out 0; have f1 : w1.frozen? ⟨w.heap.size + 1, 1, none⟩ = false := Lib.frozen_of_heap HP2.out 1; have k0 : w1.cell? ⟨w.heap.size, 0, none⟩ = some (.int .i64 k) := ((bone hb (by simp; omega)).1 0).trans (by simp); clear ho hb))
  all_goals
    have HE : Hid (∀ u1 u2, TellP (k, l) w (.returned (.agg #[.int .i64 k, .slice av l.length cv])) ((w1.setCell ⟨w.heap.size + 1, 0, none⟩ u1).setCell ⟨w.heap.size + 1, 1, none⟩ u2)) := fun u1 u2 => by
      have ho := HO1.out
      have hs : (((w.alloc (.cells #[.int .i64 k, .slice a l.length c, .slice d l.length e] 59)).alloc (.cells #[.int .i64 0, .slice none 0 0] 24)).drew).heap.size = w.heap.size + 1 + 1 := hsz2
      rw [hs] at ho
      have hb := HB1.out
      rw [hs] at hb
      have hg := Lib.grownBy_trans (Lib.grownBy_setCell w1 (w.heap.size + 1) 0 u1) (Lib.grownBy_setCell _ (w.heap.size + 1) 1 u2)
      have hB : Below w.heap.size w w1 := (below_drew HB0.out).trans (hb.mono (by omega))
      refine ⟨_, rfl, owns_mono (ho.kept hg (Or.inr (fun e => ?_))) (by omega), hB.grown hg hB.size (fun q hq => by
        obtain rfl := Option.some.inj hq
        omega)⟩
      have := (ho.lt _ e).1
      omega
    clear HO1 HB1 HP2 k0
    go_wp2_with fail
    refine bodyPost_ret (v := .agg #[.int .i64 k, .slice av l.length cv]) (by simp [results, Tryd.results19, go_sem, d0, d1]) rfl (HE.out _ _)
end Go.Proofs.YtlkmabnjmklkpaaDoor
