/- What is the same is told so: frames. -/
import Derived.Test.YtagjipkoheimjaaGreatDoorPut
namespace Go.Proofs.YtagjipkoheimjaaGreatDoor
open Go.RowKit

theorem two_boxes {w w1 : World} {c1 c2 : Array Value} {t1 t2 : TypeId} (h : Below ((w.alloc (.cells c1 t1)).alloc (.cells c2 t2)).heap.size ((w.alloc (.cells c1 t1)).alloc (.cells c2 t2)) w1) :
    (∀ j, w1.cell? ⟨w.heap.size, j, none⟩ = c1[j]?) ∧ (∀ j, w1.cell? ⟨w.heap.size + 1, j, none⟩ = c2[j]?) := by
  have e1 : ((w.alloc (.cells c1 t1)).alloc (.cells c2 t2)).heap[w.heap.size]? = some (.cells c1 t1 (0, 0)) := by
    rw [Below.heap_alloc _ _ _ (by simp)]
    exact heap_alloc_new w _
  have e2 : ((w.alloc (.cells c1 t1)).alloc (.cells c2 t2)).heap[w.heap.size + 1]? = some (.cells c2 t2 (0, 0)) := by
    have := heap_alloc_new (w.alloc (.cells c1 t1)) (.cells c2 t2)
    simpa using this
  exact ⟨fun j => Lib.cell_of_heap ((h.block _ (by simp; omega)).trans e1) j, fun j => Lib.cell_of_heap ((h.block _ (by simp)).trans e2) j⟩

theorem below_two (w : World) (o1 o2 : Obj) : Below w.heap.size w ((w.alloc o1).alloc o2) := below_new (below_own o1) o2

theorem sameFrame (x : FR) (ao1 ao2 : Option Addr) (c1 c2 : Nat) (hm : x.2.length ≤ 9223372036854775807) (w : World) (h1 : SlG w.heap.size w ao1 (bcells x.2)) (h2 : SlG w.heap.size w ao2 (bcells x.2)) :
    Calls Tryz.prog 30 #[.agg #[.int .i64 x.1, .slice ao1 x.2.length c1], .agg #[.int .i64 x.1, .slice ao2 x.2.length c2]] w (YesP w) := by
  obtain ⟨k, d⟩ := x
  simp only at hm h1 h2 ⊢
  have HB := Lib.hid (below_two w (.cells #[.int .i64 k, .slice ao1 d.length c1] 44) (.cells #[.int .i64 k, .slice ao2 d.length c2] 44))
  have HV := Lib.hid (sameB ao1 ao2 c1 c2 d hm _ (h1.up HB.out HB.out.size) (h2.up HB.out HB.out.size))
  clear h1 h2 hm
  go_enter Tryz.func30, Tryz.ntmps30
  go_wp2_with (go_at_call 13; refine (HV.out).mono ?_; rintro e w1 ⟨rfl, hb⟩)
  go_ret
  exact ⟨rfl, below_step HB.out hb⟩

set_option maxRecDepth 100000 in
set_option maxHeartbeats 1000000 in
theorem sameFrames (ao1 ao2 : Option Addr) (c1 c2 : Nat) (l : List FR) (hm : l.length ≤ 9223372036854775807) (hk : ∀ x, x ∈ l → x.2.length ≤ 9223372036854775807) (w : World) (h1 : SlFr w.heap.size w ao1 l) (h2 : SlFr w.heap.size w ao2 l) :
    Calls Tryz.prog 20 #[.slice ao1 l.length c1, .slice ao2 l.length c2] w (YesP w) := by
  have HA := Lib.hid h1
  have HB := Lib.hid h2
  have HK := Lib.hid hk
  clear h1 h2 hk
  go_enter Tryz.func20, Tryz.ntmps20
  go_wp2_with fail
  go_loopw [5] (fun i wr => ∃ j : Nat, j ≤ l.length ∧ i = .int .i64 j ∧ Below w.heap.size w wr) (fun i _ => l.length - (intOf i).toNat)
  case atStart => exact ⟨0, by omega, rfl, Below.refl _ _⟩
  case round =>
    obtain ⟨j, hj, rfl, hfr⟩ := hrel
    have HFr := Lib.hid hfr
    clear hfr
    by_cases hlt : j < l.length
    · obtain ⟨sb, off, rfl, hsb, hc⟩ := (HA.out.below HFr.out).at (by omega)
      obtain ⟨sb2, off2, rfl, hsb2, hc2⟩ := (HB.out.below HFr.out).at (by omega)
      obtain ⟨a1, k1, d1, d2, hs1, -⟩ := hc j hlt
      obtain ⟨a2, k2, d4, d5, hs2, -⟩ := hc2 j hlt
      have HC := Lib.hid (fun W (hW : Below wr.heap.size wr W) => sameFrame l[j] a1 a2 k1 k2 (HK.out l[j] (List.getElem_mem hlt)) W ((hs1.up (hW.mono HFr.out.size) (Nat.le_trans HFr.out.size hW.size))) ((hs2.up (hW.mono HFr.out.size) (Nat.le_trans HFr.out.size hW.size))))
      clear hc hc2 hs1 hs2
      generalize l[j] = z at d1 d2 d4 d5 HC
      go_wp2_with fail
      go_region_with (go_at_call 30; refine (HC.out _ ?_).mono ?_; (first | exact Below.refl _ _ | exact (Below.refl _ _).drew); rintro e w1 ⟨rfl, hb⟩; have HB1 := Lib.hid (show Below wr.heap.size wr w1 from (show Below wr.heap.size wr wr.drew from (Below.refl _ _).drew).trans hb); clear hb)
      all_goals
        clear d1 d2 d4 d5 HC
        go_wp2_with fail
        go_roundw
        case rel => exact ⟨j + 1, by omega, by go_num, below_step HFr.out HB1.out⟩
        case measure => simp [intOf]; omega
    · obtain rfl : j = l.length := by omega
      go_wp2
      go_ret
      exact ⟨rfl, HFr.out⟩
end Go.Proofs.YtagjipkoheimjaaGreatDoor
