/- What is the same is told so: facts, commands, replies, entries. -/
import Derived.Test.YtmocfielcllfmaaDoorSame
namespace Go.Proofs.YtmocfielcllfmaaDoor
open Go.RowKit

theorem two_boxes {w w1 : World} {c1 c2 : Array Value} {t1 t2 : TypeId} (h : Below ((w.alloc (.cells c1 t1)).alloc (.cells c2 t2)).heap.size ((w.alloc (.cells c1 t1)).alloc (.cells c2 t2)) w1) :
    (∀ j, w1.cell? ⟨w.heap.size, j, none⟩ = c1[j]?) ∧ (∀ j, w1.cell? ⟨w.heap.size + 1, j, none⟩ = c2[j]?) := by
  have e1 : ((w.alloc (.cells c1 t1)).alloc (.cells c2 t2)).heap[w.heap.size]? = some (.cells c1 t1 (0, 0)) := by
    rw [Below.heap_alloc _ _ _ (by simp)]
    exact heap_alloc_new w _
  have e2 : ((w.alloc (.cells c1 t1)).alloc (.cells c2 t2)).heap[w.heap.size + 1]? = some (.cells c2 t2 (0, 0)) := by
    have := heap_alloc_new (w.alloc (.cells c1 t1)) (.cells c2 t2)
    simpa using this
  exact ⟨fun j => Lib.cell_of_heap ((h.block _ (by simp; omega)).trans e1) j, fun j => Lib.cell_of_heap ((h.block _ (by simp)).trans e2) j⟩

theorem below_two (w : World) (o1 o2 : Obj) : Below w.heap.size w ((w.alloc o1).alloc o2) := below_new (below_own o1) o2

theorem sameFact (x : F3) (ao1 ao2 : Option Addr) (c1 c2 : Nat) (hm : x.2.2.length ≤ 9223372036854775807) (w : World) (h1 : SlV w.heap.size w ao1 x.2.2) (h2 : SlV w.heap.size w ao2 x.2.2) :
    Calls Tryd.prog 22 #[.agg #[.int .i64 x.1, .int .i64 x.2.1, .slice ao1 x.2.2.length c1], .agg #[.int .i64 x.1, .int .i64 x.2.1, .slice ao2 x.2.2.length c2]] w (YesP w) := by
  obtain ⟨i, t, a⟩ := x
  simp only at hm h1 h2 ⊢
  have HB := Lib.hid (below_two w (.cells #[.int .i64 i, .int .i64 t, .slice ao1 a.length c1] 52) (.cells #[.int .i64 i, .int .i64 t, .slice ao2 a.length c2] 52))
  have HV := Lib.hid (sameV ao1 ao2 c1 c2 a hm _ (h1.up HB.out HB.out.size) (h2.up HB.out HB.out.size))
  clear h1 h2 hm
  go_enter Tryd.func22, Tryd.ntmps22
  go_wp2_with (go_at_call 41; refine (HV.out).mono ?_; rintro e w1 ⟨rfl, hb⟩)
  go_ret
  exact ⟨rfl, below_step HB.out hb⟩

theorem sameCommand (x : C4) (ao1 ao2 : Option Addr) (c1 c2 : Nat) (hm : x.2.2.1.length ≤ 9223372036854775807) (w : World) (h1 : SlV w.heap.size w ao1 x.2.2.1) (h2 : SlV w.heap.size w ao2 x.2.2.1) :
    Calls Tryd.prog 24 #[.agg #[.int .u8 x.1, .string x.2.1, .slice ao1 x.2.2.1.length c1, .int .i64 x.2.2.2], .agg #[.int .u8 x.1, .string x.2.1, .slice ao2 x.2.2.1.length c2, .int .i64 x.2.2.2]] w (YesP w) := by
  obtain ⟨k, s, a, n⟩ := x
  simp only at hm h1 h2 ⊢
  have HB := Lib.hid (below_two w (.cells #[.int .u8 k, .string s, .slice ao1 a.length c1, .int .i64 n] 57) (.cells #[.int .u8 k, .string s, .slice ao2 a.length c2, .int .i64 n] 57))
  have HV := Lib.hid (sameV ao1 ao2 c1 c2 a hm _ (h1.up HB.out HB.out.size) (h2.up HB.out HB.out.size))
  clear h1 h2 hm
  go_enter Tryd.func24, Tryd.ntmps24
  go_wp2_with (go_at_call 41; refine (HV.out).mono ?_; rintro e w1 ⟨rfl, hb⟩; refine Hid.out ?_)
  obtain ⟨hc, hc2⟩ := two_boxes hb
  have HB1 := Lib.hid (below_step HB.out hb)
  clear hb HV HB
  refine Lib.hid ?_
  go_wp2
  go_ret
  exact ⟨rfl, HB1.out⟩

set_option maxRecDepth 100000 in
set_option maxHeartbeats 1000000 in
theorem sameFacts (ao1 ao2 : Option Addr) (c1 c2 : Nat) (l : List F3) (hm : l.length ≤ 9223372036854775807) (hk : ∀ x, x ∈ l → x.2.2.length ≤ 9223372036854775807) (w : World) (h1 : SlF w.heap.size w ao1 l) (h2 : SlF w.heap.size w ao2 l) :
    Calls Tryd.prog 68 #[.slice ao1 l.length c1, .slice ao2 l.length c2] w (YesP w) := by
  have HA := Lib.hid h1
  have HB := Lib.hid h2
  have HK := Lib.hid hk
  clear h1 h2 hk
  go_enter Tryd.func68, Tryd.ntmps68
  go_wp2_with fail
  go_loopw [5] (fun i wr => ∃ j : Nat, j ≤ l.length ∧ i = .int .i64 j ∧ Below w.heap.size w wr) (fun i _ => l.length - (intOf i).toNat)
  case atStart => exact ⟨0, by omega, rfl, Below.refl _ _⟩
  case round =>
    obtain ⟨j, hj, rfl, hfr⟩ := hrel
    have HFr := Lib.hid hfr
    clear hfr
    by_cases hlt : j < l.length
    · obtain ⟨sb, off, rfl, hsb, hc⟩ := (HA.out.below HFr.out).at (by omega)
      obtain ⟨sb2, off2, rfl, hsb2, hc2⟩ := (HB.out.below HFr.out).at (by omega)
      obtain ⟨a1, k1, d1, d2, d3, hs1⟩ := hc j hlt
      obtain ⟨a2, k2, d4, d5, d6, hs2⟩ := hc2 j hlt
      have HC := Lib.hid (fun W (hW : Below wr.heap.size wr W) => sameFact l[j] a1 a2 k1 k2 (HK.out l[j] (List.getElem_mem hlt)) W ((hs1.up (hW.mono HFr.out.size) (Nat.le_trans HFr.out.size hW.size))) ((hs2.up (hW.mono HFr.out.size) (Nat.le_trans HFr.out.size hW.size))))
      clear hc hc2 hs1 hs2
      generalize l[j] = z at d1 d2 d3 d4 d5 d6 HC
      go_wp2_with fail
      go_region_with (go_at_call 22; refine (HC.out _ ?_).mono ?_; (first | exact Below.refl _ _ | exact (Below.refl _ _).drew); rintro e w1 ⟨rfl, hb⟩; have HB1 := Lib.hid (show Below wr.heap.size wr w1 from (show Below wr.heap.size wr wr.drew from (Below.refl _ _).drew).trans hb); clear hb)
      all_goals
        clear d1 d2 d3 d4 d5 d6 HC
        go_wp2_with fail
        go_roundw
        case rel => exact ⟨j + 1, by omega, by go_num, below_step HFr.out HB1.out⟩
        case measure => simp [intOf]; omega
    · obtain rfl : j = l.length := by omega
      go_wp2
      go_ret
      exact ⟨rfl, HFr.out⟩

theorem sameReply (x : R4) (af1 af2 : Option Addr) (k1 k2 : Nat) (ao1 ao2 : Option Addr) (c1 c2 : Nat) (hf : x.2.2.1.length ≤ 9223372036854775807) (hk : ∀ y, y ∈ x.2.2.1 → y.2.2.length ≤ 9223372036854775807) (hm : x.2.2.2.length ≤ 9223372036854775807) (w : World) (g1 : SlF w.heap.size w af1 x.2.2.1) (g2 : SlF w.heap.size w af2 x.2.2.1) (h1 : SlV w.heap.size w ao1 x.2.2.2) (h2 : SlV w.heap.size w ao2 x.2.2.2) :
    Calls Tryd.prog 26 #[.agg #[.int .i64 x.1, .int .i64 x.2.1, .slice af1 x.2.2.1.length k1, .slice ao1 x.2.2.2.length c1], .agg #[.int .i64 x.1, .int .i64 x.2.1, .slice af2 x.2.2.1.length k2, .slice ao2 x.2.2.2.length c2]] w (YesP w) := by
  obtain ⟨e, n, f, a⟩ := x
  simp only at hf hk hm g1 g2 h1 h2 ⊢
  have HB := Lib.hid (below_two w (.cells #[.int .i64 e, .int .i64 n, .slice af1 f.length k1, .slice ao1 a.length c1] 63) (.cells #[.int .i64 e, .int .i64 n, .slice af2 f.length k2, .slice ao2 a.length c2] 63))
  have HF := Lib.hid (sameFacts af1 af2 k1 k2 f hf hk _ (g1.up HB.out HB.out.size) (g2.up HB.out HB.out.size))
  have HV := Lib.hid (fun W (hW : Below w.heap.size w W) => sameV ao1 ao2 c1 c2 a hm W (h1.up hW hW.size) (h2.up hW hW.size))
  clear h1 h2 hm g1 g2 hf hk
  go_enter Tryd.func26, Tryd.ntmps26
  go_wp2_with (go_at_call 68; refine (HF.out).mono ?_; rintro e w1 ⟨rfl, hb⟩; refine Hid.out ?_)
  obtain ⟨hc, hc2⟩ := two_boxes hb
  have HB1 := Lib.hid (below_step HB.out hb)
  clear hb HF HB
  refine Lib.hid ?_
  go_wp2_with (go_at_call 41; refine (HV.out _ HB1.out).mono ?_; rintro e w2 ⟨rfl, hb⟩)
  go_ret
  exact ⟨rfl, below_step HB1.out hb⟩

set_option maxRecDepth 100000 in
set_option maxHeartbeats 1000000 in
theorem sameEntry (x : E6) (ao1 ao2 : Option Addr) (c1 c2 : Nat) (ai1 ai2 : Option Addr) (k1 k2 : Nat) (hm : x.2.2.2.2.1.2.2.1.length ≤ 9223372036854775807) (hi : x.2.2.2.2.2.length ≤ 9223372036854775807) (w : World) (h1 : SlV w.heap.size w ao1 x.2.2.2.2.1.2.2.1) (h2 : SlV w.heap.size w ao2 x.2.2.2.2.1.2.2.1) (g1 : SlI w.heap.size w ai1 x.2.2.2.2.2) (g2 : SlI w.heap.size w ai2 x.2.2.2.2.2) :
    Calls Tryd.prog 28 #[.agg #[.int .i64 x.1, .int .u8 x.2.1, .int .i64 x.2.2.1, .int .i64 x.2.2.2.1, .int .u8 x.2.2.2.2.1.1, .string x.2.2.2.2.1.2.1, .slice ao1 x.2.2.2.2.1.2.2.1.length c1, .int .i64 x.2.2.2.2.1.2.2.2, .slice ai1 x.2.2.2.2.2.length k1], .agg #[.int .i64 x.1, .int .u8 x.2.1, .int .i64 x.2.2.1, .int .i64 x.2.2.2.1, .int .u8 x.2.2.2.2.1.1, .string x.2.2.2.2.1.2.1, .slice ao2 x.2.2.2.2.1.2.2.1.length c2, .int .i64 x.2.2.2.2.1.2.2.2, .slice ai2 x.2.2.2.2.2.length k2]] w (YesP w) := by
  obtain ⟨t, k, s, q, m, v⟩ := x
  simp only at hm hi g1 g2 h1 h2 ⊢
  have HB := Lib.hid (below_two w (.cells #[.int .i64 t, .int .u8 k, .int .i64 s, .int .i64 q, .int .u8 m.1, .string m.2.1, .slice ao1 m.2.2.1.length c1, .int .i64 m.2.2.2, .slice ai1 v.length k1] 68) (.cells #[.int .i64 t, .int .u8 k, .int .i64 s, .int .i64 q, .int .u8 m.1, .string m.2.1, .slice ao2 m.2.2.1.length c2, .int .i64 m.2.2.2, .slice ai2 v.length k2] 68))
  have HF := Lib.hid (sameCommand m ao1 ao2 c1 c2 hm _ (h1.up HB.out HB.out.size) (h2.up HB.out HB.out.size))
  have HV := Lib.hid (fun W (hW : Below w.heap.size w W) => sameI ai1 ai2 k1 k2 v hi W (g1.up hW hW.size) (g2.up hW hW.size))
  clear h1 h2 hm g1 g2 hi
  go_enter Tryd.func28, Tryd.ntmps28
  go_wp2_with (go_at_call 24; refine (HF.out).mono ?_; rintro e w1 ⟨rfl, hb⟩; refine Hid.out ?_)
  obtain ⟨hc, hc2⟩ := two_boxes hb
  have HB1 := Lib.hid (below_step HB.out hb)
  clear hb HF HB
  refine Lib.hid ?_
  go_wp2_with (go_at_call 71; refine (HV.out _ HB1.out).mono ?_; rintro e w2 ⟨rfl, hb⟩)
  go_ret
  exact ⟨rfl, below_step HB1.out hb⟩
end Go.Proofs.YtmocfielcllfmaaDoor
