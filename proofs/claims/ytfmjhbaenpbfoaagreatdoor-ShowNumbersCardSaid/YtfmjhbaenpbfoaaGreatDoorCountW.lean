/- NodesOf; the document's own Deep, Many, Same. -/
import Derived.Test.YtfmjhbaenpbfoaaGreatDoorCountT
namespace Go.Proofs.YtfmjhbaenpbfoaaGreatDoor
open Go.RowKit

theorem KidsAt.len64 {B : Nat} {w : World} {t : T} {ao : Option Addr} {c : Nat} {ps : List (T × Value)} (h : KidsAt B w t ao c ps) : t.kids.length ≤ 9223372036854775807 := by
  have := h.cap
  have := h.top
  unfold maxLen at this
  omega
theorem box_gr (w : World) (o : Obj) : Gr w (w.alloc o) := (Gr.refl w).alloc o
theorem box_cell {w wr : World} {cs : Array Value} {t : TypeId} (h : Gr (w.alloc (.cells cs t)) wr) : ∀ j, wr.cell? ⟨w.heap.size, j, none⟩ = cs[j]? := fun j =>
  Lib.cell_of_heap ((h.below.block w.heap.size (by simp)).trans (heap_alloc_new w _)) j
theorem nodesL_drop (t : T) (m c : Int) (j : Nat) (h : j < t.kids.length) : nodesL (t.kids.drop j) m c = if c ≤ m then nodesL (t.kids.drop (j + 1)) m (c + (t.kids[j]).nodes (m - c)) else c := by
  rw [List.drop_eq_getElem_cons h, nodesL]
theorem nodesL_end (m c : Int) : nodesL [] m c = c := by rw [nodesL]

/-- No text is longer than a machine's. -/
inductive Txt : T → Prop
  | mk (t : T) (h : t.text.size ≤ maxLen) (hp : ∀ k, k ∈ t.kids → Txt k) : Txt t
theorem Txt.size {t : T} (h : Txt t) : t.text.size ≤ maxLen := by cases h; assumption
theorem Txt.kid {t k : T} (h : Txt t) (hk : k ∈ t.kids) : Txt k := by cases h with | mk _ _ hp => exact hp k hk
theorem nodes_top (t : T) (m : Int) : t.nodes m ≤ m + 1 := nodes_le t m

def NodesOK (t : T) : Prop := ∀ (w : World) (v : Value) (m : Int), Lies w.heap.size w t v → Txt t → 0 ≤ m → m ≤ 100000 → Calls Tryz.prog 7 #[agg t v, .int .i64 m] w (fun e w' => e = .returned (.int .i64 (t.nodes m)) ∧ Gr w w')

set_option maxRecDepth 100000 in
set_option maxHeartbeats 2000000 in
theorem nodes_step (t : T) (ih : ∀ k, k ∈ t.kids → NodesOK k) : NodesOK t := by
  intro w v m h1 ht hm0 hm
  have hs0 : 0 ≤ (t.text.size : Int) / 8 ∧ (t.text.size : Int) / 8 ≤ 1152921504606846976 := by
    have h := ht.size
    unfold maxLen at h
    omega
  have HS0 := Lib.hid hs0
  have hw1 : wrap64 ((t.text.size : Int) / 8) = (t.text.size : Int) / 8 := by unfold wrap64; omega
  have hw2 : wrap64 (1 + (t.text.size : Int) / 8) = 1 + (t.text.size : Int) / 8 := by unfold wrap64; omega
  have HX := Lib.hid ht
  obtain ⟨a1, c1, ps1, rfl, k1⟩ := h1.out
  have HA := Lib.hid k1
  have HI := Lib.hid ih
  have hlm := k1.len64
  clear h1 ih k1 ht hs0
  have mixed : Tryz.prog.follows .mixedOrders = true := by kernel_rfl
  have HE := Lib.hid (T.nodes_eq t m)
  unfold agg
  go_enter Tryz.func7, Tryz.ntmps7
  go_wp2_with fail
  go_loopw [5, 6] (fun c i wr => ∃ (j : Nat) (z : Int), j ≤ t.kids.length ∧ i = .int .i64 j ∧ c = .int .i64 z ∧ 0 ≤ z ∧ z ≤ 2000000000000000000 ∧ Hid (nodesL t.kids m (1 + (t.text.size : Int) / 8) = nodesL (t.kids.drop j) m z) ∧ Hid (Gr (w.alloc (.cells #[.int .u8 t.kind, .string t.text, .int .i64 t.num, .int .i64 t.pos, .slice a1 t.kids.length c1] 25)) wr)) (fun _ i _ => t.kids.length - (intOf i).toNat)
  case atStart => exact ⟨0, 1 + (t.text.size : Int) / 8, by omega, rfl, by go_num, by have := HS0.out; omega, by have := HS0.out; omega, rfl, Gr.refl _⟩
  case round =>
    obtain ⟨j, z, hj, rfl, rfl, hz0, hz1, HN, HFr⟩ := hrel
    have b4 : wr.cell? ⟨w.heap.size, 4, none⟩ = some (.slice a1 t.kids.length c1) := box_cell HFr.out 4
    by_cases hlt : j < t.kids.length
    · have hjn : (j : Int) < (t.kids.length : Int) := by omega
      by_cases hzm : z ≤ m
      · have hw : Gr w wr := (box_gr _ _).trans HFr.out
        obtain ⟨sb, off, rfl, hsb, hc⟩ := (HA.out.up hw.below hw.below.size).at (by omega)
        obtain ⟨u1, d0, d1, d2, d3, d4, hL1⟩ := hc j hlt
        have KK : Hid (Calls Tryz.prog 7 #[agg t.kids[j] u1, .int .i64 (m - z)] wr (fun e w' => e = .returned (.int .i64 ((t.kids[j]).nodes (m - z))) ∧ Gr wr w')) := HI.out _ (List.getElem_mem hlt) wr u1 (m - z) hL1 (HX.out.kid (List.getElem_mem hlt)) (by omega) (by omega)
        have HN1 : Hid (nodesL t.kids m (1 + (t.text.size : Int) / 8) = nodesL (t.kids.drop (j + 1)) m (z + (t.kids[j]).nodes (m - z))) := by
          unfold Hid
          rw [HN.out, nodesL_drop t m z j hlt, if_pos hzm]
        have hn1 := nodes_le t.kids[j] (m - z)
        have hn0 := nodes_pos t.kids[j] (m - z) (by omega)
        unfold agg at KK
        have hza := Lib.hid (And.intro hn0 hn1)
        clear hc hL1 HA HI hn0 hn1 hw hw1 hw2
        generalize (t.kids[j]'hlt).kind = tk at d0 KK
        generalize (t.kids[j]'hlt).text = tt at d1 KK
        generalize (t.kids[j]'hlt).num = tn at d2 KK
        generalize (t.kids[j]'hlt).pos = tp at d3 KK
        generalize (t.kids[j]'hlt).nodes (m - z) = y at KK HN1 hza
        have hy1 : 1 ≤ y := hza.out.1
        have hy2 : y ≤ m - z + 1 := hza.out.2
        go_wp2_with (go_at_call 7; go_must (refine (KK.out).mono ?_; rintro e w1 ⟨rfl, hg⟩))
        have HBn := Lib.hid (HFr.out.trans hg)
        clear KK d0 d1 d2 d3 d4 b4 HFr hg
        go_roundw
        case rel => exact ⟨j + 1, z + y, by omega, by go_num, by go_num, by omega, by omega, HN1, HBn⟩
        case measure => simp [intOf]; omega
      · have HR : Hid (t.nodes m = m + 1) := by
          unfold Hid
          have h1 := HN.out
          rw [nodesL_drop t m z j hlt, if_neg hzm] at h1
          rw [HE.out, h1]
          unfold capN
          rw [if_neg hzm]
        clear HE HN hw1 hw2
        go_wp2_with fail
        all_goals
          go_ret
          rw [HR.out]
          exact ⟨by go_num, (box_gr _ _).trans HFr.out⟩
    · obtain rfl : j = t.kids.length := by omega
      have HR : Hid (t.nodes m = capN m z) := by
        unfold Hid
        have h1 := HN.out
        rw [List.drop_length, nodesL_end] at h1
        rw [HE.out, h1]
      clear HE HN hw1 hw2
      have HR2 : Hid (z ≤ m → t.nodes m = z) := fun h => by
        rw [HR.out]
        unfold capN
        rw [if_pos h]
      have HR3 : Hid (m < z → t.nodes m = m + 1) := fun h => by
        rw [HR.out]
        unfold capN
        rw [if_neg (by omega)]
      clear HR
      by_cases hzm : z ≤ m
      · have HQ := Lib.hid (HR2.out hzm)
        go_wp2_with fail
        all_goals
          go_ret
          rw [HQ.out]
          exact ⟨by go_num, (box_gr _ _).trans HFr.out⟩
      · have HQ := Lib.hid (HR3.out (by omega))
        go_wp2_with fail
        all_goals
          go_ret
          rw [HQ.out]
          exact ⟨by go_num, (box_gr _ _).trans HFr.out⟩
theorem nodesOf_any (t : T) : NodesOK t := T.ind nodes_step t
end Go.Proofs.YtfmjhbaenpbfoaaGreatDoor
