/- The document's all: kids of some kinds, and right. -/
import Derived.Test.YtfmjhbaenpbfoaaGreatDoorNodeP
namespace Go.Proofs.YtfmjhbaenpbfoaaGreatDoor
open Go.RowKit

theorem Small.size {M : Int} {t : T} (h : Small M t) : (t.text.size : Int) ≤ 8 * M + 8 := by cases h; assumption
theorem Small.kid {M : Int} {t k : T} (h : Small M t) (hk : k ∈ t.kids) : Small M k := by cases h with | mk _ _ _ hp => exact hp k hk
theorem Small.len {M : Int} {t : T} (h : Small M t) : (t.kids.length : Int) ≤ M := by cases h; assumption

/-- node tells of a tree whether it is right. -/
def NodeOK (t : T) : Prop := ∀ (w : World) (v : Value), Lies w.heap.size w t v → Small 9000 t → Calls Tryz.prog 71 #[agg t v] w (fun e w' => e = .returned (.bool t.right) ∧ Gr w w')

/-- Kinds that lie in a row. -/
def kindVs (ks : List Int) : List Value := ks.map (Value.int .u8 ·)
theorem part_step (l : List T) (i m : Nat) (h : i < m) (hm : m ≤ l.length) : (l.take m).drop i = l[i]'(by omega) :: (l.take m).drop (i + 1) := by
  rw [List.drop_eq_getElem_cons (by rw [List.length_take]; omega), List.getElem_take]
theorem among_step (ks : List Int) (k : Int) (j : Nat) (h : j < ks.length) : among (ks.take (j + 1)) k = (among (ks.take j) k || k == ks[j]) := by
  unfold among
  rw [List.take_add_one, List.getElem?_eq_getElem h, List.any_append]
  simp

set_option maxRecDepth 100000 in
set_option maxHeartbeats 4000000 in
theorem refAll_of (t : T) (ih : ∀ k, k ∈ t.kids → NodeOK k) (hS : Small 9000 t) (w : World) (a : Option Addr) (c : Nat) (ps : List (T × Value)) (hk : KidsAt w.heap.size w t a c ps) (i0 m : Nat) (h0 : i0 ≤ m) (hm : m ≤ t.kids.length)
    (ks : List Int) (kb nk ck : Nat) (hnk : nk = ks.length) (hn8 : nk ≤ 100) (hkb : kb < w.heap.size) (hks : ∀ (j : Nat) (u : Value), (kindVs ks)[j]? = some u → w.cell? ⟨kb, j, none⟩ = some u) :
    Calls Tryz.prog 40 #[.slice a t.kids.length c, .int .i64 i0, .int .i64 m, .slice (some ⟨kb, 0, none⟩) nk ck] w (fun e w' => e = .returned (.bool (allK ks ((t.kids.take m).drop i0))) ∧ Gr w w') := by
  have HA := Lib.hid hk
  have HI := Lib.hid ih
  have HSm := Lib.hid hS
  have HKs := Lib.hid hks
  have HNk := Lib.hid hnk
  have hlm := hk.len64
  have mixed : Tryz.prog.follows .mixedOrders = true := by kernel_rfl
  clear hk ih hS hks hnk
  go_enter Tryz.func40, Tryz.ntmps40
  go_wp2_with fail
  go_loopw [9] (fun i wr => ∃ j : Nat, j ≤ m ∧ i = .int .i64 j ∧ Hid (allK ks ((t.kids.take m).drop i0) = allK ks ((t.kids.take m).drop j)) ∧ Hid (Gr w wr)) (fun i _ => m - (intOf i).toNat)
  case atStart => exact ⟨i0, h0, rfl, rfl, Gr.refl _⟩
  case round =>
    obtain ⟨j, hj, rfl, HN, HFr⟩ := hrel
    by_cases hlt : j < m
    · have hjm : (j : Int) < (m : Int) := by omega
      have hjl : j < t.kids.length := by omega
      have hjn : (j : Int) < (t.kids.length : Int) := by omega
      obtain ⟨sb, off, rfl, hsb, hc⟩ := (HA.out.up HFr.out.below HFr.out.below.size).at (by omega)
      obtain ⟨u1, d0, d1, d2, d3, d4, hL1⟩ := hc j hjl
      have HN1 : Hid (allK ks ((t.kids.take m).drop i0) = (among ks (t.kids[j]).kind && (t.kids[j]).right && allK ks ((t.kids.take m).drop (j + 1)))) := by
        unfold Hid
        rw [HN.out, part_step t.kids j m hlt hm, allK_cons]
      have KK : Hid (∀ W, Gr wr W → Calls Tryz.prog 71 #[agg t.kids[j] u1] W (fun e w' => e = .returned (.bool (t.kids[j]).right) ∧ Gr W w')) := fun W hW => HI.out _ (List.getElem_mem hjl) W u1 (hL1.up hW.below hW.below.size) (HSm.out.kid (List.getElem_mem hjl))
      unfold agg at KK
      clear hc hL1 HN
      generalize (t.kids[j]'hjl).right = y at KK HN1
      generalize (t.kids[j]'hjl).kind = tk at d0 KK HN1
      generalize (t.kids[j]'hjl).text = tt at d1 KK
      generalize (t.kids[j]'hjl).num = tn at d2 KK
      generalize (t.kids[j]'hjl).pos = tp at d3 KK
      obtain ⟨V, rfl⟩ : ∃ V, V = wr := ⟨wr, rfl⟩
      go_wp2_with fail
      go_loopw [10, 11] (fun ok i wr2 => ∃ q : Nat, q ≤ nk ∧ i = .int .i64 q ∧ ok = .bool (among (ks.take q) tk) ∧ Hid (Gr V wr2)) (fun _ i _ => nk - (intOf i).toNat)
      case atStart => exact ⟨0, by omega, rfl, rfl, Gr.refl _⟩
      case round =>
        obtain ⟨q, hq, rfl, rfl, HG⟩ := hrel
        have D0 := ((bcell HG.out.below).1 sb _ hsb).trans d0
        have D1 := ((bcell HG.out.below).1 sb _ hsb).trans d1
        have D2 := ((bcell HG.out.below).1 sb _ hsb).trans d2
        have D3 := ((bcell HG.out.below).1 sb _ hsb).trans d3
        have D4 := ((bcell HG.out.below).1 sb _ hsb).trans d4
        have hkb' : kb < V.heap.size := Nat.lt_of_lt_of_le hkb HFr.out.below.size
        clear d0 d1 d2 d3 d4
        by_cases hqn : q < nk
        · have hqi : (q : Int) < (nk : Int) := by omega
          have hql : q < ks.length := by have := HNk.out; omega
          have e0 : wr.cell? ⟨kb, q, none⟩ = some (.int .u8 ks[q]) := ((bcell HG.out.below).1 kb _ hkb').trans ((HFr.out.below.cell (p := ⟨kb, q, none⟩) hkb).trans (HKs.out q _ (by unfold kindVs; rw [List.getElem?_map, List.getElem?_eq_getElem hql]; rfl)))
          have HS1 := Lib.hid (among_step ks tk q hql)
          generalize ks[q] = kq at e0 HS1
          cases hb : among (ks.take q) tk with
          | true =>
            rw [hb, Bool.true_or] at HS1
            go_wp2_with fail
            go_quiet (fail)
            go_wp2
            have HG2 := Lib.hid (HG.out.drewN nq)
            go_roundw
            case rel => exact ⟨q + 1, by omega, by go_num, by rw [HS1.out], HG2⟩
            case measure => simp [intOf]; omega
          | false =>
            rw [hb, Bool.false_or] at HS1
            go_wp2_with fail
            go_quiet (fail)
            go_wp2
            have HG2 := Lib.hid (HG.out.drewN nq)
            go_roundw
            case rel => exact ⟨q + 1, by omega, by go_num, by rw [HS1.out], HG2⟩
            case measure => simp [intOf]; omega
        · obtain rfl : q = nk := by omega
          have hall : among (ks.take q) tk = among ks tk := by rw [HNk.out, List.take_length]
          rw [hall]
          cases hb : among ks tk with
          | false =>
            have HR : Hid (allK ks ((t.kids.take m).drop i0) = false) := by
              unfold Hid
              rw [HN1.out, hb, Bool.false_and, Bool.false_and]
            clear hall KK HN1 hb
            go_wp2_with fail
            go_ret
            rw [HR.out]
            exact ⟨rfl, HFr.out.trans HG.out⟩
          | true =>
            rw [hb, Bool.true_and] at HN1
            clear hall hb
            have KW := Lib.hid (fun W (h : Gr wr W) => KK.out W (HG.out.trans h))
            clear KK
            cases y with
            | true =>
              have HN2 : Hid (allK ks ((t.kids.take m).drop i0) = allK ks ((t.kids.take m).drop (j + 1))) := by
                unfold Hid
                rw [HN1.out, Bool.true_and]
              go_wp2_with (go_at_call 71; go_must (refine (KW.out _ (Gr.refl _)).mono ?_; rintro e w1 ⟨rfl, hg⟩; have HB1 := Lib.hid (HFr.out.trans (HG.out.trans hg)); clear hg))
              clear KW D0 D1 D2 D3 D4 HN1
              go_roundw
              case rel => exact ⟨j + 1, by omega, by go_num, HN2, HB1⟩
              case measure => simp [intOf]; omega
            | false =>
              have HR : Hid (allK ks ((t.kids.take m).drop i0) = false) := by
                unfold Hid
                rw [HN1.out, Bool.false_and]
              go_wp2_with (go_at_call 71; go_must (refine (KW.out _ (Gr.refl _)).mono ?_; rintro e w1 ⟨rfl, hg⟩; have HB1 := Lib.hid (HFr.out.trans (HG.out.trans hg)); clear hg))
              go_ret
              rw [HR.out]
              exact ⟨rfl, HB1.out⟩
    · obtain rfl : j = m := by omega
      have HR : Hid (allK ks ((t.kids.take j).drop i0) = true) := by
        unfold Hid
        rw [HN.out, List.drop_of_length_le (by rw [List.length_take]; omega), allK_nil]
      clear HN
      go_wp2_with fail
      go_ret
      rw [HR.out]
      exact ⟨rfl, HFr.out⟩
end Go.Proofs.YtfmjhbaenpbfoaaGreatDoor
