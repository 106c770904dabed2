/- The document's own Deep, Many, Same. -/
import Derived.Test.YtfmjhbaenpbfoaaGreatDoorCountW
namespace Go.Proofs.YtfmjhbaenpbfoaaGreatDoor
open Go.RowKit

theorem deepL_drop (t : T) (j : Nat) (h : j < t.kids.length) : deepL (t.kids.drop j) = max (t.kids[j]).deep (deepL (t.kids.drop (j + 1))) := by
  rw [List.drop_eq_getElem_cons h, deepL]
theorem manyL_drop (t : T) (j : Nat) (h : j < t.kids.length) : manyL (t.kids.drop j) = (t.kids[j]).many + manyL (t.kids.drop (j + 1)) := by
  rw [List.drop_eq_getElem_cons h, manyL]
theorem manyL_mem : ∀ (l : List T) (k : T), k ∈ l → k.many ≤ manyL l
  | [], _, h => by cases h
  | q :: l, k, h => by
    rw [manyL]
    rcases List.mem_cons.1 h with rfl | h
    · omega
    · have := manyL_mem l k h
      omega
theorem many_kid {t k : T} (h : k ∈ t.kids) : k.many < t.many := by
  have := manyL_mem t.kids k h
  rw [T.many_eq t]
  omega
theorem deep_le_many (t : T) : t.deep ≤ t.many := by
  induction t using T.ind with
  | h t ih =>
    rw [T.deep_eq, T.many_eq]
    have hgen : ∀ l : List T, (∀ k, k ∈ l → k ∈ t.kids) → deepL l ≤ manyL l := by
      intro l
      induction l with
      | nil => intro _; rw [deepL]; omega
      | cons k l ih2 =>
        intro hl
        rw [deepL, manyL]
        have h1 := ih k (hl k (List.mem_cons_self ..))
        have h2 := ih2 (fun q hq => hl q (List.mem_cons_of_mem _ hq))
        omega
    have := hgen t.kids (fun _ h => h)
    omega
theorem nodes_many (t : T) : ∀ m : Int, t.nodes m ≤ m → (t.many : Int) ≤ t.nodes m := by
  induction t using T.ind with
  | h t ih =>
    intro m h
    rw [T.nodes_eq] at h ⊢
    have hle : nodesL t.kids m (1 + (t.text.size : Int) / 8) ≤ m := by
      unfold capN at h
      split at h
      · assumption
      · omega
    have hgen : ∀ (l : List T), (∀ k, k ∈ l → k ∈ t.kids) → ∀ c : Int, 1 ≤ c → nodesL l m c ≤ m → c + manyL l ≤ nodesL l m c := by
      intro l
      induction l with
      | nil => intro _ c hc h; rw [nodesL, manyL]; simp
      | cons k l ih2 =>
        intro hl c hc h
        rw [nodesL] at h ⊢
        rw [manyL]
        split at h
        · rename_i hcm
          rw [if_pos hcm]
          have hk := nodes_pos k (m - c) (by omega)
          have h1 := ih2 (fun q hq => hl q (List.mem_cons_of_mem _ hq)) _ (by omega) h
          have h3 := ih k (hl k (List.mem_cons_self ..)) (m - c) (by omega)
          omega
        · omega
    have h1 := hgen t.kids (fun _ h => h) _ (by omega) hle
    rw [T.many_eq]
    unfold capN
    rw [if_pos hle]
    omega

def DeepOK (t : T) : Prop := ∀ (w : World) (v : Value), Lies w.heap.size w t v → t.many ≤ 1000000 → Calls Tryz.prog 41 #[agg t v] w (fun e w' => e = .returned (.int .i64 (t.deep : Int)) ∧ Gr w w')

set_option maxRecDepth 100000 in
set_option maxHeartbeats 2000000 in
theorem deep_step (t : T) (ih : ∀ k, k ∈ t.kids → DeepOK k) : DeepOK t := by
  intro w v h1 hm
  obtain ⟨a1, c1, ps1, rfl, k1⟩ := h1.out
  have HA := Lib.hid k1
  have HI := Lib.hid ih
  have hlm := k1.len64
  have HM := Lib.hid hm
  have HE := Lib.hid (T.deep_eq t)
  clear h1 ih k1 hm
  unfold agg
  go_enter Tryz.func41, Tryz.ntmps41
  go_wp2_with fail
  go_loopw [3, 4] (fun c i wr => ∃ (j z : Nat), j ≤ t.kids.length ∧ i = .int .i64 j ∧ c = .int .i64 z ∧ Hid (z ≤ 1000000) ∧ Hid (deepL t.kids = max z (deepL (t.kids.drop j))) ∧ Hid (Gr (w.alloc (.cells #[.int .u8 t.kind, .string t.text, .int .i64 t.num, .int .i64 t.pos, .slice a1 t.kids.length c1] 25)) wr)) (fun _ i _ => t.kids.length - (intOf i).toNat)
  case atStart => exact ⟨0, 0, by omega, rfl, rfl, Nat.zero_le _, by unfold Hid; simp, Gr.refl _⟩
  case round =>
    obtain ⟨j, z, hj, rfl, rfl, HZ, HN, HFr⟩ := hrel
    have b4 : wr.cell? ⟨w.heap.size, 4, none⟩ = some (.slice a1 t.kids.length c1) := box_cell HFr.out 4
    by_cases hlt : j < t.kids.length
    · have hjn : (j : Int) < (t.kids.length : Int) := by omega
      have hw : Gr w wr := (box_gr _ _).trans HFr.out
      obtain ⟨sb, off, rfl, hsb, hc⟩ := (HA.out.up hw.below hw.below.size).at (by omega)
      obtain ⟨u1, d0, d1, d2, d3, d4, hL1⟩ := hc j hlt
      have hmk := many_kid (List.getElem_mem hlt)
      have KK : Hid (Calls Tryz.prog 41 #[agg t.kids[j] u1] wr (fun e w' => e = .returned (.int .i64 ((t.kids[j]).deep : Int)) ∧ Gr wr w')) := HI.out _ (List.getElem_mem hlt) wr u1 hL1 (by have := HM.out; omega)
      have HN1 : Hid (deepL t.kids = max (max z (t.kids[j]).deep) (deepL (t.kids.drop (j + 1)))) := by
        unfold Hid
        rw [HN.out, deepL_drop t j hlt]
        omega
      have HZ1 : Hid (max z (t.kids[j]).deep ≤ 1000000) := by
        unfold Hid
        have := deep_le_many t.kids[j]
        have := HM.out
        have := HZ.out
        omega
      unfold agg at KK
      clear hc hL1 HA HI hw hmk
      generalize (t.kids[j]'hlt).kind = tk at d0 KK
      generalize (t.kids[j]'hlt).text = tt at d1 KK
      generalize (t.kids[j]'hlt).num = tn at d2 KK
      generalize (t.kids[j]'hlt).pos = tp at d3 KK
      generalize (t.kids[j]'hlt).deep = y at KK HN1 HZ1
      go_wp2_with (go_at_call 41; go_must (refine (KK.out).mono ?_; rintro e w1 ⟨rfl, hg⟩; have HBn := Lib.hid (HFr.out.trans hg); clear hg))
      all_goals
        clear KK d0 d1 d2 d3 d4 b4 HFr
        go_roundw
        case rel => exact ⟨j + 1, max z y, by omega, by go_num, by go_num, HZ1, HN1, HBn⟩
        case measure => simp [intOf]; omega
    · obtain rfl : j = t.kids.length := by omega
      have HR : Hid (t.deep = z + 1) := by
        unfold Hid
        have h1 := HN.out
        rw [List.drop_length, deepL] at h1
        rw [HE.out, h1]
        omega
      have hz : z ≤ 1000000 := HZ.out
      clear HE HN
      go_wp2_with fail
      go_ret
      rw [HR.out]
      exact ⟨by go_num, (box_gr _ _).trans HFr.out⟩
theorem refDeep_any (t : T) : DeepOK t := T.ind deep_step t

def ManyOK (t : T) : Prop := ∀ (w : World) (v : Value), Lies w.heap.size w t v → t.many ≤ 1000000 → Calls Tryz.prog 42 #[agg t v] w (fun e w' => e = .returned (.int .i64 (t.many : Int)) ∧ Gr w w')

set_option maxRecDepth 100000 in
set_option maxHeartbeats 2000000 in
theorem many_step (t : T) (ih : ∀ k, k ∈ t.kids → ManyOK k) : ManyOK t := by
  intro w v h1 hm
  obtain ⟨a1, c1, ps1, rfl, k1⟩ := h1.out
  have HA := Lib.hid k1
  have HI := Lib.hid ih
  have hlm := k1.len64
  have HM := Lib.hid hm
  have HE := Lib.hid (T.many_eq t)
  clear h1 ih k1 hm
  unfold agg
  go_enter Tryz.func42, Tryz.ntmps42
  go_wp2_with fail
  go_loopw [3, 4] (fun c i wr => ∃ (j z : Nat), j ≤ t.kids.length ∧ i = .int .i64 j ∧ c = .int .i64 z ∧ Hid (1 + manyL t.kids = z + manyL (t.kids.drop j)) ∧ Hid (Gr (w.alloc (.cells #[.int .u8 t.kind, .string t.text, .int .i64 t.num, .int .i64 t.pos, .slice a1 t.kids.length c1] 25)) wr)) (fun _ i _ => t.kids.length - (intOf i).toNat)
  case atStart => exact ⟨0, 1, by omega, rfl, rfl, rfl, Gr.refl _⟩
  case round =>
    obtain ⟨j, z, hj, rfl, rfl, HN, HFr⟩ := hrel
    have b4 : wr.cell? ⟨w.heap.size, 4, none⟩ = some (.slice a1 t.kids.length c1) := box_cell HFr.out 4
    by_cases hlt : j < t.kids.length
    · have hjn : (j : Int) < (t.kids.length : Int) := by omega
      have hw : Gr w wr := (box_gr _ _).trans HFr.out
      obtain ⟨sb, off, rfl, hsb, hc⟩ := (HA.out.up hw.below hw.below.size).at (by omega)
      obtain ⟨u1, d0, d1, d2, d3, d4, hL1⟩ := hc j hlt
      have hmk := many_kid (List.getElem_mem hlt)
      have KK : Hid (Calls Tryz.prog 42 #[agg t.kids[j] u1] wr (fun e w' => e = .returned (.int .i64 ((t.kids[j]).many : Int)) ∧ Gr wr w')) := HI.out _ (List.getElem_mem hlt) wr u1 hL1 (by have := HM.out; omega)
      have HN1 : Hid (1 + manyL t.kids = (z + (t.kids[j]).many) + manyL (t.kids.drop (j + 1))) := by
        unfold Hid
        rw [HN.out, manyL_drop t j hlt]
        omega
      have hz1 : z + (t.kids[j]).many ≤ 1000000 := by
        have h1 := HN1.out
        have h2 := HE.out
        have h3 := HM.out
        omega
      unfold agg at KK
      clear hc hL1 HA HI hw hmk
      generalize (t.kids[j]'hlt).kind = tk at d0 KK
      generalize (t.kids[j]'hlt).text = tt at d1 KK
      generalize (t.kids[j]'hlt).num = tn at d2 KK
      generalize (t.kids[j]'hlt).pos = tp at d3 KK
      generalize (t.kids[j]'hlt).many = y at KK HN1 hz1
      go_wp2_with (go_at_call 42; go_must (refine (KK.out).mono ?_; rintro e w1 ⟨rfl, hg⟩; have HBn := Lib.hid (HFr.out.trans hg); clear hg))
      all_goals
        clear KK d0 d1 d2 d3 d4 b4 HFr
        go_roundw
        case rel => exact ⟨j + 1, z + y, by omega, by go_num, by go_num, HN1, HBn⟩
        case measure => simp [intOf]; omega
    · obtain rfl : j = t.kids.length := by omega
      have HR : Hid (t.many = z) := by
        unfold Hid
        have h1 := HN.out
        rw [List.drop_length, manyL] at h1
        rw [HE.out, h1]
        omega
      clear HE HN
      go_wp2_with fail
      go_ret
      rw [HR.out]
      exact ⟨by go_num, (box_gr _ _).trans HFr.out⟩
theorem refMany_any (t : T) : ManyOK t := T.ind many_step t

theorem sameL_nil : sameL [] [] = true := by rw [sameL]
theorem sameL_step (t u : T) (j : Nat) (h : j < t.kids.length) (h2 : j < u.kids.length) : sameL (t.kids.drop j) (u.kids.drop j) = ((t.kids[j]).same u.kids[j] && sameL (t.kids.drop (j + 1)) (u.kids.drop (j + 1))) := by
  rw [List.drop_eq_getElem_cons h, List.drop_eq_getElem_cons h2, sameL]
theorem sameL_len : ∀ (l m : List T), l.length ≠ m.length → sameL l m = false
  | [], [], h => absurd rfl h
  | [], _ :: _, _ => by rw [sameL] <;> simp
  | _ :: _, [], _ => by rw [sameL] <;> simp
  | k :: l, k' :: m, h => by
    rw [sameL, sameL_len l m (by simpa using h), Bool.and_false]
end Go.Proofs.YtfmjhbaenpbfoaaGreatDoor
