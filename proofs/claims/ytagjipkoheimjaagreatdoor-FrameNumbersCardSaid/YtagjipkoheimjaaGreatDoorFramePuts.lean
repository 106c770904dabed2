/- FramePuts. -/
import Derived.Test.YtagjipkoheimjaaGreatDoorRefPut
import Derived.Test.YtagjipkoheimjaaGreatDoorOverF
import Derived.Test.YtagjipkoheimjaaGreatDoorBag
import Derived.Test.YtagjipkoheimjaaGreatDoorGreatF
namespace Go.Proofs.YtagjipkoheimjaaGreatDoor
open Go.RowKit

theorem lent_slFr {w : World} {g base : Nat} {l : List FR} {ps : List (FR × Nat)} (hr : LentRow w g ps) (hd : LentD w base ps) (hp : ps.map Prod.fst = l) : SlFr w.heap.size w (some ⟨g, 0, none⟩) l := by
  refine ⟨ps.map lv, by rw [List.map_map]; exact hp, fun _ => ⟨g, 0, rfl, hr.size, fun j u hu => ?_⟩, fun p hp' => ?_⟩
  · rw [Nat.zero_add, hr.raw, cellsFr_append, List.getElem?_append_left (List.getElem?_eq_some_iff.1 hu).1]
    exact hu
  · obtain ⟨q, hq, rfl⟩ := List.mem_map.1 hp'
    exact ⟨some ⟨q.2, 0, none⟩, q.1.2.length + 12, rfl, (hd.lent q hq).1.slG, fun h => by cases h⟩
theorem flat_len (l : List FR) : l.length ≤ (l.flatMap frB).length := by
  induction l with
  | nil => exact Nat.le_refl _
  | cons f l ih =>
    rw [List.flatMap_cons, List.length_append, List.length_cons, frB_length]
    omega
theorem putF_len (l : List FR) : (putF l).1.length ≤ (l.flatMap frB).length := by
  induction l with
  | nil => exact Nat.le_refl _
  | cons f l ih =>
    unfold putF
    split
    · exact Nat.zero_le _
    · split
      · exact Nat.zero_le _
      · rw [List.flatMap_cons, List.length_append, List.length_append]
        omega
theorem owns_touch {S : Nat → Prop} {w w' : World} {base e size n : Nat} {v : Value} {xs : List Value} (o : w.ownsRow base e size v n xs) (t : Touch S w w') (hs : ∀ k, v.ownBlock = some k → ¬ S k) : w'.ownsRow base e size v n xs := by
  refine ⟨o.1, ?_⟩
  rcases o.2 with h | ⟨g, cap, cur, h1, hb, hg, r⟩
  · exact Or.inl h
  · refine Or.inr ⟨g, cap, cur, h1, hb, (t.block g (lt_of_heap hg) (hs g (by rw [h1]; rfl))).trans hg, r⟩
theorem two_rows {w : World} {base : Nat} {ao bo : Option Addr} {n c1 c2 M : Nat} {xs : List Value} (oa : w.ownsRow base 5 1 (.slice ao n c1) n xs) (ob : w.ownsRow base 5 1 (.slice bo n c2) n xs) (ha : ∀ k, (Value.slice ao n c1).ownBlock = some k → k < M) (hb : ∀ k, (Value.slice bo n c2).ownBlock = some k → M ≤ k) :
    Rows w base 5 1 [(ao, n, c1), (bo, n, c2)] (fun _ => xs) := by
  refine ⟨fun k hk => ?_, fun j k hj hk hne q h1 h2 => ?_⟩
  · match k, hk with
    | 0, _ => exact oa
    | 1, _ => exact ob
  · match j, k, hj, hk with
    | 0, 0, _, _ => exact hne rfl
    | 1, 1, _, _ => exact hne rfl
    | 0, 1, _, _ =>
      have := ha q h1
      have := hb q h2
      omega
    | 1, 0, _, _ =>
      have := ha q h2
      have := hb q h1
      omega

set_option maxRecDepth 100000 in
set_option maxHeartbeats 4000000 in
theorem framePuts_any (ao : Option Addr) (l : List FR) (c : Nat) (W : World) (hs : SlFr W.heap.size W ao l) (hlm : l.length ≤ maxLen) :
    Calls Tryz.prog 3 #[.slice ao l.length c] W (YesP W) := by
  have hm : l.length ≤ 9223372036854775807 := by unfold maxLen at hlm; omega
  have KG := Lib.hid (great_any ao l c hm W hs)
  by_cases hg : greatF 0 l = true
  · rw [hg] at KG
    clear hs hlm hm hg
    go_enter Tryz.func3, Tryz.ntmps3
    go_wp2_with (first
      | (go_at_call 6; refine (KG.out).mono ?_; rintro e w' ⟨rfl, rfl⟩)
      | (go_at_call 7; refine (awake_any _).mono ?_; rintro e w' ⟨rfl, hb⟩))
    go_ret
    exact ⟨rfl, hb⟩
  · have hgf : greatF 0 l = false := by simpa using hg
    rw [hgf] at KG
    obtain ⟨g1, g2⟩ := greatF_small l 0 hgf
    have hlf : (l.flatMap frB).length ≤ 20000 := by unfold lenF at g1; omega
    have hll : l.length ≤ 20000 := Nat.le_trans (flat_len l) hlf
    have HS := Lib.hid hs
    have H2 := Lib.hid g2
    have HLf := Lib.hid hlf
    have HLl := Lib.hid hll
    have KL := Lib.hid (lentFrames_any ao l c (by omega) (fun f hf => by have := g2 f hf; omega) W hs)
    clear hs hg hgf g1 g2 hlf hll hm hlm
    go_enter Tryz.func3, Tryz.ntmps3
    go_wp2_with (first
      | (go_at_call 6; refine (KG.out).mono ?_; rintro e w' ⟨rfl, rfl⟩)
      | (go_at_call 8; refine (KL.out).mono ?_; rintro e w1 ⟨ps, rfl, hrow, hld, hps, hb⟩; refine Hid.out ?_))
    have HR1 := Lib.hid hrow
    have HD1 := Lib.hid hld
    have HP := Lib.hid hps
    have HB1 := Lib.hid hb
    have hS1 : Hid (∀ j, LentS W.heap.size ps j → W.heap.size ≤ j ∧ j < w1.heap.size) := fun j hj => by
      rcases hj with rfl | ⟨p, hp, rfl⟩
      · exact ⟨Nat.le_refl _, hrow.size⟩
      · have h1 := hld.lent p hp
        exact ⟨by omega, h1.1.size⟩
    have hP := put_any (some ⟨W.heap.size, 0, none⟩) l (l.length + 12) (by have := HLl.out; omega) w1 (lent_slFr hrow hld hps) (by have := HLf.out; omega)
    have hlen := putF_len l
    obtain ⟨⟨D, x⟩, hDx⟩ : ∃ q, q = putF l := ⟨_, rfl⟩
    rw [← hDx] at hP hlen
    have HDx := Lib.hid hDx
    have HDl := Lib.hid hlen
    have KP := Lib.hid hP
    have KP2 : Hid (∀ w2, Below w1.heap.size w1 w2 → Calls Tryz.prog 9 #[.slice (some ⟨W.heap.size, 0, none⟩) l.length (l.length + 12)] w2 (PuttedP (D, x) w2)) := fun w2 h => by
      rw [HDx.out]
      exact put_any (some ⟨W.heap.size, 0, none⟩) l (l.length + 12) (by have := HLl.out; omega) w2 (lent_slFr (HR1.out.keep h) (HD1.out.below h) HP.out) (by have := HLf.out; omega)
    clear hrow hld hps hb hP hlen hDx KG KL
    refine Lib.hid ?_
    go_wp2_with (go_at_call 9; go_must (refine (KP.out).mono ?_; rintro e w2 ⟨ao2, c2, rfl, ho2, hb⟩; refine Hid.out ?_))
    have HO2 := Lib.hid ho2
    have HB2 := Lib.hid hb
    have KQ := Lib.hid (KP2.out w2 hb)
    clear ho2 hb KP KP2
    refine Lib.hid ?_
    go_wp2_with (go_at_call 9; go_must (refine (KQ.out).mono ?_; rintro e w3 ⟨ao3, c3, rfl, ho3, hb⟩; refine Hid.out ?_))
    have HO3 := Lib.hid ho3
    have HB3 := Lib.hid (HB2.out.trans (hb.mono HB2.out.size))
    have HO2' := Lib.hid (owns_below HO2.out hb)
    have HA2 : Hid (∀ k, (Value.slice ao2 D.length c2).ownBlock = some k → w1.heap.size ≤ k ∧ k < w2.heap.size) := HO2.out.lt
    have HA3 : Hid (∀ k, (Value.slice ao3 D.length c3).ownBlock = some k → w2.heap.size ≤ k) := fun k hk => (ho3.lt k hk).1
    have H12 := Lib.hid HB2.out.size
    have HBW3 := Lib.hid (HB1.out.trans (HB3.out.mono HB1.out.size))
    have KK := Lib.hid (keptFrames_any W.heap.size (W.heap.size + 1) ao c l ps HP.out (by have := HLl.out; omega) (fun f hf => by have := H2.out f hf; omega) w3 (HR1.out.keep HB3.out) (HD1.out.below HB3.out) (HS.out.up HBW3.out HBW3.out.size))
    clear ho3 hb HO2 HB2 KQ
    refine Lib.hid ?_
    go_wp2_with (go_at_call 10; go_must (refine (KK.out).mono ?_; rintro e w4 ⟨rfl, hb⟩; refine Hid.out ?_))
    have HB4 := Lib.hid (HB3.out.trans (hb.mono HB3.out.size))
    have HO24 := Lib.hid (owns_below HO2'.out hb)
    have HO34 := Lib.hid (owns_below HO3.out hb)
    have HBW4 := Lib.hid (HBW3.out.trans (hb.mono HBW3.out.size))
    have KO := Lib.hid (overFrames_any W.heap.size l ps HP.out (by have := HLl.out; omega) (fun f hf => by have := H2.out f hf; omega) w4 (HR1.out.keep HB4.out) (HD1.out.below HB4.out))
    clear hb HO2' HO3 HB3 HBW3 KK
    refine Lib.hid ?_
    go_wp2_with (go_at_call 11; go_must (refine (KO.out).mono ?_; rintro e w5 ⟨rfl, ht⟩; refine Hid.out ?_))
    have hbt : Below W.heap.size w4 w5 := ht.below HBW4.out.size (fun j hj => (hS1.out j hj).1)
    have HBW5 := Lib.hid (HBW4.out.trans hbt)
    have HO25 := Lib.hid (owns_touch HO24.out ht (fun k hk hS => by
      have h1 := (HA2.out k hk).1
      have h2 := (hS1.out k hS).2
      omega))
    have HO35 := Lib.hid (owns_touch HO34.out ht (fun k hk hS => by
      have h1 := HA3.out k hk
      have h2 := (hS1.out k hS).2
      have h3 := H12.out
      omega))
    have hR := refPut_any ao l c (by have := HLl.out; omega) w5 (HS.out.up HBW5.out HBW5.out.size) (by have := HLf.out; omega)
    rw [← HDx.out] at hR
    have KR := Lib.hid hR
    clear ht hbt hR HO24 HO34 HB4 HBW4 KO HR1 HD1 HP hS1
    refine Lib.hid ?_
    go_wp2_with (go_at_call 12; go_must (refine (KR.out).mono ?_; rintro e w6 ⟨ao6, c6, rfl, ho6, hb⟩; refine Hid.out ?_))
    have HBW6 := Lib.hid (HBW5.out.trans (hb.mono HBW5.out.size))
    have HO26 := Lib.hid (owns_below HO25.out hb)
    have HO36 := Lib.hid (owns_below HO35.out hb)
    have KS := Lib.hid (sameB ao2 ao6 c2 c6 D (by have := HDl.out; have := HLf.out; omega) w6 (owns_slB HO26.out) (owns_slB ho6))
    clear ho6 hb HO25 HO35 HBW5 KR
    have KA : Hid (∀ w7, Below w6.heap.size w6 w7 → Calls Tryz.prog 14 #[.slice (some ⟨w7.heap.size, 0, none⟩) 2 2] (w7.alloc (.cells #[.slice ao2 D.length c2, .slice ao3 D.length c3] 26)) (fun e w' => e = .returned (.bool true) ∧ Below W.heap.size (w7.alloc (.cells #[.slice ao2 D.length c2, .slice ao3 D.length c3] 26)) w')) := fun w7 h7 => by
      have hbb := h7.trans ((below_own (w := w7) (.cells #[.slice ao2 D.length c2, .slice ao3 D.length c3] 26)).mono h7.size)
      have o2 := owns_mono (owns_below HO26.out hbb) HB1.out.size
      have o3 := owns_mono (owns_below HO36.out hbb) (Nat.le_trans HB1.out.size H12.out)
      refine apartBytes_any W.heap.size (some ⟨w7.heap.size, 0, none⟩) 2 2 [(ao2, D.length, c2), (ao3, D.length, c3)] (fun _ => bcells D) _ rfl (Nat.le_trans HBW6.out.size hbb.size) (two_rows o2 o3 (fun k hk => (HA2.out k hk).2) HA3.out) (fun _ => ⟨w7.heap.size, 0, _, (0, 0), rfl, heap_alloc_new w7 _, fun k hk => ?_⟩) (by simp) (fun h hh => ?_)
      · match k, hk with
        | 0, _ => rfl
        | 1, _ => rfl
      · have h1 := HDl.out
        have h2 := HLf.out
        simp only [List.mem_cons, List.not_mem_nil, or_false] at hh
        rcases hh with rfl | rfl <;> (simp only; omega)
    refine Lib.hid ?_
    go_wp2_with (first
      | (go_at_call 13; go_must (refine (KS.out).mono ?_; rintro e w7 ⟨rfl, hb⟩; have HB7 := Lib.hid hb; have KA7 := Lib.hid (KA.out w7 hb); clear hb))
      | (go_at_call 14; go_must (refine (KA7.out).mono ?_; rintro e w8 ⟨rfl, hb⟩; have HB8 := Lib.hid (((HBW6.out.trans (HB7.out.mono HBW6.out.size)).trans ((below_own _).mono (Nat.le_trans HBW6.out.size HB7.out.size))).trans hb); clear hb))
      | (go_at_call 7; go_must (refine (awake_any _).mono ?_; rintro e w9 ⟨rfl, hb⟩)))
    go_ret
    exact ⟨rfl, HB8.out.trans (hb.mono HB8.out.size)⟩
end Go.Proofs.YtagjipkoheimjaaGreatDoor
