/- FrameScans. -/
import Derived.Test.YtagjipkoheimjaaGreatDoorRefScan
import Derived.Test.YtagjipkoheimjaaGreatDoorOverB
import Derived.Test.YtagjipkoheimjaaGreatDoorApartF
import Derived.Test.YtagjipkoheimjaaGreatDoorAwake
import Derived.Test.YtagjipkoheimjaaGreatDoorSame
namespace Go.Proofs.YtagjipkoheimjaaGreatDoor
open Go.RowKit

theorem lenF_ge (l : List FR) : l.length * 9 ≤ lenF l := by
  induction l with
  | nil => exact Nat.le_refl _
  | cons f l ih => rw [lenF_cons, List.length_cons]; omega
theorem lenF_mem (l : List FR) : ∀ f, f ∈ l → f.2.length ≤ lenF l := by
  induction l with
  | nil => intro f hf; cases hf
  | cons g l ih =>
    intro f hf
    rw [lenF_cons]
    rcases List.mem_cons.1 hf with rfl | hf
    · omega
    · have := ih f hf
      omega
theorem scan_small (b : List UInt8) : (scanP b).1.length ≤ b.length ∧ ∀ f, f ∈ (scanP b).1 → f.2.length ≤ b.length := by
  obtain ⟨_, h2, h3⟩ := scan_back (b.length + 1) b (Nat.lt_succ_self _)
  have h4 : lenF (scanP b).1 ≤ b.length := by
    unfold lenF
    rw [h3, List.length_take]
    omega
  have h5 := lenF_ge (scanP b).1
  exact ⟨by omega, fun f hf => Nat.le_trans (lenF_mem _ f hf) h4⟩

def hdOf : Value → Hd
  | .slice a n c => (a, n, c)
  | _ => (none, 0, 0)
/-- A row of frames as one of heads. -/
def rfOf (h : Hd) (ps : List (FR × Value)) : RF := (h, ps.map fun p => (p.1.1, hdOf p.2))
theorem RowFr.head {w : World} {base : Nat} {v : Value} {ps : List (FR × Value)} (h : RowFr w base v ps) : ∀ p, p ∈ ps → hv (hdOf p.2) = p.2 ∧ (hdOf p.2).2.1 = p.1.2.length := fun p hp => by
  obtain ⟨a, c, e⟩ := owns_slice (h.data p hp)
  rw [e]
  exact ⟨rfl, rfl⟩
theorem rf_cells : ∀ (ps : List (FR × Value)), (∀ p, p ∈ ps → hv (hdOf p.2) = p.2) → cellsFr ((ps.map fun p => (p.1.1, hdOf p.2)).map fv) = cellsFr ps
  | [], _ => rfl
  | p :: ps, h => by
    have ih := rf_cells ps (fun q hq => h q (List.mem_cons_of_mem _ hq))
    rw [List.map_cons, List.map_cons]
    show Value.int .i64 p.1.1 :: hv (hdOf p.2) :: cellsFr ((ps.map fun p => (p.1.1, hdOf p.2)).map fv) = .int .i64 p.1.1 :: p.2 :: cellsFr ps
    rw [ih, h p (List.mem_cons_self ..)]
theorem data_two (h1 h2 : Hd) (ps qs : List (FR × Value)) : dataR [rfOf h1 ps, rfOf h2 qs] = (ps ++ qs).map fun p => hdOf p.2 := by
  unfold dataR rfOf
  simp only [List.flatMap_cons, List.flatMap_nil, List.append_nil, List.map_map, List.map_append]
  rfl
/-- The data of two rows lie apart. -/
theorem two_data {w : World} {base B1 B2 : Nat} {v1 v2 : Value} {ps qs : List (FR × Value)} (hp : RowFr w B1 v1 ps) (hq : RowFr w B2 v2 qs) (h1 : base ≤ B1) (h2 : base ≤ B2) (M : Nat) (hM : ∀ p, p ∈ ps → ∀ k, p.2.ownBlock = some k → k < M) (hM2 : M ≤ B2) (a1 a2 : Hd) :
    Rows w base 5 1 (dataR [rfOf a1 ps, rfOf a2 qs]) (fun k => ((ps ++ qs).map fun p => bcells p.1.2).getD k []) := by
  rw [data_two]
  have hall : ∀ p, p ∈ ps ++ qs → hv (hdOf p.2) = p.2 ∧ (hdOf p.2).2.1 = p.1.2.length := fun p h => by
    rcases List.mem_append.1 h with h | h
    · exact hp.head p h
    · exact hq.head p h
  have hnd : ((ps ++ qs).filterMap fun p => p.2.ownBlock).Nodup := by
    rw [List.filterMap_append, List.nodup_append]
    refine ⟨hp.apart, hq.apart, fun a ha c hc e => ?_⟩
    subst e
    obtain ⟨p, hp1, hp2⟩ := List.mem_filterMap.1 ha
    obtain ⟨q, hq1, hq2⟩ := List.mem_filterMap.1 hc
    have e1 := hM p hp1 a hp2
    have e2 := ((hq.data q hq1).lt a hq2).1
    omega
  refine ⟨fun k hk => ?_, fun j k hj hk hne b hb1 hb2 => ?_⟩
  · rw [List.length_map] at hk
    have hm := List.getElem_mem hk
    obtain ⟨e1, e2⟩ := hall _ hm
    rw [List.getElem_map]
    show w.ownsRow base 5 1 (hv (hdOf (ps ++ qs)[k].2)) (hdOf (ps ++ qs)[k].2).2.1 _
    rw [e1, e2]
    have e3 : ((ps ++ qs).map fun p => bcells p.1.2).getD k [] = bcells (ps ++ qs)[k].1.2 := by
      rw [List.getD_eq_getElem?_getD, List.getElem?_map, List.getElem?_eq_getElem hk]
      rfl
    rw [e3]
    rcases List.mem_append.1 hm with h | h
    · exact owns_mono (hp.data _ h) h1
    · exact owns_mono (hq.data _ h) h2
  · rw [List.length_map] at hj hk
    rw [List.getElem_map] at hb1 hb2
    rw [(hall _ (List.getElem_mem hj)).1] at hb1
    rw [(hall _ (List.getElem_mem hk)).1] at hb2
    have hpw := List.pairwise_filterMap.1 hnd
    rw [List.pairwise_iff_getElem] at hpw
    rcases Nat.lt_or_gt_of_ne hne with h | h
    · exact hpw j k hj hk h b hb1 b hb2 rfl
    · exact hpw k j hk hj h b hb2 b hb1 rfl
theorem two_heads {w : World} {base e size : Nat} {ao bo : Option Addr} {n c1 c2 M : Nat} {xs ys : List Value} (oa : w.ownsRow base e size (.slice ao n c1) n xs) (ob : w.ownsRow base e size (.slice bo n c2) n ys) (ha : ∀ k, (Value.slice ao n c1).ownBlock = some k → k < M) (hb : ∀ k, (Value.slice bo n c2).ownBlock = some k → M ≤ k) :
    Rows w base e size [(ao, n, c1), (bo, n, c2)] (fun k => if k = 0 then xs else ys) := by
  refine ⟨fun k hk => ?_, fun j k hj hk hne q h1 h2 => ?_⟩
  · match k, hk with
    | 0, _ => exact oa
    | 1, _ => exact ob
  · match j, k, hj, hk with
    | 0, 0, _, _ => exact hne rfl
    | 1, 1, _, _ => exact hne rfl
    | 0, 1, _, _ =>
      have := ha q h1
      have := hb q h2
      omega
    | 1, 0, _, _ =>
      have := ha q h2
      have := hb q h1
      omega
theorem RowFr.grown {base g : Nat} {w w' : World} {v : Value} {ps : List (FR × Value)} (h : RowFr w base v ps) (k : w.grownBy w' (some g)) (hg : g < base) : RowFr w' base v ps := by
  refine ⟨h.row.kept k (Or.inr fun e => ?_), fun p hp => (h.data p hp).kept k (Or.inr fun e => ?_), h.apart⟩
  · have := (h.row.lt g e).1
    omega
  · have := ((h.data p hp).lt g e).1
    omega

theorem own_slFr {w : World} {base n c : Nat} {ao : Option Addr} {ps : List (FR × Value)} (h : w.ownsRow base 44 2 (.slice ao n c) n (cellsFr ps)) : SlG w.heap.size w ao (cellsFr ps) := fun hne => by
  rcases h.2 with ⟨h1, h2⟩ | ⟨g, cap, cur, h1, _, hg, _⟩
  · have h3 := h.1
    rw [h2, Nat.zero_mul] at h3
    exact absurd (List.eq_nil_of_length_eq_zero h3) hne
  · simp only [Value.slice.injEq] at h1
    obtain ⟨rfl, _, rfl⟩ := h1
    refine ⟨g, 0, rfl, lt_of_heap hg, fun j u hu => ?_⟩
    have := h.cells (g := g) rfl j u hu
    rwa [Addr.add_lit, Nat.zero_add, ← Nat.zero_add j] at this

set_option maxRecDepth 100000 in
set_option maxHeartbeats 4000000 in
theorem frameScans_any (ao : Option Addr) (l : List UInt8) (c : Nat) (W : World) (hb : SlG W.heap.size W ao (bcells l)) (hn : ao = none → c = 0) (hlc : l.length ≤ c) (hcm : c ≤ maxLen) :
    Calls Tryz.prog 4 #[.slice ao l.length c] W (YesP W) := by
  by_cases hbig : 20000 < l.length
  · have hd : decide ((20000 : Int) < (l.length : Int)) = true := by simp; omega
    have hd' : decide (20000 < l.length) = true := by simp; omega
    go_enter Tryz.func4, Tryz.ntmps4
    go_wp2_with (go_at_call 7; refine (awake_any _).mono ?_; rintro e w' ⟨rfl, hb⟩)
    go_ret
    exact ⟨rfl, hb⟩
  · have hd : decide ((20000 : Int) < (l.length : Int)) = false := by simp; omega
    have hd' : decide (20000 < l.length) = false := by simp; omega
    have hcm' : c ≤ 9223372036854775807 := by unfold maxLen at hcm; omega
    have HRow := Lib.hid hb
    have HSm : Hid (l.length ≤ 20000) := by unfold Hid; omega
    have HSc : Hid ((scanP l).1.length ≤ 20000 ∧ ∀ f, f ∈ (scanP l).1 → f.2.length ≤ 20000) := ⟨by have := (scan_small l).1; omega, fun f hf => by have := (scan_small l).2 f hf; omega⟩
    have KL := Lib.hid (lentB_any ao c l W (by omega) (hb.slB hn))
    have HKs : Hid (∀ w1, LentAt w1 W.heap.size l → Calls Tryz.prog 16 #[.slice (some ⟨W.heap.size, 0, none⟩) l.length (l.length + 12)] w1 (ScannedP (scanP l) w1)) := fun w1 h => scan_any (some ⟨W.heap.size, 0, none⟩) l (l.length + 12) (by omega) (by omega) (by omega) (by simp) w1 h.slG
    have HKr : Hid (∀ w1, Below W.heap.size W w1 → Calls Tryz.prog 19 #[.slice ao l.length c] w1 (ScannedP (scanP l) w1)) := fun w1 h => refScan_any ao l c (by omega) hlc hcm' hn w1 (HRow.out.up h h.size)
    obtain ⟨⟨F, u, s⟩, hr⟩ : ∃ q, q = scanP l := ⟨_, rfl⟩
    rw [← hr] at HSc HKs HKr
    simp only at HSc
    clear hb hbig hn hlc hcm hcm' hr
    go_enter Tryz.func4, Tryz.ntmps4
    go_wp2_with (go_at_call 15; refine (KL.out).mono ?_; rintro e w1 ⟨rfl, hL, hb⟩; refine Hid.out ?_)
    have HL := Lib.hid hL
    have HB1 := Lib.hid hb
    have K1 := Lib.hid (HKs.out w1 hL)
    clear hL hb KL
    refine Lib.hid ?_
    go_wp2_with (go_at_call 16; go_must (refine (K1.out).mono ?_; rintro e w2 ⟨ao2, c2, ps2, rfl, hp2, hr2, hb⟩; refine Hid.out ?_))
    have HP2 := Lib.hid hp2
    have HR2 := Lib.hid hr2
    have HL2 := Lib.hid (HL.out.below hb)
    have HB2 := Lib.hid (HB1.out.trans (hb.mono HB1.out.size))
    have H12 := Lib.hid hb.size
    have K2 := Lib.hid (HKs.out w2 (HL.out.below hb))
    have HW1 := Lib.hid HB1.out.size
    have HL1s := Lib.hid HL.out.size
    clear hp2 hr2 hb K1 HL HKs
    refine Lib.hid ?_
    go_wp2_with (go_at_call 16; go_must (refine (K2.out).mono ?_; rintro e w3 ⟨ao3, c3, ps3, rfl, hp3, hr3, hb⟩; refine Hid.out ?_))
    have HP3 := Lib.hid hp3
    have HR3 := Lib.hid hr3
    have HR23 := Lib.hid (HR2.out.below hb)
    have HM := Lib.hid HR2.out.lt
    have HM2 := Lib.hid (fun k hk => (HR2.out.row.lt k hk).2)
    have HM3 := Lib.hid (fun k hk => (hr3.row.lt k hk).1)
    have HL3 := Lib.hid (HL2.out.below hb)
    have HB3 := Lib.hid (HB2.out.trans (hb.mono HB2.out.size))
    have K3 := Lib.hid (keptB_any W.heap.size ao c l w3 (by have := HSm.out; omega) (HL2.out.below hb) (HRow.out.up HB3.out HB3.out.size))
    clear hp3 hr3 hb K2 HL2 HR2 HB2 HB1
    refine Lib.hid ?_
    go_wp2_with (go_at_call 17; go_must (refine (K3.out).mono ?_; rintro e w4 ⟨rfl, hb⟩; refine Hid.out ?_))
    have HR34 := Lib.hid (HR3.out.below hb)
    have HR24 := Lib.hid (HR23.out.below hb)
    have HB4 := Lib.hid (HB3.out.trans (hb.mono HB3.out.size))
    have K4 := Lib.hid (overB_any W.heap.size l w4 (by have := HSm.out; omega) (HL3.out.below hb))
    clear hb K3 HL3 HR3 HR23 HB3
    refine Lib.hid ?_
    go_wp2_with (go_at_call 18; go_must (refine (K4.out).mono ?_; rintro e w5 ⟨rfl, hg⟩; refine Hid.out ?_))
    have HB5 := Lib.hid (HB4.out.grown hg HB4.out.size (fun k hk => by cases hk; exact Nat.le_refl _))
    have HR35 := Lib.hid (HR34.out.grown hg (by have := HL1s.out; have := H12.out; omega))
    have HR25 := Lib.hid (HR24.out.grown hg HL1s.out)
    have K5 := Lib.hid (HKr.out w5 HB5.out)
    clear hg K4 HR34 HR24 HB4 HKr
    refine Lib.hid ?_
    go_wp2_with (go_at_call 19; go_must (refine (K5.out).mono ?_; rintro e w6 ⟨ao6, c6, ps6, rfl, hp6, hr6, hb⟩; refine Hid.out ?_))
    have hl2 : ps2.length = F.length := by rw [← HP2.out, List.length_map]
    have hl3 : ps3.length = F.length := by rw [← HP3.out, List.length_map]
    have hl6 : ps6.length = F.length := by rw [← hp6, List.length_map]
    have HR36 := Lib.hid (HR35.out.below hb)
    have HR26 := Lib.hid (HR25.out.below hb)
    have HB6 := Lib.hid (HB5.out.trans (hb.mono HB5.out.size))
    have s2 : SlFr w6.heap.size w6 ao2 F := by
      have h := HR26.out
      rw [← hl2] at h
      have h2 := h.sl
      rwa [HP2.out] at h2
    have s3 : SlFr w6.heap.size w6 ao3 F := by
      have h := HR36.out
      rw [← hl3] at h
      have h2 := h.sl
      rwa [HP3.out] at h2
    have s6 : SlFr w6.heap.size w6 ao6 F := by
      have h := hr6
      rw [← hl6] at h
      have h2 := h.sl
      rwa [hp6] at h2
    have K6 := Lib.hid (sameFrames ao2 ao6 c2 c6 F (by have := HSc.out.1; omega) (fun x hx => by have := HSc.out.2 x hx; omega) w6 s2 s6)
    have K7 : Hid (∀ w7, Below w6.heap.size w6 w7 → Calls Tryz.prog 20 #[.slice ao3 F.length c3, .slice ao6 F.length c6] w7 (YesP w7)) := fun w7 b =>
      sameFrames ao3 ao6 c3 c6 F (by have := HSc.out.1; omega) (fun x hx => by have := HSc.out.2 x hx; omega) w7 (s3.up b b.size) (s6.up b b.size)
    have KA : Hid (∀ w7, Below w6.heap.size w6 w7 → Calls Tryz.prog 21 #[.slice (some ⟨w7.heap.size, 0, none⟩) 2 2] (w7.alloc (.cells #[.slice ao2 F.length c2, .slice ao3 F.length c3] 22)) (fun e w' => e = .returned (.bool true) ∧ Below W.heap.size (w7.alloc (.cells #[.slice ao2 F.length c2, .slice ao3 F.length c3] 22)) w')) := fun w7 h7 => by
      have hbb := h7.trans ((below_own (w := w7) (.cells #[.slice ao2 F.length c2, .slice ao3 F.length c3] 22)).mono h7.size)
      have r2 := HR26.out.below hbb
      have r3 := HR36.out.below hbb
      have hd := two_data r2 r3 HW1.out (Nat.le_trans HW1.out H12.out) w2.heap.size HM.out (Nat.le_refl _) (ao2, F.length, c2) (ao3, F.length, c3)
      have o2 := r2.row
      have o3 := r3.row
      rw [hl2] at o2
      rw [hl3] at o3
      have hh := two_heads (owns_mono o2 HW1.out) (owns_mono o3 (Nat.le_trans HW1.out H12.out)) HM2.out HM3.out
      have hsl2 := own_slFr o2
      have hsl3 := own_slFr o3
      have e2 := rf_cells ps2 (fun p hp => (r2.head p hp).1)
      have e3 := rf_cells ps3 (fun p hp => (r3.head p hp).1)
      refine apartFrames_any W.heap.size (some ⟨w7.heap.size, 0, none⟩) 2 2 [rfOf (ao2, F.length, c2) ps2, rfOf (ao3, F.length, c3) ps3] _ _ _ rfl (Nat.le_trans HB6.out.size hbb.size) hd hh (fun _ => ⟨w7.heap.size, 0, _, (0, 0), rfl, heap_alloc_new w7 _, fun k hk => ?_⟩) (fun r hr => ?_) (by simp) ?_ (fun h hh => ?_) (fun r hr => ?_)
      · match k, hk with
        | 0, _ => rfl
        | 1, _ => rfl
      · simp only [List.mem_cons, List.not_mem_nil, or_false] at hr
        rcases hr with rfl | rfl
        · refine ⟨by unfold rfOf; rw [List.length_map]; exact hl2, ?_⟩
          show SlG _ _ ao2 (cellsFr ((ps2.map fun p => (p.1.1, hdOf p.2)).map fv))
          rw [e2]
          exact hsl2
        · refine ⟨by unfold rfOf; rw [List.length_map]; exact hl3, ?_⟩
          show SlG _ _ ao3 (cellsFr ((ps3.map fun p => (p.1.1, hdOf p.2)).map fv))
          rw [e3]
          exact hsl3
      · rw [data_two, List.length_map, List.length_append, hl2, hl3]
        have := HSc.out.1
        omega
      · rw [data_two] at hh
        obtain ⟨p, hp, rfl⟩ := List.mem_map.1 hh
        rcases List.mem_append.1 hp with h | h
        · rw [(r2.head p h).2]
          have h5 := HSc.out.2 p.1 (by rw [← HP2.out]; exact List.mem_map_of_mem h)
          omega
        · rw [(r3.head p h).2]
          have h5 := HSc.out.2 p.1 (by rw [← HP3.out]; exact List.mem_map_of_mem h)
          omega
      · have h5 := HSc.out.1
        simp only [List.mem_cons, List.not_mem_nil, or_false] at hr
        rcases hr with rfl | rfl <;> (simp only [rfOf]; omega)
    clear hp6 hr6 hb K5 HR35 HR25 HB5 s2 s3 s6 HR36 HR26 hl2 hl3 hl6
    refine Lib.hid ?_
    go_wp2_with (first
      | (go_at_call 20; refine (K6.out).mono ?_; rintro e w7 ⟨rfl, hb⟩; have HB7 := Lib.hid hb; have K77 := Lib.hid (K7.out w7 hb); clear hb K6)
      | (go_at_call 20; refine (K77.out).mono ?_; rintro e w8 ⟨rfl, hb⟩; have HB8 := Lib.hid (below_step HB7.out hb); have KA8 := Lib.hid (KA.out w8 (below_step HB7.out hb)); clear hb)
      | (go_at_call 21; go_must (refine (KA8.out).mono ?_; rintro e w9 ⟨rfl, hb⟩; have HB9 := Lib.hid (((HB6.out.trans (HB8.out.mono HB6.out.size)).trans ((below_own _).mono (Nat.le_trans HB6.out.size HB8.out.size))).trans hb); clear hb))
      | (go_at_call 7; go_must (refine (awake_any _).mono ?_; rintro e w10 ⟨rfl, hb⟩)))
    go_ret
    exact ⟨rfl, HB9.out.trans (hb.mono HB9.out.size)⟩
end Go.Proofs.YtagjipkoheimjaaGreatDoor
