/- order.row, its first loop: the matches of what was set, unless one's rule is none. -/
import Derived.Test.YtlkmabnjmklkpaaDoorPMap14
import Derived.Test.YtlkmabnjmklkpaaDoorCaps14
namespace Go.Proofs.YtlkmabnjmklkpaaDoor
open Go.RowKit

/-- A match of the program's in rows of its own. -/
structure MvO (base : Nat) (w : World) (p : MV) : Prop where
  ids : w.ownsRow base 3 1 (.slice p.2.1.1 p.1.2.length p.2.1.2) p.1.2.length (icells p.1.2)
  srt : w.ownsRow base 3 1 (.slice p.2.2.1 p.1.2.length p.2.2.2) p.1.2.length (icells (falling14 p.1.2))
theorem MvO.below {base : Nat} {w w' : World} {p : MV} (h : MvO base w p) (b : Below w.heap.size w w') : MvO base w' p := ⟨owns_below h.ids b, owns_below h.srt b⟩
theorem MvO.far {base e' : Nat} {w w' : World} {p : MV} {row : Option Nat} (h : MvO base w p) (he : 3 ≠ e') (g : w.grownBy w' row) (hr : ∀ k, row = some k → ∃ cs fz, w.heap[k]? = some (.cells cs e' fz)) : MvO base w' p := ⟨owns_far h.ids he g hr, owns_far h.srt he g hr⟩
theorem MvO.mono {base base' : Nat} {w : World} {p : MV} (h : MvO base w p) (hb : base' ≤ base) : MvO base' w p := ⟨owns_mono h.ids hb, owns_mono h.srt hb⟩
theorem owns_slS {w : World} {base e size n c : Nat} {ao : Option Addr} {cs : List Value} (h : w.ownsRow base e size (.slice ao n c) n cs) {S : Nat → Prop} (hS : ∀ k, base ≤ k → k < w.heap.size → (∃ cur fz, w.heap[k]? = some (.cells cur e fz)) → S k) : SlS S w ao cs := fun hne => by
  rcases h.2 with ⟨h1, h2⟩ | ⟨g, cap, cur, h1, hb, hg, _⟩
  · have h3 := h.1
    rw [h2, Nat.zero_mul] at h3
    exact absurd (List.eq_nil_of_length_eq_zero h3) hne
  · simp only [Value.slice.injEq] at h1
    obtain ⟨rfl, _, rfl⟩ := h1
    refine ⟨g, 0, rfl, hS g hb (lt_of_heap hg) ⟨_, _, hg⟩, lt_of_heap hg, fun j u hu => ?_⟩
    rw [Nat.zero_add]
    have := h.cells (g := g) rfl j u hu
    rwa [Addr.add_lit, Nat.zero_add] at this
theorem MvO.mvS {base : Nat} {w : World} {p : MV} (h : MvO base w p) {S : Nat → Prop} (hS : ∀ k, base ≤ k → k < w.heap.size → (∃ cur fz, w.heap[k]? = some (.cells cur 3 fz)) → S k) : MvS S w p :=
  ⟨owns_slS h.ids hS, owns_slS h.srt hS, (owns_cap h.ids).2, (owns_cap h.ids).1⟩

/-- What matchOf told, as one of the program's. -/
theorem MatP.mvO {t : TK} {w : World} {e : Ending} {w' : World} (h : MatP t w e w') : ∃ p : MV, p.1 = t ∧ e = .returned (mval p) ∧ MvO w.heap.size w' p ∧ Below w.heap.size w w' := by
  obtain ⟨v, u, rfl, h1, h2, hb⟩ := h
  obtain ⟨a, c, rfl⟩ := owns_slice h1
  obtain ⟨d, e, rfl⟩ := owns_slice h2
  exact ⟨(t, (a, c), (d, e)), rfl, rfl, ⟨h1, h2⟩, hb⟩

theorem row_of_srt (s : List Int) : ∀ (l : List MV), Srt14 s l → (∀ k, (h : k + 1 < l.length) → (l[k]).1 ≠ (l[k + 1]).1) → Row14 s (l.map Prod.fst)
  | [], _, _ => List.Pairwise.nil
  | [x], _, _ => by simp [Row14]
  | x :: y :: r, hs, hk => by
    have h1 := List.pairwise_cons.1 hs
    have hxy : better14 s x.1 y.1 = true := by
      have hne : x.1 ≠ y.1 := hk 0 (by simp)
      have := better_tot s _ _ hne
      rw [h1.1 y (by simp)] at this
      simpa using this
    have ih := row_of_srt s (y :: r) h1.2 (fun k h => hk (k + 1) (by simpa using h))
    refine List.pairwise_cons.2 ⟨fun z hz => ?_, ih⟩
    rw [List.map_cons] at hz
    rcases List.mem_cons.1 hz with rfl | hz
    · exact hxy
    · have := (List.pairwise_cons.1 (show List.Pairwise _ (y.1 :: r.map Prod.fst) from ih)).1 z hz
      exact better_trans s _ _ _ hxy this

theorem infoM14 : (Tryd.prog.info? 59).map (fun i => (i.zero, i.size, i.bytes)) = some (some (.agg #[.int .i64 0, .slice none 0 0, .slice none 0 0]), 3, 56) := by kernel_rfl
def RowP (s : List Int) (l2 : List TK) (w : World) (e : Ending) (w' : World) : Prop :=
  Below w.heap.size w w' ∧ ((SetOk s l2 ∧ ∃ (qs : List MV) (v : Value), e = .returned (.tuple #[v, .bool true]) ∧ w'.ownsRow w.heap.size 59 3 v qs.length (mcells qs) ∧ (qs.map Prod.fst).Perm l2 ∧ Row14 s (qs.map Prod.fst) ∧ ∀ q, q ∈ qs → MvO w.heap.size w' q) ∨ (¬ SetOk s l2 ∧ e = .returned (.tuple #[.slice none 0 0, .bool false])))

set_option maxRecDepth 100000 in
set_option maxHeartbeats 4000000 in
theorem row_any (N : Nat) (hN : SortsM N) (hNN : N ≤ 1000000) (s : List Int) (so ao : Option Addr) (sc c : Nat) (l2 : List TK) (w : World) (hs : SlG w.heap.size w so (icells s)) (hl : SlTkC w.heap.size w ao l2) (h2 : l2.length ≤ N) (h3 : ∀ t, t ∈ l2 → t.2.length ≤ 1000000) :
    Calls Tryd.prog 20 #[aggO so s.length sc, .slice ao l2.length c] w (RowP s l2 w) := by
  obtain ⟨i0, hi0, hz0, hz1, hz2⟩ := info_parts infoM14
  have mixed : Tryd.prog.follows .mixedOrders = true := by kernel_rfl
  have HS := Lib.hid hs
  have HL := Lib.hid hl
  have HN := Lib.hid hN
  have H3 := Lib.hid h3
  have HB0 := Lib.hid (below_own (w := w) (.cells #[.slice so s.length sc] 53))
  have HQ0 : Hid ((w.alloc (.cells #[.slice so s.length sc] 53)).heap[w.heap.size]? = some (.cells #[.slice so s.length sc] 53 (0, 0))) := heap_alloc_new w _
  clear hs hl hN h3
  go_enter Tryd.func20, Tryd.ntmps20
  go_wp2_with fail
  go_loopw [4, 11] (fun v i wr => ∃ (j : Nat) (ps : List MV), j ≤ l2.length ∧ i = .int .i64 j ∧ Hid (ps.map Prod.fst = l2.take j) ∧ Hid (∀ t, t ∈ l2.take j → 0 ≤ t.1 ∧ t.1 < s.length) ∧ Hid (wr.heap[w.heap.size]? = some (.cells #[.slice so s.length sc] 53 (0, 0))) ∧ Hid (wr.ownsRow w.heap.size 59 3 v j (mcells ps)) ∧ Hid (∀ p, p ∈ ps → MvO w.heap.size wr p) ∧ Hid (Below w.heap.size w wr)) (fun _ i _ => l2.length - (intOf i).toNat)
  case atStart => exact ⟨0, [], by omega, rfl, rfl, (fun t ht => by simp at ht), HQ0, World.ownsRow_nil _ _ _ _, (fun p hp => by cases hp), HB0⟩
  case round =>
    obtain ⟨j, ps, hj, rfl, HP, HR, HQ, HO, HM, HB⟩ := hrel
    clear HQ0 HB0
    by_cases hlt : j < l2.length
    · obtain ⟨sb, off, rfl, hsb, hat⟩ := (HL.out.below HB.out).at (by omega)
      obtain ⟨a1, c1, d0, d1, hsl, hn1, hc1⟩ := hat j hlt
      have hji : (j : Int) < (l2.length : Int) := by omega
      have HTk : Hid (l2.take (j + 1) = l2.take j ++ [l2[j]]) := by rw [Hid, List.take_add_one, List.getElem?_eq_getElem hlt]; rfl
      have HMem : Hid (l2[j] ∈ l2) := List.getElem_mem hlt
      have hl3 := H3.out l2[j] HMem.out
      have HSl := Lib.hid hsl
      have HNc := Lib.hid (And.intro hn1 hc1)
      clear hat hsl hn1 hc1
      generalize l2[j] = t at d0 d1 HTk HMem hl3 HSl HNc
      obtain ⟨k, ids⟩ := t
      simp only at d0 d1 hl3 HSl HNc
      have hbz := HB.out.size
      have c0' : ∀ o, (wr.alloc o).cell? ⟨w.heap.size, 0, none⟩ = some (.slice so s.length sc) := fun o => ((below_own o).cell (p := ⟨w.heap.size, 0, none⟩) (lt_of_heap HQ.out)).trans (Lib.cell_of_heap HQ.out 0)
      have HB1 := Lib.hid (HB.out.alloc HB.out.size (.cells #[.int .i64 k, .slice a1 ids.length c1] 24))
      have KH := Lib.hid (has_any s.length sc so k (wr.alloc (.cells #[.int .i64 k, .slice a1 ids.length c1] 24)))
      have HQ1 : Hid ((wr.alloc (.cells #[.int .i64 k, .slice a1 ids.length c1] 24)).heap[wr.heap.size]? = some (.cells #[.int .i64 k, .slice a1 ids.length c1] 24 (0, 0))) := heap_alloc_new wr _
      by_cases hr : 0 ≤ k ∧ k < s.length
      · have hk := KH.out
        rw [decide_eq_true hr] at hk
        have KH' := Lib.hid hk
        clear hk KH
        go_wp2_with (go_at_call 31; refine KH'.out.mono ?_; rintro e w1 ⟨rfl, hg⟩; have HG1 := Lib.hid hg.below; clear hg; refine Hid.out ?_)
        refine Lib.hid ?_
        have q1 := (HG1.out.block _ (lt_of_heap HQ1.out)).trans HQ1.out
        have e0 : w1.cell? ⟨wr.heap.size, 0, none⟩ = some (.int .i64 k) := Lib.cell_of_heap q1 0
        have e1 : w1.cell? ⟨wr.heap.size, 1, none⟩ = some (.slice a1 ids.length c1) := Lib.cell_of_heap q1 1
        have HW1 : Hid (Below wr.heap.size wr w1) := (below_own _).trans (HG1.out.mono (by simp))
        have KM := Lib.hid (matchOf_any (k, ids) a1 c1 w1 (HSl.out.up (HW1.out.mono hbz) (Nat.le_trans hbz HW1.out.size)) HNc.out.1 HNc.out.2 hl3)
        clear q1 KH' HG1 HQ1 c0' d0 d1 HB1
        go_wp2_with (go_at_call 24; refine KM.out.mono ?_; intro e w2 hm; obtain ⟨p, hp, rfl, hpo, hb2⟩ := hm.mvO; have HPo := Lib.hid hpo; have HP1 := Lib.hid hp; have HB2 := Lib.hid hb2; clear hm hp hpo hb2; refine Hid.out ?_)
        refine Lib.hid ?_
        obtain ⟨ov, oc, rfl⟩ := owns_slice HO.out
        have HW2 : Hid (Below wr.heap.size wr w2) := HW1.out.trans (HB2.out.mono HW1.out.size)
        have HO2 := Lib.hid (owns_below HO.out HW2.out)
        have HNx : Hid (∀ W9, (w2.alloc (.cells #[.int .i64 p.1.1, .slice p.2.1.1 p.1.2.length p.2.1.2, .slice p.2.2.1 p.1.2.length p.2.2.2] 59)).grownBy W9 (Value.slice ov j oc).ownBlock → W9.heap[w.heap.size]? = some (.cells #[.slice so s.length sc] 53 (0, 0)) ∧ Below w.heap.size w W9 ∧ ∀ q, q ∈ ps ++ [p] → MvO w.heap.size W9 q) := fun W9 h9 => by
          have b2 : Below wr.heap.size wr (w2.alloc (.cells #[.int .i64 p.1.1, .slice p.2.1.1 p.1.2.length p.2.1.2, .slice p.2.2.1 p.1.2.length p.2.2.2] 59)) := below_new HW2.out _
          have a1 := (b2.block _ (lt_of_heap HQ.out)).trans HQ.out
          have o8 := owns_below HO.out b2
          have hbb : Below w.heap.size w (w2.alloc (.cells #[.int .i64 p.1.1, .slice p.2.1.1 p.1.2.length p.2.1.2, .slice p.2.2.1 p.1.2.length p.2.2.2] 59)) := HB.out.trans (b2.mono hbz)
          refine ⟨(h9.block _ (lt_of_heap a1) (fun e => ne_own o8 a1 (by decide) e.symm)).trans a1, hbb.grown h9 hbb.size (fun q hq => (o8.lt q hq).1), fun q hq => ?_⟩
          have hq2 : MvO w.heap.size (w2.alloc (.cells #[.int .i64 p.1.1, .slice p.2.1.1 p.1.2.length p.2.1.2, .slice p.2.2.1 p.1.2.length p.2.2.2] 59)) q := by
            rcases List.mem_append.1 hq with hq | hq
            · exact (HM.out q hq).below b2
            · obtain rfl := List.mem_singleton.1 hq
              exact (HPo.out.mono (Nat.le_trans hbz HW1.out.size)).below (below_own _)
          exact hq2.far (by decide) h9 (owns_tag o8)
        have hsz2 : w.heap.size ≤ w2.heap.size := Nat.le_trans hbz HW2.out.size
        go_wp2_with (at_builtin; refine wpList_append_own _ rfl _ _ 54 rfl w.heap.size 59 i0 (.agg #[.int .i64 0, .slice none 0 0, .slice none 0 0]) 3 56 Tryd.underlying54 hi0 hz0 hz1 hz2 rfl (by decide) _ j _ rfl (World.ownsRow.alloc HO2.out _) ⟨w2.heap.size, 0, none⟩ 1 1 [.int .i64 p.1.1, .slice p.2.1.1 p.1.2.length p.2.1.2, .slice p.2.2.1 p.1.2.length p.2.2.2] rfl rfl (fun q u hu => by rw [Addr.add_lit, Nat.zero_add]; exact cells_made w2 _ _ q u (by simpa using hu)) (fun u hu => by simp at hu; rcases hu with rfl | rfl | rfl <;> rfl) (by unfold maxLen; omega) (by omega) (by simp; omega) ?_; intro v9 w9 hown9 hgrow9 hnil9; have HO9 := Lib.hid hown9; have HK9 := Lib.hid (HNx.out w9 hgrow9); clear hgrow9 hown9 hnil9; refine Hid.out ?_)
        refine Lib.hid ?_
        have R1 : Hid ((ps ++ [p]).map Prod.fst = l2.take (j + 1)) := by
          rw [Hid, HTk.out, List.map_append, HP.out]
          simp [HP1.out]
        have R2 : Hid (∀ t, t ∈ l2.take (j + 1) → 0 ≤ t.1 ∧ t.1 < s.length) := fun t ht => by
          rw [HTk.out] at ht
          rcases List.mem_append.1 ht with ht | ht
          · exact HR.out t ht
          · obtain rfl := List.mem_singleton.1 ht
            exact hr
        have R3 : Hid (w9.ownsRow w.heap.size 59 3 v9 (j + 1) (mcells (ps ++ [p]))) := by
          rw [Hid, mcells_append]
          exact HO9.out
        have R4 := Lib.hid HK9.out.1
        have R5 := Lib.hid HK9.out.2.1
        have R6 := Lib.hid HK9.out.2.2
        clear HO HO2 HNx HO9 HK9 HW2 HPo HP1 HB2 HW1 KM e0 e1 HQ HM HB HSl HNc HMem HP HR
        go_wp2_with fail
        go_roundw
        case rel => exact ⟨j + 1, ps ++ [p], by omega, by go_num, R1, R2, R4, R3, R6, R5⟩
        case measure => simp [intOf]; omega
      · have hk := KH.out
        rw [decide_eq_false hr] at hk
        have KH' := Lib.hid hk
        have HNot : Hid (¬ SetOk s l2) := fun h => hr (h.1 (k, ids) HMem.out)
        clear hk KH
        go_wp2_with (go_at_call 31; refine KH'.out.mono ?_; rintro e w1 ⟨rfl, hg⟩; have HG1 := Lib.hid (HB1.out.trans (hg.below.mono HB1.out.size)); clear hg)
        go_ret2
        exact ⟨HG1.out, Or.inr ⟨HNot.out, rfl⟩⟩
    · obtain rfl : j = l2.length := by omega
      have hp2 := HP.out
      rw [List.take_length] at hp2
      have hr2 := HR.out
      rw [List.take_length] at hr2
      have HP2 := Lib.hid hp2
      have HR2 := Lib.hid hr2
      have hpl : ps.length = l2.length := by rw [← hp2, List.length_map]
      obtain ⟨ov, oc, rfl⟩ := owns_slice HO.out
      have hok : ∀ g, ov = some ⟨g, 0, none⟩ → SlS (fun b => b ≠ g) wr so (icells s) ∧ ∀ p, p ∈ ps → MvS (fun b => b ≠ g) wr p ∧ p.1.2.length ≤ 1000000 := fun g hg => by
        subst hg
        have hge := (HO.out.lt g rfl).1
        refine ⟨fun hne => ?_, fun p hp => ⟨(HM.out p hp).mvS (fun k _ _ hk => ?_), ?_⟩⟩
        · obtain ⟨sb, off, e, lt, hc⟩ := (HS.out.below HB.out) hne
          exact ⟨sb, off, e, (fun e2 => by omega), Nat.lt_of_lt_of_le lt HB.out.size, hc⟩
        · rintro rfl
          obtain ⟨cur, fz, hk⟩ := hk
          obtain ⟨cs, fz2, h4⟩ := owns_tag HO.out k rfl
          rw [hk] at h4
          injection h4 with h4
          injection h4 with _ h5 _
          exact absurd h5 (by decide)
        · refine H3.out p.1 ?_
          rw [← HP2.out]
          exact List.mem_map_of_mem hp
      have hown := HO.out
      rw [← hpl] at hown
      have hsort := HN.out s so ov sc oc w.heap.size ps wr (by omega) hown hok
      rw [hpl] at hsort
      have KS := Lib.hid hsort
      have c0 : wr.cell? ⟨w.heap.size, 0, none⟩ = some (.slice so s.length sc) := Lib.cell_of_heap HQ.out 0
      clear hok hsort hp2 hr2 hown HP HR
      go_wp2_with (go_at_call 32; refine KS.out.mono ?_; rintro e w3 ⟨rfl, qs, hq1, hq2, hq3, hq4⟩; have HPe := Lib.hid hq1; have HSr := Lib.hid hq2; have HO3 := Lib.hid hq3; have HG3 := Lib.hid hq4; clear hq1 hq2 hq3 hq4; refine Hid.out ?_)
      refine Lib.hid ?_
      have hql : qs.length = l2.length := HPe.out.length_eq.trans hpl
      have HQ3 : Hid (w3.heap[w.heap.size]? = some (.cells #[.slice so s.length sc] 53 (0, 0))) := (HG3.out.block _ (lt_of_heap HQ.out) (fun e => ne_own HO.out HQ.out (by decide) e.symm)).trans HQ.out
      have HM3 : Hid (∀ q, q ∈ qs → MvO w.heap.size w3 q) := fun q hq => (HM.out q (HPe.out.mem_iff.1 hq)).far (by decide) HG3.out (owns_tag HO.out)
      have HB3 : Hid (Below w.heap.size w w3) := HB.out.grown HG3.out HB.out.size (fun q hq => (HO.out.lt q hq).1)
      have HPm : Hid ((qs.map Prod.fst).Perm l2) := by
        rw [Hid, ← HP2.out]
        exact HPe.out.map _
      clear HQ HM HB HO HG3 KS c0 HPe HP2
      go_wp2_with fail
      go_loopw [4, 8] (fun v i wr2 => ∃ m : Nat, v = .slice ov l2.length oc ∧ i = .int .i64 ((m : Int) + 1) ∧ (m + 1 ≤ l2.length ∨ m = 0) ∧ Hid (∀ k, (h : k + 1 < qs.length) → k < m → (qs[k]).1 ≠ (qs[k + 1]).1) ∧ Hid (Below w3.heap.size w3 wr2)) (fun _ i _ => l2.length + 1 - (intOf i).toNat)
      case atStart => exact ⟨0, rfl, rfl, Or.inr rfl, (fun k _ hk => absurd hk (Nat.not_lt_zero _)), Below.refl _ _⟩
      case round =>
        obtain ⟨m, rfl, rfl, hm, HD, HW⟩ := hrel
        by_cases hlt2 : m + 1 < l2.length
        · have hmq : m < qs.length := by omega
          have hmq1 : m + 1 < qs.length := by omega
          obtain ⟨g, cap, hov⟩ : ∃ g cap, (Value.slice ov l2.length oc) = .slice (some ⟨g, 0, none⟩) l2.length cap := by
            rcases HO3.out.2 with ⟨h1, h2⟩ | ⟨g, cap, cur, h1, _⟩
            · omega
            · exact ⟨g, cap, h1⟩
          simp only [Value.slice.injEq, true_and] at hov
          obtain ⟨rfl, rfl⟩ := hov
          have hcell : ∀ n os j u, (mcells qs)[j]? = some u → (Sort.grow (wr.drewN n) os).cell? ⟨g, j, none⟩ = some u := fun n os j u hu => by
            have h1 := HO3.out.cells (g := g) rfl j u hu
            rw [Addr.add_lit, Nat.zero_add] at h1
            have hb : Below w3.heap.size w3 (Sort.grow (wr.drewN n) os) := HW.out.trans ((show Gr wr (Sort.grow (wr.drewN n) os) from ⟨n, os, rfl⟩).below.mono HW.out.size)
            exact (hb.cell (p := ⟨g, j, none⟩) (HO3.out.lt g rfl).2).trans h1
          obtain ⟨x0, x1, x2⟩ := mcells_at qs m hmq
          obtain ⟨y0, y1, y2⟩ := mcells_at qs (m + 1) hmq1
          have p0 : ∀ n os, _ := fun n os => hcell n os _ _ x0
          have p1 : ∀ n os, _ := fun n os => hcell n os _ _ x1
          have p2 : ∀ n os, _ := fun n os => hcell n os _ _ x2
          have r0 : ∀ n os, _ := fun n os => hcell n os _ _ y0
          have r1 : ∀ n os, _ := fun n os => hcell n os _ _ y1
          have r2 : ∀ n os, _ := fun n os => hcell n os _ _ y2
          have o0 : ∀ n os, (Sort.grow (wr.drewN n) os).cell? ⟨w.heap.size, 0, none⟩ = some (.slice so s.length sc) := fun n os => by
            have hb : Below w3.heap.size w3 (Sort.grow (wr.drewN n) os) := HW.out.trans ((show Gr wr (Sort.grow (wr.drewN n) os) from ⟨n, os, rfl⟩).below.mono HW.out.size)
            exact (hb.cell (p := ⟨w.heap.size, 0, none⟩) (lt_of_heap HQ3.out)).trans (Lib.cell_of_heap HQ3.out 0)
          have hx64 := (HM3.out qs[m] (List.getElem_mem hmq))
          have hy64 := (HM3.out qs[m + 1] (List.getElem_mem hmq1))
          have hlx : (qs[m]).1.2.length ≤ 1000000 := H3.out _ (HPm.out.mem_iff.1 (List.mem_map_of_mem (List.getElem_mem hmq)))
          have hly : (qs[m + 1]).1.2.length ≤ 1000000 := H3.out _ (HPm.out.mem_iff.1 (List.mem_map_of_mem (List.getElem_mem hmq1)))
          have HZ : Hid ((qs[m]).1 ≠ (qs[m + 1]).1 → ∀ k, (h : k + 1 < qs.length) → k < m + 1 → (qs[k]).1 ≠ (qs[k + 1]).1) := fun hne k h hk => by
            by_cases e : k = m
            · subst e; exact hne
            · exact HD.out k h (by omega)
          have HZ2 : Hid ((qs[m]).1 = (qs[m + 1]).1 → ¬ SetOk s l2) := fun he hok => by
            have hnd := HPm.out.nodup_iff.2 hok.2
            have h1 : (qs.map Prod.fst)[m]'(by simpa using hmq) = (qs.map Prod.fst)[m + 1]'(by simpa using hmq1) := by simpa using he
            have := (List.getElem_inj hnd).1 h1
            omega
          have hcg : ∀ n os, Calls Tryd.prog 28 #[aggO so s.length sc, mval qs[m], mval qs[m + 1]] (Sort.grow (wr.drewN n) os) fun e w' => e = .returned (.int .i64 (cmp14 s (qs[m]).1 (qs[m + 1]).1)) ∧ ∃ q os'', w' = Sort.grow ((Sort.grow (wr.drewN n) os).drewN q) os'' := fun n os => by
            have hb : Below w3.heap.size w3 (Sort.grow (wr.drewN n) os) := HW.out.trans ((show Gr wr (Sort.grow (wr.drewN n) os) from ⟨n, os, rfl⟩).below.mono HW.out.size)
            have hb0 := HB3.out.trans (hb.mono HB3.out.size)
            have mx := hx64.mvS (S := fun _ => True) (fun _ _ _ _ => trivial)
            have my := hy64.mvS (S := fun _ => True) (fun _ _ _ _ => trivial)
            exact compare_any s (qs[m]).1 (qs[m + 1]).1 so (qs[m]).2.1.1 (qs[m]).2.2.1 (qs[m + 1]).2.1.1 (qs[m + 1]).2.2.1 sc (qs[m]).2.1.2 (qs[m]).2.2.2 (qs[m + 1]).2.1.2 (qs[m + 1]).2.2.2 (Nat.le_trans hlx (by omega)) (Nat.le_trans hly (by omega)) _ (HS.out.up hb0 hb0.size) (mx.mt.up hb hb.size) (my.mt.up hb hb.size)
          have i1 : (m : Int) + 1 < (l2.length : Int) := by omega
          have i2 : IntKind.i64.wrap (m : Int) = (m : Int) := by rw [IntKind.wrap_i64]; omega
          have i3 : (m : Int) < (l2.length : Int) := by omega
          have i4 : (0 : Int) ≤ (m : Int) + 1 := by omega
          have i5 : ((m : Int) + 1).toNat = m + 1 := by omega
          clear hcell x0 x1 x2 y0 y1 y2 hx64 hy64 hlx hly HD
          by_cases he : cmp14 s (qs[m]).1 (qs[m + 1]).1 = 0
          · have HNo := Lib.hid (HZ2.out ((cmp14_zero s _ _).1 he))
            rw [he] at hcg
            clear he HZ HZ2
            go_wp2_with fail
            go_quiet_grown (first | (go_at_call 28; refine Calls.grown_of (hcg _ _)))
            have HFin : Hid (Below w.heap.size w (Sort.grow (wr.drewN nq) osq)) := HB3.out.trans ((HW.out.trans ((show Gr wr (Sort.grow (wr.drewN nq) osq) from ⟨nq, osq, rfl⟩).below.mono HW.out.size)).mono HB3.out.size)
            clear hcg p0 p1 p2 r0 r1 r2 o0
            generalize Sort.grow (wr.drewN nq) osq = wz at HFin ⊢
            go_wp2
            go_ret2
            exact ⟨HFin.out, Or.inr ⟨HNo.out, rfl⟩⟩
          · have HNx := Lib.hid (HZ.out (fun e => he ((cmp14_zero s _ _).2 e)))
            generalize cmp14 s (qs[m]).1 (qs[m + 1]).1 = cc at hcg he
            have hd : (cc == 0) = false := by simpa using he
            have hd' : decide (cc = 0) = false := decide_eq_false he
            clear he HZ HZ2
            go_wp2_with fail
            go_quiet_grown (first | (go_at_call 28; refine Calls.grown_of (hcg _ _)))
            have HFin : Hid (Below w3.heap.size w3 (Sort.grow (wr.drewN nq) osq)) := HW.out.trans ((show Gr wr (Sort.grow (wr.drewN nq) osq) from ⟨nq, osq, rfl⟩).below.mono HW.out.size)
            clear hcg p0 p1 p2 r0 r1 r2 o0
            generalize Sort.grow (wr.drewN nq) osq = wz at HFin ⊢
            go_wp2_with fail
            go_roundw
            case measure => simp [intOf]; omega
            case rel => exact ⟨m + 1, rfl, by go_num, Or.inl (by omega), HNx, HFin⟩
        · have hmm : ∀ k, (h : k + 1 < qs.length) → (qs[k]).1 ≠ (qs[k + 1]).1 := fun k h => HD.out k h (by omega)
          have hrow := row_of_srt s qs HSr.out hmm
          have hset : SetOk s l2 := ⟨HR2.out, HPm.out.nodup_iff.1 (row_nodup hrow)⟩
          have hB : Below w.heap.size w wr := HB3.out.trans (HW.out.mono HB3.out.size)
          have hO : wr.ownsRow w.heap.size 59 3 (.slice ov l2.length oc) qs.length (mcells qs) := by
            rw [hql]
            exact owns_below HO3.out HW.out
          have HE : Hid (RowP s l2 w (.returned (.tuple #[.slice ov l2.length oc, .bool true])) wr) := ⟨hB, Or.inl ⟨hset, qs, _, rfl, hO, HPm.out, hrow, fun q hq => (HM3.out q hq).below HW.out⟩⟩
          have i1 : decide ((m : Int) + 1 < (l2.length : Int)) = false := by simp; omega
          have i2 : decide (m + 1 < l2.length) = false := by simp; omega
          clear hmm hrow hset hB hO
          go_wp2
          go_ret2
          exact HE.out
end Go.Proofs.YtlkmabnjmklkpaaDoor
