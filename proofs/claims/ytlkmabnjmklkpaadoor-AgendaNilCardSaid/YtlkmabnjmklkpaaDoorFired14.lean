/- The program's Fired. -/
import Derived.Test.YtlkmabnjmklkpaaDoorSpent14
import Derived.Test.YtlkmabnjmklkpaaDoorTell14
import Derived.Test.YtlkmabnjmklkpaaDoorBetM14
namespace Go.Proofs.YtlkmabnjmklkpaaDoor
open Go.RowKit Go.Sort

set_option maxRecDepth 100000 in
set_option maxHeartbeats 4000000 in
theorem fired_tells (N : Nat) (hN : SortsM N) (hNN : N ≤ 1000000) : FiredTells PAg N := by
  intro s l sp db bs w hs64 hl hP
  obtain ⟨i0, hi0, hz0, hz1, hz2⟩ := info_parts infoTk
  obtain ⟨lb, so, sc, wo, wc, mb, ws, FF, h⟩ := hP
  have HP := Lib.hid h
  have hFl : FF.length ≤ N := by
    have h1 := h.don.length_eq
    have h2 := fired_le l sp
    rw [List.length_map] at h1
    omega
  have c0 : w.cell? ⟨db, 0, none⟩ = some (.pointer (some ⟨lb, 0, none⟩)) := Lib.cell_of_heap h.hdb 0
  have KM := Lib.hid (made_any db lb w c0)
  have hlow : ∀ p, p ∈ FF → MvS (fun b => b < w.heap.size) w p ∧ p.1.2.length ≤ 1000000 := fun p hp => ⟨(h.fok p hp).1.mono (fun b hb => by
    obtain ⟨_, cur, fz, hq⟩ := hb
    exact lt_of_heap hq), (h.fok p hp).2.len⟩
  have KS := Lib.hid (spent_any N hN hNN s so wo sc ws.length wc lb mb FF w h.hlb h.map hFl h.sal.slG hlow)
  have HLow := Lib.hid hlow
  clear h hN hlow
  go_enter Tryd.func10, Tryd.ntmps10
  go_wp2_with (first
    | (go_at_call 18; refine KM.out.mono ?_; rintro e w1 ⟨rfl, hw⟩; rw [hw]; clear hw)
    | (go_at_call 26; refine KS.out.mono ?_; rintro e w1 ⟨v, rfl, ⟨qs, hpm, hsr, ho⟩, hb⟩; obtain ⟨ov, oc, rfl⟩ := owns_slice ho; have HO := Lib.hid ho; have HB := Lib.hid hb; have HPm := Lib.hid hpm; have HSr := Lib.hid hsr; clear ho hb hpm hsr; refine Hid.out ?_))
  refine Lib.hid ?_
  have HFi : Hid (fired14 s (firedOf l sp) = qs.map Prod.fst) := by
    have hpk : (qs.map Prod.fst).Perm (firedOf l sp) := (HPm.out.map Prod.fst).trans HP.out.don
    have hnd : (qs.map Prod.fst).Nodup := ((HPm.out.map Prod.fst).nodup_iff).2 HP.out.map.nodup
    refine (row_fired s _ _ (row_of_srt s qs HSr.out (fun k hk e => ?_)) hpk).symm
    have h1 : (qs.map Prod.fst)[k]'(by simp; omega) = (qs.map Prod.fst)[k + 1]'(by simpa using hk) := by simpa using e
    have := (List.getElem_inj hnd).1 h1
    omega
  have HSl := Lib.hid (owns_slG HO.out)
  have hqN : qs.length ≤ 1000000 := by
    have := HPm.out.length_eq
    omega
  have HQ : Hid (∀ q, q ∈ qs → MvS (fun b => b < w.heap.size) w1 q ∧ q.1.2.length ≤ 1000000) := fun q hq => ⟨(HLow.out q (HPm.out.mem_iff.1 hq)).1.touch (Touch.of_below HB.out (fun _ => False)) (fun _ _ h => h), (HLow.out q (HPm.out.mem_iff.1 hq)).2⟩
  have HB0 : Hid (Below w1.heap.size w1 w1) := Below.refl _ _
  clear KM KS HLow HPm HSr HO c0 hFl
  go_wp2_with fail
  go_loopw [3, 15] (fun v i wr => ∃ (j : Nat) (ps : List (TK × Value)), j ≤ qs.length ∧ i = .int .i64 j ∧ Hid (ps.map Prod.fst = (qs.map Prod.fst).take j) ∧ Hid (ps.length = j) ∧ Hid (RowTk wr w1.heap.size v ps) ∧ Hid (Below w1.heap.size w1 wr)) (fun _ i _ => qs.length - (intOf i).toNat)
  case atStart => exact ⟨0, [], by omega, rfl, rfl, rfl, RowTk.nil _ _, HB0⟩
  case round =>
    obtain ⟨j, ps, hj, rfl, HPs, HLn, HR, HBr⟩ := hrel
    clear HB0
    by_cases hlt : j < qs.length
    · obtain ⟨sb, off, rfl, hsb, hc⟩ := (HSl.out.below HBr.out) (by intro e; have := congrArg List.length e; rw [mcells_length] at this; simp at this; omega)
      obtain ⟨x0, x1, x2⟩ := mcells_at qs j hlt
      have d0 := hc _ _ x0
      have d1 := hc _ _ x1
      have d2 := hc _ _ x2
      rw [← Nat.add_assoc] at d1 d2
      have hji : (j : Int) < (qs.length : Int) := by omega
      have HTk : Hid ((qs.map Prod.fst).take (j + 1) = (qs.map Prod.fst).take j ++ [(qs[j]).1]) := by
        rw [Hid, List.take_add_one, List.getElem?_eq_getElem (by simpa using hlt), List.getElem_map]; rfl
      have hq := HQ.out _ (List.getElem_mem hlt)
      have hbz := HBr.out.size
      clear hc x0 x1 x2
      generalize qs[j] = q at d0 d1 d2 HTk hq
      obtain ⟨ov', oc', rfl⟩ := owns_slice HR.out.row
      have HB1 : Hid (Below wr.heap.size wr (wr.alloc (.cells #[.int .i64 q.1.1, .slice q.2.1.1 q.1.2.length q.2.1.2, .slice q.2.2.1 q.1.2.length q.2.2.2] 59))) := below_own _
      have hbw : Below w1.heap.size w1 (wr.alloc (.cells #[.int .i64 q.1.1, .slice q.2.1.1 q.1.2.length q.2.1.2, .slice q.2.2.1 q.1.2.length q.2.2.2] 59)) := HBr.out.trans (HB1.out.mono hbz)
      have KT := Lib.hid (tell_any q (wr.alloc (.cells #[.int .i64 q.1.1, .slice q.2.1.1 q.1.2.length q.2.1.2, .slice q.2.2.1 q.1.2.length q.2.2.2] 59)) (hq.1.ids.slG.up hbw hbw.size) hq.1.nil hq.1.cap hq.2)
      clear hq hbw
      go_wp2_with (go_at_call 19; refine KT.out.mono ?_; rintro e w2 ⟨u, rfl, ho, hb⟩; obtain ⟨av, cv, rfl⟩ := owns_slice ho; have HO2 := Lib.hid ho; have HB2 := Lib.hid hb; clear ho hb; refine Hid.out ?_)
      refine Lib.hid ?_
      have HW2 : Hid (Below wr.heap.size wr w2) := HB1.out.trans (HB2.out.mono HB1.out.size)
      have HR2 : Hid (RowTk (w2.alloc (.cells #[.int .i64 q.1.1, .slice av q.1.2.length cv] 24)) w1.heap.size (.slice ov' ps.length oc') ps) := HR.out.below (below_new HW2.out _)
      have HO3 : Hid ((w2.alloc (.cells #[.int .i64 q.1.1, .slice av q.1.2.length cv] 24)).ownsRow wr.heap.size 3 1 (.slice av q.1.2.length cv) q.1.2.length (icells q.1.2)) := (owns_mono HO2.out HB1.out.size).alloc _
      have HOwn := Lib.hid HR2.out.row
      have HNx : Hid (∀ v9 W9, (w2.alloc (.cells #[.int .i64 q.1.1, .slice av q.1.2.length cv] 24)).grownBy W9 (Value.slice ov' ps.length oc').ownBlock → W9.ownsRow w1.heap.size 24 2 v9 (ps.length + 1) (cellsTk ps ++ [.int .i64 q.1.1, .slice av q.1.2.length cv]) → RowTk W9 w1.heap.size v9 (ps ++ [(q.1, .slice av q.1.2.length cv)]) ∧ Below w1.heap.size w1 W9) := fun v9 W9 h9 h8 => by
        have hb8 : Below w1.heap.size w1 (w2.alloc (.cells #[.int .i64 q.1.1, .slice av q.1.2.length cv] 24)) := HBr.out.trans ((below_new HW2.out _).mono hbz)
        exact ⟨HR2.out.snoc (B := wr.heap.size) HR.out.lt HO3.out hbz h9 h8, hb8.grown h9 hb8.size (fun k hk => (HR2.out.row.lt k hk).1)⟩
      have HSz : Hid (w1.heap.size ≤ w2.heap.size) := Nat.le_trans hbz HW2.out.size
      have hln := HLn.out
      have hone : ∀ u ∈ [Value.int .i64 q.1.1, .slice av q.1.2.length cv], u.oneCell' = true := fun u hu => by simp at hu; rcases hu with rfl | rfl <;> rfl
      clear KT HB1 HO2 HB2 HW2 HR2 HO3 d0 d1 d2 HR
      go_wp2_with (at_builtin; refine wpList_append_own _ rfl _ _ 37 rfl w1.heap.size 24 i0 (.agg #[.int .i64 0, .slice none 0 0]) 2 32 Tryd.underlying37 hi0 hz0 hz1 hz2 rfl (by decide) _ ps.length _ rfl HOwn.out ⟨w2.heap.size, 0, none⟩ 1 1 [.int .i64 q.1.1, .slice av q.1.2.length cv] rfl rfl (fun k u hu => by rw [Addr.add_lit, Nat.zero_add]; exact cells_made _ _ _ k u (by simpa using hu)) hone (by unfold maxLen; omega) (by omega) (by have := HSz.out; simp; omega) ?_; intro v9 w9 hown9 hgrow9 hnil9; have HK9 := Lib.hid (HNx.out v9 w9 hgrow9 hown9); clear hgrow9 hown9 hnil9; refine Hid.out ?_)
      refine Lib.hid ?_
      have S1 : Hid ((ps ++ [((q.1, .slice av q.1.2.length cv) : TK × Value)]).map Prod.fst = (qs.map Prod.fst).take (j + 1)) := by
        rw [Hid, HTk.out, List.map_append, HPs.out]; rfl
      have S2 : Hid ((ps ++ [((q.1, .slice av q.1.2.length cv) : TK × Value)]).length = j + 1) := by
        rw [Hid, List.length_append, HLn.out]; rfl
      have S3 := Lib.hid HK9.out.1
      have S4 := Lib.hid HK9.out.2
      clear HNx HK9 HOwn hone hln
      go_wp2_with fail
      go_roundw
      case rel => exact ⟨j + 1, _, by omega, by go_num, S1, S2, S3, S4⟩
      case measure => simp [intOf]; omega
    · obtain rfl : j = qs.length := by omega
      have hps := HPs.out
      have hln := HLn.out
      rw [List.take_of_length_le (by simp)] at hps
      obtain ⟨ov', oc', rfl⟩ := owns_slice HR.out.row
      have HE : Hid (Below w.heap.size w wr ∧ ∃ ao c, Ending.returned (.slice ov' ps.length oc') = .returned (.slice ao (fired14 s (firedOf l sp)).length c) ∧ SlTk wr.heap.size wr ao (fired14 s (firedOf l sp))) := by
        refine ⟨HB.out.trans (HBr.out.mono HB.out.size), ov', oc', ?_, ?_⟩
        · rw [HFi.out, List.length_map, hln]
        · rw [HFi.out, ← hps]
          exact HR.out.sl
      clear HR HPs HLn hps
      generalize ps.length = n9 at *
      go_wp2
      go_ret
      exact HE.out

theorem ag_tells (N : Nat) (hN : SortsM N) (hNN : N ≤ 1000000) : AgTells PAg N where
  form := pag_form
  new := new_tells
  set := set_tells N hN hNN
  next := next_tells
  fire := fire_tells
  fired := fired_tells N hN hNN

/-! The law's tok and first; the agenda's steps with what it is told in literals. -/

set_option maxRecDepth 100000 in
theorem tok_any (k : Int) (ao : Option Addr) (n c : Nat) (w : World) :
    Calls Tryd.prog 16 #[.int .i64 k, .slice ao n c] w fun e w' => e = .returned (aggK k ao n c) ∧ w' = w.alloc (.cells #[.int .i64 k, .slice ao n c] 24) := by
  go_enter Tryd.func16, Tryd.ntmps16
  go_wp2
  exact bodyPost_ret (v := .agg #[.int .i64 k, .slice ao n c]) (by simp [results, Tryd.results16, go_sem]) rfl ⟨rfl, rfl⟩

set_option maxRecDepth 100000 in
set_option maxHeartbeats 4000000 in
theorem first_yes (s : List Int) (l : List TK) (sp : List Bool) (x : TK) (db : Nat) (bs : Nat → Prop) (ao : Option Addr) (c : Nat) (w : World) (h64 : s.length ≤ 64) (hl : l.length ≤ 1000000) (hP : PAg w db s l sp bs) (hbest : best14 s (unspent l sp) = some x) (hx : SlG w.heap.size w ao (icells x.2)) (hxl : x.2.length ≤ 1000000) :
    Calls Tryd.prog 17 #[.pointer (some ⟨db, 0, none⟩), aggK x.1 ao x.2.length c] w (SaysP true w) := by
  have HB0 := Lib.hid (below_own (w := w) (.cells #[.int .i64 x.1, .slice ao x.2.length c] 24))
  have HQ0 : Hid ((w.alloc (.cells #[.int .i64 x.1, .slice ao x.2.length c] 24)).heap[w.heap.size]? = some (.cells #[.int .i64 x.1, .slice ao x.2.length c] 24 (0, 0))) := heap_alloc_new w _
  have KN := Lib.hid (next_tells s l sp db bs (w.alloc (.cells #[.int .i64 x.1, .slice ao x.2.length c] 24)) h64 hl (pag_form.touch hP (Touch.of_below HB0.out (fun _ => False)) (fun _ _ h => h)))
  have HX := Lib.hid hx
  clear hP hx
  go_enter Tryd.func17, Tryd.ntmps17
  go_wp2_with (go_at_call 6; refine KN.out.mono ?_; rintro e w1 ⟨hb, h⟩; obtain ⟨t, ht, a1, c1, rfl, hs1, -, -, -⟩ := h.resolve_left (fun h => by rw [hbest] at h; cases h.1); obtain rfl : x = t := Option.some.inj (hbest.symm.trans ht); have HB1 := Lib.hid hb; have HS1 := Lib.hid hs1; clear hb hs1 h ht; refine Hid.out ?_)
  refine Lib.hid ?_
  have q0 := (HB1.out.block _ (lt_of_heap HQ0.out)).trans HQ0.out
  have c0 : w1.cell? ⟨w.heap.size, 0, none⟩ = some (.int .i64 x.1) := Lib.cell_of_heap q0 0
  have c1' : w1.cell? ⟨w.heap.size, 1, none⟩ = some (.slice ao x.2.length c) := Lib.cell_of_heap q0 1
  have hb1 : Below w.heap.size w w1 := HB0.out.trans (HB1.out.mono HB0.out.size)
  have hlt : w.heap.size < w1.heap.size := lt_of_heap q0
  have HB2 : Hid (Below w1.heap.size w1 (w1.alloc (.cells #[.int .i64 x.1, .slice a1 x.2.length c1] 24))) := below_own _
  have HBe := Lib.hid (hb1.trans (HB2.out.mono hb1.size))
  have KS := Lib.hid (sameTok_any x x a1 ao x.2.length x.2.length c1 c rfl rfl (Nat.le_trans hxl (by omega)) (Nat.le_trans hxl (by omega)) (w1.alloc (.cells #[.int .i64 x.1, .slice a1 x.2.length c1] 24)) (HS1.out.up HB2.out HB2.out.size) (HX.out.up HBe.out HBe.out.size))
  rw [decide_eq_true (rfl : x = x)] at KS
  clear KN HX HS1 q0 HB0 HB1 HQ0
  go_wp2_with (go_at_call 8; refine KS.out.mono ?_; rintro e w2 ⟨rfl, hg⟩; have HF := Lib.hid (HBe.out.trans (hg.below.mono HBe.out.size)); clear hg)
  go_ret
  exact ⟨rfl, HF.out⟩

/-- The agenda of the examples, at a step: what lies below B is as it was. -/
def Stt (B : Nat) (W0 : World) (s : List Int) (db : Nat) (l : List TK) (sp : List Bool) (w : World) : Prop := Below B W0 w ∧ B ≤ W0.heap.size ∧ ∃ bs : Nat → Prop, PAg w db s l sp bs ∧ ∀ b, bs b → B ≤ b
theorem Stt.on {B : Nat} {W0 : World} {s : List Int} {db : Nat} {l : List TK} {sp : List Bool} {w w' : World} (h : Stt B W0 s db l sp w) (b : Below w.heap.size w w') : Stt B W0 s db l sp w' := by
  obtain ⟨h1, h0, bs, h2, h3⟩ := h
  exact ⟨h1.trans (b.mono (Nat.le_trans h0 h1.size)), h0, bs, pag_form.touch h2 (Touch.of_below b (fun _ => False)) (fun _ _ h => h), h3⟩
theorem Stt.tab {W0 : World} {s : List Int} {db : Nat} {l : List TK} {sp : List Bool} {w : World} (h : Stt W0.heap.size W0 s db l sp w) (t : Tab14 W0) : Tab14 w := t.on h.1
theorem Touch.belowB {B : Nat} {W0 w w' : World} {S : Nat → Prop} (h : Below B W0 w) (hB : B ≤ W0.heap.size) (t : Touch S w w') (hS : ∀ b, S b → B ≤ b) : Below B W0 w' :=
  h.trans (t.below (Nat.le_trans hB h.size) hS)
theorem set_yes (l2 : List TK) (sp2 : List Bool) (s : List Int) (l : List TK) (sp : List Bool) (db : Nat) (ao : Option Addr) (c : Nat) (W0 w : World) (h64 : s.length ≤ 64) (hl : l.length ≤ 12) (hl2 : l2.length ≤ 12) (hfit : ∀ t, t ∈ l2 → Fit14 t) (h : Stt W0.heap.size W0 s db l sp w) (hrow : SlTkC w.heap.size w ao l2) (hn : ao = none → c = 0) (hc : l2.length ≤ c) (ht : Tab14 W0) (hok : SetOk s l2) (he : l2.map (heldB l sp) = sp2) :
    Calls Tryd.prog 7 #[.pointer (some ⟨db, 0, none⟩), .slice ao l2.length c] w fun e w' => e = .returned (.int .i64 0) ∧ Stt W0.heap.size W0 s db l2 sp2 w' := by
  have htw := h.tab ht
  obtain ⟨h1, h0, bs, h2, h3⟩ := h
  refine (set_tells 12 sorts_small (by omega) s l sp l2 db bs ao c w h64 hl hl2 hfit h2 hrow hn hc htw).mono ?_
  rintro e w' ⟨t, h⟩
  obtain ⟨_, rfl, bs', hp, hb⟩ := h.resolve_right (fun h => h.1 hok)
  rw [he] at hp
  exact ⟨rfl, Touch.belowB h1 h0 t h3, h0, bs', hp, fun b hb' => (hb b hb').elim (h3 b) (fun h => Nat.le_trans h1.size h)⟩
theorem set_no (l2 : List TK) (s : List Int) (l : List TK) (sp : List Bool) (db : Nat) (ao : Option Addr) (c : Nat) (W0 w : World) (h64 : s.length ≤ 64) (hl : l.length ≤ 12) (hl2 : l2.length ≤ 12) (hfit : ∀ t, t ∈ l2 → Fit14 t) (h : Stt W0.heap.size W0 s db l sp w) (hrow : SlTkC w.heap.size w ao l2) (hn : ao = none → c = 0) (hc : l2.length ≤ c) (ht : Tab14 W0) (hok : ¬ SetOk s l2) :
    Calls Tryd.prog 7 #[.pointer (some ⟨db, 0, none⟩), .slice ao l2.length c] w fun e w' => e = .returned (.int .i64 4) ∧ Stt W0.heap.size W0 s db l sp w' := by
  have htw := h.tab ht
  obtain ⟨h1, h0, bs, h2, h3⟩ := h
  refine (set_tells 12 sorts_small (by omega) s l sp l2 db bs ao c w h64 hl hl2 hfit h2 hrow hn hc htw).mono ?_
  rintro e w' ⟨t, h⟩
  obtain ⟨_, rfl, hp⟩ := h.resolve_left (fun h => hok h.1)
  exact ⟨rfl, Touch.belowB h1 h0 t h3, h0, bs, hp, h3⟩
theorem fire_at (x : TK) (r : Int) (sp2 : List Bool) (s : List Int) (l : List TK) (sp : List Bool) (db : Nat) (ao : Option Addr) (c : Nat) (W0 w : World) (h64 : s.length ≤ 64) (hl : l.length ≤ 1000000) (hxl : x.2.length ≤ 1000000) (h : Stt W0.heap.size W0 s db l sp w) (hx : SlG w.heap.size w ao (icells x.2)) (hn : ao = none → c = 0) (hc : x.2.length ≤ c) (ht : Tab14 W0) (hr : fireE l sp x = r) (he : fireS l sp x = sp2) :
    Calls Tryd.prog 9 #[.pointer (some ⟨db, 0, none⟩), aggK x.1 ao x.2.length c] w fun e w' => e = .returned (.int .i64 r) ∧ Stt W0.heap.size W0 s db l sp2 w' := by
  have htw := h.tab ht
  obtain ⟨h1, h0, bs, h2, h3⟩ := h
  refine (fire_tells s l sp x db bs ao c w h64 hl hxl h2 hx hn hc htw).mono ?_
  rintro e w' ⟨rfl, t, bs', hp, hb⟩
  rw [he] at hp
  rw [hr]
  exact ⟨rfl, Touch.belowB h1 h0 t h3, h0, bs', hp, fun b hb' => (hb b hb').elim (h3 b) (fun h => Nat.le_trans h1.size h)⟩
theorem first_at (x : TK) (s : List Int) (l : List TK) (sp : List Bool) (db : Nat) (ao : Option Addr) (c : Nat) (W0 w : World) (h64 : s.length ≤ 64) (hl : l.length ≤ 1000000) (hxl : x.2.length ≤ 1000000) (h : Stt W0.heap.size W0 s db l sp w) (hx : SlG w.heap.size w ao (icells x.2)) (hbest : best14 s (unspent l sp) = some x) :
    Calls Tryd.prog 17 #[.pointer (some ⟨db, 0, none⟩), aggK x.1 ao x.2.length c] w fun e w' => e = .returned (.bool true) ∧ Stt W0.heap.size W0 s db l sp w' := by
  have h' := h
  obtain ⟨h1, h0, bs, h2, h3⟩ := h
  refine (first_yes s l sp x db bs ao c w h64 hl h2 hbest hx hxl).mono ?_
  rintro e w' ⟨rfl, hb⟩
  exact ⟨rfl, h'.on hb⟩
theorem fired_at (n : Nat) (s : List Int) (l : List TK) (sp : List Bool) (db : Nat) (W0 w : World) (h64 : s.length ≤ 64) (hl : l.length ≤ 12) (h : Stt W0.heap.size W0 s db l sp w) (hf : (firedOf l sp).length = n) (hnd : (firedOf l sp).Nodup) :
    Calls Tryd.prog 10 #[.pointer (some ⟨db, 0, none⟩)] w fun e w' => ∃ ao c, e = .returned (.slice ao n c) ∧ Stt W0.heap.size W0 s db l sp w' := by
  have h' := h
  obtain ⟨h1, h0, bs, h2, h3⟩ := h
  refine (fired_tells 12 sorts_small (by omega) s l sp db bs w h64 hl h2).mono ?_
  rintro e w' ⟨hb, ao, c, rfl, _⟩
  refine ⟨ao, c, ?_, h'.on hb⟩
  rw [fired_len hnd, hf]

/-- Literals: a row of one number; a row of one match of one number, of two. -/
theorem lit1 {w : World} (a : Int) : SlG (w.alloc (.cells #[.int .i64 a] 3)).heap.size (w.alloc (.cells #[.int .i64 a] 3)) (some ⟨w.heap.size, 0, none⟩) (icells [a]) := fun _ => by
  refine ⟨w.heap.size, 0, rfl, by simp, fun j u hu => ?_⟩
  rw [Nat.zero_add]
  exact cells_made w _ _ j u (by simpa [icells] using hu)
theorem fit_lit (k a : Int) (hk : In64 k) (ha : In64 a) : Fit14 (k, [a]) := ⟨hk, (fun z hz => by rw [List.mem_singleton.1 hz]; exact ha), by simp⟩
end Go.Proofs.YtlkmabnjmklkpaaDoor
