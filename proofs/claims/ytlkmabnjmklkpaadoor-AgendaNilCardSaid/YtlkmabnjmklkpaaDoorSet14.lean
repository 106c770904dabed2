/- The program's Set. -/
import Derived.Test.YtlkmabnjmklkpaaDoorHoldW14
namespace Go.Proofs.YtlkmabnjmklkpaaDoor
open Go.RowKit

theorem unspent_map (l : List TK) (h : TK → Bool) : unspent l (l.map h) = l.filter (fun t => !h t) := by
  induction l with
  | nil => rfl
  | cons x l ih =>
    rw [List.map_cons, unspent_cons, ih]
    cases hx : h x <;> simp [hx]
theorem firedOf_map (l : List TK) (h : TK → Bool) : firedOf l (l.map h) = l.filter h := by
  induction l with
  | nil => rfl
  | cons x l ih =>
    rw [List.map_cons, firedOf_cons, ih]
    cases hx : h x <;> simp [hx]
theorem mem_firedOf (x : TK) : ∀ (l : List TK) (sp : List Bool), x ∈ firedOf l sp ↔ ∃ m, ∃ h : m < l.length, l[m] = x ∧ sp[m]? = some true
  | [], _ => by simp [firedOf]
  | _ :: _, [] => by simp [firedOf]
  | y :: l, b :: sp => by
    have ih := mem_firedOf x l sp
    rw [firedOf_cons]
    constructor
    · intro h
      have hin : x ∈ firedOf l sp → ∃ m, ∃ h : m < (y :: l).length, (y :: l)[m] = x ∧ (b :: sp)[m]? = some true := fun h => by
        obtain ⟨m, hm, e, f⟩ := ih.1 h
        exact ⟨m + 1, by simpa using hm, by simpa using e, by simpa using f⟩
      cases b with
      | false => exact hin (by simpa using h)
      | true =>
        simp only [if_true, List.mem_cons] at h
        rcases h with rfl | h
        · exact ⟨0, by simp, rfl, rfl⟩
        · exact hin h
    · rintro ⟨m, hm, e, f⟩
      cases m with
      | zero =>
        have hb : b = true := by simpa using f
        have hy : y = x := by simpa using e
        subst hb hy
        simp
      | succ m =>
        have h2 : x ∈ firedOf l sp := ih.2 ⟨m, by simpa using hm, by simpa using e, by simpa using f⟩
        cases b with
        | false => simpa using h2
        | true => simp [h2]
theorem held_iff {l : List TK} {sp : List Bool} (hn : l.Nodup) (t : TK) : heldB l sp t = true ↔ t ∈ firedOf l sp := by
  rw [mem_firedOf]
  constructor
  · intro h
    unfold heldB at h
    split at h
    · cases h
    · rename_i hp
      have hm : t ∈ l := by
        apply Classical.byContradiction
        intro hm
        unfold placeI at hp
        rw [if_neg hm] at hp
        exact hp (by decide)
      obtain ⟨m, hm2, rfl⟩ := List.getElem_of_mem hm
      rw [placeI_nodup hn hm2] at h
      refine ⟨m, hm2, rfl, ?_⟩
      rw [Int.toNat_natCast] at h
      rw [List.getD_eq_getElem?_getD] at h
      cases hq : sp[m]? with
      | none => rw [hq] at h; cases h
      | some b => rw [hq] at h; simpa using h
  · rintro ⟨m, hm, rfl, hs⟩
    unfold heldB
    rw [placeI_nodup hn hm, if_neg (by omega), Int.toNat_natCast, List.getD_eq_getElem?_getD, hs]
    rfl
theorem filter_keys (qs F : List MV) : (qs.filter (wasF F)).map Prod.fst = (qs.map Prod.fst).filter (fun t => decide (t ∈ F.map Prod.fst)) := by
  rw [List.filter_map]
  rfl
theorem filter_keys' (qs F : List MV) : (qs.filter (fun q => !wasF F q)).map Prod.fst = (qs.map Prod.fst).filter (fun t => !decide (t ∈ F.map Prod.fst)) := by
  rw [List.filter_map]
  rfl

set_option maxRecDepth 100000 in
set_option maxHeartbeats 4000000 in
theorem set_tells (N : Nat) (hN : SortsM N) (hNN : N ≤ 1000000) : SetTells PAg N := by
  intro s l sp l2 db bs ao c w hs64 hl hl2 hfit hP hrow hnil hcap htab
  obtain ⟨lb, so, sc, wo, wc, mb, ws, F, h⟩ := hP
  have HP := Lib.hid h
  have HFit := Lib.hid hfit
  have HT := Lib.hid htab
  have c0 : w.cell? ⟨db, 0, none⟩ = some (.pointer (some ⟨lb, 0, none⟩)) := Lib.cell_of_heap h.hdb 0
  have c1 : w.cell? ⟨lb, 0, none⟩ = some (.slice so s.length sc) := Lib.cell_of_heap h.hlb 0
  have KM := Lib.hid (made_any db lb w c0)
  have KR := Lib.hid (row_any N hN hNN s so ao sc c l2 w h.sal.slG hrow hl2 (fun t ht => (hfit t ht).len))
  clear h hrow hfit htab hN
  go_enter Tryd.func7, Tryd.ntmps7
  go_wp2_with (go_at_call 18; refine KM.out.mono ?_; rintro e w1 ⟨rfl, hw⟩; rw [hw]; clear hw; refine Hid.out ?_)
  refine Lib.hid ?_
  go_wp2_with (go_at_call 20; refine KR.out.mono ?_; rintro e w1 ⟨hb, ⟨hset, qs, v, rfl, ho, hpm, hrw, hmo⟩ | ⟨hno, rfl⟩⟩; all_goals (first | (have HB := Lib.hid hb; have HSet := Lib.hid hset; have HO := Lib.hid ho; have HPm := Lib.hid hpm; have HRw := Lib.hid hrw; have HMo := Lib.hid hmo; clear hb hset ho hpm hrw hmo; refine Hid.out ?_) | (have HB := Lib.hid hb; have HNo := Lib.hid hno; clear hb hno; refine Hid.out ?_)))
  · refine Lib.hid ?_
    obtain ⟨ov, oc, rfl⟩ := owns_slice HO.out
    have HP1 : Hid (PAt w1 db lb s so sc wo wc mb ws F l sp bs) := HP.out.touch (T := fun _ => False) (Touch.of_below HB.out _) (fun _ _ h => h)
    have d0 : w1.cell? ⟨db, 0, none⟩ = some (.pointer (some ⟨lb, 0, none⟩)) := Lib.cell_of_heap HP1.out.hdb 0
    have KH := Lib.hid (hold_any lb mb so wo ov s.length sc ws.length wc oc qs F w1 HP1.out.hlb HP1.out.map (owns_slG HO.out) (fun q hq => ⟨owns_slG (HMo.out q hq).ids, HFit.out _ (HPm.out.mem_iff.1 (List.mem_map_of_mem hq))⟩) (row_nodup HRw.out) (by have := HPm.out.length_eq; rw [List.length_map] at this; omega) (HT.out.on HB.out))
    clear KR KM c0 c1
    go_wp2_with (go_at_call 21; refine KH.out.mono ?_; rintro e w2 ⟨rfl, ht, wo2, wc2, mb2, h1, h2, h3, h4⟩; have HTo := Lib.hid ht; have HLb := Lib.hid h1; have HO2 := Lib.hid h2; have HM2 := Lib.hid h3; have HMb := Lib.hid h4; clear ht h1 h2 h3 h4; refine Hid.out ?_)
    refine Lib.hid ?_
    have HE : Hid (Touch bs w w2 ∧ ∃ bs' : Nat → Prop, PAg w2 db s l2 (l2.map (heldB l sp)) bs' ∧ ∀ b, bs' b → bs b ∨ w.heap.size ≤ b) := by
      have hlt := lt_of_heap HP.out.hlb
      have hbz := HB.out.size
      have ht0 : Touch bs w w2 := ⟨HTo.out.os.trans HB.out.os, HTo.out.tape.trans HB.out.tape, HTo.out.output.trans HB.out.output, Nat.le_trans hbz HTo.out.size, fun j hj hs => (HTo.out.block j (Nat.lt_of_lt_of_le hj hbz) (fun e => hs (by rw [e]; exact HP.out.blb))).trans (HB.out.block j hj)⟩
      have hkeys : ∀ t, decide (t ∈ F.map Prod.fst) = heldB l sp t := fun t => by
        have h1 := held_iff (sp := sp) HP.out.nod t
        have h2 := (HP.out.don.mem_iff (a := t))
        cases hb : heldB l sp t with
        | true => exact decide_eq_true (h2.2 (h1.1 hb))
        | false => exact decide_eq_false (fun hm => by rw [h1.2 (h2.1 hm)] at hb; cases hb)
      have hneL : ∀ b, (∃ cur fz, w1.heap[b]? = some (Obj.cells cur 3 fz)) → b ≠ lb := fun b hb e => by
        obtain ⟨cur, fz, h⟩ := hb
        have := HP1.out.hlb
        rw [← e, h] at this
        injection this with this
        injection this with _ h5 _
        exact absurd h5 (by decide)
      have hint : ∀ b, (∃ cur fz, w1.heap[b]? = some (Obj.cells cur 3 fz)) → ∃ cur fz, w2.heap[b]? = some (Obj.cells cur 3 fz) := fun b hb => by
        have hne := hneL b hb
        obtain ⟨cur, fz, h⟩ := hb
        exact ⟨cur, fz, (HTo.out.block b (lt_of_heap h) hne).trans h⟩
      have hnew : ∀ q, q ∈ qs → MvS (SI (fun b => bs b ∨ (w.heap.size ≤ b ∧ b < w2.heap.size)) w2) w2 q ∧ Fit14 q.1 := fun q hq => by
        have h1 := (HMo.out q hq).mvS (S := fun b => w.heap.size ≤ b ∧ b < w1.heap.size ∧ ∃ cur fz, w1.heap[b]? = some (Obj.cells cur 3 fz)) (fun k a b c => ⟨a, b, c⟩)
        have h2 := h1.touch HTo.out (fun b hb => hneL b hb.2.2)
        exact ⟨h2.mono (fun b hb => ⟨Or.inr ⟨hb.1, Nat.lt_of_lt_of_le hb.2.1 HTo.out.size⟩, hint b hb.2.2⟩), HFit.out _ (HPm.out.mem_iff.1 (List.mem_map_of_mem hq))⟩
      refine ⟨ht0, fun b => bs b ∨ (w.heap.size ≤ b ∧ b < w2.heap.size), ⟨lb, so, sc, wo2, wc2, mb2, qs.filter (fun q => !wasF F q), qs.filter (wasF F), ?_⟩, fun b hb => hb.imp id (fun h => h.1)⟩
      exact {
        hdb := (HTo.out.block _ (lt_of_heap HP1.out.hdb) (fun e => by
          have h5 := HP1.out.hlb
          rw [← e, HP1.out.hdb] at h5
          injection h5 with h5
          injection h5 with _ h6 _
          exact absurd h6 (by decide))).trans HP1.out.hdb
        hlb := HLb.out
        bdb := Or.inl HP.out.bdb
        blb := Or.inl HP.out.blb
        bmb := Or.inr ⟨Nat.le_trans hbz HMb.out, HM2.out.lt⟩
        sal := (HP1.out.sal.touch HTo.out (fun b hb => hneL b hb.2)).mono (fun b hb => ⟨Or.inl hb.1, hint b hb.2⟩)
        row := by
          refine ⟨(owns_cap HO2.out).1, (owns_cap HO2.out).2, fun hne => ?_⟩
          rcases HO2.out.2 with ⟨h1, h2⟩ | ⟨g, cap, cur, h1, hb, hg, hnc, hcap, hcs, htk⟩
          · exact absurd (List.eq_nil_of_length_eq_zero h2) hne
          · simp only [Value.slice.injEq] at h1
            obtain ⟨rfl, _, rfl⟩ := h1
            refine ⟨g, 0, cur, rfl, Or.inr ⟨Nat.le_trans hbz hb, lt_of_heap hg⟩, hg, fun j u hu => ?_⟩
            rw [Nat.zero_add, ← Array.getElem?_toList]
            rw [← htk] at hu
            have hlen := (List.getElem?_eq_some_iff.1 hu).1
            rw [List.length_take] at hlen
            rwa [List.getElem?_take_of_lt (by omega)] at hu
        map := HM2.out
        wok := fun p hp => hnew p (List.mem_filter.1 hp).1
        fok := fun p hp => hnew p (List.mem_filter.1 hp).1
        srt := List.Pairwise.sublist (List.filter_sublist.map _) HRw.out
        opn := by
          rw [filter_keys', unspent_map]
          refine (HPm.out.filter _).trans ?_
          rw [List.filter_congr (fun t _ => by rw [hkeys t])]
        don := by
          rw [filter_keys, firedOf_map]
          refine (HPm.out.filter _).trans ?_
          rw [List.filter_congr (fun t _ => hkeys t)]
        nod := HSet.out.2
        len := by simp
        lts := fun b hb => by
          rcases hb with hb | hb
          · exact Nat.lt_of_lt_of_le (HP.out.lts b hb) ht0.size
          · exact hb.2 }
    clear HB HO HPm HRw HMo HP1 HTo HLb HO2 HM2 HMb HP KH
    go_wp2
    go_ret
    exact ⟨HE.out.1, Or.inl ⟨HSet.out, rfl, HE.out.2⟩⟩
  · refine Lib.hid ?_
    have HE : Hid (Touch bs w w1 ∧ PAg w1 db s l sp bs) := ⟨Touch.of_below HB.out _, lb, so, sc, wo, wc, mb, ws, F, HP.out.touch (Touch.of_below HB.out (fun _ => False)) (fun _ _ h => h)⟩
    go_wp2
    go_ret
    exact ⟨HE.out.1, Or.inr ⟨HNo.out, rfl, HE.out.2⟩⟩
end Go.Proofs.YtlkmabnjmklkpaaDoor
