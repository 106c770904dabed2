/- All: facts, told in their order, in new memory. -/
import Derived.Test.YtajhngkdnkbfcaaDrop11
namespace Go.Proofs.Ytajhngkdnkbfcaa
open Go.RowKit

/-- The cells of a row of facts, each with its slice of values. -/
def cells3 : List (F11 × Value) → List Value
  | [] => []
  | p :: l => .int .i64 p.1.id :: .int .i64 p.1.kind :: p.2 :: cells3 l
theorem cells3_length (l : List (F11 × Value)) : (cells3 l).length = l.length * 3 := by
  induction l with
  | nil => rfl
  | cons x l ih => simp only [cells3, List.length_cons, ih]; omega
theorem cells3_append (l m : List (F11 × Value)) : cells3 (l ++ m) = cells3 l ++ cells3 m := by
  induction l with
  | nil => rfl
  | cons x l ih => simp only [cells3, List.cons_append, ih]
/-- A fact's own values. -/
def ArgV (base : Nat) (w : World) (f : F11) (v : Value) : Prop := ∃ ao c, v = .slice ao f.args.length c ∧ w.ownsRow base 33 3 (.slice ao f.args.length c) f.args.length (cellsV f.args)
/-- A row of facts of one's own. -/
def RowF (base : Nat) (w : World) (l : List F11) (v : Value) : Prop := ∃ ps : List (F11 × Value), ps.map Prod.fst = l ∧ w.ownsRow base 37 3 v l.length (cells3 ps) ∧ ∀ p ∈ ps, ArgV base w p.1 p.2
theorem ArgV.old {base : Nat} {w w' : World} {f : F11} {v : Value} (h : ArgV base w f v) (b : Below w.heap.size w w') : ArgV base w' f v := by
  obtain ⟨ao, c, h1, h2⟩ := h
  exact ⟨ao, c, h1, owns_below h2 b⟩
theorem RowF.old {base : Nat} {w w' : World} {l : List F11} {v : Value} (h : RowF base w l v) (b : Below w.heap.size w w') : RowF base w' l v := by
  obtain ⟨ps, h1, h2, h3⟩ := h
  exact ⟨ps, h1, owns_below h2 b, fun p hp => (h3 p hp).old b⟩
theorem RowF.none (base : Nat) (w : World) : RowF base w [] (.slice none 0 0) := ⟨[], rfl, World.ownsRow_nil _ _ _ _, fun p hp => by cases hp⟩
theorem infoA : (Try.prog.info? 37).map (fun i => (i.zero, i.size, i.bytes)) = some (some (.agg #[.int .i64 0, .int .i64 0, .slice none 0 0]), 3, 40) := by kernel_rfl
theorem cells3_one {l : List (F11 × Value)} (h : ∀ p ∈ l, ∃ ao n c, p.2 = Value.slice ao n c) : ∀ u ∈ cells3 l, u.oneCell' = true := by
  induction l with
  | nil => intro u hu; cases hu
  | cons x l ih =>
    intro u hu
    simp only [cells3, List.mem_cons] at hu
    rcases hu with rfl | rfl | rfl | hu
    · rfl
    · rfl
    · obtain ⟨ao, n, c, e⟩ := h x (by simp)
      rw [e]
      rfl
    · exact ih (fun p hp => h p (by simp [hp])) u hu
/-- A fact more at its end. -/
theorem RowF.push {base : Nat} {w w' : World} {l : List F11} {v v' : Value} {f : F11} {ao : Option Addr} {c : Nat} {ps : List (F11 × Value)} (h1 : ps.map Prod.fst = l) (h0 : w.ownsRow base 37 3 v l.length (cells3 ps)) (h3 : ∀ p ∈ ps, ArgV base w p.1 p.2) (hf : w.ownsRow base 33 3 (.slice ao f.args.length c) f.args.length (cellsV f.args))
    (ho : w'.ownsRow base 37 3 v' (l.length + 1) (cells3 ps ++ [.int .i64 f.id, .int .i64 f.kind, .slice ao f.args.length c])) (hg : w.grownBy w' v.ownBlock) : RowF base w' (l ++ [f]) v' := by
  have hfar : ∀ {v1 : Value} {n : Nat} {xs : List Value}, w.ownsRow base 33 3 v1 n xs → w'.ownsRow base 33 3 v1 n xs := fun h => owns_far (e' := 37) h (by decide) hg (owns_tag h0)
  refine ⟨ps ++ [(f, .slice ao f.args.length c)], by rw [List.map_append, h1]; rfl, ?_, fun p hp => ?_⟩
  · rw [cells3_append, List.length_append]
    exact ho
  · rcases List.mem_append.1 hp with h | h
    · obtain ⟨a, d, e1, e2⟩ := h3 p h
      exact ⟨a, d, e1, hfar e2⟩
    · obtain rfl := List.mem_singleton.1 h
      exact ⟨ao, c, rfl, hfar hf⟩
def AllP (l : List F11) (w : World) (e : Ending) (w' : World) : Prop := ∃ ao c, e = .returned (.slice ao l.length c) ∧ RowF w.heap.size w' l (.slice ao l.length c) ∧ Below w.heap.size w w'
theorem take_getD {l : List F11} {k : Nat} (h : k < l.length) : l.take (k + 1) = l.take k ++ [l.getD k default] := by
  rw [List.take_succ_eq_append_getElem h, List.getD_eq_getElem?_getD, List.getElem?_eq_getElem h]
  rfl
set_option maxRecDepth 100000 in
set_option maxHeartbeats 4000000 in
theorem all_any (mb rb : Nat) (ao : Option Addr) (c : Nat) (l : List F11) (nx : Int) (w : World) (hM : Mm w mb rb ao c l nx) :
    Calls Try.prog 13 #[.pointer (some ⟨mb, 0, none⟩)] w (AllP l w) := by
  obtain ⟨i0, hi, hz0, hz1, hz2⟩ := info_parts infoA
  have HMade := Lib.hid (made_any mb rb w hM.ptr)
  have x := Mp.get hM.ptr
  obtain ⟨x0, -⟩ := hM.row.next
  have HM := Lib.hid (fun W (b : Below w.heap.size w W) => hM.old b)
  have hm9 : l.length ≤ 9223372036854775807 := by have := hM.row.many; omega
  have hm256 : l.length ≤ 256 := hM.row.many
  have HF := Lib.hid hM.row.few
  have HTx := Lib.hid hM.txt
  clear hM
  unfold AllP
  go_enter Try.func13, Try.ntmps13
  go_wp2_with (go_at_call 24; refine (HMade.out).mono ?_; rintro e w2 ⟨rfl, rfl⟩)
  go_loopw [3, 17] (fun s3 i wr => ∃ (k : Nat) (ao' : Option Addr) (c' : Nat), k ≤ l.length ∧ i = .int .i64 k ∧ s3 = .slice ao' k c' ∧ Hid (RowF w.heap.size wr (l.take k) (.slice ao' k c')) ∧ Hid (Below w.heap.size w wr)) (fun _ i _ => l.length - (intOf i).toNat)
  case atStart => exact ⟨0, none, 0, Nat.zero_le _, rfl, rfl, RowF.none _ _, Below.refl _ _⟩
  case round =>
    obtain ⟨k, ao', c', hk, rfl, rfl, HRo, HW⟩ := hrel
    by_cases hlt : k < l.length
    · have hMr := HM.out wr HW.out
      obtain ⟨fb, rfl, lfb, hrng⟩ := hMr.row.at hlt
      have HLen := Lib.hid (factL_length _ (getD_few HF.out hlt))
      have HOne := Lib.hid (factL_one (l.getD k default))
      have HTell := Lib.hid (fun W => tell_any (l.getD k default) (getD_few HF.out hlt) (fun v hv => Nat.le_trans (HTx.out _ (getD_mem11 hlt) v hv) (by decide)) W)
      unfold TellP at HTell
      have HRg := Lib.hid hrng
      have hkn : (k : Int) < (l.length : Int) := by omega
      have HTk := Lib.hid (take_getD hlt)
      have HLk : Hid ((l.take k).length = k) := by show _ = _; rw [List.length_take]; omega
      clear hMr hrng HM HF HTx
      obtain ⟨f, hf⟩ : ∃ f, f = l.getD k default := ⟨_, rfl⟩
      rw [← hf] at HTell HLen HRg HTk HOne
      clear hf
      obtain ⟨FL, hFL⟩ : ∃ FL, FL = factL f := ⟨_, rfl⟩
      rw [← hFL] at HTell HLen HRg HOne
      clear hFL
      obtain ⟨ln, hln⟩ : ∃ ln, ln = l.length := ⟨_, rfl⟩
      rw [← hln] at x0 hkn hm9 hlt hm256 hk ⊢
      clear hln
      have hk257 : k ≤ 256 := by omega
      go_upto_region 7 with (first
        | (refine wpList_load_mid rfl 71 (.tmp 19) rfl fb (k * 21) rfl FL _ HRg.out Try.underlying71 rfl (fact_infoL HLen.out) ?_)
        | (refine wpList_store_mid rfl 71 (.tmp 5) (.tmp 20) rfl wr.heap.size 0 FL.toArray rfl rfl ((Box.new wr 71 zeroFact.cells.toList).there 0 FL.toArray.size (by show 0 + FL.length ≤ 21; rw [HLen.out]; decide)) (by rw [List.size_toArray, HLen.out]; kernel_rfl) (all_oneCell_toArray HOne.out) ?_))
      have hb3 := (Box.new wr 71 zeroFact.cells.toList).setAll FL (by rw [HLen.out]; rfl)
      have hl3 : Below wr.heap.size wr ((wr.alloc (.cells zeroFact.cells.toList.toArray 71)).setCells wr.heap.size 0 FL) := (below_own _).grown (grownBy_setCells _ _ _ _) (below_own (w := wr) (.cells zeroFact.cells.toList.toArray 71)).size (fun j hj => by cases hj; exact Nat.le_refl _)
      have H3 := Lib.hid hb3
      have HL3 := Lib.hid hl3
      clear hb3 hl3
      generalize hW4 : World.setCells _ _ _ _ = W4
      have HB4 : Hid (Box W4 wr.heap.size 71 FL) := by rw [← hW4]; exact H3.out
      have HW4 : Hid (Below wr.heap.size wr W4) := by rw [← hW4]; exact HL3.out
      clear hW4 H3 HL3 HRg
      have HRo4 := Lib.hid (HRo.out.old HW4.out)
      have HBl4 := Lib.hid (HW.out.trans (HW4.out.mono HW.out.size))
      clear HRo HW HW4
      generalize wr.heap.size = vb at *
      go_wp2_with (first
        | (refine wpList_load_mid rfl 71 (.tmp 5) rfl vb 0 rfl FL _ HB4.out.range Try.underlying71 rfl (fact_infoL HLen.out) ?_)
        | (go_at_call 30; refine (HTell.out W4).mono ?_; rintro e w5 ⟨ao1, c1, rfl, ho, hb⟩; have HO5 := Lib.hid (owns_mono ho HBl4.out.size); have HRo5 := Lib.hid (HRo4.out.old hb); have HBl5 := Lib.hid (HBl4.out.trans (hb.mono HBl4.out.size)); clear ho hb)
        | (at_builtin; have hbn := below_own (w := w5) (.cells #[.int .i64 f.id, .int .i64 f.kind, .slice ao1 f.args.length c1] 37); obtain ⟨ps, q1, q2, q3⟩ := HRo5.out.old hbn; have q4 := owns_below HO5.out hbn; have q2' := q2; rw [HLk.out] at q2'; have HQ := Lib.hid (And.intro q1 (And.intro q2 (And.intro q3 q4))); have HBl6 := Lib.hid (HBl5.out.trans (hbn.mono HBl5.out.size)); clear hbn q1 q3 q4 q2; refine wpList_append_apart _ rfl (.tmp 21) (.tmp 24) 44 rfl w.heap.size 37 i0 (.agg #[.int .i64 0, .int .i64 0, .slice none 0 0]) 3 40 Try.underlying44 hi hz0 hz1 hz2 rfl (by decide) _ k (cells3 ps) rfl q2' (some ⟨w5.heap.size, 0, none⟩) 1 1 [.int .i64 f.id, .int .i64 f.kind, .slice ao1 f.args.length c1] rfl rfl (fun h => by cases h) (fun ad h j u hu => by cases h; rw [Addr.add_lit, Nat.zero_add]; exact (Lib.cell_of_heap (alloc_at rfl _) j).trans (by simpa using hu)) (by intro u hu; simp at hu; rcases hu with rfl | rfl | rfl <;> rfl) (by unfold maxLen; omega) (by omega) HBl6.out.size ?_; intro v' w6 hown' hgrow' hor))
      obtain ⟨a7, c7, rfl⟩ := owns_slice hown'
      obtain ⟨q1, q2, q3, q4⟩ := HQ.out
      have hpush : RowF w.heap.size w6 (l.take k ++ [f]) (.slice a7 (k + 1) c7) := RowF.push q1 q2 q3 q4 (by rw [HLk.out]; exact hown') hgrow'
      have hbl7 := HBl6.out.grown hgrow' HBl6.out.size (fun j hj => (World.ownsRow.lt q2 j hj).1)
      rw [← HTk.out] at hpush
      have HP := Lib.hid hpush
      have HBl7 := Lib.hid hbl7
      refine ⟨⟨k + 1, a7, c7, by omega, by go_num, rfl, HP, HBl7⟩, ?_⟩
      simp [intOf]
      omega
    · obtain rfl : k = l.length := by omega
      have HRl : Hid (RowF w.heap.size wr l (.slice ao' l.length c')) := by
        have := HRo.out
        rwa [List.take_length] at this
      clear HRo HM HF HTx
      go_wp2_with fail
      go_ret
      exact ⟨ao', c', rfl, HRl.out, HW.out⟩
/-- None, and one that nobody made. -/
def Unmade (w : World) (p : Option Addr) : Prop := p = none ∨ ∃ mb, p = some ⟨mb, 0, none⟩ ∧ Box w mb 26 [.pointer none]
theorem Unmade.old {w w' : World} {p : Option Addr} (h : Unmade w p) (b : Below w.heap.size w w') : Unmade w' p := by
  rcases h with h | ⟨mb, h1, h2⟩
  · exact Or.inl h
  · exact Or.inr ⟨mb, h1, h2.old b⟩
theorem made_no (p : Option Addr) (w : World) (h : Unmade w p) : Calls Try.prog 24 #[.pointer p] w fun e w' => e = .returned (.bool false) ∧ w = w' := by
  rcases h with rfl | ⟨mb, rfl, h⟩
  · exact made_nil w
  · exact made_zero mb w h
theorem add_nil (p : Option Addr) (kind : Int) (v : Value) (w : World) (h : Unmade w p) : Calls Try.prog 7 #[.pointer p, .int .i64 kind, v] w fun e w' => e = .returned (.tuple #[.int .i64 0, .int .i64 1]) ∧ w = w' := by
  have HM := Lib.hid (made_no p w h)
  clear h
  go_enter Try.func7, Try.ntmps7
  go_wp2_with (go_at_call 24; refine (HM.out).mono ?_; rintro e w2 ⟨rfl, rfl⟩)
  go_ret2
  exact ⟨rfl, rfl⟩
theorem drop_nil (p : Option Addr) (t : Int) (w : World) (h : Unmade w p) : Calls Try.prog 11 #[.pointer p, .int .i64 t] w fun e w' => e = .returned (.int .i64 1) ∧ w = w' := by
  have HM := Lib.hid (made_no p w h)
  clear h
  go_enter Try.func11, Try.ntmps11
  go_wp2_with (go_at_call 24; refine (HM.out).mono ?_; rintro e w2 ⟨rfl, rfl⟩)
  go_ret
  exact ⟨rfl, rfl⟩
theorem get_nil (p : Option Addr) (t : Int) (w : World) (h : Unmade w p) : Calls Try.prog 9 #[.pointer p, .int .i64 t] w (SaysP11 (.tuple #[.agg #[.int .i64 0, .int .i64 0, .slice none 0 0], .bool false]) w) := get_bad p t w (made_no p _ (h.old (below_own _)))
theorem all_nil (p : Option Addr) (w : World) (h : Unmade w p) : Calls Try.prog 13 #[.pointer p] w fun e w' => e = .returned (.slice none 0 0) ∧ w = w' := by
  have HM := Lib.hid (made_no p w h)
  clear h
  go_enter Try.func13, Try.ntmps13
  go_wp2_with (go_at_call 24; refine (HM.out).mono ?_; rintro e w2 ⟨rfl, rfl⟩)
  go_ret
  exact ⟨rfl, rfl⟩
theorem next_nil (p : Option Addr) (w : World) (h : Unmade w p) : Calls Try.prog 14 #[.pointer p] w fun e w' => e = .returned (.int .i64 0) ∧ w = w' := by
  have HM := Lib.hid (made_no p w h)
  clear h
  go_enter Try.func14, Try.ntmps14
  go_wp2_with (go_at_call 24; refine (HM.out).mono ?_; rintro e w2 ⟨rfl, rfl⟩)
  go_ret
  exact ⟨rfl, rfl⟩
theorem len_nil (p : Option Addr) (w : World) (h : Unmade w p) : Calls Try.prog 15 #[.pointer p] w fun e w' => e = .returned (.int .i64 0) ∧ w = w' := by
  have HM := Lib.hid (made_no p w h)
  clear h
  go_enter Try.func15, Try.ntmps15
  go_wp2_with (go_at_call 24; refine (HM.out).mono ?_; rintro e w2 ⟨rfl, rfl⟩)
  go_ret
  exact ⟨rfl, rfl⟩
set_option maxHeartbeats 2000000 in
theorem find_nil (p : Option Addr) (kind : Int) (vs : List V3) (vo : Option Addr) (vc : Nat) (w : World) (hu : Unmade w p) (hs : Sl10 w.heap.size w vs.length vo vc (cellsV vs)) (hx : ∀ v ∈ vs, v.2.2.size ≤ 140737488355328) (hn : vs.length ≤ 100000) :
    Calls Try.prog 10 #[.pointer p, .int .i64 kind, .slice vo vs.length vc] w (SaysP11 (.tuple #[.int .i64 0, .bool false]) w) := by
  cases h : mayB kind vs with
  | false => exact find_bad p kind vs vo vc w hs hx hn h
  | true =>
    have HSay := Lib.hid (say_any kind vs vo vc w hs (fun v hv => Nat.le_trans (hx v hv) (by unfold maxLen; decide)) hn)
    unfold SayP at HSay
    rw [sayA_yes h] at HSay
    have h6 : vs.length ≤ 6 := may_six h
    have HL : Hid ((sayL kind vs.length (pad6 vs)).length = 20) := by show _ = _; rw [sayL_length, pad6_length h6]
    have HL1 := Lib.hid (sayL_one kind vs.length (pad6 vs))
    have HMade := Lib.hid (fun W (b : Below w.heap.size w W) => made_no p W (hu.old b))
    clear hu hs hx hn h h6
    generalize sayL kind vs.length (pad6 vs) = L at *
    generalize vs.length = n at *
    unfold SaysP11
    go_enter Try.func10, Try.ntmps10
    go_upto_region 2 with (first
      | (go_at_call 25; refine (HSay.out).mono ?_; rintro e w3 ⟨rfl, hb⟩; have HB := Lib.hid hb; clear hb)
      | (refine wpList_store_mid rfl 64 (.tmp 8) (.tmp 14) rfl w3.heap.size 0 L.toArray rfl rfl ((Box.new w3 64 (sayL 0 0 zeros6)).there 0 L.toArray.size (by show 0 + L.length ≤ 20; rw [HL.out]; decide)) (say_info HL.out) (all_oneCell_toArray HL1.out) ?_))
    have hb3 := (Box.new w3 64 (sayL 0 0 zeros6)).setAll L (by rw [HL.out]; rfl)
    have hl3 : Below w.heap.size w ((w3.alloc (.cells (sayL 0 0 zeros6).toArray 64)).setCells w3.heap.size 0 L) := (below_new HB.out _).grown (grownBy_setCells _ _ _ _) (below_new HB.out (.cells (sayL 0 0 zeros6).toArray 64)).size (fun j hj => by cases hj; exact HB.out.size)
    have H3 := Lib.hid hb3
    have HL3 := Lib.hid hl3
    clear hb3 hl3
    generalize hW4 : World.setCells _ _ _ _ = W4
    have HB4 : Hid (Box W4 w3.heap.size 64 L) := by rw [← hW4]; exact H3.out
    have HW4 : Hid (Below w.heap.size w W4) := by rw [← hW4]; exact HL3.out
    clear hW4 H3 HL3 HB HSay
    generalize w3.heap.size = sb at *
    go_wp2_with (go_at_call 24; refine (HMade.out W4 HW4.out).mono ?_; rintro e w2 ⟨rfl, rfl⟩)
    go_ret2
    exact ⟨rfl, HW4.out⟩
end Go.Proofs.Ytajhngkdnkbfcaa
