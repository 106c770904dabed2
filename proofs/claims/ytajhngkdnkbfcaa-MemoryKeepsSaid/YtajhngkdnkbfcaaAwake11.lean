/- The chapter's example. -/
import Derived.Test.YtajhngkdnkbfcaaAll11
namespace Go.Proofs.Ytajhngkdnkbfcaa
open Go.RowKit

theorem num_any (x : Int) (w : World) : Calls Try.prog 8 #[.int .i64 x] w fun e w' => e = .returned (aggV (numT x)) ∧ Below w.heap.size w w' := by
  go_enter Try.func8, Try.ntmps8
  go_wp2_with fail
  exact bodyPost_ret (v := .agg #[.int .u8 1, .int .i64 x, .string ⟨#[]⟩]) (by simp [results, Try.results8, go_sem]) rfl ⟨rfl, below_own _⟩
/-- A memory that the call itself made. -/
def Aw (w : World) (mb rb : Nat) (l : List F11) (nx : Int) (W : World) : Prop := ∃ ao c, Mm W mb rb ao c l nx ∧ Below w.heap.size w W ∧ w.heap.size ≤ rb ∧ ∀ a, ao = some a → w.heap.size ≤ a.block
theorem Aw.old {w W W' : World} {mb rb : Nat} {l : List F11} {nx : Int} (h : Aw w mb rb l nx W) (b : Below W.heap.size W W') : Aw w mb rb l nx W' := by
  obtain ⟨ao, c, h1, h2, h3, h4⟩ := h
  exact ⟨ao, c, h1.old b, h2.trans (b.mono h2.size), h3, h4⟩
theorem Aw.below {w W : World} {mb rb : Nat} {l : List F11} {nx : Int} (h : Aw w mb rb l nx W) : Below w.heap.size w W := by
  obtain ⟨ao, c, h1, h2, h3, h4⟩ := h
  exact h2
theorem Aw.becomes {w W W' : World} {mb rb : Nat} {ao : Option Addr} {m : M11} {e : Ending} (h2 : Below w.heap.size w W) (h3 : w.heap.size ≤ rb) (h4 : ∀ a, ao = some a → w.heap.size ≤ a.block) (hb : BecomesP mb rb ao m W e W') : e = .returned m.tells ∧ Aw w mb rb m.facts m.next W' := by
  obtain ⟨he, ao', c', hM, ht, hn⟩ := hb
  refine ⟨he, ao', c', hM, h2.trans (ht.below h2.size ?_), h3, fun a' ea => ?_⟩
  · rintro j (rfl | ⟨a, rfl, rfl⟩)
    · exact h3
    · exact h4 a rfl
  · rcases hn a' ea with ⟨a, e1, e2⟩ | h
    · rw [← e2]
      exact h4 a e1
    · exact Nat.le_trans h2.size h
theorem Aw.add {w W : World} {mb rb : Nat} {l : List F11} {nx : Int} (h : Aw w mb rb l nx W) (kind : Int) (vs : List V3) (vo : Option Addr) (vc : Nat) (hs : Sl10 W.heap.size W vs.length vo vc (cellsV vs)) (hx : ∀ v ∈ vs, v.2.2.size ≤ 140737488355328) (hn : vs.length ≤ 100000) (m : M11) (hm : addM l nx kind vs = m) :
    Calls Try.prog 7 #[.pointer (some ⟨mb, 0, none⟩), .int .i64 kind, .slice vo vs.length vc] W fun e W' => e = .returned m.tells ∧ Aw w mb rb m.facts m.next W' := by
  subst hm
  obtain ⟨ao, c, h1, h2, h3, h4⟩ := h
  exact (add_any kind vs vo vc mb rb ao c l nx W h1 hs hx hn).mono fun e W' hb => Aw.becomes h2 h3 h4 hb
theorem Aw.drop {w W : World} {mb rb : Nat} {l : List F11} {nx : Int} (h : Aw w mb rb l nx W) (t : Int) (m : M11) (hm : dropM l nx t = m) :
    Calls Try.prog 11 #[.pointer (some ⟨mb, 0, none⟩), .int .i64 t] W fun e W' => e = .returned m.tells ∧ Aw w mb rb m.facts m.next W' := by
  subst hm
  obtain ⟨ao, c, h1, h2, h3, h4⟩ := h
  exact (drop_any t mb rb ao c l nx W h1).mono fun e W' hb => Aw.becomes h2 h3 h4 hb
theorem Aw.all {w W : World} {mb rb : Nat} {l : List F11} {nx : Int} (h : Aw w mb rb l nx W) : Calls Try.prog 13 #[.pointer (some ⟨mb, 0, none⟩)] W (AllP l W) := by
  obtain ⟨ao, c, h1, -⟩ := h
  exact all_any mb rb ao c l nx W h1
theorem Aw.next {w W : World} {mb rb : Nat} {l : List F11} {nx : Int} (h : Aw w mb rb l nx W) : Calls Try.prog 14 #[.pointer (some ⟨mb, 0, none⟩)] W fun e w' => e = .returned (.int .i64 nx) ∧ W = w' := by
  obtain ⟨ao, c, h1, -⟩ := h
  exact next_any mb rb ao c l nx W h1.ptr h1.row
theorem Aw.len {w W : World} {mb rb : Nat} {l : List F11} {nx : Int} (h : Aw w mb rb l nx W) : Calls Try.prog 15 #[.pointer (some ⟨mb, 0, none⟩)] W fun e w' => e = .returned (.int .i64 l.length) ∧ W = w' := by
  obtain ⟨ao, c, h1, -⟩ := h
  exact len_any mb rb ao c l nx W h1.ptr h1.row
theorem new_aw (w : World) : Calls Try.prog 16 #[] w fun e W => ∃ mb rb, e = .returned (.pointer (some ⟨mb, 0, none⟩)) ∧ Aw w mb rb [] 1 W := by
  refine (new_any w).mono ?_
  rintro e W ⟨mb, rb, he, h1, h2, h3, h4, h5⟩
  exact ⟨mb, rb, he, none, 0, ⟨h3, h4, fun i j _ hj => absurd hj (Nat.not_lt_zero _), fun f hf => (by cases hf), by decide, by decide, fun f hf => by cases hf⟩, h5, h2, fun a ea => by cases ea⟩
set_option maxRecDepth 100000 in
set_option maxHeartbeats 2000000 in
theorem drop_none (t : Int) (mb rb : Nat) (ao : Option Addr) (c : Nat) (l : List F11) (nx : Int) (w : World) (hM : Mm w mb rb ao c l nx) (hno : hasId l t = false) :
    Calls Try.prog 11 #[.pointer (some ⟨mb, 0, none⟩), .int .i64 t] w (SaysP11 (.int .i64 6) w) := by
  have HMade := Lib.hid (made_any mb rb w hM.ptr)
  have HPl := Lib.hid (place_any t rb ao c l nx w hM.row hM.rise)
  unfold PlaceP at HPl
  have x := Mp.get hM.ptr
  have HM := Lib.hid hM
  have HNo := Lib.hid hno
  clear hM hno
  unfold SaysP11
  go_enter Try.func11, Try.ntmps11
  go_upto_region 4 with (first
    | (go_at_call 24; refine (HMade.out).mono ?_; rintro e w2 ⟨rfl, rfl⟩)
    | (go_at_call 29; refine (HPl.out).mono ?_; rintro e w3 ⟨k, hst, rfl, hb⟩; have HSt := Lib.hid hst; have HB := Lib.hid hb; clear hb hst))
  have hhas := has_of HM.out.rise HSt.out
  rw [HNo.out] at hhas
  rw [← hhas]
  clear HPl HMade x hhas
  go_wp2_with fail
  go_ret
  exact ⟨rfl, HB.out⟩
theorem Aw.dropNone {w W : World} {mb rb : Nat} {l : List F11} {nx : Int} (h : Aw w mb rb l nx W) (t : Int) (hno : hasId l t = false) :
    Calls Try.prog 11 #[.pointer (some ⟨mb, 0, none⟩), .int .i64 t] W (SaysP11 (.int .i64 6) W) := by
  obtain ⟨ao, c, h1, -⟩ := h
  exact drop_none t mb rb ao c l nx W h1 hno
def nameA : V3 := (2, 0, ⟨#[97]⟩)
theorem sl_one {W : World} {g : Nat} {v : V3} (h : W.heap[g]? = some (.cells #[.int .u8 v.1, .int .i64 v.2.1, .string v.2.2] 33 (0, 0))) : Sl10 W.heap.size W [v].length (some ⟨g, 0, none⟩) 1 (cellsV [v]) :=
  ⟨fun _ => ⟨g, 0, rfl, lt_of_heap h, fun j u hu => by
    rw [Nat.zero_add, Lib.cell_of_heap h j, ← Array.getElem?_toList]
    exact hu⟩, (fun h => by cases h), Nat.le_refl _, by unfold maxLen; decide⟩
theorem sl_none (W : World) : Sl10 W.heap.size W ([] : List V3).length none 0 (cellsV []) := ⟨fun h => absurd rfl h, fun _ => ⟨rfl, rfl⟩, Nat.le_refl _, by unfold maxLen; decide⟩
theorem add1 {w W : World} {mb rb : Nat} {l : List F11} {nx : Int} (h : Aw w mb rb l nx W) (v : V3) (hv : v.2.2.size ≤ 1000) (g : Nat) (hg : W.heap[g]? = some (.cells #[.int .u8 v.1, .int .i64 v.2.1, .string v.2.2] 33 (0, 0))) (kind : Int) (m : M11) (hm : addM l nx kind [v] = m) :
    Calls Try.prog 7 #[.pointer (some ⟨mb, 0, none⟩), .int .i64 kind, .slice (some ⟨g, 0, none⟩) 1 1] W fun e W' => e = .returned m.tells ∧ Aw w mb rb m.facts m.next W' :=
  h.add kind [v] (some ⟨g, 0, none⟩) 1 (sl_one hg) (fun u hu => by obtain rfl := List.mem_singleton.1 hu; omega) (by show 1 ≤ 100000; decide) m hm
theorem eg1 : addM [] 1 0 [numT 5] = ⟨.tuple #[.int .i64 1, .int .i64 0], [⟨1, 0, [numT 5]⟩], 2⟩ := by kernel_rfl
theorem eg2 : addM [⟨1, 0, [numT 5]⟩] 2 0 [nameA] = ⟨.tuple #[.int .i64 2, .int .i64 0], [⟨1, 0, [numT 5]⟩, ⟨2, 0, [nameA]⟩], 3⟩ := by kernel_rfl
theorem eg3 : addM [⟨1, 0, [numT 5]⟩, ⟨2, 0, [nameA]⟩] 3 0 [numT 5] = ⟨.tuple #[.int .i64 1, .int .i64 7], [⟨1, 0, [numT 5]⟩, ⟨2, 0, [nameA]⟩], 3⟩ := by kernel_rfl
theorem eg4 : dropM [⟨1, 0, [numT 5]⟩, ⟨2, 0, [nameA]⟩] 3 1 = ⟨.int .i64 0, [⟨2, 0, [nameA]⟩], 3⟩ := by kernel_rfl
theorem eg5 : addM [⟨2, 0, [nameA]⟩] 3 0 [numT 5] = ⟨.tuple #[.int .i64 3, .int .i64 0], [⟨2, 0, [nameA]⟩, ⟨3, 0, [numT 5]⟩], 4⟩ := by kernel_rfl
theorem eg6 : addM [⟨2, 0, [nameA]⟩, ⟨3, 0, [numT 5]⟩] 4 32 [] = ⟨.tuple #[.int .i64 0, .int .i64 2], [⟨2, 0, [nameA]⟩, ⟨3, 0, [numT 5]⟩], 4⟩ := by kernel_rfl
theorem eg7 : dropM [⟨2, 0, [nameA]⟩, ⟨3, 0, [numT 5]⟩] 4 1 = ⟨.int .i64 6, [⟨2, 0, [nameA]⟩, ⟨3, 0, [numT 5]⟩], 4⟩ := by kernel_rfl
set_option maxRecDepth 100000 in
set_option maxHeartbeats 4000000 in
theorem awake_any (w : World) : Calls Try.prog 6 #[] w (YesP w) := by
  unfold YesP
  go_enter Try.func6, Try.ntmps6
  go_upto_region 2 with (go_at_call 16; refine (new_aw _).mono ?_; rintro e w1 ⟨mb, rb, rfl, ha⟩; have H1 := Lib.hid ha; clear ha)
  go_upto_region 3 with (first
    | (go_at_call 8; refine (num_any _ _).mono ?_; rintro e wn ⟨rfl, hbn⟩; have HN := Lib.hid (H1.out.old hbn); clear hbn)
    | (go_at_call 7; refine (add1 (HN.out.old (below_own _)) (numT 5) (by decide) _ (alloc_at rfl _) 0 _ eg1).mono ?_; rintro e w2 ⟨rfl, ha⟩; have H2 := Lib.hid ha; clear ha))
  clear H1 HN
  go_upto_region 4 with (first
    | (go_at_call 7; refine (add1 (H2.out.old (below_own _)) nameA (by decide) _ (alloc_at rfl _) 0 _ eg2).mono ?_; rintro e w3 ⟨rfl, ha⟩; have H3 := Lib.hid ha; clear ha))
  clear H2
  go_upto_region 5 with (first
    | (go_at_call 8; refine (num_any _ _).mono ?_; rintro e wn ⟨rfl, hbn⟩; have HN := Lib.hid (H3.out.old hbn); clear hbn)
    | (go_at_call 7; refine (add1 (HN.out.old (below_own _)) (numT 5) (by decide) _ (alloc_at rfl _) 0 _ eg3).mono ?_; rintro e w4 ⟨rfl, ha⟩; have H4 := Lib.hid ha; clear ha))
  clear H3 HN
  go_upto_region 6 with (first
    | (go_at_call 11; refine (H4.out.drop 1 _ eg4).mono ?_; rintro e w5 ⟨rfl, ha⟩; have H5 := Lib.hid ha; clear ha))
  clear H4
  go_upto_region 7 with (first
    | (go_at_call 8; refine (num_any _ _).mono ?_; rintro e wn ⟨rfl, hbn⟩; have HN := Lib.hid (H5.out.old hbn); clear hbn)
    | (go_at_call 7; refine (add1 (HN.out.old (below_own _)) (numT 5) (by decide) _ (alloc_at rfl _) 0 _ eg5).mono ?_; rintro e w6 ⟨rfl, ha⟩; have H6 := Lib.hid ha; clear ha))
  clear H5 HN
  go_upto_region 8 with (first
    | (go_at_call 7; refine (H6.out.add 32 [] none 0 (sl_none _) (fun v hv => by cases hv) (by decide) _ eg6).mono ?_; rintro e w7 ⟨rfl, ha⟩; have H7 := Lib.hid ha; clear ha))
  clear H6
  go_upto_region 9 with (go_at_call 13; refine (H7.out.all).mono ?_; rintro e w8 ⟨ao, c, rfl, hr, hb⟩; have H8 := Lib.hid (H7.out.old hb); have HR := Lib.hid hr; clear hr hb)
  have hids : ∃ g cap, (Value.slice ao 2 c) = .slice (some ⟨g, 0, none⟩) 2 cap ∧ g < w8.heap.size ∧ w8.cell? ⟨g, 0, none⟩ = some (.int .i64 2) ∧ w8.cell? ⟨g, 3, none⟩ = some (.int .i64 3) := by
    obtain ⟨ps, h1, h2, -⟩ := HR.out
    obtain ⟨g, cap, cur, e, -, hg, -, -, hc⟩ := owns_at h2 (by decide)
    have hps : ∃ p q, ps = [p, q] ∧ p.1 = ⟨2, 0, [nameA]⟩ ∧ q.1 = ⟨3, 0, [numT 5]⟩ := by
      match ps, h1 with
      | [p, q], h1 =>
        simp only [List.map_cons, List.map_nil, List.cons.injEq, and_true] at h1
        exact ⟨p, q, rfl, h1.1, h1.2⟩
    obtain ⟨p, q, rfl, e1, e2⟩ := hps
    refine ⟨g, cap, e, lt_of_heap hg, (hc 0 (by decide)).trans ?_, (hc 3 (by decide)).trans ?_⟩
    · show some (Value.int .i64 p.1.id) = _
      rw [e1]
    · show some (Value.int .i64 q.1.id) = _
      rw [e2]
  obtain ⟨g, cap, e1, e2, y0, y3⟩ := hids
  simp only [Value.slice.injEq, true_and] at e1
  obtain ⟨rfl, rfl⟩ := e1
  have HD := Lib.hid (H8.out.dropNone 1 rfl)
  unfold SaysP11 at HD
  clear H7 HR
  go_wp2_with (first
    | (go_at_call 11; refine (HD.out).mono ?_; rintro e w9 ⟨rfl, hb⟩; have H9 := Lib.hid (H8.out.old hb); have z0 := ((hb.cell (p := ⟨g, 0, none⟩) e2).trans y0); have z3 := ((hb.cell (p := ⟨g, 3, none⟩) e2).trans y3); have HL := Lib.hid (H9.out.len); have HN9 := Lib.hid (H9.out.next); clear hb)
    | (go_at_call 15; refine (HL.out).mono ?_; rintro e w10 ⟨rfl, rfl⟩)
    | (go_at_call 14; refine (HN9.out).mono ?_; rintro e w11 ⟨rfl, rfl⟩))
  go_ret
  exact ⟨rfl, H9.out.below⟩
end Go.Proofs.Ytajhngkdnkbfcaa
