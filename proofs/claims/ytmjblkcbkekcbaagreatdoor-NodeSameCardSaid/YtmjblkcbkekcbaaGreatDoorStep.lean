/- A step of the program's comparison. -/
import Derived.Test.YtmjblkcbkekcbaaGreatDoorCmp
namespace Go.Proofs.YtmjblkcbkekcbaaGreatDoor
open Go.RowKit

/-- Two nodes that are the same, but for what is below, and for places. -/
def eqH (a b : T) : Prop := a.kind = b.kind ∧ a.text.toList = b.text.toList ∧ a.num = b.num ∧ a.kids.length = b.kids.length
def wgt : List PairV → Nat
  | [] => 0
  | p :: l => p.1.1.many + wgt l
theorem wgt_append (l m : List PairV) : wgt (l ++ m) = wgt l + wgt m := by
  induction l with
  | nil => simp [wgt]
  | cons x l ih => simp only [List.cons_append, wgt, ih]; omega

/-- j kids of two rows were gone through: from L, M to L', M'. -/
structure SRel (s : Prop) (t u : T) (L : List PairV) (M : List (T × T)) (j : Nat) (L' : List PairV) (M' : List (T × T)) : Prop where
  ex : ∃ E, L' = L ++ E ∧ E.length ≤ j ∧ wgt E + manyL (t.kids.drop j) ≤ manyL t.kids ∧ (∀ p, p ∈ E → ∃ i : Nat, t.kids[i]? = some p.1.1 ∧ u.kids[i]? = some p.2.1 ∧ p.1.1.kids.length = p.2.1.kids.length) ∧ (∀ q, q ∈ M' → q ∈ M ∨ ∃ p, p ∈ E ∧ q = (p.1.1, p.2.1))
  old : ∀ q, q ∈ M → q ∈ M'
  each : ∀ i : Nat, i < j → ∀ a b, t.kids[i]? = some a → u.kids[i]? = some b → eqH a b ∧ (s → ∃ q, q ∈ M' ∧ q.1.kids = a.kids ∧ q.2.kids = b.kids)
theorem SRel.start (s : Prop) (t u : T) (L : List PairV) (M : List (T × T)) : SRel s t u L M 0 L M :=
  ⟨⟨[], by simp, Nat.le_refl _, by simp [wgt], (fun p hp => by cases hp), fun q hq => Or.inl hq⟩, fun q hq => hq, fun i hi => by omega⟩
theorem SRel.put {s : Prop} {t u : T} {L L' : List PairV} {M M' : List (T × T)} {j : Nat} (h : SRel s t u L M j L' M') (hj : j < t.kids.length) (hj' : j < u.kids.length) (he : eqH t.kids[j] u.kids[j]) (va vb : Value) :
    SRel s t u L M (j + 1) (L' ++ [((t.kids[j], va), (u.kids[j], vb))]) ((t.kids[j], u.kids[j]) :: M') := by
  obtain ⟨⟨E, h1, h2, h3, h4, h5⟩, h6, h7⟩ := h
  refine ⟨⟨E ++ [((t.kids[j], va), (u.kids[j], vb))], by rw [h1, List.append_assoc], by rw [List.length_append]; simp; omega, ?_, ?_, ?_⟩, fun q hq => List.mem_cons_of_mem _ (h6 q hq), ?_⟩
  · rw [manyL_drop t j hj] at h3
    rw [wgt_append]
    simp only [wgt]
    omega
  · intro p hp
    rcases List.mem_append.1 hp with hp | hp
    · exact h4 p hp
    · obtain rfl := List.mem_singleton.1 hp
      exact ⟨j, List.getElem?_eq_getElem hj, List.getElem?_eq_getElem hj', he.2.2.2⟩
  · intro q hq
    rcases List.mem_cons.1 hq with rfl | hq
    · exact Or.inr ⟨_, List.mem_append_right _ (List.mem_singleton.2 rfl), rfl⟩
    · rcases h5 q hq with h | ⟨p, hp, e⟩
      · exact Or.inl h
      · exact Or.inr ⟨p, List.mem_append_left _ hp, e⟩
  · intro i hi a b ha hb
    by_cases hij : i < j
    · obtain ⟨e1, e2⟩ := h7 i hij a b ha hb
      exact ⟨e1, fun hs => by obtain ⟨q, hq, r⟩ := e2 hs; exact ⟨q, List.mem_cons_of_mem _ hq, r⟩⟩
    · obtain rfl : i = j := by omega
      rw [List.getElem?_eq_getElem hj] at ha
      rw [List.getElem?_eq_getElem hj'] at hb
      obtain rfl := Option.some.inj ha
      obtain rfl := Option.some.inj hb
      exact ⟨he, fun _ => ⟨_, List.mem_cons_self .., rfl, rfl⟩⟩
theorem SRel.skip {s : Prop} {t u : T} {L L' : List PairV} {M M' : List (T × T)} {j : Nat} (h : SRel s t u L M j L' M') (hj : j < t.kids.length) (hj' : j < u.kids.length) (he : eqH t.kids[j] u.kids[j]) (hm : s → ∃ q, q ∈ M' ∧ q.1.kids = (t.kids[j]).kids ∧ q.2.kids = (u.kids[j]).kids) :
    SRel s t u L M (j + 1) L' M' := by
  obtain ⟨⟨E, h1, h2, h3, h4, h5⟩, h6, h7⟩ := h
  refine ⟨⟨E, h1, by omega, ?_, h4, h5⟩, h6, ?_⟩
  · rw [manyL_drop t j hj] at h3
    omega
  · intro i hi a b ha hb
    by_cases hij : i < j
    · exact h7 i hij a b ha hb
    · obtain rfl : i = j := by omega
      rw [List.getElem?_eq_getElem hj] at ha
      rw [List.getElem?_eq_getElem hj'] at hb
      obtain rfl := Option.some.inj ha
      obtain rfl := Option.some.inj hb
      exact ⟨he, hm⟩

theorem sameL_at : ∀ (l m : List T), sameL l m = true → ∀ (i : Nat) (a b : T), l[i]? = some a → m[i]? = some b → a.same b = true
  | [], m, h, i, a, b, ha, hb => by simp at ha
  | k :: l, [], h, i, a, b, ha, hb => by simp at hb
  | k :: l, k' :: m, h, i, a, b, ha, hb => by
    rw [sameL, Bool.and_eq_true] at h
    cases i with
    | zero =>
      rw [List.getElem?_cons_zero] at ha hb
      obtain rfl := Option.some.inj ha
      obtain rfl := Option.some.inj hb
      exact h.1
    | succ i =>
      rw [List.getElem?_cons_succ] at ha hb
      exact sameL_at l m h.2 i a b ha hb
theorem same_eqH {a b : T} (h : a.same b = true) : eqH a b ∧ sameL a.kids b.kids = true := by
  rw [T.same_eq] at h
  simp only [Bool.and_eq_true, beq_iff_eq] at h
  obtain ⟨⟨⟨h1, h2⟩, h3⟩, h4⟩ := h
  refine ⟨⟨h1, h2, h3, ?_⟩, h4⟩
  apply Classical.byContradiction
  intro hn
  rw [sameL_len _ _ hn] at h4
  cases h4
theorem sameL_no {l m : List T} {j : Nat} (hj : j < l.length) (hj' : j < m.length) (h : ¬ eqH l[j] m[j]) : sameL l m = false := by
  cases he : sameL l m with
  | false => rfl
  | true => exact absurd (same_eqH (sameL_at l m he j _ _ (List.getElem?_eq_getElem hj) (List.getElem?_eq_getElem hj'))).1 h

theorem owns_shrink {w : World} {base e size n c : Nat} {ao : Option Addr} {xs ys : List Value} (h : w.ownsRow base e size (.slice ao (n + 1) c) (n + 1) (xs ++ ys)) (hx : xs.length = n * size) : w.ownsRow base e size (.slice ao n c) n xs := by
  rcases h.2 with ⟨h', _⟩ | ⟨g, cap, cur, h', hb, hg, hn, hm, hs, ht⟩
  · simp at h'
  · simp only [Value.slice.injEq, true_and] at h'
    obtain ⟨rfl, rfl⟩ := h'
    refine ⟨hx, Or.inr ⟨g, c, cur, rfl, hb, hg, by omega, hm, hs, ?_⟩⟩
    have hle : n * size ≤ (n + 1) * size := Nat.mul_le_mul_right _ (Nat.le_succ n)
    have := congrArg (List.take (n * size)) ht
    rw [List.take_take, Nat.min_eq_left hle, ← hx, List.take_left] at this
    rw [← hx]
    exact this
theorem CmpAt.set {s : Prop} {base cb mb : Nat} {w : World} {lv : Value} {L : List PairV} {M : List (T × T)} (h : CmpAt s base cb mb w lv L M) (lv' : Value) (L' : List PairV) (ho : w.ownsRow base 89 2 lv' L'.length (cellsP L')) (hs : ∀ p, p ∈ L' → p ∈ L) : CmpAt s base cb mb (w.setCell ⟨cb, 0, none⟩ lv') lv' L' M := by
  have k9 : ∀ k, k ≠ cb → (w.setCell ⟨cb, 0, none⟩ lv').heap[k]? = w.heap[k]? := fun k hk => by
    by_cases hlt : k < w.heap.size
    · exact (Lib.grownBy_setCell w cb 0 lv').block k hlt (fun e => hk (Option.some.inj e))
    · have n1 : w.heap[k]? = none := Array.getElem?_eq_none (by omega)
      have n2 : (w.setCell ⟨cb, 0, none⟩ lv').heap[k]? = none := Array.getElem?_eq_none (by rw [World.size_setCell]; omega)
      rw [n1, n2]
  have kk : ∀ k, Old cb mb base k → (w.setCell ⟨cb, 0, none⟩ lv').heap[k]? = w.heap[k]? := fun k hk => k9 k hk.2.1
  refine ⟨World.cell?_setCell_same _ _ _ h.b0, ?_, fun j => by rw [World.frozen?_setCell]; exact h.fz j, ?_, fun p hp => ⟨(h.left p (hs p hp)).1.keep kk fun _ h => h, (h.left p (hs p hp)).2.keep kk fun _ h => h⟩, ?_, h.cbl, h.mbl, h.ne, ?_⟩
  · rw [World.cell?_setCell_other _ _ _ _ (by simp)]
    exact h.b1
  · exact owns_apart ho (Lib.grownBy_setCell w cb 0 _) (fun e => by have := (ho.lt _ e).1; have := h.cbl; omega)
  · obtain ⟨l, h1, h0, h2, h3, h4⟩ := h.met
    refine ⟨l, h1.keep (k9 mb h.ne.symm), h0, fun p hp => ⟨(h2 p hp).1.of_heap fun ad e => kk _ ((h3 p hp).1 ad e), (h2 p hp).2.of_heap fun ad e => kk _ ((h3 p hp).2 ad e)⟩, h3, fun hs p hp => ?_⟩
    obtain ⟨q, hq, ao, c, ps, a', c', ps', r1, r2, e⟩ := h4 hs p hp
    exact ⟨q, hq, ao, c, ps, a', c', ps', r1.keep kk fun _ h => h, r2.keep kk fun _ h => h, e⟩
  · rw [World.size_setCell]
    exact h.bl

/-- What a step leaves. -/
def StepP (s : Prop) (base cb mb : Nat) (t u : T) (lv : Value) (L : List PairV) (M : List (T × T)) (w : World) (e : Ending) (w' : World) : Prop :=
  ∃ (r : Bool) (lv' : Value), e = .returned (.bool r) ∧ Mv cb mb w lv w' lv' ∧ (r = false → sameL t.kids u.kids = false) ∧ (r = true → ∃ L' M', CmpAt s base cb mb w' lv' L' M' ∧ SRel s t u L M t.kids.length L' M')

set_option maxRecDepth 100000 in
set_option maxHeartbeats 2000000 in
theorem step_any (s : Prop) (base cb mb : Nat) (t u : T) (va vb : Value) (lv : Value) (L : List PairV) (M : List (T × T)) (w : World) (hC : CmpAt s base cb mb w lv (L ++ [((t, va), (u, vb))]) M) (hl : t.kids.length = u.kids.length) (hL : L.length + t.kids.length ≤ 1000000) :
    Calls Tryz.prog 36 #[.pointer (some ⟨cb, 0, none⟩)] w (StepP s base cb mb t u lv L M w) := by
  have hst := hC.left ((t, va), (u, vb)) (List.mem_append_right _ (List.mem_singleton.2 rfl))
  have hst1 : Stood s (Old cb mb base) w t va := hst.1
  have hst2 : Stood s (Old cb mb base) w u vb := hst.2
  obtain ⟨a1, c1, ps1, rfl, h1⟩ := hst1.out
  obtain ⟨a2, c2, ps2, rfl, h2⟩ := hst2.out
  have hown := hC.own
  rw [List.length_append, List.length_singleton] at hown
  obtain ⟨ao, cap, rfl⟩ := owns_slice hown
  have hcell := fun g (hg : (Value.slice ao (L.length + 1) cap).ownBlock = some g) => hown.cells (g := g)
  obtain ⟨g, rfl⟩ : ∃ g, ao = some ⟨g, 0, none⟩ := by
    rcases hown.2 with ⟨h, _⟩ | ⟨g, cap', cur, h, _⟩
    · simp at h
    · simp only [Value.slice.injEq] at h
      exact ⟨g, h.1⟩
  have hcs := hown.cells (g := g) rfl
  have hbl := hC.bl
  have x0 := hC.b0
  have xf := hC.fz
  have hg0 : g < w.heap.size := (hown.lt g rfl).2
  have hgb : base ≤ g := (hown.lt g rfl).1
  have p0 : w.cell? ⟨g, L.length * 2, none⟩ = some (.slice a1 t.kids.length c1) := by
    have := hcs (L.length * 2) (.slice a1 t.kids.length c1) (by rw [cellsP_append, List.getElem?_append_right (by rw [cellsP_length]; omega), cellsP_length, Nat.sub_self]; rfl)
    rwa [Addr.add_lit, Nat.zero_add] at this
  have p1 : w.cell? ⟨g, L.length * 2 + 1, none⟩ = some (.slice a2 u.kids.length c2) := by
    have := hcs (L.length * 2 + 1) (.slice a2 u.kids.length c2) (by rw [cellsP_append, List.getElem?_append_right (by rw [cellsP_length]; omega), cellsP_length, show L.length * 2 + 1 - L.length * 2 = 1 by omega]; rfl)
    rwa [Addr.add_lit, Nat.zero_add] at this
  have hcap : L.length + 1 ≤ cap ∧ cap ≤ maxLen := by
    rcases hown.2 with ⟨h, _⟩ | ⟨g', cap', cur, h, _, _, h3, h4, _⟩
    · simp at h
    · simp only [Value.slice.injEq] at h
      obtain ⟨_, _, rfl⟩ := h
      exact ⟨h3, h4⟩
  have hcb : cb < w.heap.size := by have := hC.cbl; omega
  have hcl1 : (L.length : Int) ≤ cap := by have := hcap.1; omega
  have hcl2 : (cap : Int) ≤ 9223372036854775807 := by have := hcap.2; unfold maxLen at this; omega
  have HCap := Lib.hid hcap
  have HC := Lib.hid hC
  have HR1 := Lib.hid h1
  have HR2 := Lib.hid h2
  have HLN := Lib.hid hl
  have HL := Lib.hid hL
  have hlm := h1.len64
  have hln2 : (t.kids.length : Int) = (u.kids.length : Int) := by omega
  have hown1 := hown
  rw [cellsP_append] at hown1
  have hown0 := owns_shrink hown1 (cellsP_length L)
  have hC0 : CmpAt s base cb mb ((w.setCell ⟨cb, 0, none⟩ (.slice (some ⟨g, 0, none⟩) L.length cap)).alloc (.cells #[.slice a1 t.kids.length c1, .slice a2 u.kids.length c2] 89)) (.slice (some ⟨g, 0, none⟩) L.length cap) L M :=
    (hC.set _ L hown0 (fun p hp => List.mem_append_left _ hp)).later (below_own _)
  have HMl := Lib.hid hC.mbl
  have HM0 : Hid (Mv cb mb w (.slice (some ⟨g, 0, none⟩) (L.length + 1) cap) ((w.setCell ⟨cb, 0, none⟩ (.slice (some ⟨g, 0, none⟩) L.length cap)).alloc (.cells #[.slice a1 t.kids.length c1, .slice a2 u.kids.length c2] 89)) (.slice (some ⟨g, 0, none⟩) L.length cap)) := by
    have hg := Lib.grownBy_setCell w cb 0 (.slice (some ⟨g, 0, none⟩) L.length cap)
    have h1 : Mv cb mb w (.slice (some ⟨g, 0, none⟩) (L.length + 1) cap) (w.setCell ⟨cb, 0, none⟩ (.slice (some ⟨g, 0, none⟩) L.length cap)) (.slice (some ⟨g, 0, none⟩) L.length cap) := ⟨hg.os, hg.tape, hg.output, hg.size, fun k hk h1 _ _ => hg.block k hk (fun e => h1 (Option.some.inj e)), Or.inl rfl⟩
    exact h1.trans (Mv.of_below _ (below_own _))
  have HC0 := Lib.hid hC0
  have HCb := Lib.hid hC.cbl
  clear hst hst1 hst2 hC h1 h2 hown hcell hcs hcap hl hC0 hown0 hown1 hL
  go_enter Tryz.func36, Tryz.ntmps36
  go_wp2_with fail
  go_loopw [33] (fun i wr => ∃ (j : Nat) (lv' : Value) (L' : List PairV) (M' : List (T × T)), j ≤ t.kids.length ∧ i = .int .i64 j ∧ Hid (CmpAt s base cb mb wr lv' L' M') ∧ Hid (SRel s t u L M j L' M') ∧ Hid (Mv cb mb ((w.setCell ⟨cb, 0, none⟩ (.slice (some ⟨g, 0, none⟩) L.length cap)).alloc (.cells #[.slice a1 t.kids.length c1, .slice a2 u.kids.length c2] 89)) (.slice (some ⟨g, 0, none⟩) L.length cap) wr lv')) (fun i _ => t.kids.length - (intOf i).toNat)
  case atStart => exact ⟨0, _, L, M, by omega, rfl, HC0, SRel.start s t u L M, Mv.refl _ _ _ _⟩
  case round =>
    obtain ⟨j, lvr, L', M', hj, rfl, HCr, HS, HMr⟩ := hrel
    have hpb : wr.heap[w.heap.size]? = some (.cells #[.slice a1 t.kids.length c1, .slice a2 u.kids.length c2] 89 (0, 0)) := by
      have hb := HCb.out
      have hm := HMl.out
      refine (HMr.out.block w.heap.size (by simp) (by omega) (by omega) (fun e => by have := Option.some.inj e; simp at this; omega)).trans ?_
      have := heap_alloc_new (w.setCell ⟨cb, 0, none⟩ (.slice (some ⟨g, 0, none⟩) L.length cap)) (.cells #[.slice a1 t.kids.length c1, .slice a2 u.kids.length c2] 89)
      rwa [World.size_setCell] at this
    have b0 : wr.cell? ⟨w.heap.size, 0, none⟩ = some (.slice a1 t.kids.length c1) := Lib.cell_of_heap hpb 0
    have b1 : wr.cell? ⟨w.heap.size, 1, none⟩ = some (.slice a2 u.kids.length c2) := Lib.cell_of_heap hpb 1
    clear hpb
    have hchw : Hid (Ch cb mb base w wr) := by
      have hcb := HCb.out
      have hm0 := HM0.out.trans HMr.out
      exact hm0.ch hbl (fun k e => by have := Option.some.inj e; simp at this; omega)
    by_cases hlt : j < t.kids.length
    · have hlt2 : j < u.kids.length := by have := HLN.out; omega
      have hjn : (j : Int) < (t.kids.length : Int) := by omega
      have hjn2 : (j : Int) < (u.kids.length : Int) := by omega
      obtain ⟨sb, off, rfl, hsb, hc⟩ := (HR1.out.keep hchw.out.block fun _ h => h).at (by omega)
      obtain ⟨sb2, off2, rfl, hsb2, hc2⟩ := (HR2.out.keep hchw.out.block fun _ h => h).at (by omega)
      obtain ⟨e1, d1, qs1, x0, x1, x2, x3, x4, q1⟩ := hc j hlt
      obtain ⟨e2, d2, qs2, y0, y1, y2, y3, y4, q2⟩ := hc2 j hlt2
      have hblr := HCr.out.bl
      have hsl : sb < wr.heap.size := by have := hsb.1; omega
      have hsl2 : sb2 < wr.heap.size := by have := hsb2.1; omega
      have hsn : sb ≠ wr.heap.size := by omega
      have hsn2 : sb2 ≠ wr.heap.size := by omega
      have hpl : w.heap.size < wr.heap.size := by have := HMr.out.size; simp at this; omega
      have HQ := Lib.hid (And.intro q1 q2)
      have HNo := Lib.hid (fun h => sameL_no hlt hlt2 h)
      have HPut := Lib.hid (fun he va vb => HS.out.put hlt hlt2 he va vb)
      have HSkip := Lib.hid (fun he hm => HS.out.skip hlt hlt2 he hm)
      have HB2 : Hid (Below wr.heap.size wr ((wr.alloc (.cells #[.int .u8 (t.kids[j]).kind, .string (t.kids[j]).text, .int .i64 (t.kids[j]).num, .int .i64 (t.kids[j]).pos, .slice e1 (t.kids[j]).kids.length d1] 25)).alloc (.cells #[.int .u8 (u.kids[j]).kind, .string (u.kids[j]).text, .int .i64 (u.kids[j]).num, .int .i64 (u.kids[j]).pos, .slice e2 (u.kids[j]).kids.length d2] 25))) := below_two _ _ _
      have HLr : Hid (L'.length ≤ 1000000) := by
        obtain ⟨E, h1, h2, -⟩ := HS.out.ex
        unfold Hid
        rw [h1, List.length_append]
        have := HL.out
        omega
      obtain ⟨a, hae⟩ : ∃ a, a = t.kids[j] := ⟨_, rfl⟩
      obtain ⟨b, hbe⟩ : ∃ b, b = u.kids[j] := ⟨_, rfl⟩
      rw [← hae] at x0 x1 x2 x3 x4 HQ HNo HPut HSkip HB2
      rw [← hbe] at y0 y1 y2 y3 y4 HQ HNo HPut HSkip HB2
      have HAdd : Hid (Calls Tryz.prog 35 #[.pointer (some ⟨cb, 0, none⟩), .slice e1 a.kids.length d1, .slice e2 b.kids.length d2] ((wr.alloc (.cells #[.int .u8 a.kind, .string a.text, .int .i64 a.num, .int .i64 a.pos, .slice e1 a.kids.length d1] 25)).alloc (.cells #[.int .u8 b.kind, .string b.text, .int .i64 b.num, .int .i64 b.pos, .slice e2 b.kids.length d2] 25)) fun e w' => e = .returned (.tuple #[]) ∧ ∃ lv', Mv cb mb wr lvr w' lv' ∧ (CmpAt s base cb mb w' lv' (L' ++ [((a, .slice e1 a.kids.length d1), (b, .slice e2 b.kids.length d2))]) ((a, b) :: M') ∨ (CmpAt s base cb mb w' lv' L' M' ∧ (s → ∃ q, q ∈ M' ∧ q.1.kids = a.kids ∧ q.2.kids = b.kids)))) := by
        have ho : ∀ k, Old cb mb base k → ((wr.alloc (.cells #[.int .u8 a.kind, .string a.text, .int .i64 a.num, .int .i64 a.pos, .slice e1 a.kids.length d1] 25)).alloc (.cells #[.int .u8 b.kind, .string b.text, .int .i64 b.num, .int .i64 b.pos, .slice e2 b.kids.length d2] 25)).heap[k]? = wr.heap[k]? := fun k hk => HB2.out.block k (by have := hk.1; omega)
        refine (add_any s base cb mb a b e1 e2 d1 d2 qs1 qs2 lvr L' M' _ (HCr.out.later HB2.out) HLr.out (HQ.out.1.keep ho fun _ h => h) (HQ.out.2.keep ho fun _ h => h)).mono ?_
        rintro e w' ⟨he, lv', hm, h⟩
        exact ⟨he, lv', (Mv.of_below lvr HB2.out).trans hm, h⟩
      clear hc hc2 q1 q2 hsb hsb2 hblr HQ hae hbe
      by_cases hk : a.kind = b.kind
      · have hk' : (a.kind != b.kind) = false := by simp [hk]
        by_cases hs : a.text.toList = b.text.toList
        · have hs' : (a.text.toList == b.text.toList) = true := by simp [hs]
          by_cases hn : a.num = b.num
          · have hn' : (a.num != b.num) = false := by simp [hn]
            by_cases hkl : a.kids.length = b.kids.length
            · have hl' : ((a.kids.length : Int) != (b.kids.length : Int)) = false := by simp [hkl]
              have HE := Lib.hid (show eqH a b from ⟨hk, hs, hn, hkl⟩)
              clear hk hs hn hkl HNo
              go_wp2_with (go_at_call 35; go_must (refine (HAdd.out).mono ?_; rintro e w4 ⟨rfl, lv4, hm4, h4⟩; have HM4 := Lib.hid hm4; have H4 := Lib.hid h4; clear hm4 h4))
              have HMn := Lib.hid (HMr.out.trans HM4.out)
              have HN1 : Hid (∃ L1 M1, CmpAt s base cb mb w4 lv4 L1 M1 ∧ SRel s t u L M (j + 1) L1 M1) := by
                rcases H4.out with h | ⟨h, hm⟩
                · exact ⟨_, _, h, HPut.out HE.out _ _⟩
                · exact ⟨_, _, h, HSkip.out HE.out hm⟩
              clear H4 HPut HSkip HAdd HCr HS HMr x0 x1 x2 x3 x4 y0 y1 y2 y3 y4 b0 b1 hchw HB2
              go_roundw
              case rel =>
                obtain ⟨L1, M1, h1, h2⟩ := HN1.out
                exact ⟨j + 1, lv4, L1, M1, by omega, by go_num, h1, h2, HMn⟩
              case measure => simp [intOf]; omega
            · have hl' : ((a.kids.length : Int) != (b.kids.length : Int)) = true := bne_iff_ne.2 (by omega)
              have HR := Lib.hid (HNo.out fun h => hkl h.2.2.2)
              clear hk hs hn hkl HNo HAdd HPut HSkip
              go_wp2_with fail
              go_ret
              exact ⟨false, lvr, rfl, (HM0.out.trans HMr.out).trans (Mv.of_below lvr HB2.out), fun _ => HR.out, fun h => by cases h⟩
          · have hn' : (a.num != b.num) = true := bne_iff_ne.2 hn
            have HR := Lib.hid (HNo.out fun h => hn h.2.2.1)
            clear hk hs hn HNo HAdd HPut HSkip
            go_wp2_with fail
            go_ret
            exact ⟨false, lvr, rfl, (HM0.out.trans HMr.out).trans (Mv.of_below lvr HB2.out), fun _ => HR.out, fun h => by cases h⟩
        · have hs' : (a.text.toList == b.text.toList) = false := beq_eq_false_iff_ne.2 hs
          have HR := Lib.hid (HNo.out fun h => hs h.2.1)
          clear hk hs HNo HAdd HPut HSkip
          go_wp2_with fail
          go_ret
          exact ⟨false, lvr, rfl, (HM0.out.trans HMr.out).trans (Mv.of_below lvr HB2.out), fun _ => HR.out, fun h => by cases h⟩
      · have hk' : (a.kind != b.kind) = true := bne_iff_ne.2 hk
        have HR := Lib.hid (HNo.out fun h => hk h.1)
        clear hk HNo HAdd HPut HSkip
        go_wp2_with fail
        go_ret
        exact ⟨false, lvr, rfl, (HM0.out.trans HMr.out).trans (Mv.of_below lvr HB2.out), fun _ => HR.out, fun h => by cases h⟩
    · obtain rfl : j = t.kids.length := by omega
      go_wp2_with fail
      go_ret
      exact ⟨true, lvr, rfl, HM0.out.trans HMr.out, (fun h => by cases h), fun _ => ⟨L', M', HCr.out, HS.out⟩⟩
end Go.Proofs.YtmjblkcbkekcbaaGreatDoor
