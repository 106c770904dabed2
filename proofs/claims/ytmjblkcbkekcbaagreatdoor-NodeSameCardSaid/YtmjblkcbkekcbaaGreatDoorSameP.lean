/- The program's Same. -/
import Derived.Test.YtmjblkcbkekcbaaGreatDoorStep
import Derived.Test.YtmjblkcbkekcbaaGreatDoorRefSame
namespace Go.Proofs.YtmjblkcbkekcbaaGreatDoor
open Go.RowKit

theorem sameL_of : ∀ (l m : List T), l.length = m.length → (∀ (i : Nat) (a b : T), l[i]? = some a → m[i]? = some b → a.same b = true) → sameL l m = true
  | [], [], _, _ => sameL_nil
  | [], _ :: _, h, _ => by simp at h
  | _ :: _, [], h, _ => by simp at h
  | k :: l, k' :: m, h, hi => by
    rw [sameL, hi 0 k k' rfl rfl, sameL_of l m (by simpa using h) fun i a b ha hb => hi (i + 1) a b (by simpa using ha) (by simpa using hb)]
    rfl
theorem eqH_same {a b : T} (h : eqH a b) (hk : sameL a.kids b.kids = true) : a.same b = true := by
  rw [T.same_eq, hk, h.1, h.2.1, h.2.2.1]
  simp

/-- All that can be seen of a pair, without what is below, is the same; what is below was met. -/
def DoneP (M : List (T × T)) (q : T × T) : Prop := q.1.kids.length = q.2.kids.length ∧ ∀ (i : Nat) (a b : T), q.1.kids[i]? = some a → q.2.kids[i]? = some b → eqH a b ∧ ∃ r, r ∈ M ∧ r.1.kids = a.kids ∧ r.2.kids = b.kids
theorem DoneP.mono {M M' : List (T × T)} {q : T × T} (h : DoneP M q) (hm : ∀ r, r ∈ M → r ∈ M') : DoneP M' q := ⟨h.1, fun i a b ha hb => by
  obtain ⟨h1, r, hr, h2⟩ := h.2 i a b ha hb
  exact ⟨h1, r, hm r hr, h2⟩⟩
theorem manyL_at {l : List T} {i : Nat} {a : T} (h : l[i]? = some a) : manyL a.kids < manyL l := by
  have h1 := manyL_mem l a (List.mem_of_getElem? h)
  rw [T.many_eq] at h1
  omega
theorem closed_same (M : List (T × T)) (hM : ∀ q, q ∈ M → DoneP M q) : ∀ (n : Nat) (q : T × T), q ∈ M → manyL q.1.kids ≤ n → sameL q.1.kids q.2.kids = true := by
  intro n
  induction n with
  | zero =>
    intro q hq hn
    obtain ⟨h1, h2⟩ := hM q hq
    refine sameL_of _ _ h1 fun i a b ha hb => ?_
    have := manyL_at ha
    omega
  | succ n ih =>
    intro q hq hn
    obtain ⟨h1, h2⟩ := hM q hq
    refine sameL_of _ _ h1 fun i a b ha hb => ?_
    obtain ⟨h3, r, hr, r1, r2⟩ := h2 i a b ha hb
    have hlt := manyL_at ha
    have := ih r hr (by rw [r1]; omega)
    rw [r1, r2] at this
    exact eqH_same h3 this

/-- What holds of a comparison of t and u. -/
structure GInv (s : Prop) (t u : T) (L : List PairV) (M : List (T × T)) : Prop where
  same : t.same u = true → ∀ p, p ∈ L → sameL p.1.1.kids p.2.1.kids = true
  len : ∀ p, p ∈ L → p.1.1.kids.length = p.2.1.kids.length
  met : s → ∀ q, q ∈ M → (∃ p, p ∈ L ∧ q = (p.1.1, p.2.1)) ∨ DoneP M q
  root : s → ∃ q, q ∈ M ∧ q.1.kids = [t] ∧ q.2.kids = [u]
theorem wgt_len (L : List PairV) : L.length ≤ wgt L := by
  induction L with
  | nil => simp
  | cons p L ih =>
    simp only [List.length_cons, wgt]
    have : 1 ≤ p.1.1.many := by rw [T.many_eq]; omega
    omega
theorem GInv.step {s : Prop} {t u : T} {L L' : List PairV} {p : PairV} {M M' : List (T × T)} (h : GInv s t u (L ++ [p]) M) (r : SRel s p.1.1 p.2.1 L M p.1.1.kids.length L' M') : GInv s t u L' M' ∧ wgt L' < wgt (L ++ [p]) := by
  obtain ⟨⟨E, rfl, h2, h3, h4, h5⟩, h6, h7⟩ := r
  have hp : p ∈ L ++ [p] := List.mem_append_right _ (List.mem_singleton.2 rfl)
  refine ⟨⟨?_, ?_, ?_, ?_⟩, ?_⟩
  · intro hs q hq
    rcases List.mem_append.1 hq with hq | hq
    · exact h.same hs q (List.mem_append_left _ hq)
    · obtain ⟨i, ha, hb, -⟩ := h4 q hq
      exact (same_eqH (sameL_at _ _ (h.same hs p hp) i _ _ ha hb)).2
  · intro q hq
    rcases List.mem_append.1 hq with hq | hq
    · exact h.len q (List.mem_append_left _ hq)
    · obtain ⟨i, -, -, hl⟩ := h4 q hq
      exact hl
  · intro hs q hq
    rcases h5 q hq with hq | ⟨e, he, rfl⟩
    · rcases h.met hs q hq with ⟨e, he, rfl⟩ | hd
      · rcases List.mem_append.1 he with he | he
        · exact Or.inl ⟨e, List.mem_append_left _ he, rfl⟩
        · obtain rfl := List.mem_singleton.1 he
          refine Or.inr ⟨h.len e hp, fun i a b ha hb => ?_⟩
          obtain ⟨e1, e2⟩ := h7 i (List.getElem?_eq_some_iff.1 ha).1 a b ha hb
          exact ⟨e1, e2 hs⟩
      · exact Or.inr (hd.mono h6)
    · exact Or.inl ⟨e, List.mem_append_right _ he, rfl⟩
  · intro hs
    obtain ⟨q, hq, e⟩ := h.root hs
    exact ⟨q, h6 q hq, e⟩
  · rw [wgt_append, wgt_append]
    rw [List.drop_length, manyL] at h3
    simp only [wgt]
    rw [T.many_eq p.1.1]
    omega
theorem GInv.over {s : Prop} {t u : T} {M : List (T × T)} (h : GInv s t u [] M) (hs : s) : t.same u = true := by
  obtain ⟨q, hq, e1, e2⟩ := h.root hs
  have := closed_same M (fun q hq => by
    rcases h.met hs q hq with ⟨p, hp, _⟩ | hd
    · cases hp
    · exact hd) _ q hq (Nat.le_refl _)
  rw [e1, e2, sameL, Bool.and_eq_true] at this
  exact this.1
mutual
theorem same_self : (t : T) → t.same t = true
  | .mk k s n p l => by rw [T.same, sameL_self l]; simp
theorem sameL_self : (l : List T) → sameL l l = true
  | [] => sameL_nil
  | k :: l => by rw [sameL, same_self k, sameL_self l]; rfl
end

/-- A tree that has just this kid. -/
def top (t : T) : T := .mk 0 ⟨#[]⟩ 0 0 [t]
theorem row_one {s : Prop} {P : Nat → Prop} {w : World} {t : T} {a1 : Option Addr} {c1 b : Nat} {ps1 : List (T × Value)} (h : RowAt s P w t a1 c1 ps1) (hb : w.heap[b]? = some (.cells #[.int .u8 t.kind, .string t.text, .int .i64 t.num, .int .i64 t.pos, .slice a1 t.kids.length c1] 25 (0, 0))) (hP : P b) : RowAt s P w (top t) (some ⟨b, 0, none⟩) 1 [(t, .slice a1 t.kids.length c1)] where
  kids := rfl
  len := rfl
  sl := fun _ => ⟨b, 0, rfl, hP, fun j u hu => by
    rw [Nat.zero_add, Lib.cell_of_heap hb, ← Array.getElem?_toList]
    exact hu⟩
  nil := fun h => by cases h
  cap := Nat.le_refl _
  top := by unfold maxLen; omega
  good := fun _ ad had => by
    obtain rfl := Option.some.inj had
    exact ⟨Lib.frozen_of_heap hb 0, _, _, (0, 0), hb, fun _ => rfl⟩
  each := fun p hp => by
    obtain rfl := List.mem_singleton.1 hp
    exact h.stood

theorem push_last (h : Array Obj) (x : Obj) (n : Nat) (hn : n = h.size) : (h.push x)[n]? = some x := by subst hn; simp
theorem push_lt (h : Array Obj) (x : Obj) (n : Nat) (hn : n < h.size) : (h.push x)[n]? = h[n]? := by rw [Array.getElem?_push, if_neg (by omega)]
abbrev sameW (w : World) (t u : T) (v1 v2 : Value) : World := (((((w.alloc (boxN t v1)).alloc (boxN u v2)).alloc (.map #[] 0)).alloc (.cells #[.slice none 0 0, .map (some (w.heap.size + 1 + 1))] 63)).alloc (boxN t v1)).alloc (boxN u v2)
theorem sameW_below (w : World) (t u : T) (v1 v2 : Value) : Below w.heap.size w (sameW w t u v1 v2) := below_new (below_new (below_new (below_new (below_new (below_own _) _) _) _) _) _
theorem same_start (s : Prop) (t u : T) (a1 a2 : Option Addr) (c1 c2 : Nat) (ps1 ps2 : List (T × Value)) (w : World) (k1 : RowAt s (fun k => k < w.heap.size) w t a1 c1 ps1) (k2 : RowAt s (fun k => k < w.heap.size) w u a2 c2 ps2) :
    CmpAt s (w.heap.size + 6) (w.heap.size + 1 + 1 + 1) (w.heap.size + 1 + 1) (sameW w t u (.slice a1 t.kids.length c1) (.slice a2 u.kids.length c2)) (.slice none 0 0) [] [] ∧
    RowAt s (Old (w.heap.size + 1 + 1 + 1) (w.heap.size + 1 + 1) (w.heap.size + 6)) (sameW w t u (.slice a1 t.kids.length c1) (.slice a2 u.kids.length c2)) (top t) (some ⟨w.heap.size + 1 + 1 + 1 + 1, 0, none⟩) 1 [(t, .slice a1 t.kids.length c1)] ∧
    RowAt s (Old (w.heap.size + 1 + 1 + 1) (w.heap.size + 1 + 1) (w.heap.size + 6)) (sameW w t u (.slice a1 t.kids.length c1) (.slice a2 u.kids.length c2)) (top u) (some ⟨w.heap.size + 1 + 1 + 1 + 1 + 1, 0, none⟩) 1 [(u, .slice a2 u.kids.length c2)] := by
  have hB := sameW_below w t u (.slice a1 t.kids.length c1) (.slice a2 u.kids.length c2)
  obtain ⟨W, hW⟩ : ∃ W, W = sameW w t u (.slice a1 t.kids.length c1) (.slice a2 u.kids.length c2) := ⟨_, rfl⟩
  have hh : W.heap = (((((w.heap.push (boxN t (.slice a1 t.kids.length c1))).push (boxN u (.slice a2 u.kids.length c2))).push (.map #[] 0)).push (.cells #[.slice none 0 0, .map (some (w.heap.size + 1 + 1))] 63)).push (boxN t (.slice a1 t.kids.length c1))).push (boxN u (.slice a2 u.kids.length c2)) := by rw [hW]; rfl
  rw [← hW] at hB ⊢
  have e2 : W.heap[w.heap.size + 1 + 1]? = some (.map #[] 0) := by rw [hh, push_lt _ _ _ (by simp), push_lt _ _ _ (by simp), push_lt _ _ _ (by simp), push_last _ _ _ (by simp)]
  have e3 : W.heap[w.heap.size + 1 + 1 + 1]? = some (.cells #[.slice none 0 0, .map (some (w.heap.size + 1 + 1))] 63 (0, 0)) := by rw [hh, push_lt _ _ _ (by simp), push_lt _ _ _ (by simp), push_last _ _ _ (by simp)]
  have e4 : W.heap[w.heap.size + 1 + 1 + 1 + 1]? = some (boxN t (.slice a1 t.kids.length c1)) := by rw [hh, push_lt _ _ _ (by simp), push_last _ _ _ (by simp)]
  have e5 : W.heap[w.heap.size + 1 + 1 + 1 + 1 + 1]? = some (boxN u (.slice a2 u.kids.length c2)) := by rw [hh, push_last _ _ _ (by simp)]
  have es : W.heap.size = w.heap.size + 6 := by rw [hh]; simp
  have hk : ∀ k, k < w.heap.size → W.heap[k]? = w.heap[k]? := fun k h => hB.block k h
  have ho : ∀ k, k < w.heap.size → Old (w.heap.size + 1 + 1 + 1) (w.heap.size + 1 + 1) (w.heap.size + 6) k := fun k h => ⟨by omega, by omega, by omega⟩
  refine ⟨⟨Lib.cell_of_heap e3 0, Lib.cell_of_heap e3 1, fun j => Lib.frozen_of_heap e3 j, ⟨rfl, Or.inl ⟨rfl, rfl⟩⟩, (fun p hp => by cases hp), ⟨[], ⟨#[], 0, e2, rfl⟩, (fun p hp => by cases hp), (fun p hp => by cases hp), (fun p hp => by cases hp), fun _ p hp => by cases hp⟩, by omega, by omega, by omega, by omega⟩, row_one (k1.keep hk ho) e4 ⟨by omega, by omega, by omega⟩, row_one (k2.keep hk ho) e5 ⟨by omega, by omega, by omega⟩⟩

set_option maxRecDepth 100000 in
set_option maxHeartbeats 4000000 in
theorem progSame_any (s : Prop) (t u : T) (v1 v2 : Value) (w : World) (h1 : Stood s (fun k => k < w.heap.size) w t v1) (h2 : Stood s (fun k => k < w.heap.size) w u v2) (hm : t.many ≤ 100000) (hs : ¬ s → t = u) :
    Calls Tryz.prog 15 #[agg t v1, agg u v2] w fun e w' => e = .returned (.bool (t.same u)) ∧ Below w.heap.size w w' := by
  obtain ⟨a1, c1, ps1, rfl, k1⟩ := h1.out
  obtain ⟨a2, c2, ps2, rfl, k2⟩ := h2.out
  obtain ⟨hC, r1, r2⟩ := same_start s t u a1 a2 c1 c2 ps1 ps2 w k1 k2
  have hAdd : Calls Tryz.prog 35 #[.pointer (some ⟨w.heap.size + 1 + 1 + 1, 0, none⟩), .slice (some ⟨w.heap.size + 1 + 1 + 1 + 1, 0, none⟩) 1 1, .slice (some ⟨w.heap.size + 1 + 1 + 1 + 1 + 1, 0, none⟩) 1 1] (sameW w t u (.slice a1 t.kids.length c1) (.slice a2 u.kids.length c2)) fun e w' => e = .returned (.tuple #[]) ∧ ∃ lv, Mv (w.heap.size + 1 + 1 + 1) (w.heap.size + 1 + 1) (sameW w t u (.slice a1 t.kids.length c1) (.slice a2 u.kids.length c2)) (.slice none 0 0) w' lv ∧ ∃ L M, CmpAt s (w.heap.size + 6) (w.heap.size + 1 + 1 + 1) (w.heap.size + 1 + 1) w' lv L M ∧ GInv s t u L M ∧ wgt L ≤ 100001 := by
    refine (add_any s _ _ _ (top t) (top u) _ _ 1 1 _ _ _ _ _ _ hC (by simp) r1 r2).mono ?_
    rintro e w' ⟨he, lv, hmv, h⟩
    refine ⟨he, lv, hmv, ?_⟩
    rcases h with h | ⟨h, hq⟩
    · refine ⟨_, _, h, ⟨fun hsm p hp => ?_, fun p hp => ?_, fun _ q hq => Or.inl ?_, fun _ => ⟨(top t, top u), List.mem_cons_self .., rfl, rfl⟩⟩, ?_⟩
      · obtain rfl := List.mem_singleton.1 hp
        show sameL [t] [u] = true
        rw [sameL, hsm, sameL_nil]
        rfl
      · obtain rfl := List.mem_singleton.1 hp
        rfl
      · obtain rfl := List.mem_singleton.1 hq
        exact ⟨_, List.mem_singleton.2 rfl, rfl⟩
      · show (top t).many + 0 ≤ 100001
        rw [T.many_eq]
        show 1 + manyL [t] + 0 ≤ 100001
        rw [manyL, manyL]
        omega
    · refine ⟨_, _, h, ⟨(fun hsm p hp => by cases hp), (fun p hp => by cases hp), (fun _ q hq => by cases hq), fun hs' => ?_⟩, by simp [wgt]⟩
      obtain ⟨q, hq, _⟩ := hq hs'
      cases hq
  have HAdd := Lib.hid hAdd
  have HB6 := Lib.hid (sameW_below w t u (.slice a1 t.kids.length c1) (.slice a2 u.kids.length c2))
  have HS := Lib.hid hs
  have hmm := @run_makeMap Tryz.prog
  clear h1 h2 k1 k2 hC r1 r2 hAdd hs hm
  unfold agg
  go_enter Tryz.func15, Tryz.ntmps15
  go_wp2_with (go_at_call 35; go_must (refine (HAdd.out).mono ?_; rintro e w6 ⟨rfl, lv6, hm6, L6, M6, hc6, hi6, hw6⟩; have HM6 := Lib.hid hm6; have HC6 := Lib.hid hc6; have HI6 := Lib.hid hi6; have HW6 := Lib.hid hw6; clear hm6 hc6 hi6 hw6))
  have HMb : Hid (∀ (W : World) (lv : Value), Mv (w.heap.size + 1 + 1 + 1) (w.heap.size + 1 + 1) (sameW w t u (.slice a1 t.kids.length c1) (.slice a2 u.kids.length c2)) (.slice none 0 0) W lv → Below w.heap.size w W) := fun W lv h =>
    HB6.out.trans ⟨h.os, h.tape, h.output, h.size, fun k hk => h.block k (by have := HB6.out.size; omega) (by omega) (by omega) (by simp [Value.ownBlock])⟩
  clear HB6 HAdd
  generalize sameW w t u (.slice a1 t.kids.length c1) (.slice a2 u.kids.length c2) = W0 at HM6 HMb
  go_loopg [] (wgt L6) (fun k wr => ∃ (lv : Value) (L : List PairV) (M : List (T × T)), Hid (CmpAt s (w.heap.size + 6) (w.heap.size + 1 + 1 + 1) (w.heap.size + 1 + 1) wr lv L M) ∧ Hid (GInv s t u L M) ∧ wgt L = k ∧ k ≤ 100001 ∧ Hid (Mv (w.heap.size + 1 + 1 + 1) (w.heap.size + 1 + 1) W0 (.slice none 0 0) wr lv))
  case atStart => exact ⟨lv6, L6, M6, HC6, HI6, rfl, HW6.out, HM6⟩
  case round =>
    clear HC6 HI6 HW6 HM6
    obtain ⟨lv, L, M, HC, HI, hw, hk, HM⟩ := hrel
    have HK := Lib.hid (And.intro hw hk)
    clear hw hk
    have hcb := HC.out.cbl
    rcases List.eq_nil_or_concat L with hL | ⟨L0, p, hL⟩
    · subst hL
      obtain ⟨ao, c, rfl⟩ := owns_slice HC.out.own
      have b0 : wr.cell? ⟨w.heap.size + 1 + 1 + 1, 0, none⟩ = some (.slice ao 0 c) := HC.out.b0
      have HR : Hid (t.same u = true) := by
        unfold Hid
        by_cases h : s
        · exact HI.out.over h
        · rw [← HS.out h]
          exact same_self t
      clear HI HS
      go_wp2_with fail
      go_ret
      rw [HR.out]
      exact ⟨rfl, HMb.out _ _ HM.out⟩
    · rw [List.concat_eq_append] at hL
      subst hL
      obtain ⟨⟨t', va⟩, ⟨u', vb⟩⟩ := p
      have hown := HC.out.own
      obtain ⟨ao, c, rfl⟩ := owns_slice hown
      have b0 : wr.cell? ⟨w.heap.size + 1 + 1 + 1, 0, none⟩ = some (.slice ao (L0.length + 1) c) := by
        have := HC.out.b0
        rw [List.length_append, List.length_singleton] at this
        exact this
      have HM1 : Hid (Mv (w.heap.size + 1 + 1 + 1) (w.heap.size + 1 + 1) W0 (.slice none 0 0) wr (.slice ao (L0.length + 1) c)) := by
        have := HM.out
        rw [List.length_append, List.length_singleton] at this
        exact this
      have hlen : t'.kids.length = u'.kids.length := HI.out.len ((t', va), (u', vb)) (List.mem_append_right _ (List.mem_singleton.2 rfl))
      have hwl : L0.length + t'.kids.length ≤ 1000000 := by
        have h1 := HK.out.1
        have h2 := HK.out.2
        rw [wgt_append] at h1
        have h3 := wgt_len L0
        have h4 : t'.kids.length < t'.many := by
          have := wgt_len (t'.kids.map fun k => ((k, Value.bool true), (k, Value.bool true)))
          have e : ∀ l : List T, wgt (l.map fun k => ((k, Value.bool true), (k, Value.bool true))) = manyL l := by
            intro l
            induction l with
            | nil => simp [wgt, manyL]
            | cons k l ih => simp only [List.map_cons, wgt, manyL, ih]
          rw [e, List.length_map] at this
          rw [T.many_eq]
          omega
        simp only [wgt] at h1
        omega
      have hC' := HC.out
      rw [show (L0 ++ [((t', va), (u', vb))]).length = L0.length + 1 by simp] at hC'
      have HStep := Lib.hid (step_any s _ _ _ t' u' va vb _ L0 M wr hC' hlen hwl)
      have hL0 : (0 : Int) < (L0.length : Int) + 1 := by omega
      clear hown hC' hlen hwl
      go_wp2_with (go_at_call 36; go_must (refine (HStep.out).mono ?_; rintro e w7 ⟨r, lv7, rfl, hm7, hf7, ht7⟩; have HM7 := Lib.hid (HM1.out.trans hm7); have HF7 := Lib.hid hf7; have HT7 := Lib.hid ht7; clear hm7 hf7 ht7; refine Hid.out ?_))
      cases r with
      | false =>
        have HR : Hid (t.same u = false) := by
          unfold Hid
          cases he : t.same u with
          | false => rfl
          | true =>
            have h1 := HI.out.same he ((t', va), (u', vb)) (List.mem_append_right _ (List.mem_singleton.2 rfl))
            have h2 := HF7.out rfl
            rw [h2] at h1
            cases h1
        clear HI HS HF7 HT7 HStep
        refine Lib.hid ?_
        go_wp2_with fail
        go_ret
        rw [HR.out]
        exact ⟨rfl, HMb.out _ _ HM7.out⟩
      | true =>
        have HN : Hid (∃ L M, CmpAt s (w.heap.size + 6) (w.heap.size + 1 + 1 + 1) (w.heap.size + 1 + 1) w7 lv7 L M ∧ GInv s t u L M ∧ wgt L < gk) := by
          obtain ⟨L', M', h1, h2⟩ := HT7.out rfl
          obtain ⟨h3, h4⟩ := HI.out.step h2
          exact ⟨L', M', h1, h3, by have := HK.out.1; omega⟩
        have HK2 := Lib.hid HK.out.2
        clear HI HS HF7 HT7 HStep HC HM HM1 HK b0
        refine Lib.hid ?_
        go_wp2_with fail
        obtain ⟨L', M', h1, h2, h3⟩ := HN.out
        go_roundg (wgt L')
        case measure => exact h3
        case rel => exact ⟨lv7, L', M', h1, h2, rfl, by have := HK2.out; omega, HM7⟩
end Go.Proofs.YtmjblkcbkekcbaaGreatDoor
