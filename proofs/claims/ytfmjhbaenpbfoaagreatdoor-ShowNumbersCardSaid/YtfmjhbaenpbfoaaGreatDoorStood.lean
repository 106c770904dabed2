/- Rows of nodes: where they stand, what tells them apart. -/
import Derived.Test.YtfmjhbaenpbfoaaGreatDoorKeys
import Derived.Test.YtfmjhbaenpbfoaaGreatDoorLentT
namespace Go.Proofs.YtfmjhbaenpbfoaaGreatDoor
open Go.RowKit

/-- Where a row of n stands, as its key says: one key for all that are empty. -/
def keyA (ao : Option Addr) (n : Nat) : Key := if n = 0 then (none, 0) else (ao, n)
theorem keyA_pos (ao : Option Addr) {n : Nat} (h : 0 < n) : keyA ao n = (ao, n) := by unfold keyA; rw [if_neg (by omega)]
theorem keyA_zero (ao : Option Addr) : keyA ao 0 = (none, 0) := rfl

/-- Cells at an address, in one of the blocks P. -/
def SlP (P : Nat → Prop) (w : World) (ao : Option Addr) (cs : List Value) : Prop := cs ≠ [] → ∃ sb off, ao = some ⟨sb, off, none⟩ ∧ P sb ∧ ∀ (j : Nat) (u : Value), cs[j]? = some u → w.cell? ⟨sb, off + j, none⟩ = some u
theorem cell_block {w w' : World} {sb o : Nat} (e : w'.heap[sb]? = w.heap[sb]?) : w'.cell? ⟨sb, o, none⟩ = w.cell? ⟨sb, o, none⟩ := by
  unfold World.cell?
  simp only [e]
theorem SlP.keep {P P' : Nat → Prop} {w w' : World} {ao : Option Addr} {cs : List Value} (h : SlP P w ao cs) (b : ∀ k, P k → w'.heap[k]? = w.heap[k]?) (hP : ∀ k, P k → P' k) : SlP P' w' ao cs := fun hn => by
  obtain ⟨sb, off, e, lt, hc⟩ := h hn
  exact ⟨sb, off, e, hP _ lt, fun j u hu => (cell_block (b sb lt)).trans (hc j u hu)⟩

/-- v is the slice of a tree's kids, which lie in blocks P; each row that is not empty stands where it may be asked for. -/
inductive Stood (s : Prop) (P : Nat → Prop) (w : World) : T → Value → Prop
  | mk (t : T) (ao : Option Addr) (c : Nat) (ps : List (T × Value)) (hk : ps.map Prod.fst = t.kids) (hs : SlP P w ao (cellsN ps)) (hc : ao = none → c = 0) (hl : t.kids.length ≤ c) (hm : c ≤ maxLen) (hg : 0 < t.kids.length → Good s w ao) (hp : ∀ p, p ∈ ps → Stood s P w p.1 p.2) : Stood s P w t (.slice ao t.kids.length c)

theorem Stood.lies {s : Prop} {B : Nat} {P : Nat → Prop} {w : World} {t : T} {v : Value} (h : Stood s P w t v) (hP : ∀ k, P k → k < B) : Lies B w t v := by
  induction h with
  | mk t ao c ps hk hs hc hl hm _ _ ih => exact .mk t ao c ps hk (hs.keep (fun _ _ => rfl) hP) hc hl hm ih
theorem good_keep {s : Prop} {P : Nat → Prop} {w w' : World} {ao : Option Addr} {cs : List Value} (h : Good s w ao) (hs : SlP P w ao cs) (hn : cs ≠ []) (b : ∀ k, P k → w'.heap[k]? = w.heap[k]?) : Good s w' ao := by
  obtain ⟨sb, off, rfl, hlt, -⟩ := hs hn
  exact h.of_heap fun ad e => by obtain rfl := Option.some.inj e; exact b sb hlt
theorem cellsN_ne {ps : List (T × Value)} (h : 0 < ps.length) : cellsN ps ≠ [] := fun e => by
  have := congrArg List.length e
  rw [cellsN_length, List.length_nil] at this
  omega
theorem Stood.keep {s : Prop} {P P' : Nat → Prop} {w w' : World} {t : T} {v : Value} (h : Stood s P w t v) (b : ∀ k, P k → w'.heap[k]? = w.heap[k]?) (hP : ∀ k, P k → P' k) : Stood s P' w' t v := by
  induction h with
  | mk t ao c ps hk hs hc hl hm hg _ ih =>
    refine .mk t ao c ps hk (hs.keep b hP) hc hl hm (fun hn => good_keep (hg hn) hs (cellsN_ne ?_) b) ih
    rw [← List.length_map (f := Prod.fst), hk]
    exact hn

/-- Where a tree's kids stand. -/
structure RowAt (s : Prop) (P : Nat → Prop) (w : World) (t : T) (ao : Option Addr) (c : Nat) (ps : List (T × Value)) : Prop where
  kids : ps.map Prod.fst = t.kids
  len : ps.length = t.kids.length
  sl : SlP P w ao (cellsN ps)
  nil : ao = none → c = 0
  cap : t.kids.length ≤ c
  top : c ≤ maxLen
  good : 0 < t.kids.length → Good s w ao
  each : ∀ p, p ∈ ps → Stood s P w p.1 p.2
theorem Stood.out {s : Prop} {P : Nat → Prop} {w : World} {t : T} {v : Value} (h : Stood s P w t v) : ∃ ao c ps, v = .slice ao t.kids.length c ∧ RowAt s P w t ao c ps := by
  cases h with
  | mk _ ao c ps hk hs hc hl hm hg hp => exact ⟨ao, c, ps, rfl, hk, by rw [← hk, List.length_map], hs, hc, hl, hm, hg, hp⟩
theorem RowAt.stood {s : Prop} {P : Nat → Prop} {w : World} {t : T} {ao : Option Addr} {c : Nat} {ps : List (T × Value)} (h : RowAt s P w t ao c ps) : Stood s P w t (.slice ao t.kids.length c) := .mk t ao c ps h.kids h.sl h.nil h.cap h.top h.good h.each
theorem RowAt.keep {s : Prop} {P P' : Nat → Prop} {w w' : World} {t : T} {ao : Option Addr} {c : Nat} {ps : List (T × Value)} (h : RowAt s P w t ao c ps) (b : ∀ k, P k → w'.heap[k]? = w.heap[k]?) (hP : ∀ k, P k → P' k) : RowAt s P' w' t ao c ps :=
  ⟨h.kids, h.len, h.sl.keep b hP, h.nil, h.cap, h.top, fun hn => good_keep (h.good hn) h.sl (cellsN_ne (by rw [h.len]; exact hn)) b, fun p hp => (h.each p hp).keep b hP⟩
theorem RowAt.len64 {s : Prop} {P : Nat → Prop} {w : World} {t : T} {ao : Option Addr} {c : Nat} {ps : List (T × Value)} (h : RowAt s P w t ao c ps) : t.kids.length ≤ 9223372036854775807 := by
  have := h.cap
  have := h.top
  unfold maxLen at this
  omega
theorem RowAt.goodKey {s : Prop} {P : Nat → Prop} {w : World} {t : T} {ao : Option Addr} {c : Nat} {ps : List (T × Value)} (h : RowAt s P w t ao c ps) : Good s w (keyA ao t.kids.length).1 := by
  by_cases hn : t.kids.length = 0
  · rw [hn]
    exact Good.none s w
  · rw [keyA_pos ao (by omega)]
    exact h.good (by omega)
theorem RowAt.ad {s : Prop} {P : Nat → Prop} {w : World} {t : T} {ao : Option Addr} {c : Nat} {ps : List (T × Value)} (h : RowAt s P w t ao c ps) (hl : 0 < t.kids.length) : ∃ sb off, ao = some ⟨sb, off, none⟩ ∧ P sb := by
  obtain ⟨sb, off, rfl, lt, -⟩ := h.sl (cellsN_ne (by rw [h.len]; exact hl))
  exact ⟨sb, off, rfl, lt⟩
theorem RowAt.inKey {s : Prop} {P : Nat → Prop} {w : World} {t : T} {ao : Option Addr} {c : Nat} {ps : List (T × Value)} (h : RowAt s P w t ao c ps) : ∀ ad, (keyA ao t.kids.length).1 = some ad → P ad.block := by
  intro ad hd
  by_cases hn : t.kids.length = 0
  · rw [hn] at hd
    cases hd
  · rw [keyA_pos ao (by omega)] at hd
    obtain ⟨sb, off, rfl, hp⟩ := h.ad (by omega)
    obtain rfl := Option.some.inj hd
    exact hp
/-- A kid, where it stands. -/
theorem RowAt.at {s : Prop} {P : Nat → Prop} {w : World} {t : T} {ao : Option Addr} {c : Nat} {ps : List (T × Value)} (h : RowAt s P w t ao c ps) (hl : 0 < t.kids.length) :
    ∃ sb off, ao = some ⟨sb, off, none⟩ ∧ P sb ∧ ∀ i, (hi : i < t.kids.length) → ∃ a1 c1 ps1, w.cell? ⟨sb, off + i * 5, none⟩ = some (.int .u8 (t.kids[i]).kind) ∧ w.cell? ⟨sb, off + i * 5 + 1, none⟩ = some (.string (t.kids[i]).text) ∧ w.cell? ⟨sb, off + i * 5 + 2, none⟩ = some (.int .i64 (t.kids[i]).num) ∧ w.cell? ⟨sb, off + i * 5 + 3, none⟩ = some (.int .i64 (t.kids[i]).pos) ∧ w.cell? ⟨sb, off + i * 5 + 4, none⟩ = some (.slice a1 (t.kids[i]).kids.length c1) ∧ RowAt s P w t.kids[i] a1 c1 ps1 := by
  obtain ⟨sb, off, rfl, lt, hc⟩ := h.sl (cellsN_ne (by rw [h.len]; exact hl))
  refine ⟨sb, off, rfl, lt, fun i hi => ?_⟩
  have hip : i < ps.length := by rw [h.len]; exact hi
  have he : (ps[i]).1 = t.kids[i] := by
    have : (ps.map Prod.fst)[i]'(by rw [List.length_map]; exact hip) = t.kids[i] := by simp only [h.kids]
    rw [← this, List.getElem_map]
  obtain ⟨c0, c1, c2, c3, c4⟩ := cellsN_at ps i hip
  have hl' := h.each ps[i] (List.getElem_mem hip)
  rw [he] at c0 c1 c2 c3 hl'
  obtain ⟨a1, d1, ps1, hv, hr⟩ := hl'.out
  rw [hv] at c4
  refine ⟨a1, d1, ps1, hc _ _ c0, ?_, ?_, ?_, ?_, hr⟩
  · have := hc _ _ c1
    rwa [← Nat.add_assoc] at this
  · have := hc _ _ c2
    rwa [← Nat.add_assoc] at this
  · have := hc _ _ c3
    rwa [← Nat.add_assoc] at this
  · have := hc _ _ c4
    rwa [← Nat.add_assoc] at this

/-- The same key: the same kids. -/
theorem key_same {s : Prop} {B B' : Nat → Prop} {w : World} (t : T) : ∀ (u : T) (ao a' : Option Addr) (c c' : Nat) (ps ps' : List (T × Value)), RowAt s B w t ao c ps → RowAt s B' w u a' c' ps' → keyA ao t.kids.length = keyA a' u.kids.length → t.kids = u.kids := by
  induction t using T.ind with
  | h t ih =>
    intro u ao a' c c' ps ps' h1 h2 hk
    by_cases hn : t.kids.length = 0
    · rw [hn, keyA_zero] at hk
      by_cases hm : u.kids.length = 0
      · rw [List.eq_nil_of_length_eq_zero hn, List.eq_nil_of_length_eq_zero hm]
      · rw [keyA_pos a' (by omega)] at hk
        have := congrArg Prod.snd hk
        simp only at this
        omega
    · rw [keyA_pos ao (by omega)] at hk
      by_cases hm : u.kids.length = 0
      · rw [hm, keyA_zero] at hk
        have := congrArg Prod.snd hk
        simp only at this
        omega
      · rw [keyA_pos a' (by omega)] at hk
        have hl : t.kids.length = u.kids.length := congrArg Prod.snd hk
        have ha : ao = a' := congrArg Prod.fst hk
        subst ha
        obtain ⟨sb, off, rfl, -, hc⟩ := h1.at (by omega)
        obtain ⟨sb', off', e, -, hc'⟩ := h2.at (by omega)
        simp only [Option.some.injEq, Addr.mk.injEq, and_true] at e
        obtain ⟨rfl, rfl⟩ := e
        refine List.ext_getElem hl fun i hi hi' => ?_
        obtain ⟨b1, d1, qs1, e0, e1, e2, e3, e4, hr⟩ := hc i hi
        obtain ⟨b2, d2, qs2, f0, f1, f2, f3, f4, hr'⟩ := hc' i hi'
        rw [e0] at f0; rw [e1] at f1; rw [e2] at f2; rw [e3] at f3; rw [e4] at f4
        simp only [Option.some.injEq, Value.int.injEq, Value.string.injEq, Value.slice.injEq, true_and] at f0 f1 f2 f3 f4
        obtain ⟨rfl, hlen, rfl⟩ := f4
        have := ih _ (List.getElem_mem hi) _ _ _ _ _ _ _ hr hr' (by rw [hlen])
        rw [← T.eta t.kids[i], ← T.eta u.kids[i], f0, f1, f2, f3, this]

theorem LentT.stood {s : Prop} {base : Nat} {w : World} {t : T} {v : Value} (h : LentT base w t v) : Stood s (fun k => base ≤ k ∧ k < w.heap.size) w t v := by
  induction h with
  | mk t g cur ps hk hl hb hg hc _ ih =>
    refine .mk t _ _ ps hk (fun _ => ⟨g, 0, rfl, ⟨hb, lt_of_heap hg⟩, fun j u hj => ?_⟩) (fun h => by cases h) (by omega) (by unfold maxLen; omega) (fun _ ad had => ?_) ih
    · rw [Nat.zero_add, Lib.cell_of_heap hg, ← Array.getElem?_toList, hc, cellsN_append, List.getElem?_append_left (List.getElem?_eq_some_iff.1 hj).1]
      exact hj
    · obtain rfl := Option.some.inj had
      exact ⟨Lib.frozen_of_heap hg 0, cur, _, (0, 0), hg, fun _ => rfl⟩

theorem info_row : (Tryz.prog.info? 108).map (fun i => i.size) = some 2 := by kernel_rfl
theorem rowT : RowT Tryz.prog 108 106 25 3 5 where
  row := ⟨_, _, Tryz.underlying108, by decide, by decide, rfl, rfl, rfl, rfl⟩
  ptr := Tryz.underlying106
  elem := by
    obtain ⟨i0, hi, hz0, hz1, hz2⟩ := info_parts infoN
    exact ⟨i0, hi, hz1⟩
  pos := by decide
  int := Tryz.underlying3
  held := by kernel_rfl
  cells := by
    have h := info_row
    cases hi : Tryz.prog.info? 108 with
    | none => rw [hi] at h; cases h
    | some j => rw [hi] at h; exact ⟨j, rfl, Option.some.inj h⟩
theorem kRow (s : Prop) : KeyOf Tryz.prog s 108 Key rowV (fun w x => Good s w x.1) := keyRow s rowT
theorem kRows (s : Prop) : KeyOf Tryz.prog s 110 (Key × Key) (fun x => rowsV x.1 x.2) (fun w x => Good s w x.1.1 ∧ Good s w x.2.1) := keyRows s rowT Tryz.underlying110

theorem rowOf_any (ao : Option Addr) (n c : Nat) (w : World) (ha : 0 < n → ∃ sb off, ao = some ⟨sb, off, none⟩) :
    Calls Tryz.prog 65 #[.slice ao n c] w fun e w' => e = .returned (rowV (keyA ao n)) ∧ Gr w w' := by
  by_cases hn : n = 0
  · subst hn
    rw [keyA_zero]
    go_enter Tryz.func65, Tryz.ntmps65
    go_wp2
    refine bodyPost_ret (v := .agg #[.pointer none, .int .i64 0]) (by simp [results, Tryz.results65, go_sem]) rfl ⟨rfl, ?_⟩
    exact (Gr.refl w).alloc _
  · obtain ⟨sb, off, rfl⟩ := ha (by omega)
    rw [keyA_pos _ (by omega)]
    have hn' : ((n : Int) == 0) = false := beq_eq_false_iff_ne.2 (by omega)
    have hn2 : (0 : Int) < (n : Int) := by omega
    go_enter Tryz.func65, Tryz.ntmps65
    go_wp2
    refine bodyPost_ret (v := .agg #[.pointer (some ⟨sb, off, none⟩), .int .i64 n]) (by simp [results, Tryz.results65, go_sem]) rfl ⟨rfl, ?_⟩
    exact (Gr.refl w).alloc _
end Go.Proofs.YtfmjhbaenpbfoaaGreatDoor
