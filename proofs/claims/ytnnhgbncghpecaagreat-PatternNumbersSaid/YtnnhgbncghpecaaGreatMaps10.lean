/- Maps from numbers, that the call made itself. -/
import Derived.Test.YtnnhgbncghpecaaGreatBase10
import Derived.Maps.Keyed
import Derived.MapKept
import Derived.Carry
namespace Go.Proofs.YtnnhgbncghpecaaGreat
open Go.RowKit Go.Maps

theorem list_set_same' {α : Type} (l : List α) (k : Nat) (u : α) (h : l[k]? = some u) : l.set k u = l := by
  obtain ⟨hk, e⟩ := List.getElem?_eq_some_iff.1 h
  subst e
  exact List.set_getElem_self hk
/-- At b lies a map that tells f. -/
def IMap (w : World) (b : Nat) (f : Int → Option Value) : Prop := ∃ (l : List (Int × Value)) (es : Array MapEntry) (clock : Nat), w.heap[b]? = some (.map es clock) ∧ es.toList.map (fun e => (e.key, e.val)) = l.map (fun p => (Value.int .i64 p.1, p.2)) ∧ (l.map Prod.fst).Nodup ∧ (∀ p, p ∈ l → In64 p.1) ∧ ∀ x v, f x = some v ↔ (x, v) ∈ l
theorem IMap.keep {w w' : World} {b : Nat} {f : Int → Option Value} (h : IMap w b f) (e : w'.heap[b]? = w.heap[b]?) : IMap w' b f := by
  obtain ⟨l, es, clock, h1, h2⟩ := h
  exact ⟨l, es, clock, e.trans h1, h2⟩
theorem IMap.lt {w : World} {b : Nat} {f : Int → Option Value} (h : IMap w b f) : b < w.heap.size := by
  obtain ⟨l, es, clock, h1, h2⟩ := h
  exact lt_of_heap h1
theorem IMap.made (w : World) : IMap (w.alloc (.map #[] 0)) w.heap.size (fun _ => none) :=
  ⟨[], #[], 0, heap_alloc_new w _, rfl, List.nodup_nil, (fun p h => by cases h), fun x v => ⟨(fun h => by cases h), (fun h => by cases h)⟩⟩
theorem wf_of64 {x : Int} (h : In64 x) : (Lit.int .i64 x).wf = true := by
  have h1 := h.lo
  have h2 := h.hi
  simp [Lit.wf, IntKind.min, IntKind.max, IntKind.signed, IntKind.bits]
  omega
theorem nodup_one {l : List (Int × Value)} (h : (l.map Prod.fst).Nodup) {x : Int} {v1 v2 : Value} (h1 : (x, v1) ∈ l) (h2 : (x, v2) ∈ l) : v1 = v2 := by
  induction l with
  | nil => cases h1
  | cons p l ih =>
    rw [List.map_cons, List.nodup_cons] at h
    rcases List.mem_cons.1 h1 with e1 | h1
    · rcases List.mem_cons.1 h2 with e2 | h2
      · rw [← e1] at e2; injection e2 with _ e2; exact e2.symm
      · exact absurd (List.mem_map_of_mem (f := Prod.fst) h2) (by rw [← e1] at h; exact h.1)
    · rcases List.mem_cons.1 h2 with e2 | h2
      · exact absurd (List.mem_map_of_mem (f := Prod.fst) h1) (by rw [← e2] at h; exact h.1)
      · exact ih h.2 h1 h2
theorem find_list {P : Program} {kt : TypeId} (hk : P.underlying kt = some (.int .i64)) (w : World) {x : Int} (hx : In64 x) {es : Array MapEntry} {l : List (Int × Value)} (h2 : es.toList.map (fun e => (e.key, e.val)) = l.map (fun p => (Value.int .i64 p.1, p.2))) (h4 : ∀ p, p ∈ l → In64 p.1) :
    ((Instr.findKey kt (.int .i64 x) es.toList).run P w = .ok none w ∧ ∀ p, p ∈ l → p.1 ≠ x) ∨ ∃ j v, (Instr.findKey kt (.int .i64 x) es.toList).run P w = .ok (some (j, v)) w ∧ l[j]? = some (x, v) ∧ ∃ e, es[j]? = some e ∧ e.key = .int .i64 x := by
  have hlen : es.toList.length = l.length := by have := congrArg List.length h2; simpa using this
  have hat : ∀ (j : Nat) (e : MapEntry), es.toList[j]? = some e → ∃ p, l[j]? = some p ∧ e.key = .int .i64 p.1 ∧ e.val = p.2 := fun j e he => by
    have := congrArg (fun m => m[j]?) h2
    simp only [List.getElem?_map, he, Option.map_some] at this
    cases hl : l[j]? with
    | none => rw [hl] at this; cases this
    | some p =>
      rw [hl] at this
      simp only [Option.map_some, Option.some.injEq, Prod.mk.injEq] at this
      exact ⟨p, rfl, this.1, this.2⟩
  have hes : ∀ e ∈ es.toList, ∃ lt, keyOf P kt e.key = some lt := fun e he => by
    obtain ⟨j, hj⟩ := List.getElem?_of_mem he
    obtain ⟨p, hp, hk', -⟩ := hat j e hj
    rw [hk']
    exact ⟨_, keyOf_int_mk hk (wf_of64 (h4 p (List.mem_of_getElem? hp)))⟩
  rcases (int_keyed hk).find w (keyOf_int_mk hk (wf_of64 hx)) es.toList hes with ⟨r1, r2⟩ | ⟨j, e, r1, r2, r3⟩
  · refine Or.inl ⟨r1, fun p hp he => ?_⟩
    obtain ⟨j, hj⟩ := List.getElem?_of_mem hp
    have hjl : j < es.toList.length := by rw [hlen]; exact (List.getElem?_eq_some_iff.1 hj).1
    obtain ⟨q, hq, hk', -⟩ := hat j _ (List.getElem?_eq_getElem hjl)
    rw [hj] at hq
    obtain rfl := Option.some.inj hq
    exact r2 _ (List.getElem_mem hjl) (by rw [hk', he])
  · obtain ⟨p, hp, hk', hv⟩ := hat j e r2
    rw [r3] at hk'
    have hpx : p.1 = x := by injection hk' with _ h; exact h.symm
    refine Or.inr ⟨j, e.val, r1, ?_, e, by rw [← Array.getElem?_toList]; exact r2, r3⟩
    rw [hp, ← hpx, hv]
theorem IMap.look {P : Program} {t kt et : TypeId} {w : World} {b : Nat} {f : Int → Option Value} (h : IMap w b f) (c : Bool) (z : Value) (hk : P.underlying kt = some (.int .i64)) (ht : P.underlying t = some (.map kt et)) (hz : (zeroValue et).run P w = .ok z w) {x : Int} (hx : In64 x) :
    (Instr.lookup t (.map (some b)) (.int .i64 x) c).run P w = .ok (if c then .tuple #[(f x).getD z, .bool (f x).isSome] else (f x).getD z) w := by
  obtain ⟨l, es, clock, h1, h2, h3, h4, h5⟩ := h
  rcases find_list hk w hx h2 h4 with ⟨r1, r2⟩ | ⟨j, v, r1, r2, -⟩
  · have : f x = none := by
      cases hf : f x with
      | none => rfl
      | some u => exact absurd rfl (r2 _ ((h5 x u).1 hf))
    rw [this]
    simp [Instr.lookup, run_underlying ht, MapKept.run_getObj_map h1, (int_keyed hk).check w _ (keyOf_int_mk hk (wf_of64 hx)), r1, hz, Result.andThen]
  · rw [(h5 x v).2 (List.mem_of_getElem? r2)]
    simp [Instr.lookup, run_underlying ht, MapKept.run_getObj_map h1, (int_keyed hk).check w _ (keyOf_int_mk hk (wf_of64 hx)), r1, Result.andThen]
theorem IMap.put {P : Program} {t kt et : TypeId} {w : World} {b : Nat} {f : Int → Option Value} (h : IMap w b f) (hk : P.underlying kt = some (.int .i64)) (ht : P.underlying t = some (.map kt et)) {x : Int} (hx : In64 x) (val : Value) :
    ∃ w', (Instr.mapUpdate t (.map (some b)) (.int .i64 x) val).run P w = .ok () w' ∧ w.grownBy w' (some b) ∧ w'.heap.size = w.heap.size ∧ IMap w' b (fun y => if y = x then some val else f y) := by
  obtain ⟨l, es, clock, h1, h2, h3, h4, h5⟩ := h
  have hlt := lt_of_heap h1
  have hlen : es.toList.length = l.length := by have := congrArg List.length h2; simpa using this
  have frame : ∀ (o : Obj), w.grownBy { w with heap := w.heap.setIfInBounds b o } (some b) := fun o => by
    refine ⟨rfl, rfl, rfl, by simp, fun j _ hj => ?_⟩
    have hne : b ≠ j := fun e => hj (by rw [e])
    show (w.heap.setIfInBounds b o)[j]? = _
    simp [hne]
  have there : ∀ (o : Obj), ({ w with heap := w.heap.setIfInBounds b o } : World).heap[b]? = some o := fun o => by
    show (w.heap.setIfInBounds b o)[b]? = _
    simp [hlt]
  have hchk := (int_keyed hk).check w false (keyOf_int_mk hk (wf_of64 hx))
  rcases find_list hk w hx h2 h4 with ⟨r1, r2⟩ | ⟨i, v, r1, r2, e0, r3, r4⟩
  · refine ⟨{ w with heap := w.heap.setIfInBounds b (.map (es.push ⟨.int .i64 x, val, clock⟩) (clock + 1)) }, ?_, frame _, by simp, l ++ [(x, val)], _, _, there _, by simp [h2], ?_, ?_, fun y u => ?_⟩
    · simp [Instr.mapUpdate, run_underlying ht, MapKept.run_getObj_map h1, hchk, r1, MapKept.run_setObj_map _ h1, Result.andThen]
    · rw [List.map_append, List.nodup_append]
      refine ⟨h3, by simp, fun a ha c hc => ?_⟩
      obtain ⟨p, hp, rfl⟩ := List.mem_map.1 ha
      simp at hc
      rw [hc]
      exact r2 p hp
    · intro p hp
      rcases List.mem_append.1 hp with hp | hp
      · exact h4 p hp
      · rw [List.mem_singleton.1 hp]; exact hx
    · show (if y = x then some val else f y) = some u ↔ _
      by_cases hy : y = x
      · subst hy
        rw [if_pos rfl]
        constructor
        · intro e
          rw [← Option.some.inj e]
          simp
        · intro hm
          rcases List.mem_append.1 hm with h | h
          · exact absurd rfl (r2 _ h)
          · simp at h
            rw [h]
      · rw [if_neg hy, h5 y u]
        constructor
        · exact fun h => List.mem_append_left _ h
        · intro hm
          rcases List.mem_append.1 hm with h | h
          · exact h
          · simp at h
            exact absurd h.1 hy
  · have hil : i < l.length := (List.getElem?_eq_some_iff.1 r2).1
    have hfst : (l.set i (x, val)).map Prod.fst = l.map Prod.fst := by
      rw [List.map_set]
      exact list_set_same' _ _ _ (by rw [List.getElem?_map, r2]; rfl)
    have hstay := (int_keyed hk).stays w (keyOf_int_mk hk (wf_of64 hx))
    refine ⟨{ w with heap := w.heap.setIfInBounds b (.map (es.modify i fun e => { e with key := .int .i64 x, val := val }) clock) }, ?_, frame _, by simp, l.set i (x, val), _, _, there _, ?_, by rw [hfst]; exact h3, ?_, fun y u => ?_⟩
    · simp [Instr.mapUpdate, run_underlying ht, MapKept.run_getObj_map h1, hchk, r1, r3, r4, hstay, MapKept.run_setObj_map _ h1, Result.andThen]
    · apply List.ext_getElem?
      intro j
      have hj := congrArg (fun m => m[j]?) h2
      simp only [List.getElem?_map, Array.getElem?_toList] at hj
      simp only [List.getElem?_map, Array.getElem?_toList, Array.getElem?_modify, List.getElem?_set]
      by_cases hij : i = j
      · subst hij
        rw [if_pos rfl, if_pos rfl, if_pos hil, r3]
        rfl
      · rw [if_neg hij, if_neg hij, hj]
    · intro p hp
      rcases List.mem_or_eq_of_mem_set hp with h | h
      · exact h4 p h
      · rw [h]; exact hx
    · show (if y = x then some val else f y) = some u ↔ _
      have hmem : (x, val) ∈ l.set i (x, val) := List.mem_set hil _
      by_cases hy : y = x
      · subst hy
        rw [if_pos rfl]
        constructor
        · intro e
          rw [← Option.some.inj e]
          exact hmem
        · intro hm
          rw [nodup_one (by rw [hfst]; exact h3) hm hmem]
      · rw [if_neg hy, h5 y u]
        constructor
        · intro hm
          obtain ⟨j, hj⟩ := List.getElem?_of_mem hm
          have hji : i ≠ j := by
            rintro rfl
            rw [hj] at r2
            exact hy (by injection (Option.some.inj r2))
          exact List.mem_of_getElem? (i := j) (by rw [List.getElem?_set, if_neg hji]; exact hj)
        · intro hm
          rcases List.mem_or_eq_of_mem_set hm with h | h
          · exact h
          · injection h with h _
            exact absurd h hy
end Go.Proofs.YtnnhgbncghpecaaGreat
