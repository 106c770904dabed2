/- The program's map of what was fired: by their keys. -/
import Derived.Test.YtlkmabnjmklkpaaDoorRowM14
import Derived.Test.YtlkmabnjmklkpaaDoorKey14
import Derived.Maps.OwnSet
import Derived.Maps.RangeWalk
namespace Go.Proofs.YtlkmabnjmklkpaaDoor
open Go.RowKit Go.Maps

abbrev RH : Value → Option (DataW Value × List MemPlace) := fun v => some (.held v, [])
abbrev mval (p : MV) : Value := .agg #[.int .i64 p.1.1, .slice p.2.1.1 p.1.2.length p.2.1.2, .slice p.2.2.1 p.1.2.length p.2.2.2]
theorem kd14 : Keyed Tryd.prog 9 := string_keyed Tryd.underlying9
abbrev kv14 (x : TK) : Value := .string ⟨(keyT x).toArray⟩
abbrev kl14 (x : TK) : Lit := .string (keyT x)
theorem key_lit {x : TK} (h : (keyT x).length ≤ maxLen) : keyOf Tryd.prog 9 (kv14 x) = some (kl14 x) :=
  Go.WideMaps.keyOf_string_mk Tryd.underlying9 (by show (keyT x).toArray.size ≤ maxLen; simpa using h)
theorem kl_inj {x y : TK} (h : kl14 x = kl14 y) : x = y := keyT_inj (by injection h)
/-- Numbers of 64 bits, not too many. -/
structure Fit14 (t : TK) : Prop where
  rule : In64 t.1
  ids : ∀ z, z ∈ t.2 → In64 z
  len : t.2.length ≤ 1000000
theorem Fit14.key {t : TK} (h : Fit14 t) : (keyT t).length ≤ maxLen := by
  have h1 := Lib.itoa_length_le t.1 h.rule.lo h.rule.hi
  have h2 := tailT_len t.2 h.ids
  have h3 := h.len
  unfold keyT maxLen
  rw [List.length_append]
  have : t.2.length * 22 ≤ 1000000 * 22 := Nat.mul_le_mul_right _ h3
  omega

/-- At block b lies the map of these matches. -/
def PMap (w : World) (b : Nat) (F : List MV) : Prop := ∃ n D, w.ownsMap Tryd.prog 9 RH b n D ∧ n ≤ F.length ∧ (F.map Prod.fst).Nodup ∧ (∀ p, p ∈ F → ∀ z, D.atKey (kl14 p.1) z = .held (mval p)) ∧ (∀ kl, has D kl = true → ∃ p, p ∈ F ∧ kl = kl14 p.1)
theorem PMap.made (w : World) : PMap (w.alloc (.map #[] 0)) w.heap.size [] :=
  ⟨0, _, World.ownsMap_made w _ _ _, Nat.le_refl _, List.nodup_nil, (fun p h => by cases h), fun kl h => by simp [has] at h⟩
theorem PMap.keep {w w' : World} {b : Nat} {F : List MV} (h : PMap w b F) (e : w'.heap[b]? = w.heap[b]?) : PMap w' b F := by
  obtain ⟨n, D, ⟨es, clock, h1, h2⟩, h3⟩ := h
  exact ⟨n, D, ⟨es, clock, e.trans h1, h2⟩, h3⟩
theorem PMap.lt {w : World} {b : Nat} {F : List MV} (h : PMap w b F) : b < w.heap.size := by
  obtain ⟨n, D, h1, _⟩ := h
  exact h1.lt
theorem PMap.nodup {w : World} {b : Nat} {F : List MV} (h : PMap w b F) : (F.map Prod.fst).Nodup := by
  obtain ⟨n, D, _, _, h1, _⟩ := h
  exact h1
theorem PMap.look {w : World} {b : Nat} {F : List MV} (h : PMap w b F) {x : TK} (hx : (keyT x).length ≤ maxLen) :
    ∃ p : MV, (Instr.lookup 55 (.map (some b)) (kv14 x) true).run Tryd.prog w = .ok (.tuple #[mval p, .bool (decide (x ∈ F.map Prod.fst))]) w := by
  obtain ⟨n, D, h1, _, _, h4, h5⟩ := h
  have hz : (zeroValue 59).run Tryd.prog w = .ok (mval ((0, []), (none, 0), (none, 0))) w := by kernel_rfl
  obtain ⟨v, ps, hrun, hv⟩ := h1.look_ok kd14 Tryd.underlying55 hz (zd := .held _) (zp := []) rfl (key_lit hx)
  by_cases hm : x ∈ F.map Prod.fst
  · obtain ⟨p, hp, rfl⟩ := List.mem_map.1 hm
    have hh : has D (kl14 p.1) = true := has_true_of_atKey (y := .held (mval p)) (h4 p hp)
    rw [h4 p hp] at hv
    have : v = mval p := by
      simp only [Option.some.injEq, Prod.mk.injEq, DataW.held.injEq] at hv
      exact hv.1
    subst this
    refine ⟨p, ?_⟩
    rw [hrun, hh, decide_eq_true hm]
  · have hh : has D (kl14 x) = false := by
      cases hb : has D (kl14 x) with
      | false => rfl
      | true =>
        obtain ⟨p, hp, e⟩ := h5 _ hb
        exact absurd (List.mem_map.2 ⟨p, hp, (kl_inj e).symm⟩) hm
    rw [atKey_of_not_has hh] at hv
    refine ⟨((0, []), (none, 0), (none, 0)), ?_⟩
    have : v = mval ((0, []), (none, 0), (none, 0)) := by
      simp only [Option.some.injEq, Prod.mk.injEq, DataW.held.injEq] at hv
      exact hv.1
    rw [hrun, hh, decide_eq_false hm, this]
theorem PMap.put {w : World} {b : Nat} {F : List MV} (h : PMap w b F) {p : MV} (hx : (keyT p.1).length ≤ maxLen) (hn : p.1 ∉ F.map Prod.fst) (hl : F.length ≤ 1000000) :
    ∃ w', (Instr.mapUpdate 55 (.map (some b)) (kv14 p.1) (mval p)).run Tryd.prog w = .ok () w' ∧ PMap w' b (F ++ [p]) ∧ w.grownBy w' (some b) := by
  obtain ⟨n, D, h1, h2, h3, h4, h5⟩ := h
  have hm : IsMap D := by obtain ⟨es, clock, _, _, _, e⟩ := h1; exact ⟨_, e⟩
  obtain ⟨w', hrun, ho, hg⟩ := h1.update kd14 Tryd.underlying55 (by unfold maxLen; omega) (key_lit hx) (val := mval p) (d := .held (mval p)) (ps := []) rfl
  refine ⟨w', hrun, ⟨n + 1, _, ho, by simp; omega, ?_, fun q hq z => ?_, fun kl hkl => ?_⟩, hg⟩
  · rw [List.map_append, List.nodup_append]
    exact ⟨h3, by simp, fun a ha c hc e => by simp at hc; subst hc; subst e; exact hn ha⟩
  · rcases List.mem_append.1 hq with hq | hq
    · have hne : kl14 q.1 ≠ kl14 p.1 := fun e => hn (by rw [← kl_inj e]; exact List.mem_map_of_mem hq)
      rw [atKey_put_other hne]
      exact h4 q hq z
    · obtain rfl := List.mem_singleton.1 hq
      exact atKey_put_same hm (kd14.key (key_lit hx)) _ z
  · by_cases e : kl = kl14 p.1
    · exact ⟨p, by simp, e⟩
    · rw [has_put_other e] at hkl
      obtain ⟨q, hq, e2⟩ := h5 kl hkl
      exact ⟨q, by simp [hq], e2⟩
end Go.Proofs.YtlkmabnjmklkpaaDoor
