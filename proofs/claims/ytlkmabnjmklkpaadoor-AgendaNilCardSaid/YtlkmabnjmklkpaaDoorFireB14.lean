/- What fire wants: a copy of matches within a row; steps of a drawn region that turn something old. -/
import Derived.Test.YtlkmabnjmklkpaaDoorPlace14
import Derived.Test.YtlkmabnjmklkpaaDoorGregG14
import Derived.Laws.CopyOwn
namespace Go.Proofs.YtlkmabnjmklkpaaDoor
open Go.RowKit

section
variable {P : Program} {ops : Array Oper} {D : Nat → Option Nat} {F : (Nat → Bool) → Nat → World → Value → Prop} {J : (Nat → Bool) → World → Prop} {n : Nat} {a0 : Act} {l : Nat → Bool} {a : Act} {w : World} {i : Nat}
theorem didK {d : Nat} {v : Value} {w' : World} (hc : ∀ (l l' : Nat → Bool) (j : Nat) (w w' : World) (v : Value), F l j w v → F l' j w' v) (h : St ops D F J n a0 l a w) (hd : D i = some d) (hj : J (setL l i) w') (hf : F (setL l i) i w' v) : Did D F J n l i a (a.put (some d) v) w' := by
  refine ⟨v, by rw [hd], hj, fun j hj hl => hc _ _ _ _ _ _ (h.vals j hj hl), ?_⟩
  rw [hd]
  exact hf
theorem didN {v : Value} {w' : World} (hc : ∀ (l l' : Nat → Bool) (j : Nat) (w w' : World) (v : Value), F l j w v → F l' j w' v) (h : St ops D F J n a0 l a w) (hd : D i = none) (hj : J (setL l i) w') (hf : F (setL l i) i w' undef) : Did D F J n l i a (a.put none v) w' := by
  refine ⟨v, by rw [hd], hj, fun j hj hl => hc _ _ _ _ _ _ (h.vals j hj hl), ?_⟩
  rw [hd]
  exact hf
end
theorem touch_setRow {g : Nat} {w w' : World} {cs : Array Value} (h : Touch (fun b => b = g) w w') : Touch (fun b => b = g) w (w'.setRow g cs) :=
  ⟨h.os, h.tape, h.output, by simpa [World.setRow] using h.size, fun k hk hne => (setRow_other w' g k cs hne).trans (h.block k hk hne)⟩

/-- The row behind the copy of its first k matches, one place further. -/
def moved14 (cur : Array Value) (o : Nat) (cs : List Value) : Array Value := (cur.toList.take (o + 3) ++ cs ++ cur.toList.drop (o + 3 + cs.length)).toArray
theorem run_copy14 (ty : TypeId) (w : World) (vA : Option Addr) (g o n wc k : Nat) (cur : Array Value) (cs : List Value) (hg : w.heap[g]? = some (.cells cur 59 (0, 0)))
    (hv : 0 < k → vA = some ⟨g, o + 3, none⟩) (hk : k < n) (hcs : cs.length = k * 3) (hsrc : ∀ j u, cs[j]? = some u → cur[o + j]? = some u) (hfit : o + 3 + cs.length ≤ cur.size) (h1 : ∀ u ∈ cs, u.oneCell' = true) :
    (Builtin.copy_ #[54, 54] ty #[.slice vA (n - 1) (wc - 1), .slice (some ⟨g, o, none⟩) k wc]).run Tryd.prog w = .ok (.int .i64 (k : Nat)) (w.setRow g (moved14 cur o cs)) := by
  obtain ⟨i0, hi0, hz0, hz1, hz2⟩ := info_parts infoM14
  have hu : Tryd.prog.underlying 54 = some (.slice 59) := Tryd.underlying54
  have hmin : Nat.min k (n - 1) = k := Nat.min_eq_left (by omega)
  have hl := run_loadCells_list (P := Tryd.prog) w ⟨g, o, none⟩ cs (fun j u hu => by
    rw [Addr.add_lit]
    exact (Lib.cell_of_heap hg (o + j)).trans (hsrc j u hu))
  rw [hcs] at hl
  by_cases h0 : k = 0
  · subst h0
    obtain rfl : cs = [] := List.eq_nil_of_length_eq_zero (by omega)
    have hm : moved14 cur o [] = cur := by simp [moved14]
    rw [hm, setRow_self w g cur _ _ hg]
    cases vA <;> simp [Builtin.copy_, run_underlying hu, Builtin.lenOf, Builtin.firstCells, sizeOf, typeInfo, hi0, hmin, storeCells, hl, goInt] <;> simpa using hl
  · obtain rfl := hv (by omega)
    have hst := run_storeCells_at Tryd.prog g (o + 3) 59 cs 0 cur w hg (by simpa using hfit) h1
    simp [Builtin.copy_, run_underlying hu, Builtin.lenOf, Builtin.firstCells, sizeOf, typeInfo, hi0, hz1, hmin, hl, hst, goInt, moved14]

theorem mcells_take (l : List MV) : ∀ k : Nat, mcells (l.take k) = (mcells l).take (k * 3) := by
  induction l with
  | nil => intro k; simp [mcells]
  | cons x l ih =>
    intro k
    cases k with
    | zero => simp [mcells]
    | succ k =>
      rw [List.take_succ_cons, show (k + 1) * 3 = k * 3 + 1 + 1 + 1 by omega]
      simp only [mcells, List.take_succ_cons, ih]
theorem mcells_drop (l : List MV) : ∀ k : Nat, mcells (l.drop k) = (mcells l).drop (k * 3) := by
  induction l with
  | nil => intro k; simp [mcells]
  | cons x l ih =>
    intro k
    cases k with
    | zero => simp [mcells]
    | succ k =>
      rw [List.drop_succ_cons, show (k + 1) * 3 = k * 3 + 1 + 1 + 1 by omega]
      simp only [mcells, List.drop_succ_cons, ih]
/-- What lies in the row behind the copy, from its second place on. -/
theorem moved_at {cur : Array Value} {o k : Nat} {ws : List MV} (hk : k < ws.length) (hc : ∀ (j : Nat) (u : Value), (mcells ws)[j]? = some u → cur[o + j]? = some u) :
    ∀ (j : Nat) (u : Value), (mcells (ws.eraseIdx k))[j]? = some u → (moved14 cur o (mcells (ws.take k)))[o + 3 + j]? = some u := by
  intro j u hu
  have hlen : o + ws.length * 3 ≤ cur.size := by
    have hl := mcells_length ws
    have h1 := hc (ws.length * 3 - 1) _ (List.getElem?_eq_getElem (by omega))
    have := (Array.getElem?_eq_some_iff.1 h1).1
    omega
  have hck : (mcells (ws.take k)).length = k * 3 := by rw [mcells_length, List.length_take]; omega
  rw [List.eraseIdx_eq_take_drop_succ, mcells_append] at hu
  unfold moved14
  rw [List.getElem?_toArray, List.append_assoc, List.getElem?_append_right (by simp; omega)]
  have e1 : (cur.toList.take (o + 3)).length = o + 3 := by rw [List.length_take]; simp; omega
  rw [e1, show o + 3 + j - (o + 3) = j by omega]
  by_cases h : j < k * 3
  · rw [List.getElem?_append_left (by omega)] at hu ⊢
    exact hu
  · rw [List.getElem?_append_right (by omega)] at hu ⊢
    rw [hck] at hu ⊢
    rw [mcells_drop, List.getElem?_drop] at hu
    rw [List.getElem?_drop]
    have := hc _ _ hu
    rw [← Array.getElem?_toList] at this
    rw [← this]
    congr 1
    omega
theorem Tab14.touch {T : Nat → Prop} {w w' : World} (h : Tab14 w) (t : Touch T w w') (hT : ∀ b, T b → ∀ cs ty fz, w.heap[b]? = some (.cells cs ty fz) → ∃ (j : Nat) (v : Value), cs[j]? = some v ∧ ∀ z, v ≠ .int .u64 z) : Tab14 w' := by
  unfold Tab14 Lib.TabIs World.var? at *
  cases hg : Tryd.prog.globalNamed "internal/strconv.uint64pow10" with
  | none => simp [hg] at h
  | some g =>
    simp only [hg, Option.bind_some] at h ⊢
    have hlt : g < w.heap.size := by
      rcases Nat.lt_or_ge g w.heap.size with h' | h'
      · exact h'
      · rw [Array.getElem?_eq_none h'] at h; simp at h
    rw [t.block g hlt (fun hTg => ?_)]
    · exact h
    · cases hq : w.heap[g]? with
      | none => rw [hq] at h; simp at h
      | some o =>
        cases o with
        | cells cs ty fz =>
          rw [hq] at h
          simp only [Option.some.injEq] at h
          obtain ⟨j, v, hj, hv⟩ := hT g hTg cs ty fz hq
          rw [h] at hj
          simp only [List.getElem?_toArray, List.getElem?_map, Option.map_eq_some_iff] at hj
          obtain ⟨z, _, rfl⟩ := hj
          exact hv z rfl
        | _ => rw [hq] at h; simp at h
end Go.Proofs.YtlkmabnjmklkpaaDoor
