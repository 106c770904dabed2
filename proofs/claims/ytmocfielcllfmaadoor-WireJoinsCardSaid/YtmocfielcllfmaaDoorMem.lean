/- Rows in memory: of values, of numbers, of facts; what a reader tells of a row. -/
import Derived.Test.YtmocfielcllfmaaDoorVal
namespace Go.Proofs.YtmocfielcllfmaaDoor
open Go.RowKit

def rowS {α : Type} (f : St → α × St) : Nat → List α → St → List α × St
  | 0, acc, s => (acc, s)
  | n + 1, acc, s => if (f s).2.2 = true then ([], (f s).2) else rowS f n (acc ++ [(f s).1]) (f s).2
def manyS {α : Type} (f : St → α × St) (s : St) : List α × St := rowS f (countS s).1 [] (countS s).2

theorem Fr.grown {pb : Nat} {a w w' : World} {row : Option Nat} (h : Fr pb a w) (g : w.grownBy w' row) (hr : ∀ k, row = some k → a.heap.size ≤ k) : Fr pb a w' :=
  ⟨g.os.trans h.os, g.tape.trans h.tape, g.output.trans h.output, Nat.le_trans h.size g.size, fun k hk hn => (g.block k (Nat.lt_of_lt_of_le hk h.size) (fun e => by have := hr k e.symm; omega)).trans (h.block k hk hn)⟩
theorem RdS.grown {w w' : World} {R pb B : Nat} {s : St} {row : Option Nat} (h : RdS w R pb B s) (g : w.grownBy w' row) (hr : ∀ k, row = some k → B ≤ k) : RdS w' R pb B s :=
  h.keep g.size (fun k hk => g.block k (Nat.lt_of_lt_of_le hk h.lb) (fun e => by have := hr k e.symm; omega))

theorem owns_fr {pb base : Nat} {w w' : World} {e size n : Nat} {v : Value} {xs : List Value} (h : w.ownsRow base e size v n xs) (f : Fr pb w w') (hb : pb < base) : w'.ownsRow base e size v n xs :=
  h.kept f (by
    cases hv : v.ownBlock with
    | none => exact Or.inl rfl
    | some k =>
      refine Or.inr fun he => ?_
      have := (h.lt k hv).1
      have := Option.some.inj he
      omega)

theorem owns_mono {base base' : Nat} {w : World} {e size n : Nat} {v : Value} {xs : List Value} (h : w.ownsRow base e size v n xs) (hb : base' ≤ base) : w.ownsRow base' e size v n xs := by
  obtain ⟨h1, h2⟩ := h
  refine ⟨h1, ?_⟩
  rcases h2 with h2 | ⟨g, cap, cur, hv, hg, r⟩
  · exact Or.inl h2
  · exact Or.inr ⟨g, cap, cur, hv, Nat.le_trans hb hg, r⟩

/-- What is owned is there as long as its block is. -/
theorem owns_below {base : Nat} {w w' : World} {e size n : Nat} {v : Value} {xs : List Value} (h : w.ownsRow base e size v n xs) (b : Below w.heap.size w w') : w'.ownsRow base e size v n xs := by
  obtain ⟨h1, h2⟩ := h
  refine ⟨h1, ?_⟩
  rcases h2 with h2 | ⟨g, cap, cur, hv, hg, hh, r⟩
  · exact Or.inl h2
  · exact Or.inr ⟨g, cap, cur, hv, hg, (b.block g (lt_of_heap hh)).trans hh, r⟩

theorem owns_slice {base : Nat} {w : World} {e size n : Nat} {v : Value} {xs : List Value} (h : w.ownsRow base e size v n xs) : ∃ ao c, v = .slice ao n c := by
  rcases h.2 with ⟨rfl, rfl⟩ | ⟨g, cap, cur, rfl, _⟩
  · exact ⟨none, 0, rfl⟩
  · exact ⟨_, cap, rfl⟩

def RowV (w : World) (base : Nat) (v : Value) (xs : List V3) : Prop := w.ownsRow base 46 3 v xs.length (cellsV xs)
theorem RowV.slice {w : World} {base : Nat} {v : Value} {xs : List V3} (h : RowV w base v xs) : ∃ ao c, v = .slice ao xs.length c := owns_slice h
theorem RowV.nil (w : World) (base : Nat) : RowV w base (.slice none 0 0) [] := World.ownsRow_nil _ _ _ _
theorem RowV.fr {pb base : Nat} {w w' : World} {v : Value} {xs : List V3} (h : RowV w base v xs) (f : Fr pb w w') (hb : pb < base) : RowV w' base v xs := owns_fr h f hb
theorem RowV.below {base : Nat} {w w' : World} {v : Value} {xs : List V3} (h : RowV w base v xs) (b : Below w.heap.size w w') : RowV w' base v xs := owns_below h b
theorem RowV.mono {base base' : Nat} {w : World} {v : Value} {xs : List V3} (h : RowV w base v xs) (b : base' ≤ base) : RowV w base' v xs := owns_mono h b

def cellsI (l : List Int) : List Value := l.map (Value.int .i64)
theorem cellsI_one (l : List Int) : ∀ u ∈ cellsI l, u.oneCell' = true := fun u hu => by
  simp only [cellsI, List.mem_map] at hu
  obtain ⟨x, _, rfl⟩ := hu
  rfl
theorem cellsI_append (l m : List Int) : cellsI (l ++ m) = cellsI l ++ cellsI m := List.map_append
def RowI (w : World) (base : Nat) (v : Value) (xs : List Int) : Prop := w.ownsRow base 3 1 v xs.length (cellsI xs)
theorem RowI.slice {w : World} {base : Nat} {v : Value} {xs : List Int} (h : RowI w base v xs) : ∃ ao c, v = .slice ao xs.length c := owns_slice h
theorem RowI.nil (w : World) (base : Nat) : RowI w base (.slice none 0 0) [] := World.ownsRow_nil _ _ _ _
theorem RowI.fr {pb base : Nat} {w w' : World} {v : Value} {xs : List Int} (h : RowI w base v xs) (f : Fr pb w w') (hb : pb < base) : RowI w' base v xs := owns_fr h f hb
theorem RowI.below {base : Nat} {w w' : World} {v : Value} {xs : List Int} (h : RowI w base v xs) (b : Below w.heap.size w w') : RowI w' base v xs := owns_below h b
theorem RowI.mono {base base' : Nat} {w : World} {v : Value} {xs : List Int} (h : RowI w base v xs) (b : base' ≤ base) : RowI w base' v xs := owns_mono h b

/-- Facts, each with the slice of its values. -/
def cellsF : List (F3 × Value) → List Value
  | [] => []
  | p :: l => .int .i64 p.1.1 :: .int .i64 p.1.2.1 :: p.2 :: cellsF l
theorem cellsF_append (l m : List (F3 × Value)) : cellsF (l ++ m) = cellsF l ++ cellsF m := by
  induction l with
  | nil => rfl
  | cons x l ih => simp only [cellsF, List.cons_append, ih]
def RowF (w : World) (base : Nat) (v : Value) (xs : List F3) : Prop := ∃ ps : List (F3 × Value), ps.map Prod.fst = xs ∧ w.ownsRow base 52 3 v xs.length (cellsF ps) ∧ ∀ p, p ∈ ps → RowV w base p.2 p.1.2.2
theorem RowF.slice {w : World} {base : Nat} {v : Value} {xs : List F3} (h : RowF w base v xs) : ∃ ao c, v = .slice ao xs.length c := owns_slice h.choose_spec.2.1
theorem RowF.nil (w : World) (base : Nat) : RowF w base (.slice none 0 0) [] := ⟨[], rfl, World.ownsRow_nil _ _ _ _, fun p hp => by cases hp⟩
theorem RowF.fr {pb base : Nat} {w w' : World} {v : Value} {xs : List F3} (h : RowF w base v xs) (f : Fr pb w w') (hb : pb < base) : RowF w' base v xs := by
  obtain ⟨ps, h1, h2, h3⟩ := h
  exact ⟨ps, h1, owns_fr h2 f hb, fun p hp => (h3 p hp).fr f hb⟩
theorem RowF.below {base : Nat} {w w' : World} {v : Value} {xs : List F3} (h : RowF w base v xs) (b : Below w.heap.size w w') : RowF w' base v xs := by
  obtain ⟨ps, h1, h2, h3⟩ := h
  exact ⟨ps, h1, owns_below h2 b, fun p hp => (h3 p hp).below b⟩
theorem RowF.mono {base base' : Nat} {w : World} {v : Value} {xs : List F3} (h : RowF w base v xs) (b : base' ≤ base) : RowF w base' v xs := by
  obtain ⟨ps, h1, h2, h3⟩ := h
  exact ⟨ps, h1, owns_mono h2 b, fun p hp => (h3 p hp).mono b⟩

theorem owns_tag {base : Nat} {w : World} {e size n : Nat} {v : Value} {xs : List Value} (h : w.ownsRow base e size v n xs) : ∀ k, v.ownBlock = some k → ∃ cs fz, w.heap[k]? = some (.cells cs e fz) := by
  intro k hk
  rcases h.2 with ⟨rfl, _⟩ | ⟨g, cap, cur, rfl, _, hg, _⟩
  · simp [Value.ownBlock] at hk
  · simp [Value.ownBlock] at hk
    subst hk
    exact ⟨cur, _, hg⟩
theorem owns_far {base e' : Nat} {w w' : World} {e size n : Nat} {v : Value} {xs : List Value} {row : Option Nat} (h : w.ownsRow base e size v n xs) (he : e ≠ e') (g : w.grownBy w' row) (hr : ∀ k, row = some k → ∃ cs fz, w.heap[k]? = some (.cells cs e' fz)) : w'.ownsRow base e size v n xs := by
  refine h.kept g ?_
  cases hv : v.ownBlock with
  | none => exact Or.inl rfl
  | some k =>
    refine Or.inr fun hk => ?_
    obtain ⟨cs, fz, h1⟩ := hr k hk.symm
    obtain ⟨cs', fz', h2⟩ := owns_tag h k hv
    rw [h1] at h2
    injection h2 with h2
    injection h2 with _ h3 _
    exact he h3.symm
theorem RowV.far {base : Nat} {w w' : World} {v : Value} {xs : List V3} {row : Option Nat} (h : RowV w base v xs) (g : w.grownBy w' row) (hr : ∀ k, row = some k → ∃ cs fz, w.heap[k]? = some (.cells cs 52 fz)) : RowV w' base v xs := owns_far h (by decide) g hr

/-- A row is told, in new memory. -/
def Rowed {α : Type} (Row : World → Nat → Value → List α → Prop) (r : List α × St) (R pb B : Nat) (w : World) (e : Ending) (w' : World) : Prop :=
  ∃ v, e = .returned v ∧ Row w' w.heap.size v r.1 ∧ RdS w' R pb B r.2 ∧ Fr pb w w'
end Go.Proofs.YtmocfielcllfmaaDoor
