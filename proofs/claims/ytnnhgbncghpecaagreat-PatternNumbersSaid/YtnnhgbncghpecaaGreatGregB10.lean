/- A region that draws its order, by what is known of each of its operations that is done. -/
import Derived.Test.YtnnhgbncghpecaaGreatNew10
import Derived.Orders
namespace Go.Proofs.YtnnhgbncghpecaaGreat
open Go.RowKit

def slotV (a : Act) : Option Nat → Value
  | some d => a.eval (.tmp d)
  | none => undef
section
variable {P : Program} {ops : Array Oper} {Q : Exit → Act → World → Prop}
/-- On the way: F tells of each operation that is done what its slot holds, J of the world. -/
structure St (ops : Array Oper) (D : Nat → Option Nat) (F : (Nat → Bool) → Nat → World → Value → Prop) (J : (Nat → Bool) → World → Prop) (n : Nat) (a0 : Act) (l : Nat → Bool) (a : Act) (w : World) : Prop where
  size : a.tmps.size = a0.tmps.size
  defs : a.defers = a0.defers
  kept : ∀ t, (∀ i, i < n → D i ≠ some t) → a.eval (.tmp t) = a0.eval (.tmp t)
  j : J l w
  ord : ∀ i, i < n → l i = true → ∀ j, waitsFor ops i j = true → l j = true
  vals : ∀ i, i < n → l i = true → F l i w (slotV a (D i))
/-- An operation has done its part. -/
def Did (D : Nat → Option Nat) (F : (Nat → Bool) → Nat → World → Value → Prop) (J : (Nat → Bool) → World → Prop) (n : Nat) (l : Nat → Bool) (i : Nat) (a : Act) (a' : Act) (w' : World) : Prop :=
  ∃ v, a' = a.put (D i) v ∧ J (setL l i) w' ∧ (∀ j, j < n → l j = true → F (setL l i) j w' (slotV a (D j))) ∧ F (setL l i) i w' (match D i with | some _ => v | none => undef)
/-- What stays, stays. -/
structure Mild (F : (Nat → Bool) → Nat → World → Value → Prop) (J : (Nat → Bool) → World → Prop) : Prop where
  f : ∀ l i j w w' v, Below w.heap.size w w' → F l j w v → F (setL l i) j w' v
  j : ∀ l i w w', Below w.heap.size w w' → J l w → J (setL l i) w'
variable {D : Nat → Option Nat} {F : (Nat → Bool) → Nat → World → Value → Prop} {J : (Nat → Bool) → World → Prop} {n : Nat} {a0 : Act} {l : Nat → Bool} {a : Act} {w : World} {i : Nat}
theorem St.get (h : St ops D F J n a0 l a w) {i d : Nat} (hi : i < n) (hl : l i = true) (hd : D i = some d) : F l i w (a.eval (.tmp d)) := by
  have := h.vals i hi hl
  rwa [hd] at this
/-- An operation that tells a value and turns nothing old. -/
theorem did {d : Nat} {v : Value} {w' : World} (hm : Mild F J) (h : St ops D F J n a0 l a w) (hd : D i = some d) (hb : Below w.heap.size w w') (hf : F (setL l i) i w' v) : Did D F J n l i a (a.put (some d) v) w' := by
  refine ⟨v, by rw [hd], hm.j _ _ _ _ hb h.j, fun j hj hl => hm.f _ _ _ _ _ _ hb (h.vals j hj hl), ?_⟩
  rw [hd]
  exact hf
/-- What stays, stays, but for one operation. -/
structure MildX (F : (Nat → Bool) → Nat → World → Value → Prop) (J : (Nat → Bool) → World → Prop) (m : Nat) : Prop where
  f : ∀ l i j w w' v, Below w.heap.size w w' → F l j w v → F (setL l i) j w' v
  j : ∀ l i w w', i ≠ m → Below w.heap.size w w' → J l w → J (setL l i) w'
theorem did' {d m : Nat} {v : Value} {w' : World} (hne : i ≠ m) (hm : MildX F J m) (h : St ops D F J n a0 l a w) (hd : D i = some d) (hb : Below w.heap.size w w') (hf : F (setL l i) i w' v) : Did D F J n l i a (a.put (some d) v) w' := by
  refine ⟨v, by rw [hd], hm.j _ _ _ _ hne hb h.j, fun j hj hl => hm.f _ _ _ _ _ _ hb (h.vals j hj hl), ?_⟩
  rw [hd]
  exact hf
theorem setL_ne {l : Nat → Bool} {i j : Nat} (h : j ≠ i) : setL l i j = l j := by unfold setL; rw [if_neg h]
theorem st_next {listed : Array Bool} {a' : Act} {w' : World} (hs : listed.size = ops.size) (hn : n = ops.size) (hD : ∀ i j d, i < n → j < n → D i = some d → D j = some d → i = j) (hz : ∀ i d, i < n → D i = some d → d < a0.tmps.size) (hi : i < n)
    (h : St ops D F J n a0 (fun j => listed.getD j false) a w) (hw : ∀ j, waitsFor ops i j = true → listed.getD j false = true) (hd : Did D F J n (fun j => listed.getD j false) i a a' w') : St ops D F J n a0 (fun j => (listed.setIfInBounds i true).getD j false) a' w' := by
  have el : (fun j => (listed.setIfInBounds i true).getD j false) = setL (fun j => listed.getD j false) i := by
    funext j
    exact getD_listed (by omega) j
  obtain ⟨v, rfl, h1, h2, h3⟩ := hd
  have ord' : ∀ i', i' < n → setL (fun j => listed.getD j false) i i' = true → ∀ j, waitsFor ops i' j = true → setL (fun j => listed.getD j false) i j = true := fun i' hi' hl j hj => by
    unfold setL at hl ⊢
    by_cases ej : j = i
    · rw [if_pos ej]
    · rw [if_neg ej]
      by_cases e : i' = i
      · subst e
        exact hw j hj
      · rw [if_neg e] at hl
        exact h.ord i' hi' hl j hj
  rw [el]
  cases hdi : D i with
  | none =>
    rw [hdi] at h3
    refine ⟨h.size, h.defs, h.kept, h1, ord', fun j hj hl => ?_⟩
    by_cases e : j = i
    · subst e
      rw [hdi]
      exact h3
    · have : listed.getD j false = true := by
        have := hl
        unfold setL at this
        rwa [if_neg e] at this
      exact h2 j hj this
  | some d =>
    rw [hdi] at h3
    have hdz : d < a.tmps.size := by rw [h.size]; exact hz i d hi hdi
    refine ⟨?_, h.defs, fun t ht => ?_, h1, ord', fun j hj hl => ?_⟩
    · show (a.tmps.setIfInBounds d v).size = _
      rw [Array.size_setIfInBounds]
      exact h.size
    · rw [eval_put_ne _ _ _ _ (fun e => ht i hi (by rw [e, hdi]))]
      exact h.kept t ht
    · by_cases e : j = i
      · subst e
        rw [hdi]
        show F _ _ _ ((a.put (some d) v).eval (.tmp d))
        rw [eval_put_same _ _ _ hdz]
        exact h3
      · have hlj : listed.getD j false = true := by
          have := hl
          unfold setL at this
          rwa [if_neg e] at this
        have := h2 j hj hlj
        cases hdj : D j with
        | none => rw [hdj] at this; exact this
        | some d' =>
          rw [hdj] at this
          show F _ _ _ ((a.put (some d) v).eval (.tmp d'))
          rw [eval_put_ne _ _ _ _ (fun e' => e (by subst e'; exact hD j i _ hj hi hdj hdi))]
          exact this
/-- No two operations fill one slot. -/
def sepB (D : Nat → Option Nat) (n : Nat) : Bool := (List.range n).all fun i => (List.range n).all fun j => decide (i = j) || (D i).isNone || !(D i == D j)
theorem sep_of {D : Nat → Option Nat} {n : Nat} (h : sepB D n = true) : ∀ i j d, i < n → j < n → D i = some d → D j = some d → i = j := by
  intro i j d hi hj h1 h2
  have := List.all_eq_true.1 (List.all_eq_true.1 h i (List.mem_range.2 hi)) j (List.mem_range.2 hj)
  rw [h1, h2] at this
  simpa using this
def inB (D : Nat → Option Nat) (n m : Nat) : Bool := (List.range n).all fun i => match D i with | some d => decide (d < m) | none => true
theorem in_of {D : Nat → Option Nat} {n m : Nat} (h : inB D n m = true) : ∀ i d, i < n → D i = some d → d < m := by
  intro i d hi h1
  have := List.all_eq_true.1 h i (List.mem_range.2 hi)
  rw [h1] at this
  exact of_decide_eq_true this
/-- THE LAW. -/
theorem wp_region_st {id : Nat} {a0 : Act} {w0 : World} (D : Nat → Option Nat) (F : (Nat → Bool) → Nat → World → Value → Prop) (J : (Nat → Bool) → World → Prop) (n : Nat) (hm : P.follows .mixedOrders = true) (he : earlier ops = true) (hn : n = ops.size)
    (hD : sepB D n = true) (hz : inB D n a0.tmps.size = true)
    (start : J (fun _ => false) w0.drew)
    (step : ∀ (l : Nat → Bool) (a : Act) (w : World) (i : Nat), i < n → St ops D F J n a0 l a w → l i = false → (∀ j, waitsFor ops i j = true → l j = true) → wpOp P ops Q i (Did D F J n l i a) a w)
    (done : ∀ (l : Nat → Bool) (a : Act) (w : World), (∀ j, j < n → l j = true) → St ops D F J n a0 l a w → Q .normal a w) : (Code.region id ops true).wp P Q a0 w0 := by
  refine wp_region_inv (fun listed a w => St ops D F J n a0 (fun j => listed.getD j false) a w) hm he ?_ ?_ ?_
  · have el : (fun j => (Array.replicate ops.size false).getD j false) = fun _ => false := by
      funext j
      by_cases h : j < ops.size
      · simp [h]
      · simp [h]
    rw [el]
    exact ⟨rfl, rfl, fun _ _ => rfl, start, fun i _ h => (by cases h), fun i _ h => by cases h⟩
  · intro listed a w i hs hst hr
    have hi := ready_lt hr
    exact wpOp_mono (fun a' w' h => st_next hs hn (sep_of hD) (in_of hz) (by rw [hn]; exact hi) hst (fun j hw => waits_done hr hw) h) (step _ a w i (by rw [hn]; exact hi) hst (ready_not hs hr) (fun j hw => waits_done hr hw))
  · intro listed a w hst hall
    exact done _ a w (fun j hj => hall j (by rw [← hn]; exact hj)) hst
/-- The frame at the end: slots filled. -/
theorem frame_end (l : List (Nat × Value)) : ∀ (a b : Act), a.tmps.size = b.tmps.size → a.defers = b.defers → (∀ p, p ∈ l → a.eval (.tmp p.1) = p.2) → (∀ t, t ∉ l.map Prod.fst → a.eval (.tmp t) = b.eval (.tmp t)) → a = l.foldl (fun c p => c.put (some p.1) p.2) b := by
  induction l with
  | nil =>
    intro a b hs hd _ hk
    obtain ⟨t, df⟩ := a
    obtain ⟨t', df'⟩ := b
    simp only at hs hd
    subst hd
    have : t = t' := by
      apply Array.ext hs
      intro j h1 h2
      have := hk j (by simp)
      simpa [Act.eval, h1, h2] using this
    rw [this]
    rfl
  | cons p l ih =>
    intro a b hs hd hv hk
    refine ih a (b.put (some p.1) p.2) ?_ hd (fun q hq => hv q (List.mem_cons_of_mem _ hq)) (fun t ht => ?_)
    · show _ = (b.tmps.setIfInBounds p.1 p.2).size
      rw [Array.size_setIfInBounds]
      exact hs
    · by_cases e : t = p.1
      · subst e
        rw [hv p (by simp)]
        by_cases hlt : p.1 < b.tmps.size
        · rw [eval_put_same _ _ _ hlt]
        · have h1 := hv p (by simp)
          have h2 : a.eval (.tmp p.1) = undef := by simp [Act.eval, show a.tmps[p.1]? = none from Array.getElem?_eq_none (by omega)]
          have h3 : (b.put (some p.1) p.2).eval (.tmp p.1) = undef := by simp [Act.eval, Act.put, show b.tmps.size ≤ p.1 from by omega]
          rw [h3, ← h2, h1]
      · rw [eval_put_ne _ _ _ _ e]
        exact hk t (by
          rw [List.map_cons, List.mem_cons]
          rintro (h | h)
          · exact e h
          · exact ht h)
end
section
variable {ops : Array Oper} {Q : Exit → Act → World → Prop} {K : Act → World → Prop} {a : Act} {w : World} {i d : Nat} {ty : TypeId} {pos : String} {after : Array Edge} {g : Option (Nat × Bool)}
theorem wantedB_of {o : Oper} {j : Nat} {b : Bool} (hg : o.guard = some (j, b)) (hy : yielded ops a.tmps j = some b) : Region.wanted o (yielded ops a.tmps) = true := by
  unfold Region.wanted
  rw [hg]
  simp [hy]
theorem yieldsB_of {j e : Nat} {b : Bool} {o : Oper} (ho : ops[j]? = some o) (hd : o.dst = some e) (h : a.eval (.tmp e) = .bool b) : yielded ops a.tmps j = some b := by
  have h' : a.tmps[e]?.getD undef = .bool b := by
    rw [← Array.getD_eq_getD_getElem?]
    exact h
  unfold yielded
  rw [ho]
  simp only [Option.bind_some, hd]
  cases hq : a.tmps[e]? with
  | none => rw [hq] at h'; cases h'
  | some v => rw [hq] at h'; simp only [Option.getD_some] at h'; rw [h']
theorem wpOp_goW {o : Oper} (hi : ops[i]? = some o) (hw : Region.wanted o (yielded ops a.tmps) = true) (h : o.wp Tryz.prog a w K Q) : wpOp Tryz.prog ops Q i K a w := by
  unfold wpOp
  rw [hi]
  simp only [hw, if_true]
  exact Or.inl h
theorem wpOp_callW {f : FuncId} {xs : Array Operand} {vs : Array Value} {ts : Array TypeId} (hi : ops[i]? = some { dst := some d, op := .call { callee := .value (.func f), args := xs, argTypes := ts }, type := ty, pos := pos, after := after, guard := g })
    (hg : Region.wanted { dst := some d, op := .call { callee := .value (.func f), args := xs, argTypes := ts }, type := ty, pos := pos, after := after, guard := g } (yielded ops a.tmps) = true)
    (he : Enters Tryz.prog f) (hv : xs.map a.eval = vs) (hc : Calls Tryz.prog f vs w fun e w' => ∃ v, e = .returned v ∧ K (a.put (some d) v) w') : wpOp Tryz.prog ops Q i K a w := by
  refine wpOp_goW hi hg ?_
  unfold Oper.wp
  have e3 : a.eval (.func f) = .func (.func f) #[] #[] := rfl
  have KC := Lib.hid hc
  clear hc hi hg
  generalize a.eval = ρ at *
  go_simp
  rw [he]
  refine KC.out.mono ?_
  rintro e w' ⟨v, rfl, h⟩
  exact h
end
end Go.Proofs.YtnnhgbncghpecaaGreat
