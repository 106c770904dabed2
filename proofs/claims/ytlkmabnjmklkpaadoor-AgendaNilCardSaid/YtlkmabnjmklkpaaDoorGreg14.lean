/- A region that draws its order, by what is known of each of its operations that is done. -/
import Derived.Test.YtlkmabnjmklkpaaDoorBase14
import Derived.Orders
import Derived.Shelf.Abstract
namespace Go.Proofs.YtlkmabnjmklkpaaDoor
open Go.RowKit

section
variable {P : Program} {ops : Array Oper} {Q : Exit → Act → World → Prop} {md : Region.Mode}

/-- How many operations are still to come. -/
def toCome (ops : Array Oper) (listed : Array Bool) : Nat := ((List.range ops.size).filter fun j => !listed.getD j true).length
theorem toCome_set {listed : Array Bool} {i : Nat} (hi : i < ops.size) (h : listed.getD i true = false) : toCome ops (listed.setIfInBounds i true) < toCome ops listed := by
  have gen : ∀ l : List Nat, (∀ j, j ∈ l → j ≠ i) → (l.filter fun j => !(listed.setIfInBounds i true).getD j true) = l.filter fun j => !listed.getD j true := by
    intro l hl
    apply List.filter_congr
    intro j hj
    rw [getD_set_ne true (hl j hj).symm]
  have own : (listed.setIfInBounds i true).getD i true = true := by
    by_cases hs : i < listed.size
    · simp [hs]
    · simp [hs]
  have le : ∀ l : List Nat, (l.filter fun j => !(listed.setIfInBounds i true).getD j true).length ≤ (l.filter fun j => !listed.getD j true).length := by
    intro l
    induction l with
    | nil => exact Nat.le_refl _
    | cons j l ih =>
      by_cases hj : i = j
      · subst hj
        rw [List.filter_cons_of_neg (by rw [own]; simp), List.filter_cons_of_pos (by rw [h]; rfl), List.length_cons]
        omega
      · rw [List.filter_cons, List.filter_cons, getD_set_ne true hj]
        split
        · simp only [List.length_cons]
          omega
        · omega
  have lt : ∀ l : List Nat, i ∈ l → (l.filter fun j => !(listed.setIfInBounds i true).getD j true).length < (l.filter fun j => !listed.getD j true).length := by
    intro l
    induction l with
    | nil => intro hm; cases hm
    | cons j l ih =>
      intro hm
      by_cases hj : i = j
      · subst hj
        rw [List.filter_cons_of_neg (by rw [own]; simp), List.filter_cons_of_pos (by rw [h]; rfl), List.length_cons]
        have := le l
        omega
      · have := ih ((List.mem_cons.1 hm).resolve_left hj)
        rw [List.filter_cons, List.filter_cons, getD_set_ne true hj]
        split
        · simp only [List.length_cons]
          omega
        · omega
  exact lt _ (List.mem_range.2 hi)

theorem wpAny_inv (I : Array Bool → Act → World → Prop)
    (step : ∀ (listed : Array Bool) (a : Act) (w : World) (i : Nat), I listed a w → i ∈ Region.ready md ops listed → wpOp P ops Q i (I (listed.setIfInBounds i true)) a w)
    (done : ∀ (listed : Array Bool) (a : Act) (w : World), I listed a w → Region.ready md ops listed = [] → Q .normal a w) :
    ∀ (fuel : Nat) (listed : Array Bool) (a : Act) (w : World), toCome ops listed ≤ fuel → I listed a w → wpAny P md ops Q fuel listed a w := by
  intro fuel
  induction fuel with
  | zero =>
    intro listed a w hf hI
    have hr : Region.ready md ops listed = [] := by
      apply List.eq_nil_iff_forall_not_mem.2
      intro j hj
      obtain ⟨h0, o, ho, -⟩ := mem_ready.1 hj
      have hl := toCome_set (ops := ops) (Array.getElem?_eq_some_iff.1 ho).1 h0
      omega
    exact ⟨hr, done _ _ _ hI hr⟩
  | succ fuel ih =>
    intro listed a w hf hI
    refine ⟨fun hr => done _ _ _ hI hr, fun i hi => ?_⟩
    obtain ⟨h0, o, ho, -⟩ := mem_ready.1 hi
    have hl := toCome_set (ops := ops) (Array.getElem?_eq_some_iff.1 ho).1 h0
    exact wpOp_mono (fun a' w' h => ih _ a' w' (by omega) h) (step _ _ _ _ hI hi)

/-- Where every operation waits for earlier ones alone, nothing is ready only when all are done. -/
def earlier (ops : Array Oper) : Bool := (List.range ops.size).all fun j => match ops[j]? with | some o => o.after.toList.all fun e => !Region.binds .any e || decide (e.on < j) | none => true
theorem all_done (he : earlier ops = true) {listed : Array Bool} (hs : listed.size = ops.size) (hr : Region.ready .any ops listed = []) : ∀ j, j < ops.size → listed.getD j false = true := by
  intro j
  induction j using Nat.strongRecOn with
  | ind j ih =>
    intro hj
    apply Classical.byContradiction
    intro hn
    have hgd : listed.getD j true = false := by
      have hjs : j < listed.size := by omega
      simp only [Array.getD_eq_getD_getElem?, Array.getElem?_eq_getElem hjs, Option.getD_some] at hn ⊢
      simpa using hn
    have hmem : j ∈ Region.ready .any ops listed := by
      refine mem_ready.2 ⟨hgd, ops[j], Array.getElem?_eq_getElem hj, fun e hm hbd => ?_⟩
      have h1 := List.all_eq_true.1 he j (List.mem_range.2 hj)
      rw [Array.getElem?_eq_getElem hj] at h1
      have h2' := List.all_eq_true.1 h1 e (by simpa using hm)
      rw [hbd] at h2'
      have h2 : e.on < j := by simpa using h2'
      exact ih e.on h2 (by omega)
    rw [hr] at hmem
    cases hmem

/-- A region that draws its order: I holds at its start, and every operation that may come up keeps it. -/
theorem wp_region_inv {id : Nat} {a : Act} {w : World} (I : Array Bool → Act → World → Prop) (hm : P.follows .mixedOrders = true) (he : earlier ops = true)
    (start : I (Array.replicate ops.size false) a w.drew)
    (step : ∀ (listed : Array Bool) (a : Act) (w : World) (i : Nat), listed.size = ops.size → I listed a w → i ∈ Region.ready .any ops listed → wpOp P ops Q i (I (listed.setIfInBounds i true)) a w)
    (done : ∀ (listed : Array Bool) (a : Act) (w : World), I listed a w → (∀ j, j < ops.size → listed.getD j false = true) → Q .normal a w) : (Code.region id ops true).wp P Q a w := by
  refine wp_region_any hm ?_
  refine wpAny_inv (fun l a w => l.size = ops.size ∧ I l a w) (fun l a w i h hi => ?_) (fun l a w h hr => done l a w h.2 (all_done he h.1 hr)) _ _ _ _ ?_ ⟨by simp, start⟩
  · exact wpOp_mono (fun a' w' h' => ⟨by rw [Array.size_setIfInBounds]; exact h.1, h'⟩) (step l a w i h.1 h.2 hi)
  · unfold toCome
    refine Nat.le_trans (List.length_filter_le _ _) ?_
    rw [List.length_range]
    exact Nat.le_refl _
end
section
variable {ops : Array Oper} {Q : Exit → Act → World → Prop} {i : Nat} {listed : Array Bool}
/-- Whether an operation waits for another. -/
def waitsFor (ops : Array Oper) (i j : Nat) : Bool := ((ops[i]?).map fun o => o.after.any fun e => Region.binds .any e && e.on == j).getD false
theorem waits_done {j : Nat} (hr : i ∈ Region.ready .any ops listed) (h : waitsFor ops i j = true) : listed.getD j false = true := by
  obtain ⟨-, o, ho, hall⟩ := mem_ready.1 hr
  unfold waitsFor at h
  rw [ho] at h
  obtain ⟨k, hk, h1⟩ := Array.any_eq_true.1 (show (o.after.any fun e => Region.binds .any e && e.on == j) = true from h)
  rw [Bool.and_eq_true, beq_iff_eq] at h1
  rw [← h1.2]
  exact hall _ (Array.getElem_mem hk) h1.1
theorem ready_lt (hr : i ∈ Region.ready .any ops listed) : i < ops.size := by
  obtain ⟨-, o, ho, -⟩ := mem_ready.1 hr
  exact (Array.getElem?_eq_some_iff.1 ho).1
theorem ready_not (hs : listed.size = ops.size) (hr : i ∈ Region.ready .any ops listed) : listed.getD i false = false := by
  have h := (mem_ready.1 hr).1
  have hi : i < listed.size := by rw [hs]; exact ready_lt hr
  simp [hi] at h ⊢
  exact h
/-- What is listed behind an operation. -/
theorem getD_listed (hs : i < listed.size) (j : Nat) : (listed.setIfInBounds i true).getD j false = if j = i then true else listed.getD j false := by
  by_cases h : j = i
  · subst h
    rw [if_pos rfl]
    simp [hs]
  · rw [if_neg h, getD_set_ne false (fun e => h e.symm)]
end


def setL (l : Nat → Bool) (i : Nat) : Nat → Bool := fun j => if j = i then true else l j
def slotV (a : Act) : Option Nat → Value
  | some d => a.eval (.tmp d)
  | none => undef
theorem eval_put_ne (a : Act) (d t : Nat) (v : Value) (h : t ≠ d) : (a.put (some d) v).eval (.tmp t) = a.eval (.tmp t) := by
  simp [Act.put, Act.eval, Array.getElem?_setIfInBounds_ne (Ne.symm h)]
theorem eval_put_same (a : Act) (d : Nat) (v : Value) (h : d < a.tmps.size) : (a.put (some d) v).eval (.tmp d) = v := by
  simp [Act.put, Act.eval, h]
section
variable {P : Program} {ops : Array Oper} {Q : Exit → Act → World → Prop}
/-- On the way: F tells of each operation that is done what its slot holds, J of the world. -/
structure St (ops : Array Oper) (D : Nat → Option Nat) (F : (Nat → Bool) → Nat → World → Value → Prop) (J : (Nat → Bool) → World → Prop) (n : Nat) (a0 : Act) (l : Nat → Bool) (a : Act) (w : World) : Prop where
  size : a.tmps.size = a0.tmps.size
  defs : a.defers = a0.defers
  kept : ∀ t, (∀ i, i < n → D i ≠ some t) → a.eval (.tmp t) = a0.eval (.tmp t)
  j : J l w
  ord : ∀ i, i < n → l i = true → ∀ j, waitsFor ops i j = true → l j = true
  vals : ∀ i, i < n → l i = true → F l i w (slotV a (D i))
/-- An operation has done its part. -/
def Did (D : Nat → Option Nat) (F : (Nat → Bool) → Nat → World → Value → Prop) (J : (Nat → Bool) → World → Prop) (n : Nat) (l : Nat → Bool) (i : Nat) (a : Act) (a' : Act) (w' : World) : Prop :=
  ∃ v, a' = a.put (D i) v ∧ J (setL l i) w' ∧ (∀ j, j < n → l j = true → F (setL l i) j w' (slotV a (D j))) ∧ F (setL l i) i w' (match D i with | some _ => v | none => undef)
/-- What stays, stays. -/
structure Mild (F : (Nat → Bool) → Nat → World → Value → Prop) (J : (Nat → Bool) → World → Prop) : Prop where
  f : ∀ l i j w w' v, Below w.heap.size w w' → F l j w v → F (setL l i) j w' v
  j : ∀ l i w w', Below w.heap.size w w' → J l w → J (setL l i) w'
variable {D : Nat → Option Nat} {F : (Nat → Bool) → Nat → World → Value → Prop} {J : (Nat → Bool) → World → Prop} {n : Nat} {a0 : Act} {l : Nat → Bool} {a : Act} {w : World} {i : Nat}
theorem St.get (h : St ops D F J n a0 l a w) {i d : Nat} (hi : i < n) (hl : l i = true) (hd : D i = some d) : F l i w (a.eval (.tmp d)) := by
  have := h.vals i hi hl
  rwa [hd] at this
/-- An operation that tells a value and turns nothing old. -/
theorem did {d : Nat} {v : Value} {w' : World} (hm : Mild F J) (h : St ops D F J n a0 l a w) (hd : D i = some d) (hb : Below w.heap.size w w') (hf : F (setL l i) i w' v) : Did D F J n l i a (a.put (some d) v) w' := by
  refine ⟨v, by rw [hd], hm.j _ _ _ _ hb h.j, fun j hj hl => hm.f _ _ _ _ _ _ hb (h.vals j hj hl), ?_⟩
  rw [hd]
  exact hf
/-- What stays, stays, but for one operation. -/
structure MildX (F : (Nat → Bool) → Nat → World → Value → Prop) (J : (Nat → Bool) → World → Prop) (m : Nat) : Prop where
  f : ∀ l i j w w' v, Below w.heap.size w w' → F l j w v → F (setL l i) j w' v
  j : ∀ l i w w', i ≠ m → Below w.heap.size w w' → J l w → J (setL l i) w'
theorem did' {d m : Nat} {v : Value} {w' : World} (hne : i ≠ m) (hm : MildX F J m) (h : St ops D F J n a0 l a w) (hd : D i = some d) (hb : Below w.heap.size w w') (hf : F (setL l i) i w' v) : Did D F J n l i a (a.put (some d) v) w' := by
  refine ⟨v, by rw [hd], hm.j _ _ _ _ hne hb h.j, fun j hj hl => hm.f _ _ _ _ _ _ hb (h.vals j hj hl), ?_⟩
  rw [hd]
  exact hf
theorem setL_ne {l : Nat → Bool} {i j : Nat} (h : j ≠ i) : setL l i j = l j := by unfold setL; rw [if_neg h]
theorem st_next {listed : Array Bool} {a' : Act} {w' : World} (hs : listed.size = ops.size) (hn : n = ops.size) (hD : ∀ i j d, i < n → j < n → D i = some d → D j = some d → i = j) (hz : ∀ i d, i < n → D i = some d → d < a0.tmps.size) (hi : i < n)
    (h : St ops D F J n a0 (fun j => listed.getD j false) a w) (hw : ∀ j, waitsFor ops i j = true → listed.getD j false = true) (hd : Did D F J n (fun j => listed.getD j false) i a a' w') : St ops D F J n a0 (fun j => (listed.setIfInBounds i true).getD j false) a' w' := by
  have el : (fun j => (listed.setIfInBounds i true).getD j false) = setL (fun j => listed.getD j false) i := by
    funext j
    exact getD_listed (by omega) j
  obtain ⟨v, rfl, h1, h2, h3⟩ := hd
  have ord' : ∀ i', i' < n → setL (fun j => listed.getD j false) i i' = true → ∀ j, waitsFor ops i' j = true → setL (fun j => listed.getD j false) i j = true := fun i' hi' hl j hj => by
    unfold setL at hl ⊢
    by_cases ej : j = i
    · rw [if_pos ej]
    · rw [if_neg ej]
      by_cases e : i' = i
      · subst e
        exact hw j hj
      · rw [if_neg e] at hl
        exact h.ord i' hi' hl j hj
  rw [el]
  cases hdi : D i with
  | none =>
    rw [hdi] at h3
    refine ⟨h.size, h.defs, h.kept, h1, ord', fun j hj hl => ?_⟩
    by_cases e : j = i
    · subst e
      rw [hdi]
      exact h3
    · have : listed.getD j false = true := by
        have := hl
        unfold setL at this
        rwa [if_neg e] at this
      exact h2 j hj this
  | some d =>
    rw [hdi] at h3
    have hdz : d < a.tmps.size := by rw [h.size]; exact hz i d hi hdi
    refine ⟨?_, h.defs, fun t ht => ?_, h1, ord', fun j hj hl => ?_⟩
    · show (a.tmps.setIfInBounds d v).size = _
      rw [Array.size_setIfInBounds]
      exact h.size
    · rw [eval_put_ne _ _ _ _ (fun e => ht i hi (by rw [e, hdi]))]
      exact h.kept t ht
    · by_cases e : j = i
      · subst e
        rw [hdi]
        show F _ _ _ ((a.put (some d) v).eval (.tmp d))
        rw [eval_put_same _ _ _ hdz]
        exact h3
      · have hlj : listed.getD j false = true := by
          have := hl
          unfold setL at this
          rwa [if_neg e] at this
        have := h2 j hj hlj
        cases hdj : D j with
        | none => rw [hdj] at this; exact this
        | some d' =>
          rw [hdj] at this
          show F _ _ _ ((a.put (some d) v).eval (.tmp d'))
          rw [eval_put_ne _ _ _ _ (fun e' => e (by subst e'; exact hD j i _ hj hi hdj hdi))]
          exact this
/-- No two operations fill one slot. -/
def sepB (D : Nat → Option Nat) (n : Nat) : Bool := (List.range n).all fun i => (List.range n).all fun j => decide (i = j) || (D i).isNone || !(D i == D j)
theorem sep_of {D : Nat → Option Nat} {n : Nat} (h : sepB D n = true) : ∀ i j d, i < n → j < n → D i = some d → D j = some d → i = j := by
  intro i j d hi hj h1 h2
  have := List.all_eq_true.1 (List.all_eq_true.1 h i (List.mem_range.2 hi)) j (List.mem_range.2 hj)
  rw [h1, h2] at this
  simpa using this
def inB (D : Nat → Option Nat) (n m : Nat) : Bool := (List.range n).all fun i => match D i with | some d => decide (d < m) | none => true
theorem in_of {D : Nat → Option Nat} {n m : Nat} (h : inB D n m = true) : ∀ i d, i < n → D i = some d → d < m := by
  intro i d hi h1
  have := List.all_eq_true.1 h i (List.mem_range.2 hi)
  rw [h1] at this
  exact of_decide_eq_true this
/-- THE LAW. -/
theorem wp_region_st {id : Nat} {a0 : Act} {w0 : World} (D : Nat → Option Nat) (F : (Nat → Bool) → Nat → World → Value → Prop) (J : (Nat → Bool) → World → Prop) (n : Nat) (hm : P.follows .mixedOrders = true) (he : earlier ops = true) (hn : n = ops.size)
    (hD : sepB D n = true) (hz : inB D n a0.tmps.size = true)
    (start : J (fun _ => false) w0.drew)
    (step : ∀ (l : Nat → Bool) (a : Act) (w : World) (i : Nat), i < n → St ops D F J n a0 l a w → l i = false → (∀ j, waitsFor ops i j = true → l j = true) → wpOp P ops Q i (Did D F J n l i a) a w)
    (done : ∀ (l : Nat → Bool) (a : Act) (w : World), (∀ j, j < n → l j = true) → St ops D F J n a0 l a w → Q .normal a w) : (Code.region id ops true).wp P Q a0 w0 := by
  refine wp_region_inv (fun listed a w => St ops D F J n a0 (fun j => listed.getD j false) a w) hm he ?_ ?_ ?_
  · have el : (fun j => (Array.replicate ops.size false).getD j false) = fun _ => false := by
      funext j
      by_cases h : j < ops.size
      · simp [h]
      · simp [h]
    rw [el]
    exact ⟨rfl, rfl, fun _ _ => rfl, start, fun i _ h => (by cases h), fun i _ h => by cases h⟩
  · intro listed a w i hs hst hr
    have hi := ready_lt hr
    exact wpOp_mono (fun a' w' h => st_next hs hn (sep_of hD) (in_of hz) (by rw [hn]; exact hi) hst (fun j hw => waits_done hr hw) h) (step _ a w i (by rw [hn]; exact hi) hst (ready_not hs hr) (fun j hw => waits_done hr hw))
  · intro listed a w hst hall
    exact done _ a w (fun j hj => hall j (by rw [← hn]; exact hj)) hst
/-- The frame at the end: slots filled. -/
theorem frame_end (l : List (Nat × Value)) : ∀ (a b : Act), a.tmps.size = b.tmps.size → a.defers = b.defers → (∀ p, p ∈ l → a.eval (.tmp p.1) = p.2) → (∀ t, t ∉ l.map Prod.fst → a.eval (.tmp t) = b.eval (.tmp t)) → a = l.foldl (fun c p => c.put (some p.1) p.2) b := by
  induction l with
  | nil =>
    intro a b hs hd _ hk
    obtain ⟨t, df⟩ := a
    obtain ⟨t', df'⟩ := b
    simp only at hs hd
    subst hd
    have : t = t' := by
      apply Array.ext hs
      intro j h1 h2
      have := hk j (by simp)
      simpa [Act.eval, h1, h2] using this
    rw [this]
    rfl
  | cons p l ih =>
    intro a b hs hd hv hk
    refine ih a (b.put (some p.1) p.2) ?_ hd (fun q hq => hv q (List.mem_cons_of_mem _ hq)) (fun t ht => ?_)
    · show _ = (b.tmps.setIfInBounds p.1 p.2).size
      rw [Array.size_setIfInBounds]
      exact hs
    · by_cases e : t = p.1
      · subst e
        rw [hv p (by simp)]
        by_cases hlt : p.1 < b.tmps.size
        · rw [eval_put_same _ _ _ hlt]
        · have h1 := hv p (by simp)
          have h2 : a.eval (.tmp p.1) = undef := by simp [Act.eval, show a.tmps[p.1]? = none from Array.getElem?_eq_none (by omega)]
          have h3 : (b.put (some p.1) p.2).eval (.tmp p.1) = undef := by simp [Act.eval, Act.put, show b.tmps.size ≤ p.1 from by omega]
          rw [h3, ← h2, h1]
      · rw [eval_put_ne _ _ _ _ e]
        exact hk t (by
          rw [List.map_cons, List.mem_cons]
          rintro (h | h)
          · exact e h
          · exact ht h)
end
section
variable {ops : Array Oper} {Q : Exit → Act → World → Prop} {K : Act → World → Prop} {a : Act} {w : World} {i d : Nat} {ty : TypeId} {pos : String} {after : Array Edge}
theorem wpOp_go {o : Oper} (hi : ops[i]? = some o) (hg : o.guard = none) (h : o.wp Tryd.prog a w K Q) : wpOp Tryd.prog ops Q i K a w := by
  unfold wpOp
  rw [hi]
  have hw : Region.wanted o (yielded ops a.tmps) = true := by simp [Region.wanted, hg]
  simp only [hw, if_true]
  exact Or.inl h
theorem wpOp_move {x : Operand} (hi : ops[i]? = some { dst := some d, op := .move x, type := ty, pos := pos, after := after, guard := none }) (hK : K (a.put (some d) (a.eval x)) w) : wpOp Tryd.prog ops Q i K a w := by
  refine wpOp_go hi rfl ?_
  unfold Oper.wp
  have KK := Lib.hid hK
  clear hK hi
  generalize a.eval = ρ at *
  go_simp
  exact KK.out
theorem wpOp_assign {x : Operand} (hi : ops[i]? = some { dst := some d, op := .assign x, type := ty, pos := pos, after := after, guard := none }) (hK : K (a.put (some d) (a.eval x)) w) : wpOp Tryd.prog ops Q i K a w := by
  refine wpOp_go hi rfl ?_
  unfold Oper.wp
  have KK := Lib.hid hK
  clear hK hi
  generalize a.eval = ρ at *
  go_simp
  exact KK.out
theorem wpOp_extract {x : Operand} {k : Nat} {vs : Array Value} {v : Value} (hi : ops[i]? = some { dst := some d, op := .extract x k, type := ty, pos := pos, after := after, guard := none }) (hx : a.eval x = .tuple vs) (hv : vs[k]? = some v) (hK : K (a.put (some d) v) w) : wpOp Tryd.prog ops Q i K a w := by
  refine wpOp_go hi rfl ?_
  unfold Oper.wp
  have KK := Lib.hid hK
  clear hK hi
  generalize a.eval = ρ at *
  go_simp
  exact KK.out
theorem wpOp_nilCheck {x : Operand} {p : Addr} (hi : ops[i]? = some { dst := some d, op := .nilCheck x, type := ty, pos := pos, after := after, guard := none }) (hx : a.eval x = .pointer (some p)) (hK : K (a.put (some d) (.pointer (some p))) w) : wpOp Tryd.prog ops Q i K a w := by
  refine wpOp_go hi rfl ?_
  unfold Oper.wp
  have KK := Lib.hid hK
  clear hK hi
  generalize a.eval = ρ at *
  go_simp
  exact KK.out
theorem wpOp_call {f : FuncId} {xs : Array Operand} {vs : Array Value} {ts : Array TypeId} (hi : ops[i]? = some { dst := some d, op := .call { callee := .value (.func f), args := xs, argTypes := ts }, type := ty, pos := pos, after := after, guard := none })
    (he : Enters Tryd.prog f) (hv : xs.map a.eval = vs) (hc : Calls Tryd.prog f vs w fun e w' => ∃ v, e = .returned v ∧ K (a.put (some d) v) w') : wpOp Tryd.prog ops Q i K a w := by
  refine wpOp_go hi rfl ?_
  unfold Oper.wp
  have e3 : a.eval (.func f) = .func (.func f) #[] #[] := rfl
  have KC := Lib.hid hc
  clear hc hi
  generalize a.eval = ρ at *
  go_simp
  rw [he]
  refine KC.out.mono ?_
  rintro e w' ⟨v, rfl, h⟩
  exact h
/-- A load of many cells. -/
theorem wpOp_load {x : Operand} {T : TypeId} {b o : Nat} {cs : List Value} {dd : TypeDesc} (hi : ops[i]? = some { dst := some d, op := .load T x, type := ty, pos := pos, after := after, guard := none })
    (hx : a.eval x = .pointer (some ⟨b, o, none⟩)) (hc : w.rangeAt b o cs) (hu : Tryd.prog.underlying T = some dd) (hd : dd.isRow = true) (hz : (Tryd.prog.info? T).map (·.size) = some cs.length) (hK : K (a.put (some d) (.agg cs.toArray)) w) : wpOp Tryd.prog ops Q i K a w :=
  wpOp_go hi rfl (wp_load_mid T x rfl b o hx cs dd hc hu hd hz hK)
/-- A store of many cells. -/
theorem wpOp_store {x y : Operand} {T : TypeId} {b o : Nat} {cells : Array Value} (hi : ops[i]? = some { dst := none, op := .store T x y, type := ty, pos := pos, after := after, guard := none })
    (hx : a.eval x = .pointer (some ⟨b, o, none⟩)) (hy : a.eval y = .agg cells) (ht : w.there b o cells.size) (hz : (Tryd.prog.info? T).map (·.size) = some cells.size) (h1 : cells.all (·.oneCell') = true) (hK : K a (w.setCells b o cells.toList)) : wpOp Tryd.prog ops Q i K a w :=
  wpOp_go hi rfl (wp_store_mid T x y rfl b o cells hx hy ht hz h1 hK)
theorem wpOp_append {s x : Operand} {t : TypeId} (hi : ops[i]? = some { dst := some d, op := .call { callee := Callee.builtin Builtin.append, args := #[s, x], argTypes := #[t, t] }, type := ty, pos := pos, after := after, guard := none })
    (base : Nat) (e : TypeId) (j : TypeInfo) (z : Value) (size bytes : Nat) (ht : Tryd.prog.underlying t = some (.slice e)) (hj : Tryd.prog.info? e = some j) (hz : j.zero = some z) (hsize : j.size = size) (hby : j.bytes = bytes) (hzs : z.cells.size = size) (hsz : 0 < size)
    (v : Value) (n : Nat) (xs : List Value) (hs : a.eval s = v) (hown : w.ownsRow base e size v n xs) (ao : Option Addr) (m c : Nat) (news : List Value) (hx : a.eval x = .slice ao m c) (hl : news.length = m * size)
    (hnone : ao = none → m = 0 ∧ c = 0) (hnews : ∀ ad, ao = some ad → ∀ j u, news[j]? = some u → w.cell? (ad.add j) = some u) (h1 : ∀ u ∈ news, u.oneCell' = true)
    (h63 : n + m ≤ maxLen) (hbytes : (n + m) * bytes ≤ 140737488355328) (hbase : base ≤ w.heap.size)
    (hK : ∀ v' w', w'.ownsRow base e size v' (n + m) (xs ++ news) → w.grownBy w' v.ownBlock → K (a.put (some d) v') w') : wpOp Tryd.prog ops Q i K a w := by
  refine wpOp_go hi rfl ?_
  have := step_append_any (P := Tryd.prog) (ops := ops) (o := { dst := some d, op := .call { callee := Callee.builtin Builtin.append, args := #[s, x], argTypes := #[t, t] }, type := ty, pos := pos, after := after, guard := none }) (a := a) (w := w) (K := K) (Q := Q) (E := False) rfl s x t rfl base e j z size bytes ht hj hz hsize hby hzs hsz v n xs hs hown ao m c news hx hl hnone hnews h1 h63 hbytes hbase hK
  rwa [if_pos (by simp [Region.wanted])] at this
end
section
variable {ops : Array Oper} {Q : Exit → Act → World → Prop} {K : Act → World → Prop} {a : Act} {w : World} {i d : Nat} {ty : TypeId} {pos : String} {after : Array Edge} {g : Option (Nat × Bool)}
theorem wantedB_of {o : Oper} {j : Nat} {b : Bool} (hg : o.guard = some (j, b)) (hy : yielded ops a.tmps j = some b) : Region.wanted o (yielded ops a.tmps) = true := by
  unfold Region.wanted
  rw [hg]
  simp [hy]
theorem yieldsB_of {j e : Nat} {b : Bool} {o : Oper} (ho : ops[j]? = some o) (hd : o.dst = some e) (h : a.eval (.tmp e) = .bool b) : yielded ops a.tmps j = some b := by
  have h' : a.tmps[e]?.getD undef = .bool b := by
    rw [← Array.getD_eq_getD_getElem?]
    exact h
  unfold yielded
  rw [ho]
  simp only [Option.bind_some, hd]
  cases hq : a.tmps[e]? with
  | none => rw [hq] at h'; cases h'
  | some v => rw [hq] at h'; simp only [Option.getD_some] at h'; rw [h']
theorem wpOp_goW {o : Oper} (hi : ops[i]? = some o) (hw : Region.wanted o (yielded ops a.tmps) = true) (h : o.wp Tryd.prog a w K Q) : wpOp Tryd.prog ops Q i K a w := by
  unfold wpOp
  rw [hi]
  simp only [hw, if_true]
  exact Or.inl h
theorem wpOp_callW {f : FuncId} {xs : Array Operand} {vs : Array Value} {ts : Array TypeId} (hi : ops[i]? = some { dst := some d, op := .call { callee := .value (.func f), args := xs, argTypes := ts }, type := ty, pos := pos, after := after, guard := g })
    (hg : Region.wanted { dst := some d, op := .call { callee := .value (.func f), args := xs, argTypes := ts }, type := ty, pos := pos, after := after, guard := g } (yielded ops a.tmps) = true)
    (he : Enters Tryd.prog f) (hv : xs.map a.eval = vs) (hc : Calls Tryd.prog f vs w fun e w' => ∃ v, e = .returned v ∧ K (a.put (some d) v) w') : wpOp Tryd.prog ops Q i K a w := by
  refine wpOp_goW hi hg ?_
  unfold Oper.wp
  have e3 : a.eval (.func f) = .func (.func f) #[] #[] := rfl
  have KC := Lib.hid hc
  clear hc hi hg
  generalize a.eval = ρ at *
  go_simp
  rw [he]
  refine KC.out.mono ?_
  rintro e w' ⟨v, rfl, h⟩
  exact h
end
end Go.Proofs.YtlkmabnjmklkpaaDoor
