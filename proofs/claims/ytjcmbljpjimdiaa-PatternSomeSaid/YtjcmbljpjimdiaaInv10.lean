/- A region that draws its order, by what holds on every way through it. -/
import Derived.Test.YtjcmbljpjimdiaaFillE10
import Derived.Orders
namespace Go.Proofs.Ytjcmbljpjimdiaa
open Go.RowKit

section
variable {P : Program} {ops : Array Oper} {Q : Exit → Act → World → Prop} {md : Region.Mode}

/-- How many operations are still to come. -/
def toCome (ops : Array Oper) (listed : Array Bool) : Nat := ((List.range ops.size).filter fun j => !listed.getD j true).length
theorem toCome_set {listed : Array Bool} {i : Nat} (hi : i < ops.size) (h : listed.getD i true = false) : toCome ops (listed.setIfInBounds i true) < toCome ops listed := by
  have gen : ∀ l : List Nat, (∀ j, j ∈ l → j ≠ i) → (l.filter fun j => !(listed.setIfInBounds i true).getD j true) = l.filter fun j => !listed.getD j true := by
    intro l hl
    apply List.filter_congr
    intro j hj
    rw [getD_set_ne true (hl j hj).symm]
  have own : (listed.setIfInBounds i true).getD i true = true := by
    by_cases hs : i < listed.size
    · simp [hs]
    · simp [hs]
  have le : ∀ l : List Nat, (l.filter fun j => !(listed.setIfInBounds i true).getD j true).length ≤ (l.filter fun j => !listed.getD j true).length := by
    intro l
    induction l with
    | nil => exact Nat.le_refl _
    | cons j l ih =>
      by_cases hj : i = j
      · subst hj
        rw [List.filter_cons_of_neg (by rw [own]; simp), List.filter_cons_of_pos (by rw [h]; rfl), List.length_cons]
        omega
      · rw [List.filter_cons, List.filter_cons, getD_set_ne true hj]
        split
        · simp only [List.length_cons]
          omega
        · omega
  have lt : ∀ l : List Nat, i ∈ l → (l.filter fun j => !(listed.setIfInBounds i true).getD j true).length < (l.filter fun j => !listed.getD j true).length := by
    intro l
    induction l with
    | nil => intro hm; cases hm
    | cons j l ih =>
      intro hm
      by_cases hj : i = j
      · subst hj
        rw [List.filter_cons_of_neg (by rw [own]; simp), List.filter_cons_of_pos (by rw [h]; rfl), List.length_cons]
        have := le l
        omega
      · have := ih ((List.mem_cons.1 hm).resolve_left hj)
        rw [List.filter_cons, List.filter_cons, getD_set_ne true hj]
        split
        · simp only [List.length_cons]
          omega
        · omega
  exact lt _ (List.mem_range.2 hi)

theorem wpAny_inv (I : Array Bool → Act → World → Prop)
    (step : ∀ (listed : Array Bool) (a : Act) (w : World) (i : Nat), I listed a w → i ∈ Region.ready md ops listed → wpOp P ops Q i (I (listed.setIfInBounds i true)) a w)
    (done : ∀ (listed : Array Bool) (a : Act) (w : World), I listed a w → Region.ready md ops listed = [] → Q .normal a w) :
    ∀ (fuel : Nat) (listed : Array Bool) (a : Act) (w : World), toCome ops listed ≤ fuel → I listed a w → wpAny P md ops Q fuel listed a w := by
  intro fuel
  induction fuel with
  | zero =>
    intro listed a w hf hI
    have hr : Region.ready md ops listed = [] := by
      apply List.eq_nil_iff_forall_not_mem.2
      intro j hj
      obtain ⟨h0, o, ho, -⟩ := mem_ready.1 hj
      have hl := toCome_set (ops := ops) (Array.getElem?_eq_some_iff.1 ho).1 h0
      omega
    exact ⟨hr, done _ _ _ hI hr⟩
  | succ fuel ih =>
    intro listed a w hf hI
    refine ⟨fun hr => done _ _ _ hI hr, fun i hi => ?_⟩
    obtain ⟨h0, o, ho, -⟩ := mem_ready.1 hi
    have hl := toCome_set (ops := ops) (Array.getElem?_eq_some_iff.1 ho).1 h0
    exact wpOp_mono (fun a' w' h => ih _ a' w' (by omega) h) (step _ _ _ _ hI hi)

/-- Where every operation waits for earlier ones alone, nothing is ready only when all are done. -/
def earlier (ops : Array Oper) : Bool := (List.range ops.size).all fun j => match ops[j]? with | some o => o.after.toList.all fun e => decide (e.on < j) | none => true
theorem all_done (he : earlier ops = true) {listed : Array Bool} (hs : listed.size = ops.size) (hr : Region.ready md ops listed = []) : ∀ j, j < ops.size → listed.getD j false = true := by
  intro j
  induction j using Nat.strongRecOn with
  | ind j ih =>
    intro hj
    apply Classical.byContradiction
    intro hn
    have hgd : listed.getD j true = false := by
      have hjs : j < listed.size := by omega
      simp only [Array.getD_eq_getD_getElem?, Array.getElem?_eq_getElem hjs, Option.getD_some] at hn ⊢
      simpa using hn
    have hmem : j ∈ Region.ready md ops listed := by
      refine mem_ready.2 ⟨hgd, ops[j], Array.getElem?_eq_getElem hj, fun e hm _ => ?_⟩
      have h1 := List.all_eq_true.1 he j (List.mem_range.2 hj)
      rw [Array.getElem?_eq_getElem hj] at h1
      have h2 := of_decide_eq_true (List.all_eq_true.1 h1 e (by simpa using hm))
      exact ih e.on h2 (by omega)
    rw [hr] at hmem
    cases hmem

/-- A region that draws its order: I holds at its start, and every operation that may come up keeps it. -/
theorem wp_region_inv {id : Nat} {a : Act} {w : World} (I : Array Bool → Act → World → Prop) (hm : P.follows .mixedOrders = true) (he : earlier ops = true)
    (start : I (Array.replicate ops.size false) a w.drew)
    (step : ∀ (listed : Array Bool) (a : Act) (w : World) (i : Nat), listed.size = ops.size → I listed a w → i ∈ Region.ready .any ops listed → wpOp P ops Q i (I (listed.setIfInBounds i true)) a w)
    (done : ∀ (listed : Array Bool) (a : Act) (w : World), I listed a w → (∀ j, j < ops.size → listed.getD j false = true) → Q .normal a w) : (Code.region id ops true).wp P Q a w := by
  refine wp_region_any hm ?_
  refine wpAny_inv (fun l a w => l.size = ops.size ∧ I l a w) (fun l a w i h hi => ?_) (fun l a w h hr => done l a w h.2 (all_done he h.1 hr)) _ _ _ _ ?_ ⟨by simp, start⟩
  · exact wpOp_mono (fun a' w' h' => ⟨by rw [Array.size_setIfInBounds]; exact h.1, h'⟩) (step l a w i h.1 h.2 hi)
  · unfold toCome
    refine Nat.le_trans (List.length_filter_le _ _) ?_
    rw [List.length_range]
    exact Nat.le_refl _
end
section
variable {ops : Array Oper} {Q : Exit → Act → World → Prop} {i : Nat} {listed : Array Bool}
/-- Whether an operation waits for another. -/
def waitsFor (ops : Array Oper) (i j : Nat) : Bool := ((ops[i]?).map fun o => o.after.any fun e => Region.binds .any e && e.on == j).getD false
theorem waits_done {j : Nat} (hr : i ∈ Region.ready .any ops listed) (h : waitsFor ops i j = true) : listed.getD j false = true := by
  obtain ⟨-, o, ho, hall⟩ := mem_ready.1 hr
  unfold waitsFor at h
  rw [ho] at h
  obtain ⟨k, hk, h1⟩ := Array.any_eq_true.1 (show (o.after.any fun e => Region.binds .any e && e.on == j) = true from h)
  rw [Bool.and_eq_true, beq_iff_eq] at h1
  rw [← h1.2]
  exact hall _ (Array.getElem_mem hk) h1.1
theorem ready_lt (hr : i ∈ Region.ready .any ops listed) : i < ops.size := by
  obtain ⟨-, o, ho, -⟩ := mem_ready.1 hr
  exact (Array.getElem?_eq_some_iff.1 ho).1
theorem ready_not (hs : listed.size = ops.size) (hr : i ∈ Region.ready .any ops listed) : listed.getD i false = false := by
  have h := (mem_ready.1 hr).1
  have hi : i < listed.size := by rw [hs]; exact ready_lt hr
  simp [hi] at h ⊢
  exact h
/-- What is listed behind an operation. -/
theorem getD_listed (hs : i < listed.size) (j : Nat) : (listed.setIfInBounds i true).getD j false = if j = i then true else listed.getD j false := by
  by_cases h : j = i
  · subst h
    rw [if_pos rfl]
    simp [hs]
  · rw [if_neg h, getD_set_ne false (fun e => h e.symm)]
end

/-- A frame with some slots filled. -/
def fillF (a0 : Act) (x : Nat → Value) : List Nat → Act
  | [] => a0
  | d :: l => (fillF a0 x l).put (some d) (x d)
def updF (x : Nat → Value) (d : Nat) (v : Value) : Nat → Value := fun t => if t = d then v else x t
theorem eval_put_ne (a : Act) (d t : Nat) (v : Value) (h : t ≠ d) : (a.put (some d) v).eval (.tmp t) = a.eval (.tmp t) := by
  simp [Act.put, Act.eval, Array.getElem?_setIfInBounds_ne (Ne.symm h)]
theorem eval_put_same (a : Act) (d : Nat) (v : Value) (h : d < a.tmps.size) : (a.put (some d) v).eval (.tmp d) = v := by
  simp [Act.put, Act.eval, h]
theorem fillF_size (a0 : Act) (x : Nat → Value) : ∀ l, (fillF a0 x l).tmps.size = a0.tmps.size
  | [] => rfl
  | d :: l => by
    show ((fillF a0 x l).tmps.setIfInBounds d (x d)).size = _
    rw [Array.size_setIfInBounds, fillF_size a0 x l]
theorem fillF_ne (a0 : Act) (x : Nat → Value) (t : Nat) : ∀ l, t ∉ l → (fillF a0 x l).eval (.tmp t) = a0.eval (.tmp t)
  | [], _ => rfl
  | d :: l, h => by
    rw [fillF, eval_put_ne _ _ _ _ (fun e => h (by simp [e])), fillF_ne a0 x t l (fun e => h (List.mem_cons_of_mem _ e))]
theorem fillF_mem (a0 : Act) (x : Nat → Value) (t : Nat) : ∀ l, t ∈ l → t < a0.tmps.size → (fillF a0 x l).eval (.tmp t) = x t
  | d :: l, h, hs => by
    rw [fillF]
    by_cases e : t = d
    · subst e
      exact eval_put_same _ _ _ (by rw [fillF_size]; exact hs)
    · rw [eval_put_ne _ _ _ _ e]
      exact fillF_mem a0 x t l ((List.mem_cons.1 h).resolve_left e) hs
theorem put_put (a : Act) (d : Nat) (u v : Value) : (a.put (some d) u).put (some d) v = a.put (some d) v := by
  simp [Act.put]
theorem put_comm (a : Act) (d e : Nat) (u v : Value) (h : d ≠ e) : (a.put (some d) u).put (some e) v = (a.put (some e) v).put (some d) u := by
  simp only [Act.put]
  congr 1
  apply Array.ext_getElem?
  intro j
  by_cases a1 : d = j
  · by_cases a2 : e = j
    · exact absurd (a1.trans a2.symm) h
    · simp [a1, a2, Array.getElem?_setIfInBounds]
  · by_cases a2 : e = j
    · simp [a1, a2, Array.getElem?_setIfInBounds]
    · simp [a1, a2]
theorem fillF_upd_ne (a0 : Act) (x : Nat → Value) (d : Nat) (v : Value) : ∀ l, d ∉ l → fillF a0 (updF x d v) l = fillF a0 x l
  | [], _ => rfl
  | e :: l, h => by
    rw [fillF, fillF, fillF_upd_ne a0 x d v l (fun q => h (List.mem_cons_of_mem _ q))]
    have : updF x d v e = x e := if_neg (fun q => h (by simp [q]))
    rw [this]
theorem fillF_put (a0 : Act) (x : Nat → Value) (d : Nat) (v : Value) : ∀ l, d ∈ l → (fillF a0 x l).put (some d) v = fillF a0 (updF x d v) l
  | e :: l, h => by
    rw [fillF, fillF]
    by_cases q : e = d
    · subst q
      have hu : updF x e v e = v := if_pos rfl
      rw [put_put, hu]
      by_cases hm : e ∈ l
      · rw [← fillF_put a0 x e v l hm, put_put]
      · rw [fillF_upd_ne a0 x e v l hm]
    · have hu : updF x d v e = x e := if_neg q
      rw [hu, put_comm _ _ _ _ _ q, fillF_put a0 x d v l ((List.mem_cons.1 h).resolve_left (fun r => q r.symm))]
theorem put_self (a : Act) (d : Nat) (h : d < a.tmps.size) : a.put (some d) (a.eval (.tmp d)) = a := by
  obtain ⟨t, df⟩ := a
  have h' : d < t.size := h
  simp only [Act.put, Act.eval]
  congr 1
  apply Array.ext_getElem?
  intro j
  by_cases e : d = j
  · subst e
    simp [h']
  · simp [e]
theorem fillF_self (a0 : Act) : ∀ l, (∀ d, d ∈ l → d < a0.tmps.size) → fillF a0 (fun t => a0.eval (.tmp t)) l = a0
  | [], _ => rfl
  | d :: l, h => by
    rw [fillF, fillF_self a0 l (fun e he => h e (List.mem_cons_of_mem _ he))]
    exact put_self a0 d (h d (by simp))
end Go.Proofs.Ytjcmbljpjimdiaa
