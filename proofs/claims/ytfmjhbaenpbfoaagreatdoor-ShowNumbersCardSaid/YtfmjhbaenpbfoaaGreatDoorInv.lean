/- A region that draws its order, by what holds on every way through it. -/
import Derived.Test.YtfmjhbaenpbfoaaGreatDoorRightR
import Derived.Orders
namespace Go.Proofs.YtfmjhbaenpbfoaaGreatDoor
open Go.RowKit

section
variable {P : Program} {ops : Array Oper} {Q : Exit → Act → World → Prop} {md : Region.Mode}

/-- How many operations are still to come. -/
def toCome (ops : Array Oper) (listed : Array Bool) : Nat := ((List.range ops.size).filter fun j => !listed.getD j true).length
theorem toCome_set {listed : Array Bool} {i : Nat} (hi : i < ops.size) (h : listed.getD i true = false) : toCome ops (listed.setIfInBounds i true) < toCome ops listed := by
  have gen : ∀ l : List Nat, (∀ j, j ∈ l → j ≠ i) → (l.filter fun j => !(listed.setIfInBounds i true).getD j true) = l.filter fun j => !listed.getD j true := by
    intro l hl
    apply List.filter_congr
    intro j hj
    rw [getD_set_ne true (hl j hj).symm]
  have own : (listed.setIfInBounds i true).getD i true = true := by
    by_cases hs : i < listed.size
    · simp [hs]
    · simp [hs]
  have le : ∀ l : List Nat, (l.filter fun j => !(listed.setIfInBounds i true).getD j true).length ≤ (l.filter fun j => !listed.getD j true).length := by
    intro l
    induction l with
    | nil => exact Nat.le_refl _
    | cons j l ih =>
      by_cases hj : i = j
      · subst hj
        rw [List.filter_cons_of_neg (by rw [own]; simp), List.filter_cons_of_pos (by rw [h]; rfl), List.length_cons]
        omega
      · rw [List.filter_cons, List.filter_cons, getD_set_ne true hj]
        split
        · simp only [List.length_cons]
          omega
        · omega
  have lt : ∀ l : List Nat, i ∈ l → (l.filter fun j => !(listed.setIfInBounds i true).getD j true).length < (l.filter fun j => !listed.getD j true).length := by
    intro l
    induction l with
    | nil => intro hm; cases hm
    | cons j l ih =>
      intro hm
      by_cases hj : i = j
      · subst hj
        rw [List.filter_cons_of_neg (by rw [own]; simp), List.filter_cons_of_pos (by rw [h]; rfl), List.length_cons]
        have := le l
        omega
      · have := ih ((List.mem_cons.1 hm).resolve_left hj)
        rw [List.filter_cons, List.filter_cons, getD_set_ne true hj]
        split
        · simp only [List.length_cons]
          omega
        · omega
  exact lt _ (List.mem_range.2 hi)

theorem wpAny_inv (I : Array Bool → Act → World → Prop)
    (step : ∀ (listed : Array Bool) (a : Act) (w : World) (i : Nat), I listed a w → i ∈ Region.ready md ops listed → wpOp P ops Q i (I (listed.setIfInBounds i true)) a w)
    (done : ∀ (listed : Array Bool) (a : Act) (w : World), I listed a w → Region.ready md ops listed = [] → Q .normal a w) :
    ∀ (fuel : Nat) (listed : Array Bool) (a : Act) (w : World), toCome ops listed ≤ fuel → I listed a w → wpAny P md ops Q fuel listed a w := by
  intro fuel
  induction fuel with
  | zero =>
    intro listed a w hf hI
    have hr : Region.ready md ops listed = [] := by
      apply List.eq_nil_iff_forall_not_mem.2
      intro j hj
      obtain ⟨h0, o, ho, -⟩ := mem_ready.1 hj
      have hl := toCome_set (ops := ops) (Array.getElem?_eq_some_iff.1 ho).1 h0
      omega
    exact ⟨hr, done _ _ _ hI hr⟩
  | succ fuel ih =>
    intro listed a w hf hI
    refine ⟨fun hr => done _ _ _ hI hr, fun i hi => ?_⟩
    obtain ⟨h0, o, ho, -⟩ := mem_ready.1 hi
    have hl := toCome_set (ops := ops) (Array.getElem?_eq_some_iff.1 ho).1 h0
    exact wpOp_mono (fun a' w' h => ih _ a' w' (by omega) h) (step _ _ _ _ hI hi)

/-- Where every operation waits for earlier ones alone, nothing is ready only when all are done. -/
def earlier (ops : Array Oper) : Bool := (List.range ops.size).all fun j => match ops[j]? with | some o => o.after.toList.all fun e => decide (e.on < j) | none => true
theorem all_done (he : earlier ops = true) {listed : Array Bool} (hs : listed.size = ops.size) (hr : Region.ready md ops listed = []) : ∀ j, j < ops.size → listed.getD j false = true := by
  intro j
  induction j using Nat.strongRecOn with
  | ind j ih =>
    intro hj
    apply Classical.byContradiction
    intro hn
    have hgd : listed.getD j true = false := by
      have hjs : j < listed.size := by omega
      simp only [Array.getD_eq_getD_getElem?, Array.getElem?_eq_getElem hjs, Option.getD_some] at hn ⊢
      simpa using hn
    have hmem : j ∈ Region.ready md ops listed := by
      refine mem_ready.2 ⟨hgd, ops[j], Array.getElem?_eq_getElem hj, fun e hm _ => ?_⟩
      have h1 := List.all_eq_true.1 he j (List.mem_range.2 hj)
      rw [Array.getElem?_eq_getElem hj] at h1
      have h2 := of_decide_eq_true (List.all_eq_true.1 h1 e (by simpa using hm))
      exact ih e.on h2 (by omega)
    rw [hr] at hmem
    cases hmem

/-- A region that draws its order: I holds at its start, and every operation that may come up keeps it. -/
theorem wp_region_inv {id : Nat} {a : Act} {w : World} (I : Array Bool → Act → World → Prop) (hm : P.follows .mixedOrders = true) (he : earlier ops = true)
    (start : I (Array.replicate ops.size false) a w.drew)
    (step : ∀ (listed : Array Bool) (a : Act) (w : World) (i : Nat), listed.size = ops.size → I listed a w → i ∈ Region.ready .any ops listed → wpOp P ops Q i (I (listed.setIfInBounds i true)) a w)
    (done : ∀ (listed : Array Bool) (a : Act) (w : World), I listed a w → (∀ j, j < ops.size → listed.getD j false = true) → Q .normal a w) : (Code.region id ops true).wp P Q a w := by
  refine wp_region_any hm ?_
  refine wpAny_inv (fun l a w => l.size = ops.size ∧ I l a w) (fun l a w i h hi => ?_) (fun l a w h hr => done l a w h.2 (all_done he h.1 hr)) _ _ _ _ ?_ ⟨by simp, start⟩
  · exact wpOp_mono (fun a' w' h' => ⟨by rw [Array.size_setIfInBounds]; exact h.1, h'⟩) (step l a w i h.1 h.2 hi)
  · unfold toCome
    refine Nat.le_trans (List.length_filter_le _ _) ?_
    rw [List.length_range]
    exact Nat.le_refl _
end
end Go.Proofs.YtfmjhbaenpbfoaaGreatDoor
