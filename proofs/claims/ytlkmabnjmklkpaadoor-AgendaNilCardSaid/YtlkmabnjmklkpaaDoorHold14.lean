/- Plain: what holds, what was fired; from step to step. -/
import Derived.Test.YtlkmabnjmklkpaaDoorPlain14
import Derived.Test.YtlkmabnjmklkpaaDoorToks14
namespace Go.Proofs.YtlkmabnjmklkpaaDoor
open Go.RowKit

theorem Touch.of_below {w w' : World} (h : Below w.heap.size w w') (S : Nat → Prop) : Touch S w w' := (Touch.refl S w).step h
theorem below_new' {w w1 : World} (h : Below w.heap.size w w1) (o : Obj) : Below w.heap.size w (w1.alloc o) := h.alloc h.size o

/-- Where a match stands in a row; below 0: nowhere. -/
def placeI (l : List TK) (x : TK) : Int := if x ∈ l then (l.idxOf x : Int) else -1
theorem placeI_at (l : List TK) (x : TK) (j : Nat) (h : j < l.length) (hn : x ∉ l.take j) (e : l[j] = x) : placeI l x = j := by
  have hm : x ∈ l := e ▸ List.getElem_mem h
  have hs : l = l.take j ++ l[j] :: l.drop (j + 1) := by rw [← List.drop_eq_getElem_cons h, List.take_append_drop]
  unfold placeI
  rw [if_pos hm]
  have : l.idxOf x = j := by
    rw [hs, List.idxOf_append, if_neg hn, e]
    simp [List.length_take]
    omega
  rw [this]
def unspent (l : List TK) (sp : List Bool) : List TK := ((l.zip sp).filter (fun p => !p.2)).map Prod.fst
def firedOf (l : List TK) (sp : List Bool) : List TK := ((l.zip sp).filter (fun p => p.2)).map Prod.fst
/-- It held, and was fired. -/
def heldB (l : List TK) (sp : List Bool) (t : TK) : Bool := if placeI l t < 0 then false else sp.getD (placeI l t).toNat false
/-- What may be set. -/
def SetOk (s : List Int) (l : List TK) : Prop := (∀ t, t ∈ l → 0 ≤ t.1 ∧ t.1 < s.length) ∧ l.Nodup
/-- It does not hold, or was fired. -/
def spentB (l : List TK) (sp : List Bool) (x : TK) : Bool := if placeI l x < 0 then true else sp.getD (placeI l x).toNat false
def fireE (l : List TK) (sp : List Bool) (x : TK) : Int := if spentB l sp x then 6 else 0
def fireS (l : List TK) (sp : List Bool) (x : TK) : List Bool := if spentB l sp x then sp else sp.set (placeI l x).toNat true

theorem unspent_cons (x : TK) (l : List TK) (b : Bool) (sp : List Bool) : unspent (x :: l) (b :: sp) = if b then unspent l sp else x :: unspent l sp := by
  cases b <;> simp [unspent]
theorem firedOf_cons (x : TK) (l : List TK) (b : Bool) (sp : List Bool) : firedOf (x :: l) (b :: sp) = if b then x :: firedOf l sp else firedOf l sp := by
  cases b <;> simp [firedOf]
theorem mem_unspent (x : TK) : ∀ (l : List TK) (sp : List Bool), x ∈ unspent l sp → ∃ m, ∃ h : m < l.length, l[m] = x ∧ sp[m]? = some false
  | [], _, h => by simp [unspent] at h
  | _ :: _, [], h => by simp [unspent] at h
  | y :: l, b :: sp, h => by
    rw [unspent_cons] at h
    have hin : x ∈ unspent l sp → ∃ m, ∃ h : m < (y :: l).length, (y :: l)[m] = x ∧ (b :: sp)[m]? = some false := fun h => by
      obtain ⟨m, hm, e, f⟩ := mem_unspent x l sp h
      exact ⟨m + 1, by simpa using hm, by simpa using e, by simpa using f⟩
    cases b with
    | true => exact hin (by simpa using h)
    | false =>
      simp only [Bool.false_eq_true, if_false, List.mem_cons] at h
      rcases h with rfl | h
      · exact ⟨0, by simp, rfl, rfl⟩
      · exact hin h
theorem set_perm : ∀ (l : List TK) (sp : List Bool) (m : Nat) (h : m < l.length), sp[m]? = some false →
    (firedOf l (sp.set m true)).Perm (l[m] :: firedOf l sp) ∧ (unspent l sp).Perm (l[m] :: unspent l (sp.set m true))
  | [], _, _, h, _ => by simp at h
  | _ :: _, [], _, _, h => by simp at h
  | y :: l, b :: sp, 0, _, h => by
    have : b = false := by simpa using h
    subst this
    simp [unspent_cons, firedOf_cons]
  | y :: l, b :: sp, m + 1, hm, h => by
    obtain ⟨h1, h2⟩ := set_perm l sp m (by simpa using hm) (by simpa using h)
    simp only [List.set_cons_succ, unspent_cons, firedOf_cons, List.getElem_cons_succ]
    cases b with
    | true =>
      simp only [if_true]
      exact ⟨(List.Perm.cons y h1).trans (List.Perm.swap _ _ _), h2⟩
    | false =>
      simp only [Bool.false_eq_true, if_false]
      exact ⟨h1, (List.Perm.cons y h2).trans (List.Perm.swap _ _ _)⟩
theorem placeI_nodup {l : List TK} (hn : l.Nodup) {m : Nat} (h : m < l.length) : placeI l l[m] = m := by
  refine placeI_at l l[m] m h (fun hm => ?_) rfl
  obtain ⟨q, hq, e⟩ := List.getElem_of_mem hm
  rw [List.getElem_take] at e
  rw [List.length_take] at hq
  have := (List.getElem_inj hn).1 e
  omega

/-- A match that is open is fired: it is open no longer, and was fired. -/
theorem fire_open {l : List TK} {sp : List Bool} {x : TK} (hn : l.Nodup) (hx : x ∈ unspent l sp) :
    fireE l sp x = 0 ∧ (fireS l sp x).length = sp.length ∧ (firedOf l (fireS l sp x)).Perm (x :: firedOf l sp) ∧ (unspent l sp).Perm (x :: unspent l (fireS l sp x)) ∧ fireE l (fireS l sp x) x = 6 ∧ fireS l (fireS l sp x) x = fireS l sp x := by
  obtain ⟨m, hm, rfl, hf⟩ := mem_unspent x l sp hx
  have hp := placeI_nodup hn hm
  have hsb : spentB l sp l[m] = false := by
    unfold spentB
    rw [hp, if_neg (by omega)]
    simp [List.getD, hf]
  have hms : m < sp.length := (List.getElem?_eq_some_iff.1 hf).1
  have hS : fireS l sp l[m] = sp.set m true := by
    unfold fireS
    rw [hsb, hp]
    simp
  have hsb2 : spentB l (sp.set m true) l[m] = true := by
    unfold spentB
    rw [hp, if_neg (by omega)]
    simp [List.getD, hms]
  obtain ⟨p1, p2⟩ := set_perm l sp m hm hf
  rw [hS]
  refine ⟨by unfold fireE; rw [hsb]; rfl, by simp, p1, p2, by unfold fireE; rw [hsb2]; rfl, ?_⟩
  unfold fireS
  rw [hsb2]
  rfl

/-- So many were fired, the first ones of the row of all. -/
structure Gone14 (s : List Int) (l : List TK) (j : Nat) (sp : List Bool) : Prop where
  len : sp.length = l.length
  opn : (unspent l sp).Perm ((fired14 s l).drop j)
  don : (firedOf l sp).Perm ((fired14 s l).take j)

theorem held_nil (l : List TK) : l.map (heldB [] []) = l.map (fun _ => false) := by
  refine List.map_congr_left fun t _ => ?_
  simp [heldB, placeI]
theorem unspent_none (l : List TK) : unspent l (l.map (fun _ => false)) = l := by
  induction l with
  | nil => rfl
  | cons x l ih => rw [List.map_cons, unspent_cons, ih]; rfl
theorem firedOf_none (l : List TK) : firedOf l (l.map (fun _ => false)) = [] := by
  induction l with
  | nil => rfl
  | cons x l ih => rw [List.map_cons, firedOf_cons, ih]; rfl
theorem Gone14.start {s : List Int} {l : List TK} (hn : l.Nodup) : Gone14 s l 0 (l.map (heldB [] [])) := by
  rw [held_nil]
  refine ⟨by simp, ?_, ?_⟩
  · rw [unspent_none, List.drop_zero]
    exact (fired_perm s l hn).symm
  · rw [firedOf_none, List.take_zero]
theorem fired_len {s : List Int} {l : List TK} (hn : l.Nodup) : (fired14 s l).length = l.length := (fired_perm s l hn).length_eq
theorem Gone14.row {s : List Int} {l : List TK} {j : Nat} (hn : l.Nodup) (hj : j < (fired14 s l).length) : Row14 s ((fired14 s l)[j] :: (fired14 s l).drop (j + 1)) := by
  rw [← List.drop_eq_getElem_cons hj]
  exact List.Pairwise.sublist (List.drop_sublist _ _) (fired_row s l hn)
theorem Gone14.next {s : List Int} {l : List TK} {j : Nat} {sp : List Bool} (hn : l.Nodup) (h : Gone14 s l j sp) (hj : j < (fired14 s l).length) : best14 s (unspent l sp) = some (fired14 s l)[j] := by
  refine row_best s _ ((fired14 s l).drop (j + 1)) _ (Gone14.row hn hj) ?_
  rw [← List.drop_eq_getElem_cons hj]
  exact h.opn.symm
theorem Gone14.none {s : List Int} {l : List TK} {j : Nat} {sp : List Bool} (h : Gone14 s l j sp) (hj : (fired14 s l).length ≤ j) : best14 s (unspent l sp) = .none := by
  have := h.opn
  rw [List.drop_eq_nil_of_le hj] at this
  rw [List.perm_nil.1 this]
  rfl
theorem Gone14.fire {s : List Int} {l : List TK} {j : Nat} {sp : List Bool} (hn : l.Nodup) (h : Gone14 s l j sp) (hj : j < (fired14 s l).length) :
    fireE l sp (fired14 s l)[j] = 0 ∧ Gone14 s l (j + 1) (fireS l sp (fired14 s l)[j]) ∧ fireE l (fireS l sp (fired14 s l)[j]) (fired14 s l)[j] = 6 ∧ fireS l (fireS l sp (fired14 s l)[j]) (fired14 s l)[j] = fireS l sp (fired14 s l)[j] := by
  have hx : (fired14 s l)[j] ∈ unspent l sp := h.opn.mem_iff.2 (by rw [List.drop_eq_getElem_cons hj]; exact List.mem_cons_self)
  obtain ⟨h1, h2, h3, h4, h5, h6⟩ := fire_open hn hx
  refine ⟨h1, ⟨h2.trans h.len, ?_, ?_⟩, h5, h6⟩
  · have := h4.symm.trans h.opn
    rw [List.drop_eq_getElem_cons hj] at this
    exact List.perm_cons _ |>.1 this
  · refine h3.trans ((List.Perm.cons _ h.don).trans ?_)
    rw [List.take_add_one, List.getElem?_eq_getElem hj]
    exact (List.perm_append_singleton _ _).symm
theorem Gone14.fired {s : List Int} {l : List TK} {j : Nat} {sp : List Bool} (hn : l.Nodup) (h : Gone14 s l j sp) : fired14 s (firedOf l sp) = (fired14 s l).take j :=
  (row_fired s _ _ (List.Pairwise.sublist (List.take_sublist _ _) (fired_row s l hn)) h.don.symm).symm
theorem Gone14.ahead {s : List Int} {l : List TK} {j : Nat} (hn : l.Nodup) (hj : j + 1 < (fired14 s l).length) : better14 s (fired14 s l)[j] (fired14 s l)[j + 1] = true :=
  List.pairwise_iff_getElem.1 (fired_row s l hn) j (j + 1) (by omega) hj (by omega)
end Go.Proofs.YtlkmabnjmklkpaaDoor
