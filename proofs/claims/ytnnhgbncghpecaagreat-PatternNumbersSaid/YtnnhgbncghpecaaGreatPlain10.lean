/- Arguments and values, one behind the other: what an env has then; what is taken back. -/
import Derived.Test.YtnnhgbncghpecaaGreatBase10
namespace Go.Proofs.YtnnhgbncghpecaaGreat
open Go.RowKit

/-- An argument of a condition. -/
structure A10 where
  kind : Int
  var : Int
  val : V3
/-- Which variables are there, and their values. -/
abbrev E10 := List Bool × List V3

def known10 (i : Int) (n : Nat) : Bool := decide (0 ≤ i) && decide (i < (n : Int))
theorem known10_iff {i : Int} {n : Nat} : known10 i n = true ↔ ∃ k : Nat, i = k ∧ k < n := by
  unfold known10
  simp only [Bool.and_eq_true, decide_eq_true_eq]
  constructor
  · rintro ⟨h1, h2⟩
    exact ⟨i.toNat, by omega, by omega⟩
  · rintro ⟨k, rfl, h⟩
    omega
def bind10 (i : Nat) (v : V3) (e : E10) : E10 := (e.1.set i true, e.2.set i v)
/-- Whether an argument and a value fit, and what is there then. -/
def fit1 (a : A10) (v : V3) (e : E10) : Option E10 :=
  if a.kind = 1 then some e
  else if a.kind = 2 then (if known10 a.var e.1.length = true then some (bind10 a.var.toNat v e) else none)
  else if a.kind = 3 then (if (known10 a.var e.1.length && (e.1.getD a.var.toNat false && eqvB (e.2.getD a.var.toNat zeroT) v)) = true then some e else none)
  else if a.kind = 4 then (if eqvB a.val v = true then some e else none)
  else none
def fitsP : List (A10 × V3) → E10 → Option E10
  | [], e => some e
  | p :: l, e => match fit1 p.1 p.2 e with | some e' => fitsP l e' | none => none
/-- An env has as many of both. -/
def Even (n : Nat) (e : E10) : Prop := e.1.length = n ∧ e.2.length = n

theorem fit1_even {a : A10} {v : V3} {e e' : E10} {n : Nat} (h : fit1 a v e = some e') (he : Even n e) : Even n e' := by
  unfold fit1 at h
  split at h
  · exact Option.some.inj h ▸ he
  split at h
  · split at h
    · obtain rfl := Option.some.inj h
      exact ⟨by simp [bind10, he.1], by simp [bind10, he.2]⟩
    · cases h
  split at h
  · split at h
    · exact Option.some.inj h ▸ he
    · cases h
  split at h
  · split at h
    · exact Option.some.inj h ▸ he
    · cases h
  · cases h
theorem fitsP_even {l : List (A10 × V3)} {n : Nat} : ∀ {e e' : E10}, fitsP l e = some e' → Even n e → Even n e' := by
  induction l with
  | nil => intro e e' h he; exact Option.some.inj h ▸ he
  | cons p l ih =>
    intro e e' h he
    rw [fitsP] at h
    split at h
    · exact ih h (fit1_even (by assumption) he)
    · cases h
theorem fitsP_append (l m : List (A10 × V3)) : ∀ e, fitsP (l ++ m) e = (fitsP l e).bind (fitsP m) := by
  induction l with
  | nil => intro e; rfl
  | cons p l ih =>
    intro e
    rw [List.cons_append, fitsP, fitsP]
    split
    · exact ih _
    · rfl
theorem fitsP_snoc {l : List (A10 × V3)} {p : A10 × V3} {e e1 : E10} (h : fitsP l e = some e1) : fitsP (l ++ [p]) e = fit1 p.1 p.2 e1 := by
  rw [fitsP_append, h]
  show fitsP [p] e1 = _
  rw [fitsP]
  split
  · rw [fitsP]; symm; assumption
  · symm; assumption
theorem fitsP_fail {l m : List (A10 × V3)} {p : A10 × V3} {e e1 : E10} (h : fitsP l e = some e1) (hp : fit1 p.1 p.2 e1 = none) : fitsP (l ++ p :: m) e = none := by
  rw [fitsP_append, h]
  show fitsP (p :: m) e1 = _
  rw [fitsP, hp]
theorem split_at {α : Type} (l : List α) (k : Nat) (h : k < l.length) : l = l.take k ++ l[k] :: l.drop (k + 1) := by
  rw [List.getElem_cons_drop, List.take_append_drop]
theorem take_snoc {α : Type} (l : List α) (k : Nat) (h : k < l.length) : l.take (k + 1) = l.take k ++ [l[k]] := by
  rw [List.take_add_one, List.getElem?_eq_getElem h]
  rfl

/-- What undo does of one argument. -/
def undo1 (e0 : E10) (a : A10) (e : E10) : E10 := if a.kind = 2 then (e.1.set a.var.toNat (e0.1.getD a.var.toNat false), e.2.set a.var.toNat (e0.2.getD a.var.toNat zeroT)) else e
def undoL (e0 : E10) : List A10 → E10 → E10
  | [], e => e
  | a :: l, e => undoL e0 l (undo1 e0 a e)
theorem undoL_snoc (e0 : E10) (l : List A10) (a : A10) : ∀ e, undoL e0 (l ++ [a]) e = undo1 e0 a (undoL e0 l e) := by
  induction l with
  | nil => intro e; rfl
  | cons x l ih => intro e; rw [List.cons_append, undoL, undoL, ih]
theorem undo1_even {e0 : E10} {a : A10} {e : E10} {n : Nat} (he : Even n e) : Even n (undo1 e0 a e) := by
  unfold undo1
  split
  · exact ⟨by simp [he.1], by simp [he.2]⟩
  · exact he
theorem undoL_even {e0 : E10} {l : List A10} {n : Nat} : ∀ {e : E10}, Even n e → Even n (undoL e0 l e) := by
  induction l with
  | nil => exact fun h => h
  | cons a l ih => exact fun h => ih (undo1_even h)
/-- All that is bound is one of n. -/
def BindsOf (n : Nat) (l : List A10) : Prop := ∀ a, a ∈ l → a.kind = 2 → ∃ k : Nat, a.var = k ∧ k < n
def Out10 (l : List A10) (j : Nat) : Prop := ∀ a, a ∈ l → a.kind = 2 → a.var.toNat ≠ j
def Like10 (l : List A10) (e e' : E10) : Prop := ∀ j, Out10 l j → e'.1[j]? = e.1[j]? ∧ e'.2[j]? = e.2[j]?

theorem fit1_like {a : A10} {v : V3} {e e' : E10} (h : fit1 a v e = some e') : Like10 [a] e e' ∧ (a.kind = 2 → ∃ k : Nat, a.var = k ∧ k < e.1.length) := by
  unfold fit1 at h
  split at h
  · rename_i h1
    obtain rfl := Option.some.inj h
    exact ⟨fun _ _ => ⟨rfl, rfl⟩, fun h2 => by omega⟩
  split at h
  · rename_i h2
    split at h
    · rename_i h3
      obtain rfl := Option.some.inj h
      refine ⟨fun j hj => ?_, fun _ => known10_iff.1 h3⟩
      have hne := hj a (by simp) h2
      exact ⟨by simp [bind10, hne], by simp [bind10, hne]⟩
    · cases h
  rename_i h2
  split at h
  · split at h
    · obtain rfl := Option.some.inj h
      exact ⟨fun _ _ => ⟨rfl, rfl⟩, fun h3 => absurd h3 h2⟩
    · cases h
  split at h
  · split at h
    · obtain rfl := Option.some.inj h
      exact ⟨fun _ _ => ⟨rfl, rfl⟩, fun h3 => absurd h3 h2⟩
    · cases h
  · cases h
theorem fitsP_like {l : List (A10 × V3)} {n : Nat} : ∀ {e e' : E10}, fitsP l e = some e' → Even n e → Like10 (l.map Prod.fst) e e' ∧ BindsOf n (l.map Prod.fst) := by
  induction l with
  | nil => intro e e' h _; obtain rfl := Option.some.inj h; exact ⟨fun _ _ => ⟨rfl, rfl⟩, fun a ha => by cases ha⟩
  | cons p l ih =>
    intro e e' h he
    rw [fitsP] at h
    split at h
    · rename_i e1 h1
      obtain ⟨h2, h3⟩ := fit1_like h1
      obtain ⟨h4, h5⟩ := ih h (fit1_even h1 he)
      refine ⟨fun j hj => ?_, fun a ha hk => ?_⟩
      · have q1 := h2 j fun a ha => hj a (by simp [List.mem_singleton.1 ha])
        have q2 := h4 j fun a ha => hj a (List.mem_cons_of_mem _ ha)
        exact ⟨q2.1.trans q1.1, q2.2.trans q1.2⟩
      · rcases List.mem_cons.1 ha with rfl | ha
        · obtain ⟨k, e1, e2⟩ := h3 hk
          exact ⟨k, e1, he.1 ▸ e2⟩
        · exact h5 a ha hk
    · cases h
theorem undoL_back {e0 : E10} {n : Nat} (h0 : Even n e0) {l : List A10} (hb : BindsOf n l) : ∀ {e : E10}, Even n e → Like10 l e0 e → undoL e0 l e = e0 := by
  induction l with
  | nil =>
    intro e _ h
    exact Prod.ext (List.ext_getElem? fun j => (h j fun a ha => by cases ha).1) (List.ext_getElem? fun j => (h j fun a ha => by cases ha).2)
  | cons a l ih =>
    intro e he h
    refine ih (fun b hb' => hb b (List.mem_cons_of_mem _ hb')) (undo1_even he) fun j hj => ?_
    unfold undo1
    by_cases hk : a.kind = 2
    · rw [if_pos hk]
      obtain ⟨k, hv, hlt⟩ := hb a (by simp) hk
      rw [hv]
      simp only [Int.toNat_natCast]
      by_cases hkj : k = j
      · subst hkj
        simp [he.1, he.2, hlt, h0.1, h0.2]
      · simp only [List.getElem?_set, hkj, if_false]
        refine h j fun b hb' hbk => ?_
        rcases List.mem_cons.1 hb' with rfl | hb'
        · rw [hv]; simpa using hkj
        · exact hj b hb' hbk
    · rw [if_neg hk]
      refine h j fun b hb' hbk => ?_
      rcases List.mem_cons.1 hb' with rfl | hb'
      · exact absurd hbk hk
      · exact hj b hb' hbk
/-- What does not fit is taken back, whole. -/
theorem undo_fits {l : List (A10 × V3)} {n : Nat} {e e' : E10} (h : fitsP l e = some e') (he : Even n e) : undoL e (l.map Prod.fst) e' = e :=
  undoL_back he (fitsP_like h he).2 (fitsP_even h he) (fitsP_like h he).1

/-- Whether an env is well made. -/
def made1 (p : Bool × V3) : Bool := p.1 || eqvB p.2 zeroT
def madeP (e : E10) : Bool := decide (e.1.length = e.2.length) && (e.1.zip e.2).all made1
/-- The document's match. -/
def matchP (ck ct : Int) (al : List A10) (ft : Int) (fs : List V3) (e : E10) : Option E10 :=
  if (decide (ck = 1) || decide (ck = 2)) && madeP e && decide (ft = ct) && decide (fs.length = al.length) then fitsP (al.zip fs) e else none
end Go.Proofs.YtnnhgbncghpecaaGreat
