/- Plain: which match stands ahead; what is next, and what was fired; how loops come to these. -/
import Derived.Test.YtlkmabnjmklkpaaDoorBase14
namespace Go.Proofs.YtlkmabnjmklkpaaDoor
open Go.RowKit

abbrev Tok14 := Int × List Int

def salOf14 (s : List Int) (r : Int) : Int := if 0 ≤ r ∧ r < s.length then s.getD r.toNat 0 else 0

def insD (x : Int) : List Int → List Int
  | [] => [x]
  | y :: ys => if y < x then x :: y :: ys else y :: insD x ys

def falling14 (l : List Int) : List Int := l.foldl (fun out x => insD x out) []

def gtL : List Int → List Int → Bool
  | [], _ => false
  | _ :: _, [] => true
  | x :: xs, y :: ys => if x = y then gtL xs ys else decide (y < x)

def ltL : List Int → List Int → Bool
  | x :: xs, y :: ys => if x = y then ltL xs ys else decide (x < y)
  | _, _ => false

def better14 (s : List Int) (a b : Tok14) : Bool :=
  if salOf14 s a.1 = salOf14 s b.1 then
    if falling14 a.2 = falling14 b.2 then
      if a.1 = b.1 then ltL a.2 b.2 else decide (a.1 < b.1)
    else gtL (falling14 a.2) (falling14 b.2)
  else decide (salOf14 s b.1 < salOf14 s a.1)

theorem gtL_irr (p : List Int) : gtL p p = false := by
  induction p with
  | nil => rfl
  | cons x xs ih => simp [gtL, ih]

theorem gtL_tot : ∀ (p q : List Int), p ≠ q → gtL p q = !gtL q p
  | [], [], h => absurd rfl h
  | [], _ :: _, _ => rfl
  | _ :: _, [], _ => rfl
  | x :: xs, y :: ys, h => by
    by_cases hxy : x = y
    · subst hxy
      have h2 : xs ≠ ys := fun e => h (by rw [e])
      simp [gtL, gtL_tot xs ys h2]
    · have hyx : ¬ y = x := fun e => hxy e.symm
      simp only [gtL, if_neg hxy, if_neg hyx]
      by_cases h3 : y < x
      · simp [h3]; omega
      · simp [h3]; omega

theorem gtL_trans : ∀ (p q r : List Int), gtL p q = true → gtL q r = true → gtL p r = true
  | [], _, _, h, _ => by simp [gtL] at h
  | _ :: _, [], _, _, h => by simp [gtL] at h
  | _ :: _, _ :: _, [], _, _ => rfl
  | x :: xs, y :: ys, z :: zs, h1, h2 => by
    by_cases hxy : x = y
    · subst hxy
      by_cases hxz : x = z
      · subst hxz
        simp only [gtL] at *
        exact gtL_trans xs ys zs h1 h2
      · simp only [gtL, if_neg hxz] at *
        exact h2
    · by_cases hyz : y = z
      · subst hyz
        simp only [gtL, if_neg hxy] at *
        exact h1
      · simp only [gtL, if_neg hxy, if_neg hyz, decide_eq_true_eq] at *
        have : ¬ x = z := by omega
        simp only [if_neg this, decide_eq_true_eq]
        omega

theorem ltL_irr (p : List Int) : ltL p p = false := by
  induction p with
  | nil => rfl
  | cons x xs ih => simp [ltL, ih]

theorem ltL_tot : ∀ (p q : List Int), p.length = q.length → p ≠ q → ltL p q = !ltL q p
  | [], [], _, h => absurd rfl h
  | [], _ :: _, h, _ => by simp at h
  | _ :: _, [], h, _ => by simp at h
  | x :: xs, y :: ys, hl, h => by
    by_cases hxy : x = y
    · subst hxy
      have h2 : xs ≠ ys := fun e => h (by rw [e])
      simp only [ltL]
      exact ltL_tot xs ys (by simpa using hl) h2
    · have hyx : ¬ y = x := fun e => hxy e.symm
      simp only [ltL, if_neg hxy, if_neg hyx]
      by_cases h3 : y < x
      · simp [h3]; omega
      · simp [h3]; omega

theorem ltL_trans : ∀ (p q r : List Int), ltL p q = true → ltL q r = true → ltL p r = true
  | [], _, _, h, _ => by simp [ltL] at h
  | _ :: _, [], _, h, _ => by simp [ltL] at h
  | _ :: _, _ :: _, [], _, h => by simp [ltL] at h
  | x :: xs, y :: ys, z :: zs, h1, h2 => by
    by_cases hxy : x = y
    · subst hxy
      by_cases hxz : x = z
      · subst hxz
        simp only [ltL] at *
        exact ltL_trans xs ys zs h1 h2
      · simp only [ltL, if_neg hxz] at *
        exact h2
    · by_cases hyz : y = z
      · subst hyz
        simp only [ltL, if_neg hxy] at *
        exact h1
      · simp only [ltL, if_neg hxy, if_neg hyz, decide_eq_true_eq] at *
        have : ¬ x = z := by omega
        simp only [if_neg this, decide_eq_true_eq]
        omega

theorem insD_len (x : Int) (l : List Int) : (insD x l).length = l.length + 1 := by
  induction l with
  | nil => rfl
  | cons y ys ih => unfold insD; split <;> simp [ih]

theorem insD_perm (x : Int) (l : List Int) : (insD x l).Perm (x :: l) := by
  induction l with
  | nil => exact .refl _
  | cons y ys ih =>
    unfold insD; split
    · exact .refl _
    · exact (List.Perm.cons y ih).trans (List.Perm.swap x y ys)

theorem fold_perm (l out : List Int) : (l.foldl (fun out x => insD x out) out).Perm (out ++ l) := by
  induction l generalizing out with
  | nil => simp
  | cons x xs ih =>
    refine (ih _).trans ?_
    refine ((insD_perm x out).append_right xs).trans ?_
    exact List.perm_middle.symm

theorem falling_perm (l : List Int) : (falling14 l).Perm l := by
  simpa [falling14] using fold_perm l []

theorem falling_len (l : List Int) : (falling14 l).length = l.length := (falling_perm l).length_eq

def Falls (l : List Int) : Prop := l.Pairwise (fun a b => b ≤ a)

theorem insD_falls (x : Int) (l : List Int) (h : Falls l) : Falls (insD x l) := by
  induction l with
  | nil => exact List.pairwise_singleton _ _
  | cons y ys ih =>
    have h2 := List.pairwise_cons.1 h
    unfold insD; split
    · rename_i hlt
      refine List.pairwise_cons.2 ⟨fun z hz => ?_, h⟩
      rcases List.mem_cons.1 hz with rfl | hz
      · omega
      · have := h2.1 z hz; omega
    · rename_i hlt
      refine List.pairwise_cons.2 ⟨fun z hz => ?_, ih h2.2⟩
      have := (insD_perm x ys).mem_iff.1 hz
      rcases List.mem_cons.1 this with rfl | hz
      · omega
      · exact h2.1 z hz

theorem fold_falls (l out : List Int) (h : Falls out) : Falls (l.foldl (fun out x => insD x out) out) := by
  induction l generalizing out with
  | nil => exact h
  | cons x xs ih => exact ih _ (insD_falls x out h)

theorem falling_falls (l : List Int) : Falls (falling14 l) := fold_falls l [] List.Pairwise.nil

theorem falls_one : ∀ (p q : List Int), Falls p → Falls q → p.Perm q → p = q
  | [], q, _, _, h => by simpa using h.symm
  | x :: xs, [], _, _, h => by simpa using h.length_eq
  | x :: xs, y :: ys, hp, hq, h => by
    have hp2 := List.pairwise_cons.1 hp
    have hq2 := List.pairwise_cons.1 hq
    have hx : x ∈ y :: ys := h.mem_iff.1 (List.mem_cons_self ..)
    have hy : y ∈ x :: xs := h.mem_iff.2 (List.mem_cons_self ..)
    have e : x = y := by
      rcases List.mem_cons.1 hx with e | hx
      · exact e
      · rcases List.mem_cons.1 hy with e | hy
        · exact e.symm
        · have a := hp2.1 y hy
          have b := hq2.1 x hx
          omega
    subst e
    rw [falls_one xs ys hp2.2 hq2.2 (List.perm_cons x |>.1 h)]

/-- What is sorted so is the document's row. -/
theorem falls_is (p l : List Int) (h : Falls p) (hp : p.Perm l) : p = falling14 l :=
  falls_one _ _ h (falling_falls l) (hp.trans (falling_perm l).symm)

theorem better_irr (s : List Int) (a : Tok14) : better14 s a a = false := by
  simp [better14, ltL_irr]

theorem better_tot (s : List Int) (a b : Tok14) (h : a ≠ b) : better14 s a b = !better14 s b a := by
  unfold better14
  by_cases h1 : salOf14 s a.1 = salOf14 s b.1
  · by_cases h2 : falling14 a.2 = falling14 b.2
    · by_cases h3 : a.1 = b.1
      · rw [if_pos h1, if_pos h2, if_pos h3, if_pos h1.symm, if_pos h2.symm, if_pos h3.symm]
        refine ltL_tot _ _ ?_ (fun e => h (Prod.ext h3 e))
        rw [← falling_len a.2, ← falling_len b.2, h2]
      · rw [if_pos h1, if_pos h2, if_neg h3, if_pos h1.symm, if_pos h2.symm, if_neg (fun e => h3 e.symm)]
        by_cases h4 : a.1 < b.1
        · simp [h4]; omega
        · simp [h4]; omega
    · rw [if_pos h1, if_neg h2, if_pos h1.symm, if_neg (fun e => h2 e.symm)]
      exact gtL_tot _ _ h2
  · rw [if_neg h1, if_neg (fun e => h1 e.symm)]
    by_cases h4 : salOf14 s b.1 < salOf14 s a.1
    · simp [h4]; omega
    · simp [h4]; omega

theorem better_trans (s : List Int) (a b c : Tok14) (h1 : better14 s a b = true) (h2 : better14 s b c = true) : better14 s a c = true := by
  unfold better14 at *
  by_cases e1 : salOf14 s a.1 = salOf14 s b.1
  · by_cases e2 : salOf14 s b.1 = salOf14 s c.1
    · rw [if_pos e1] at h1
      rw [if_pos e2] at h2
      rw [if_pos (e1.trans e2)]
      by_cases f1 : falling14 a.2 = falling14 b.2
      · by_cases f2 : falling14 b.2 = falling14 c.2
        · rw [if_pos f1] at h1
          rw [if_pos f2] at h2
          rw [if_pos (f1.trans f2)]
          by_cases g1 : a.1 = b.1
          · by_cases g2 : b.1 = c.1
            · rw [if_pos g1] at h1
              rw [if_pos g2] at h2
              rw [if_pos (g1.trans g2)]
              exact ltL_trans _ _ _ h1 h2
            · rw [if_neg g2] at h2
              rw [if_neg (fun e => g2 (g1.symm.trans e)), g1]
              exact h2
          · rw [if_neg g1] at h1
            by_cases g2 : b.1 = c.1
            · rw [if_neg (fun e => g1 (e.trans g2.symm)), ← g2]
              exact h1
            · rw [if_neg g2] at h2
              simp only [decide_eq_true_eq] at h1 h2
              have : ¬ a.1 = c.1 := by omega
              rw [if_neg this]
              simp only [decide_eq_true_eq]
              omega
        · rw [if_neg f2] at h2
          rw [if_neg (fun e => f2 (f1.symm.trans e)), f1]
          exact h2
      · rw [if_neg f1] at h1
        by_cases f2 : falling14 b.2 = falling14 c.2
        · rw [if_neg (fun e => f1 (e.trans f2.symm)), ← f2]
          exact h1
        · rw [if_neg f2] at h2
          have h3 := gtL_trans _ _ _ h1 h2
          have : ¬ falling14 a.2 = falling14 c.2 := by
            intro e; rw [e, gtL_irr] at h3; cases h3
          rw [if_neg this]; exact h3
    · rw [if_neg e2] at h2
      rw [if_neg (fun e => e2 (e1.symm.trans e)), e1]
      exact h2
  · rw [if_neg e1] at h1
    by_cases e2 : salOf14 s b.1 = salOf14 s c.1
    · rw [if_neg (fun e => e1 (e.trans e2.symm)), ← e2]
      exact h1
    · rw [if_neg e2] at h2
      simp only [decide_eq_true_eq] at h1 h2
      have : ¬ salOf14 s a.1 = salOf14 s c.1 := by omega
      rw [if_neg this]
      simp only [decide_eq_true_eq]
      omega

/-! Plain: what is next, and what was fired. -/
def bestFold14 (s : List Int) (b : Option Tok14) (x : Tok14) : Option Tok14 :=
  match b with
  | none => some x
  | some y => if better14 s x y then some x else some y

def best14 (s : List Int) (l : List Tok14) : Option Tok14 := l.foldl (bestFold14 s) none

/-- b stands ahead of all others of a row. -/
def Ahead14 (s : List Int) (b : Tok14) (l : List Tok14) : Prop := b ∈ l ∧ ∀ x ∈ l, x ≠ b → better14 s b x = true

theorem ahead_one {s b c l} (h1 : Ahead14 s b l) (h2 : Ahead14 s c l) : b = c := by
  by_cases e : b = c
  · exact e
  · have a := h1.2 c h2.1 (fun e2 => e e2.symm)
    have d := h2.2 b h1.1 e
    rw [better_tot s b c e, d] at a
    cases a

theorem bestFold_ahead (s : List Int) (l : List Tok14) : ∀ (y : Tok14) (seen : List Tok14), Ahead14 s y seen →
    ∃ b, l.foldl (bestFold14 s) (some y) = some b ∧ Ahead14 s b (seen ++ l) := by
  induction l with
  | nil => intro y seen h; exact ⟨y, rfl, by simpa using h⟩
  | cons x xs ih =>
    intro y seen h
    by_cases hb : better14 s x y = true
    · have h2 : Ahead14 s x (seen ++ [x]) := by
        refine ⟨by simp, fun z hz hne => ?_⟩
        rcases List.mem_append.1 hz with hz | hz
        · by_cases e : z = y
          · rw [e]; exact hb
          · exact better_trans s x y z hb (h.2 z hz e)
        · exact absurd (by simpa using hz) hne
      obtain ⟨b, e, hA⟩ := ih x _ h2
      refine ⟨b, ?_, by simpa using hA⟩
      simpa [bestFold14, hb] using e
    · have h2 : Ahead14 s y (seen ++ [x]) := by
        refine ⟨by simp [h.1], fun z hz hne => ?_⟩
        rcases List.mem_append.1 hz with hz | hz
        · exact h.2 z hz hne
        · have ez : z = x := by simpa using hz
          subst ez
          rw [better_tot s y z (fun e => hne e.symm)]
          simp [hb]
      obtain ⟨b, e, hA⟩ := ih y _ h2
      refine ⟨b, ?_, by simpa using hA⟩
      simpa [bestFold14, hb] using e

theorem best_ahead (s : List Int) (l : List Tok14) (b : Tok14) (h : best14 s l = some b) : Ahead14 s b l := by
  cases l with
  | nil => simp [best14] at h
  | cons x xs =>
    have h2 : Ahead14 s x [x] := ⟨by simp, fun z hz hne => absurd (by simpa using hz) hne⟩
    obtain ⟨c, e, hA⟩ := bestFold_ahead s xs x [x] h2
    have : best14 s (x :: xs) = some c := by simpa [best14, bestFold14] using e
    rw [h] at this
    cases this
    simpa using hA

theorem best_none (s : List Int) (l : List Tok14) (h : best14 s l = none) : l = [] := by
  cases l with
  | nil => rfl
  | cons x xs =>
    have h2 : Ahead14 s x [x] := ⟨by simp, fun z hz hne => absurd (by simpa using hz) hne⟩
    obtain ⟨c, e, _⟩ := bestFold_ahead s xs x [x] h2
    have : best14 s (x :: xs) = some c := by simpa [best14, bestFold14] using e
    rw [h] at this; cases this

/-- What stands ahead of all others is what the document tells, however it is found. -/
theorem best_is (s : List Int) (l : List Tok14) (b : Tok14) (h : Ahead14 s b l) : best14 s l = some b := by
  cases e : best14 s l with
  | none => rw [best_none s l e] at h; exact absurd h.1 (by simp)
  | some c => rw [ahead_one h (best_ahead s l c e)]

def ins14 (s : List Int) (x : Tok14) : List Tok14 → List Tok14
  | [] => [x]
  | y :: ys => if better14 s y x then y :: ins14 s x ys else x :: y :: ys

def fired14 (s : List Int) (l : List Tok14) : List Tok14 := l.foldl (fun out x => ins14 s x out) []

def Row14 (s : List Int) (l : List Tok14) : Prop := l.Pairwise (fun a b => better14 s a b = true)

theorem ins_perm (s : List Int) (x : Tok14) (l : List Tok14) : (ins14 s x l).Perm (x :: l) := by
  induction l with
  | nil => exact .refl _
  | cons y ys ih =>
    unfold ins14; split
    · exact (List.Perm.cons y ih).trans (List.Perm.swap x y ys)
    · exact .refl _

theorem ins_row (s : List Int) (x : Tok14) (l : List Tok14) (h : Row14 s l) (hx : x ∉ l) : Row14 s (ins14 s x l) := by
  induction l with
  | nil => exact List.pairwise_singleton _ _
  | cons y ys ih =>
    have h2 := List.pairwise_cons.1 h
    have hne : x ≠ y := fun e => hx (by simp [e])
    have hx2 : x ∉ ys := fun e => hx (by simp [e])
    unfold ins14; split
    · rename_i hb
      refine List.pairwise_cons.2 ⟨fun z hz => ?_, ih h2.2 hx2⟩
      rcases List.mem_cons.1 ((ins_perm s x ys).mem_iff.1 hz) with rfl | hz
      · exact hb
      · exact h2.1 z hz
    · rename_i hb
      have hxy : better14 s x y = true := by
        rw [better_tot s x y hne]; simp [hb]
      refine List.pairwise_cons.2 ⟨fun z hz => ?_, h⟩
      rcases List.mem_cons.1 hz with rfl | hz
      · exact hxy
      · exact better_trans s x y z hxy (h2.1 z hz)

theorem fold_ins (s : List Int) (l : List Tok14) : ∀ out, Row14 s out → (out ++ l).Nodup →
    Row14 s (l.foldl (fun out x => ins14 s x out) out) ∧ (l.foldl (fun out x => ins14 s x out) out).Perm (out ++ l) := by
  induction l with
  | nil => intro out h _; exact ⟨h, by simp⟩
  | cons x xs ih =>
    intro out h hn
    have hp : (ins14 s x out ++ xs).Perm (out ++ x :: xs) :=
      ((ins_perm s x out).append_right xs).trans List.perm_middle.symm
    have hx : x ∉ out := by
      intro hm
      exact (List.nodup_append.1 hn).2.2 x hm x (by simp) rfl
    have h2 := ih (ins14 s x out) (ins_row s x out h hx) (hp.nodup_iff.2 hn)
    exact ⟨h2.1, h2.2.trans hp⟩

theorem fired_row (s : List Int) (l : List Tok14) (h : l.Nodup) : Row14 s (fired14 s l) :=
  (fold_ins s l [] List.Pairwise.nil (by simpa using h)).1

theorem fired_perm (s : List Int) (l : List Tok14) (h : l.Nodup) : (fired14 s l).Perm l := by
  simpa [fired14] using (fold_ins s l [] List.Pairwise.nil (by simpa using h)).2

theorem row_nodup {s l} (h : Row14 s l) : l.Nodup :=
  h.imp (fun {a b} hb e => by rw [e, better_irr] at hb; cases hb)

/-- Of some matches there is one row in which each stands ahead of the next. -/
theorem row_one (s : List Int) : ∀ (p q : List Tok14), Row14 s p → Row14 s q → p.Perm q → p = q
  | [], q, _, _, h => by simpa using h.symm
  | x :: xs, [], _, _, h => by simpa using h.length_eq
  | x :: xs, y :: ys, hp, hq, h => by
    have hp2 := List.pairwise_cons.1 hp
    have hq2 := List.pairwise_cons.1 hq
    have a : Ahead14 s x (x :: xs) := ⟨by simp, fun z hz hne => by
      rcases List.mem_cons.1 hz with e | hz
      · exact absurd e hne
      · exact hp2.1 z hz⟩
    have b : Ahead14 s y (x :: xs) := ⟨h.mem_iff.2 (by simp), fun z hz hne => by
      rcases List.mem_cons.1 (h.mem_iff.1 hz) with e | hz
      · exact absurd e hne
      · exact hq2.1 z hz⟩
    have e := ahead_one a b
    subst e
    rw [row_one s xs ys hp2.2 hq2.2 (List.perm_cons x |>.1 h)]

theorem row_fired (s : List Int) (p l : List Tok14) (h : Row14 s p) (hp : p.Perm l) : p = fired14 s l := by
  have hn : l.Nodup := hp.nodup_iff.1 (row_nodup h)
  exact row_one s _ _ h (fired_row s l hn) (hp.trans (fired_perm s l hn).symm)

/-- Of a row the first is the next one; without it the rest is one still. -/
theorem row_best (s : List Int) (x : Tok14) (xs l : List Tok14) (h : Row14 s (x :: xs)) (hp : (x :: xs).Perm l) : best14 s l = some x := by
  have h2 := List.pairwise_cons.1 h
  refine best_is s l x ⟨hp.mem_iff.1 (by simp), fun z hz hne => ?_⟩
  rcases List.mem_cons.1 (hp.mem_iff.2 hz) with e | hz
  · exact absurd e hne
  · exact h2.1 z hz

/-! How the document's loops come to these. -/
theorem row_set (o : List Int) (k : Nat) (hk : k ≤ o.length) (u y : Int) : (o.take k ++ u :: o.drop k).set k y = o.take k ++ y :: o.drop k := by
  have hl : (o.take k).length = k := by rw [List.length_take]; omega
  rw [List.set_append_right _ _ (by omega), hl, Nat.sub_self, List.set_cons_zero]

theorem row_down (o : List Int) (k : Nat) (h0 : 0 < k) (hk : k ≤ o.length) : o.take k ++ o[k - 1] :: o.drop k = o.take (k - 1) ++ o[k - 1] :: o.drop (k - 1) := by
  obtain ⟨m, rfl⟩ : ∃ m, k = m + 1 := ⟨k - 1, by omega⟩
  have hm : m < o.length := by omega
  simp only [Nat.add_sub_cancel]
  have e1 : o.take (m + 1) = o.take m ++ [o[m]] := by rw [List.take_add_one, List.getElem?_eq_getElem hm]; rfl
  have e2 : o.drop m = o[m] :: o.drop (m + 1) := List.drop_eq_getElem_cons hm
  rw [e1, e2, List.append_assoc]
  rfl

theorem insD_at (x : Int) : ∀ (o : List Int) (_ : Falls o) (k : Nat) (_ : k ≤ o.length) (_ : ∀ j, (hj : j < o.length) → k ≤ j → o[j] < x) (_ : k = 0 ∨ ∃ h : k - 1 < o.length, ¬ o[k - 1] < x), insD x o = o.take k ++ x :: o.drop k
  | [], _, k, hk, _, _ => by
    obtain rfl : k = 0 := by simpa using hk
    rfl
  | y :: ys, hF, 0, _, h1, _ => by
    have := h1 0 (by simp) (Nat.le_refl _)
    simp only [List.getElem_cons_zero] at this
    simp [insD, this]
  | y :: ys, hF, k + 1, hk, h1, h2 => by
    have hp := List.pairwise_cons.1 hF
    have hy : ¬ y < x := by
      rcases h2 with h2 | ⟨h, h2⟩
      · omega
      · simp only [Nat.add_sub_cancel] at h h2
        cases k with
        | zero => simpa using h2
        | succ k =>
          simp only [List.getElem_cons_succ] at h2
          have := hp.1 _ (List.getElem_mem (l := ys) (n := k) (by simpa using h))
          omega
    have ih := insD_at x ys hp.2 k (by simpa using hk) (fun j hj hkj => by
      have := h1 (j + 1) (by simpa using hj) (by omega)
      simpa using this) (by
      rcases h2 with h2 | ⟨h, h2⟩
      · omega
      · simp only [Nat.add_sub_cancel] at h h2
        cases k with
        | zero => exact Or.inl rfl
        | succ k =>
          refine Or.inr ⟨by simp only [List.length_cons] at h; omega, ?_⟩
          simpa using h2)
    simp [insD, hy, ih]

theorem falling_snoc (l : List Int) (x : Int) : falling14 (l ++ [x]) = insD x (falling14 l) := by
  simp [falling14, List.foldl_append]

theorem gtL_at : ∀ (p q : List Int) (i : Nat) (hp : i < p.length) (hq : i < q.length) (_ : p.take i = q.take i) (_ : p[i] ≠ q[i]), gtL p q = decide (q[i] < p[i])
  | x :: xs, y :: ys, 0, _, _, _, h => by
    simp only [List.getElem_cons_zero] at h ⊢
    simp [gtL, h]
  | x :: xs, y :: ys, i + 1, hp, hq, ht, h => by
    simp only [List.take_succ_cons, List.cons.injEq] at ht
    obtain ⟨rfl, ht⟩ := ht
    simp only [List.getElem_cons_succ] at h ⊢
    simp only [gtL, if_true]
    exact gtL_at xs ys i (by simpa using hp) (by simpa using hq) ht h

theorem gtL_end : ∀ (p q : List Int) (i : Nat) (_ : i ≤ p.length) (_ : i ≤ q.length) (_ : i = p.length ∨ i = q.length) (_ : p.take i = q.take i), gtL p q = decide (q.length < p.length) ∧ (p.length = q.length → p = q)
  | [], [], _, _, _, _, _ => ⟨rfl, fun _ => rfl⟩
  | [], y :: ys, _, _, _, _, _ => ⟨by simp [gtL], fun h => by simp at h⟩
  | x :: xs, [], _, _, _, _, _ => ⟨by simp [gtL], fun h => by simp at h⟩
  | x :: xs, y :: ys, 0, _, _, h, _ => by simp at h
  | x :: xs, y :: ys, i + 1, hp, hq, h, ht => by
    simp only [List.take_succ_cons, List.cons.injEq] at ht
    obtain ⟨rfl, ht⟩ := ht
    obtain ⟨h1, h2⟩ := gtL_end xs ys i (by simpa using hp) (by simpa using hq) (by simpa using h) ht
    refine ⟨?_, fun hl => ?_⟩
    · simp only [gtL, if_true, h1, List.length_cons]
      by_cases h3 : ys.length < xs.length
      · simp [h3]
      · simp [h3]
    · rw [h2 (by simpa using hl)]

theorem ltL_at : ∀ (p q : List Int) (i : Nat) (hp : i < p.length) (hq : i < q.length) (_ : p.take i = q.take i) (_ : p[i] ≠ q[i]), ltL p q = decide (p[i] < q[i])
  | x :: xs, y :: ys, 0, _, _, _, h => by
    simp only [List.getElem_cons_zero] at h ⊢
    simp [ltL, h]
  | x :: xs, y :: ys, i + 1, hp, hq, ht, h => by
    simp only [List.take_succ_cons, List.cons.injEq] at ht
    obtain ⟨rfl, ht⟩ := ht
    simp only [List.getElem_cons_succ] at h ⊢
    simp only [ltL, if_true]
    exact ltL_at xs ys i (by simpa using hp) (by simpa using hq) ht h

theorem ltL_end (p q : List Int) (hl : p.length = q.length) (h : p.take p.length = q.take p.length) : ltL p q = false := by
  rw [List.take_length, hl, List.take_length] at h
  rw [h, ltL_irr]
end Go.Proofs.YtlkmabnjmklkpaaDoor
