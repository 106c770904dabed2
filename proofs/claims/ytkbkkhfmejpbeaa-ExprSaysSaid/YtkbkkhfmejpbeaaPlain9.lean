/- What expressions say, as a plain function of their trees; the way through a tree, step by step. -/
import Derived.Test.YtkbkkhfmejpbeaaTree9
namespace Go.Proofs.Ytkbkkhfmejpbeaa
open Go.RowKit

def X.val (t : X) : V3 := (t.vk, t.vn, t.vs)
def ifR (v : V3) : V3 × Int := if rightB v.1 v.2.1 v.2.2 = true then (v, 0) else (zeroT, 2)
mutual
/-- What an expression says over these values, and its error. -/
def evalX (vs : List V3) : X → V3 × Int
  | .mk k a b c i o l =>
    if k = 1 then ifR (a, b, c)
    else if k = 2 then (if 0 ≤ i ∧ i < (vs.length : Int) then ifR (vs.getD i.toNat zeroT) else (zeroT, 2))
    else if k = 3 then (if (evalL vs l).2 = 0 then doV o (evalL vs l).1 else (zeroT, (evalL vs l).2))
    else (zeroT, 2)
def evalL (vs : List V3) : List X → List V3 × Int
  | [] => ([], 0)
  | k :: l => if (evalX vs k).2 = 0 then (if (evalL vs l).2 = 0 then ((evalX vs k).1 :: (evalL vs l).1, 0) else ([], (evalL vs l).2)) else ([], (evalX vs k).2)
end
theorem evalX_eq (vs : List V3) (t : X) : evalX vs t =
    if t.kind = 1 then ifR t.val
    else if t.kind = 2 then (if 0 ≤ t.var ∧ t.var < (vs.length : Int) then ifR (vs.getD t.var.toNat zeroT) else (zeroT, 2))
    else if t.kind = 3 then (if (evalL vs t.kids).2 = 0 then doV t.op (evalL vs t.kids).1 else (zeroT, (evalL vs t.kids).2))
    else (zeroT, 2) := by cases t; rw [evalX]; rfl
theorem evalL_nil (vs : List V3) : evalL vs [] = ([], 0) := by rw [evalL]
theorem evalL_cons (vs : List V3) (k : X) (l : List X) : evalL vs (k :: l) = if (evalX vs k).2 = 0 then (if (evalL vs l).2 = 0 then ((evalX vs k).1 :: (evalL vs l).1, 0) else ([], (evalL vs l).2)) else ([], (evalX vs k).2) := by rw [evalL]
theorem evalL_snoc (vs : List V3) (k : X) : ∀ (l : List X) (q : List V3), evalL vs l = (q, 0) → evalL vs (l ++ [k]) = if (evalX vs k).2 = 0 then (q ++ [(evalX vs k).1], 0) else ([], (evalX vs k).2)
  | [], q, h => by
    rw [evalL_nil] at h
    obtain rfl : q = [] := (congrArg Prod.fst h).symm
    rw [List.nil_append, evalL_cons, evalL_nil]
    simp
  | x :: l, q, h => by
    rw [evalL_cons] at h
    by_cases h1 : (evalX vs x).2 = 0
    · rw [if_pos h1] at h
      by_cases h2 : (evalL vs l).2 = 0
      · rw [if_pos h2] at h
        have hq : (evalX vs x).1 :: (evalL vs l).1 = q := congrArg Prod.fst h
        have h3 := evalL_snoc vs k l (evalL vs l).1 (Prod.ext rfl h2)
        rw [List.cons_append, evalL_cons, if_pos h1, h3]
        by_cases h4 : (evalX vs k).2 = 0
        · rw [if_pos h4, if_pos h4, if_pos rfl, ← hq]
          rfl
        · rw [if_neg h4, if_neg h4, if_neg h4]
      · rw [if_neg h2] at h
        exact absurd (congrArg Prod.snd h) h2
    · rw [if_neg h1] at h
      exact absurd (congrArg Prod.snd h) h1
/-- A fault met within a row is the row's. -/
theorem evalL_fault (vs : List V3) (k : X) (hk : (evalX vs k).2 ≠ 0) (m : List X) : ∀ (l : List X) (q : List V3), evalL vs l = (q, 0) → evalL vs (l ++ k :: m) = ([], (evalX vs k).2)
  | [], q, _ => by rw [List.nil_append, evalL_cons, if_neg hk]
  | x :: l, q, h => by
    rw [evalL_cons] at h
    by_cases h1 : (evalX vs x).2 = 0
    · rw [if_pos h1] at h
      by_cases h2 : (evalL vs l).2 = 0
      · rw [List.cons_append, evalL_cons, if_pos h1, evalL_fault vs k hk m l (evalL vs l).1 (Prod.ext rfl h2), if_neg hk]
      · rw [if_neg h2] at h
        exact absurd (congrArg Prod.snd h) h2
    · rw [if_neg h1] at h
      exact absurd (congrArg Prod.snd h) h1
theorem evalL_length (vs : List V3) : ∀ (l : List X) (q : List V3), evalL vs l = (q, 0) → q.length = l.length
  | [], q, h => by
    rw [evalL_nil] at h
    obtain rfl : q = [] := (congrArg Prod.fst h).symm
    rfl
  | x :: l, q, h => by
    rw [evalL_cons] at h
    by_cases h1 : (evalX vs x).2 = 0
    · rw [if_pos h1] at h
      by_cases h2 : (evalL vs l).2 = 0
      · rw [if_pos h2] at h
        have hq : (evalX vs x).1 :: (evalL vs l).1 = q := congrArg Prod.fst h
        rw [← hq, List.length_cons, List.length_cons, evalL_length vs l _ (Prod.ext rfl h2)]
      · rw [if_neg h2] at h
        exact absurd (congrArg Prod.snd h) h2
    · rw [if_neg h1] at h
      exact absurd (congrArg Prod.snd h) h1

theorem In64.small {n : Int} (h : n = 0 ∨ n = 1) : In64 n := by
  rcases h with rfl | rfl <;> exact ⟨by decide, by decide⟩
theorem truth_small (b : Bool) : truthN b = 0 ∨ truthN b = 1 := by cases b <;> simp [truthN]
/-- What an operator makes: a number, or nothing beside an error. -/
theorem valV_num (op : Int) (x y : V3) : (∃ n, valV op x y = (numT n, 0) ∧ In64 n) ∨ valV op x y = (zeroT, 300) := by
  unfold valV
  repeat' split
  all_goals first
    | exact Or.inr rfl
    | exact Or.inl ⟨_, rfl, In64.small (truth_small _)⟩
    | exact Or.inl ⟨_, rfl, In64.of_fit (by assumption)⟩
theorem doV_num (op : Int) (l : List V3) : (∃ n, doV op l = (numT n, 0) ∧ In64 n) ∨ ∃ e, doV op l = (zeroT, e) ∧ e ≠ 0 := by
  unfold doV
  split
  · exact Or.inr ⟨_, rfl, by decide⟩
  split
  · exact Or.inr ⟨_, rfl, by decide⟩
  split
  · exact Or.inr ⟨_, rfl, by decide⟩
  split
  · exact Or.inr ⟨_, rfl, by decide⟩
  rcases valV_num op (l.headD zeroT) (l.getLastD zeroT) with h | h
  · exact Or.inl h
  · exact Or.inr ⟨300, h, by decide⟩
theorem right_kind {k n : Int} {s : ByteArray} (h : rightB k n s = true) : k ≠ 0 := by
  rintro rfl
  simp [rightB] at h
theorem ifR_kind (v : V3) : ((ifR v).2 = 0 ∧ (ifR v).1 = v ∧ v.1 ≠ 0) ∨ ifR v = (zeroT, 2) := by
  unfold ifR
  split
  · exact Or.inl ⟨rfl, rfl, right_kind (by assumption)⟩
  · exact Or.inr rfl

/-- Values that a machine can hold: an expression's own, and all that are in it. -/
def Fine1 (v : V3) : Prop := In64 v.2.1 ∧ v.2.2.size ≤ maxLen
theorem fine_zero : Fine1 zeroT := ⟨⟨by decide, by decide⟩, by show 0 ≤ maxLen; unfold maxLen; omega⟩
theorem fine_numT {n : Int} (h : In64 n) : Fine1 (numT n) := ⟨h, by show 0 ≤ maxLen; unfold maxLen; omega⟩
inductive Held : X → Prop
  | mk (t : X) (h : Fine1 t.val) (hi : In64 t.var) (hp : ∀ k, k ∈ t.kids → Held k) : Held t
theorem Held.val {t : X} (h : Held t) : Fine1 t.val := by cases h; assumption
theorem Held.var {t : X} (h : Held t) : In64 t.var := by cases h; assumption
theorem Held.kid {t k : X} (h : Held t) (hk : k ∈ t.kids) : Held k := by cases h with | mk _ _ _ hp => exact hp k hk

/-- What is said is a value with a kind that can be held; beside an error nothing is. -/
theorem eval_what (vs : List V3) (hv : ∀ x, x ∈ vs → Fine1 x) (t : X) (h : Held t) : ((evalX vs t).2 = 0 ∧ (evalX vs t).1.1 ≠ 0 ∧ Fine1 (evalX vs t).1) ∨ ((evalX vs t).2 ≠ 0 ∧ (evalX vs t).1 = zeroT) := by
  rw [evalX_eq]
  split
  · rcases ifR_kind t.val with ⟨h1, h2, h3⟩ | h1
    · exact Or.inl ⟨h1, by rw [h2]; exact h3, by rw [h2]; exact h.val⟩
    · rw [h1]; exact Or.inr ⟨by decide, rfl⟩
  split
  · split
    · rename_i hr
      have hf : Fine1 (vs.getD t.var.toNat zeroT) := by
        rw [List.getD_eq_getElem?_getD, List.getElem?_eq_getElem (by omega)]
        exact hv _ (List.getElem_mem _)
      rcases ifR_kind (vs.getD t.var.toNat zeroT) with ⟨h1, h2, h3⟩ | h1
      · exact Or.inl ⟨h1, by rw [h2]; exact h3, by rw [h2]; exact hf⟩
      · rw [h1]; exact Or.inr ⟨by decide, rfl⟩
    · exact Or.inr ⟨by decide, rfl⟩
  split
  · split
    · rcases doV_num t.op (evalL vs t.kids).1 with ⟨n, h1, h2⟩ | ⟨e, h1, h2⟩
      · rw [h1]; exact Or.inl ⟨rfl, by show (1 : Int) ≠ 0; decide, fine_numT h2⟩
      · rw [h1]; exact Or.inr ⟨h2, rfl⟩
    · exact Or.inr ⟨by assumption, rfl⟩
  · exact Or.inr ⟨by decide, rfl⟩
theorem evalL_fine (vs : List V3) (hv : ∀ x, x ∈ vs → Fine1 x) : ∀ (l : List X) (q : List V3), (∀ k, k ∈ l → Held k) → evalL vs l = (q, 0) → Fine q
  | [], q, _, h => by
    rw [evalL_nil] at h
    obtain rfl : q = [] := (congrArg Prod.fst h).symm
    intro x hx
    cases hx
  | x :: l, q, hl, h => by
    rw [evalL_cons] at h
    by_cases h1 : (evalX vs x).2 = 0
    · rw [if_pos h1] at h
      by_cases h2 : (evalL vs l).2 = 0
      · rw [if_pos h2] at h
        have hq : (evalX vs x).1 :: (evalL vs l).1 = q := congrArg Prod.fst h
        subst hq
        intro y hy
        rcases List.mem_cons.1 hy with rfl | hy
        · rcases eval_what vs hv x (hl x (List.mem_cons_self ..)) with ⟨_, _, h3⟩ | ⟨h3, _⟩
          · exact h3
          · exact absurd h1 h3
        · exact evalL_fine vs hv l _ (fun k hk => hl k (List.mem_cons_of_mem _ hk)) (Prod.ext rfl h2) y hy
      · rw [if_neg h2] at h
        exact absurd (congrArg Prod.snd h) h2
    · rw [if_neg h1] at h
      exact absurd (congrArg Prod.snd h) h1

/-- A step on the way: where the operation stands, what it is, how many of its kids were asked. -/
structure Frm where
  a : Addr
  t : X
  n : Nat
/-- c is being asked, for those on the way (the last one first); this was said before it. -/
inductive Wait (vs : List V3) (t0 : X) (sd0 : List V3) : X → List Frm → List V3 → Prop
  | base : Wait vs t0 sd0 t0 [] sd0
  | step (a : Addr) (t c : X) (m : Nat) (rest : List Frm) (pre q : List V3) (hk : t.kids[m]? = some c) (h3 : t.kind = 3) (he : evalL vs (t.kids.take m) = (q, 0)) (h : Wait vs t0 sd0 t rest pre) : Wait vs t0 sd0 c (⟨a, t, m + 1⟩ :: rest) (pre ++ q)
theorem Wait.err {vs : List V3} {t0 c : X} {sd0 sd : List V3} {ws : List Frm} (h : Wait vs t0 sd0 c ws sd) (hc : (evalX vs c).2 ≠ 0) (hz : evalX vs c = (zeroT, (evalX vs c).2)) : evalX vs t0 = (zeroT, (evalX vs c).2) := by
  induction h with
  | base => exact hz
  | step a t c m rest pre q hk h3 he _ ih =>
    obtain ⟨hm, rfl⟩ := List.getElem?_eq_some_iff.1 hk
    have hl : evalL vs t.kids = ([], (evalX vs t.kids[m]).2) := by
      have := evalL_fault vs t.kids[m] hc (t.kids.drop (m + 1)) _ q he
      rwa [← List.drop_eq_getElem_cons hm, List.take_append_drop] at this
    have ht : evalX vs t = (zeroT, (evalX vs t.kids[m]).2) := by
      rw [evalX_eq, if_neg (by rw [h3]; decide), if_neg (by rw [h3]; decide), if_pos h3, hl, if_neg hc]
    have := ih (by rw [ht]; exact hc) (by rw [ht])
    rw [this, ht]
theorem Wait.size {vs : List V3} {t0 c : X} {sd0 sd : List V3} {ws : List Frm} (h : Wait vs t0 sd0 c ws sd) : ∀ f, f ∈ ws → SizeOf.sizeOf c < SizeOf.sizeOf f.t := by
  induction h with
  | base => intro f hf; cases hf
  | step a t c m rest pre q hk h3 he _ ih =>
    intro f hf
    have h1 : SizeOf.sizeOf c < SizeOf.sizeOf t := X.lt_kids (List.mem_of_getElem? hk)
    rcases List.mem_cons.1 hf with rfl | hf
    · exact h1
    · have := ih f hf
      omega
/-- Between two steps: it is through, or the last one on the way has asked some of its kids. -/
inductive Going (vs : List V3) (t0 : X) (sd0 : List V3) : List Frm → List V3 → Prop
  | out (v : V3) (h : evalX vs t0 = (v, 0)) : Going vs t0 sd0 [] (sd0 ++ [v])
  | on (a : Addr) (t : X) (n : Nat) (rest : List Frm) (pre q : List V3) (hn : n ≤ t.kids.length) (h3 : t.kind = 3) (he : evalL vs (t.kids.take n) = (q, 0)) (h : Wait vs t0 sd0 t rest pre) : Going vs t0 sd0 (⟨a, t, n⟩ :: rest) (pre ++ q)
theorem Wait.said {vs : List V3} {t0 c : X} {sd0 sd : List V3} {ws : List Frm} {v : V3} (h : Wait vs t0 sd0 c ws sd) (hc : evalX vs c = (v, 0)) : Going vs t0 sd0 ws (sd ++ [v]) := by
  cases h with
  | base => exact .out v hc
  | step a t c m rest pre q hk h3 he h =>
    obtain ⟨hm, rfl⟩ := List.getElem?_eq_some_iff.1 hk
    rw [List.append_assoc]
    refine .on a t (m + 1) rest pre (q ++ [v]) hm h3 ?_ h
    have := evalL_snoc vs t.kids[m] _ q he
    rw [hc, if_pos rfl] at this
    rw [List.take_add_one, List.getElem?_eq_getElem hm]
    exact this
theorem Wait.push {vs : List V3} {t0 c : X} {sd0 sd : List V3} {ws : List Frm} (h : Wait vs t0 sd0 c ws sd) (h3 : c.kind = 3) (a : Addr) : Going vs t0 sd0 (⟨a, c, 0⟩ :: ws) sd := by
  have := Going.on a c 0 ws sd [] (Nat.zero_le _) h3 (by rw [List.take_zero, evalL_nil]) h
  rwa [List.append_nil] at this

mutual
def X.wt : X → Nat
  | .mk _ _ _ _ _ _ l => 1 + wtL l
def wtL : List X → Nat
  | [] => 0
  | k :: l => 1 + k.wt + wtL l
end
theorem X.wt_eq (t : X) : t.wt = 1 + wtL t.kids := by cases t; rw [X.wt]; rfl
theorem wtL_drop {l : List X} {n : Nat} {c : X} (h : l[n]? = some c) : wtL (l.drop n) = 1 + c.wt + wtL (l.drop (n + 1)) := by
  obtain ⟨hn, rfl⟩ := List.getElem?_eq_some_iff.1 h
  rw [List.drop_eq_getElem_cons hn, wtL]
/-- How many steps are to come at most. -/
def muF : List Frm → Nat
  | [] => 0
  | f :: l => 1 + wtL (f.t.kids.drop f.n) + muF l
end Go.Proofs.Ytkbkkhfmejpbeaa
