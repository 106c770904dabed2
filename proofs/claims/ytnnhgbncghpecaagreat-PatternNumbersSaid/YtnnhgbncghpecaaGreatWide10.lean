/- PatternFills: an env that has a variable more. -/
import Derived.Test.YtnnhgbncghpecaaGreatAwake10
import Derived.Test.YtnnhgbncghpecaaGreatKit10
import Derived.Test.YtnnhgbncghpecaaGreatMaps10
import Derived.Orders
namespace Go.Proofs.YtnnhgbncghpecaaGreat
open Go.RowKit

/-- What is known when a fact matched. -/
theorem firstB_known {c : C10} {f : F10} {e e' : E10} (h : firstB c [f] e = some e') : madeP e = true ∧ (c.kind = 1 ∨ c.kind = 2) ∧ f.type = c.type ∧ f.args.length = c.args.length ∧ fitsP (c.args.zip f.args) e = some e' := by
  obtain ⟨hm, hh⟩ := firstB_one h
  unfold firstB at h
  split at h
  · rename_i h1
    rw [Bool.and_eq_true, Bool.or_eq_true, decide_eq_true_eq, decide_eq_true_eq] at h1
    unfold hit10 at hh
    split at hh
    · rename_i h2
      rw [Bool.and_eq_true, decide_eq_true_eq, decide_eq_true_eq] at h2
      exact ⟨hm, h1.1, h2.1, h2.2, hh⟩
    · cases hh
  · cases h
theorem firstB_of {c : C10} {f : F10} {e e' : E10} (hm : madeP e = true) (hk : c.kind = 1 ∨ c.kind = 2) (ht : f.type = c.type) (hl : f.args.length = c.args.length) (hf : fitsP (c.args.zip f.args) e = some e') : firstB c [f] e = some e' := by
  unfold firstB
  rw [if_pos]
  · rw [first10]
    have : hit10 c.type c.args e f = some e' := by
      unfold hit10
      rw [if_pos (by simp [ht, hl])]
      exact hf
    rw [this]
  · rw [Bool.and_eq_true, Bool.or_eq_true, decide_eq_true_eq, decide_eq_true_eq]
    exact ⟨hk, hm⟩
theorem made_iff {e : E10} : madeP e = true ↔ e.1.length = e.2.length ∧ ∀ j, j < e.1.length → made1 (e.1.getD j false, e.2.getD j zeroT) = true := by
  constructor
  · intro h
    have hl := (made_even h).2.symm
    refine ⟨hl, fun j hj => ?_⟩
    cases hb : made1 (e.1.getD j false, e.2.getD j zeroT) with
    | true => rfl
    | false => rw [made_bad hj hb] at h; cases h
  · exact fun h => made_good h.1 h.2
theorem fit1_made {a : A10} {v : V3} {e e' : E10} (h : fit1 a v e = some e') (hm : madeP e = true) : madeP e' = true := by
  rcases fit1_some h with ⟨-, rfl⟩ | ⟨-, k, -, hk, rfl⟩ | ⟨-, rfl, -⟩ | ⟨-, rfl, -⟩
  · exact hm
  · obtain ⟨h1, h2⟩ := made_iff.1 hm
    refine made_iff.2 ⟨by simp [bind10, h1], fun j hj => ?_⟩
    have hj' : j < e.1.length := by simpa [bind10] using hj
    by_cases hkj : k = j
    · subst hkj
      simp [bind10, List.getD_eq_getElem?_getD, hk, made1]
    · have e1 : (bind10 k v e).1.getD j false = e.1.getD j false := by simp [bind10, List.getD_eq_getElem?_getD, hkj]
      have e2 : (bind10 k v e).2.getD j zeroT = e.2.getD j zeroT := by simp [bind10, List.getD_eq_getElem?_getD, hkj]
      rw [e1, e2]
      exact h2 j hj'
  · exact hm
  · exact hm
theorem fitsP_made {l : List (A10 × V3)} : ∀ {e e' : E10}, fitsP l e = some e' → madeP e = true → madeP e' = true := by
  induction l with
  | nil => intro e e' h he; exact Option.some.inj h ▸ he
  | cons p l ih =>
    intro e e' h he
    rw [fitsP] at h
    split at h
    · exact ih h (fit1_made (by assumption) he)
    · cases h
theorem made_wide {e : E10} (h : madeP e = true) (v : V3) : madeP (e.1 ++ [true], e.2 ++ [v]) = true := by
  obtain ⟨h1, h2⟩ := made_iff.1 h
  refine made_iff.2 ⟨by simp [h1], fun j hj => ?_⟩
  rcases Nat.lt_or_ge j e.1.length with hlt | hge
  · have := h2 j hlt
    rw [List.getD_eq_getElem?_getD, List.getD_eq_getElem?_getD, List.getElem?_append_left hlt, List.getElem?_append_left (by omega)]
    rw [List.getD_eq_getElem?_getD, List.getD_eq_getElem?_getD] at this
    exact this
  · have hj' : j = e.1.length := by
      simp at hj
      omega
    subst hj'
    simp [List.getD_eq_getElem?_getD, made1]
/-- Matched once more. -/
theorem firstB_again {c : C10} {f : F10} {e e' : E10} (h : firstB c [f] e = some e') (hl : late10 c.args = false) : firstB c [f] e' = some e' := by
  obtain ⟨hm, hk, ht, hlen, hf⟩ := firstB_known h
  refine firstB_of (fitsP_made hf hm) hk ht hlen (fits_again (made_even hm) hf ?_)
  rw [List.map_fst_zip (by omega)]
  exact hl
/-- Under an env that has a variable more. -/
theorem firstB_wide {c : C10} {f : F10} {e e' : E10} (h : firstB c [f] e = some e') (v : V3) : firstB c [f] (e.1 ++ [true], e.2 ++ [v]) = some (e'.1 ++ [true], e'.2 ++ [v]) := by
  obtain ⟨hm, hk, ht, hlen, hf⟩ := firstB_known h
  exact firstB_of (made_wide hm v) hk ht hlen (fits_wide v (made_even hm) hf)

/-- Is a variable asked for ahead? -/
def asked10 (l : List A10) (x : Int) : Bool := l.any fun a => decide (a.kind = 3) && decide (a.var = x)
theorem asked_snoc (l : List A10) (a : A10) (x : Int) : asked10 (l ++ [a]) x = (asked10 l x || (decide (a.kind = 3) && decide (a.var = x))) := by simp [asked10]
theorem late_snoc (a : A10) : ∀ l : List A10, late10 (l ++ [a]) = (late10 l || (decide (a.kind = 2) && asked10 l a.var))
  | [] => by simp [late10, asked10]
  | b :: l => by
    have e1 : asked10 (b :: l) a.var = ((decide (b.kind = 3) && decide (b.var = a.var)) || asked10 l a.var) := by simp [asked10]
    rw [List.cons_append, late10, late10, late_snoc a l, e1, List.any_append]
    simp only [List.any_cons, List.any_nil, Bool.or_false]
    have e2 : decide (a.var = b.var) = decide (b.var = a.var) := by
      by_cases h : a.var = b.var
      · simp [h]
      · have h' : ¬ b.var = a.var := fun e => h e.symm
        simp [h, h']
    rw [e2]
    cases decide (b.kind = 3) <;> cases decide (a.kind = 2) <;> cases decide (b.var = a.var) <;> cases l.any (fun c => decide (c.kind = 2) && decide (c.var = b.var)) <;> cases late10 l <;> cases asked10 l a.var <;> rfl
/-- What the maps tell. -/
def lastF (l : List (A10 × V3)) (x : Int) : Option Value := (lastP 0 l x).map fun k => .int .i64 (k : Nat)
def askedF (l : List A10) (x : Int) : Option Value := if asked10 l x = true then some (.bool true) else none
theorem lastF_snoc (l : List (A10 × V3)) (p : A10 × V3) : lastF (l ++ [p]) = fun x => if p.1.kind = 2 ∧ p.1.var = x then some (.int .i64 (l.length : Nat)) else lastF l x := by
  funext x
  unfold lastF
  rw [lastP_snoc]
  split
  · simp
  · rfl
theorem askedF_snoc (l : List A10) (a : A10) : askedF (l ++ [a]) = fun x => if a.kind = 3 ∧ a.var = x then some (.bool true) else askedF l x := by
  funext x
  unfold askedF
  rw [asked_snoc]
  by_cases h : a.kind = 3 ∧ a.var = x
  · rw [if_pos h]
    simp [h.1, h.2]
  · rw [if_neg h]
    have : (decide (a.kind = 3) && decide (a.var = x)) = false := by
      rw [Bool.and_eq_false_imp]
      intro h1
      exact decide_eq_false fun h2 => h ⟨of_decide_eq_true h1, h2⟩
    rw [this, Bool.or_false]

/-- Only two maps turn, and new blocks. -/
structure LFr (m1 m2 : Nat) (w0 w : World) : Prop where
  os : w.os = w0.os
  tape : w.tape = w0.tape
  output : w.output = w0.output
  size : w0.heap.size ≤ w.heap.size
  block : ∀ k, k < w0.heap.size → k ≠ m1 → k ≠ m2 → w.heap[k]? = w0.heap[k]?
theorem LFr.refl (m1 m2 : Nat) (w : World) : LFr m1 m2 w w := ⟨rfl, rfl, rfl, Nat.le_refl _, fun _ _ _ _ => rfl⟩
theorem LFr.grown {m1 m2 g : Nat} {a b c : World} (h : LFr m1 m2 a b) (k : b.grownBy c (some g)) (hg : g = m1 ∨ g = m2) : LFr m1 m2 a c :=
  ⟨k.os.trans h.os, k.tape.trans h.tape, k.output.trans h.output, Nat.le_trans h.size k.size, fun i hi h1 h2 => (k.block i (Nat.lt_of_lt_of_le hi h.size) (fun e => by
    obtain rfl := Option.some.inj e
    rcases hg with hg | hg
    · exact h1 hg
    · exact h2 hg)).trans (h.block i hi h1 h2)⟩
theorem LFr.alloc {m1 m2 : Nat} {a b : World} (h : LFr m1 m2 a b) (o : Obj) : LFr m1 m2 a (b.alloc o) :=
  ⟨h.os, h.tape, h.output, by have := h.size; simp; omega, fun i hi h1 h2 => ((below_own (w := b) o).block i (Nat.lt_of_lt_of_le hi h.size)).trans (h.block i hi h1 h2)⟩
theorem LFr.drewN {m1 m2 : Nat} {a b : World} (h : LFr m1 m2 a b) (n : Nat) : LFr m1 m2 a (b.drewN n) := ⟨h.os, h.tape, h.output, h.size, h.block⟩
theorem LFr.below {m1 m2 B : Nat} {a b : World} (h : LFr m1 m2 a b) (h1 : B ≤ m1) (h2 : B ≤ m2) (hB : B ≤ a.heap.size) : Below B a b :=
  ⟨h.os, h.tape, h.output, h.size, fun k hk => h.block k (by omega) (by omega) (by omega)⟩
theorem LFr.cells {m1 m2 k : Nat} {a b : World} {cs : Array Value} {t : TypeId} {fz : Nat × Nat} {f1 f2 : Int → Option Value} (h : LFr m1 m2 a b) (hk : a.heap[k]? = some (.cells cs t fz)) (q1 : IMap a m1 f1) (q2 : IMap a m2 f2) : b.heap[k]? = some (.cells cs t fz) := by
  refine (h.block k (lt_of_heap hk) ?_ ?_).trans hk
  · rintro rfl
    obtain ⟨l, es, cl, q, -⟩ := q1
    rw [hk] at q
    cases q
  · rintro rfl
    obtain ⟨l, es, cl, q, -⟩ := q2
    rw [hk] at q
    cases q
end Go.Proofs.YtnnhgbncghpecaaGreat

namespace Go.Proofs.YtnnhgbncghpecaaGreat
open Go.RowKit

/-- What came in. -/
structure Came10 (w : World) (c : C10) (ao : Option Addr) (ac : Nat) (f : F10) (fo : Option Addr) (fc : Nat) (e0 : E10) (ho : Option Addr) (hc : Nat) (vo : Option Addr) (vc : Nat) (v : V3) : Prop where
  args : Sl10 w.heap.size w c.args.length ao ac (cellsA c.args)
  fact : Sl10 w.heap.size w f.args.length fo fc (cellsV f.args)
  env : Env10 w.heap.size w e0 ho hc vo vc
  short1 : Short10 f.args
  short2 : Short10 e0.2
  short3 : v.2.2.size ≤ 140737488355328
  vars : ∀ a, a ∈ c.args → In64 a.var
section
variable {w : World} {c : C10} {ao : Option Addr} {ac : Nat} {xo : Option Addr} {xc : Nat} {f : F10} {fo : Option Addr} {fc : Nat} {e0 : E10} {ho : Option Addr} {hc : Nat} {vo : Option Addr} {vc : Nat} {v : V3}
def FillsP (w : World) (r : Ending) (w' : World) : Prop := r = .returned (.bool true) ∧ Below w.heap.size w w'

end
end Go.Proofs.YtnnhgbncghpecaaGreat

namespace Go.Proofs.YtnnhgbncghpecaaGreat
open Go.RowKit

section
variable {w : World} {c : C10} {ao : Option Addr} {ac : Nat} {xo : Option Addr} {xc : Nat} {f : F10} {fo : Option Addr} {fc : Nat} {e0 : E10} {ho : Option Addr} {hc : Nat} {vo : Option Addr} {vc : Nat} {v : V3}
/-- Match, at any world behind the call's beginning, under any env. -/
theorem Came10.tells (h : Came10 w c ao ac f fo fc e0 ho hc vo vc v) (xo : Option Addr) (xc : Nat) (W : World) (hW : Below w.heap.size w W) (e : E10) (h1 : Option Addr) (c1 : Nat) (h2 : Option Addr) (c2 : Nat) (he : Env10 W.heap.size W e h1 c1 h2 c2) (hn : e.1.length ≤ 100000) (hs : Short10 e.2) :
    Calls Tryz.prog 10 #[aggC c ao ac xo xc, aggF f fo fc, aggE e h1 c1 h2 c2] W (MatchP (firstB c [f] e) W) :=
  match_any c ao ac xo xc f fo fc e h1 c1 h2 c2 W (h.args.up hW hW.size) (h.fact.up hW hW.size) he hn hs h.short1

theorem grown_other {w w' : World} {g k a b : Nat} (h : w.grownBy w' (Value.ownBlock (.slice (some ⟨g, 0, none⟩) a b))) (hk : k < w.heap.size) (hne : k ≠ g) : w'.heap[k]? = w.heap[k]? := h.block k hk (fun e => hne (Option.some.inj e))
theorem own_mk {base : Nat} {W : World} {e : E10} {n m : Nat} {a1 a2 : Option Addr} {d1 d2 : Nat} (hn : n = e.1.length) (hm : m = e.2.length) (h1 : W.ownsRow base 4 1 (.slice a1 n d1) n (cellsB e.1)) (h2 : W.ownsRow base 27 3 (.slice a2 m d2) m (cellsV e.2)) : Own10 base W e (.slice a1 n d1) (.slice a2 m d2) := by
  subst hn
  subst hm
  exact ⟨h1, h2⟩
end
end Go.Proofs.YtnnhgbncghpecaaGreat

namespace Go.Proofs.YtnnhgbncghpecaaGreat
open Go.RowKit

theorem zip_get {cl : List A10} {fl : List V3} (hl : fl.length = cl.length) {j : Nat} (hj : j < cl.length) : (cl.zip fl)[j]? = some (cl[j], fl.getD j zeroT) := by
  rw [List.getElem?_eq_getElem (by rw [List.length_zip, hl, Nat.min_self]; exact hj), List.getElem_zip, List.getD_eq_getElem?_getD, List.getElem?_eq_getElem (by omega)]
  rfl
/-- What a round of the first loop finds. -/
theorem round10 {cl : List A10} {fl : List V3} {e0 en : E10} {n : Nat} (he : Even n e0) (hl : fl.length = cl.length) (hf : fitsP (cl.zip fl) e0 = some en) {j : Nat} (hj : j < cl.length) :
    cl[j].kind = 1 ∨ cl[j].kind = 2 ∨ (cl[j].kind = 3 ∧ ∃ k : Nat, cl[j].var = k ∧ k < n ∧ ((∃ i, lastP 0 ((cl.zip fl).take j) k = some i ∧ i < cl.length ∧ fl.getD i zeroT = fl.getD j zeroT) ∨ (lastP 0 ((cl.zip fl).take j) k = none ∧ e0.1.getD k false = true ∧ e0.2.getD k zeroT = fl.getD j zeroT))) ∨ (cl[j].kind = 4 ∧ cl[j].val = fl.getD j zeroT) := by
  have hz : j < (cl.zip fl).length := by rw [List.length_zip, hl, Nat.min_self]; exact hj
  have hzj : (cl.zip fl)[j] = (cl[j], fl.getD j zeroT) := by
    have := zip_get hl hj
    rw [List.getElem?_eq_getElem hz] at this
    exact Option.some.inj this
  obtain ⟨e1, h1, h2⟩ := fitsP_at hf j
  have hT := told_at he j (by omega) e1 h1
  have hE := fitsP_even h1 he
  rw [← List.getElem_cons_drop (h := hz), fitsP, hzj] at h2
  split at h2
  · rename_i e2 h3
    rcases fit1_some h3 with ⟨hk, -⟩ | ⟨hk, -⟩ | ⟨hk, -, k, hv, hlt, h4, h5⟩ | ⟨hk, -, h5⟩
    · exact Or.inl hk
    · exact Or.inr (Or.inl hk)
    · refine Or.inr (Or.inr (Or.inl ⟨hk, k, hv, hE.1 ▸ hlt, ?_⟩))
      have h5 : e1.2.getD k zeroT = fl.getD j zeroT := (eqvB_iff _ _).1 h5
      cases hb : lastP 0 ((cl.zip fl).take j) (k : Int) with
      | none =>
        obtain ⟨q1, q2⟩ := (hT k).2 hb
        refine Or.inr ⟨rfl, ?_, ?_⟩
        · rw [List.getD_eq_getElem?_getD, ← q1, ← List.getD_eq_getElem?_getD]; exact h4
        · rw [List.getD_eq_getElem?_getD, ← q2, ← List.getD_eq_getElem?_getD]; exact h5
      | some i =>
        obtain ⟨p, hp, q1, q2⟩ := (hT k).1 i hb
        have hil := (lastP_lt hb).2
        rw [List.length_take] at hil
        have hic : i < cl.length := by omega
        refine Or.inl ⟨i, rfl, hic, ?_⟩
        rw [List.getElem?_take, if_pos (by omega), zip_get hl hic] at hp
        have h6 : p.2 = fl.getD j zeroT := by
          rw [← h5, List.getD_eq_getElem?_getD (l := e1.2), q2]
          rfl
        have h7 : fl.getD i zeroT = p.2 := congrArg Prod.snd (Option.some.inj hp)
        exact h7.trans h6
    · exact Or.inr (Or.inr (Or.inr ⟨hk, (eqvB_iff _ _).1 h5⟩))
  · cases h2
/-- What a round of the second loop finds. -/
theorem round10b {cl : List A10} {fl : List V3} {e0 en : E10} {n : Nat} (he : Even n e0) (hl : fl.length = cl.length) (hf : fitsP (cl.zip fl) e0 = some en) (k : Nat) :
    (∃ i, lastP 0 (cl.zip fl) k = some i ∧ i < cl.length ∧ en.1.getD k false = true ∧ en.2.getD k zeroT = fl.getD i zeroT) ∨ (lastP 0 (cl.zip fl) k = none ∧ en.1.getD k false = e0.1.getD k false ∧ en.2.getD k zeroT = e0.2.getD k zeroT) := by
  have hT : Told10 (cl.zip fl) e0 en := by
    have := told_at he (cl.zip fl).length (Nat.le_refl _) en (by rw [List.take_length]; exact hf)
    rwa [List.take_length] at this
  cases hb : lastP 0 (cl.zip fl) (k : Int) with
  | none =>
    obtain ⟨q1, q2⟩ := (hT k).2 hb
    exact Or.inr ⟨rfl, by rw [List.getD_eq_getElem?_getD, q1, ← List.getD_eq_getElem?_getD], by rw [List.getD_eq_getElem?_getD, q2, ← List.getD_eq_getElem?_getD]⟩
  | some i =>
    obtain ⟨p, hp, q1, q2⟩ := (hT k).1 i hb
    have hil := (lastP_lt hb).2
    rw [List.length_zip, hl, Nat.min_self] at hil
    have hic : i < cl.length := by omega
    rw [zip_get hl hic] at hp
    refine Or.inl ⟨i, rfl, hic, by rw [List.getD_eq_getElem?_getD, q1]; rfl, ?_⟩
    have h7 : fl.getD i zeroT = p.2 := congrArg Prod.snd (Option.some.inj hp)
    rw [h7, List.getD_eq_getElem?_getD, q2]
    rfl
/-- What the maps tell behind a round. -/
theorem late_take {cl : List A10} {j : Nat} (hj : j < cl.length) : late10 (cl.take (j + 1)) = (late10 (cl.take j) || (decide (cl[j].kind = 2) && asked10 (cl.take j) cl[j].var)) := by
  rw [take_snoc cl j hj, late_snoc]
theorem lastF_take {cl : List A10} {fl : List V3} (hl : fl.length = cl.length) {j : Nat} (hj : j < cl.length) : lastF ((cl.zip fl).take (j + 1)) = fun x => if cl[j].kind = 2 ∧ cl[j].var = x then some (.int .i64 (j : Nat)) else lastF ((cl.zip fl).take j) x := by
  have hz : j < (cl.zip fl).length := by rw [List.length_zip, hl, Nat.min_self]; exact hj
  rw [take_snoc _ j hz, lastF_snoc, List.getElem_zip, List.length_take, Nat.min_eq_left (by omega)]
theorem askedF_take {cl : List A10} {j : Nat} (hj : j < cl.length) : askedF (cl.take (j + 1)) = fun x => if cl[j].kind = 3 ∧ cl[j].var = x then some (.bool true) else askedF (cl.take j) x := by
  rw [take_snoc cl j hj, askedF_snoc]
theorem asked_get (l : List A10) (x : Int) : (askedF l x).getD (.bool false) = .bool (asked10 l x) := by
  unfold askedF
  cases asked10 l x <;> rfl
end Go.Proofs.YtnnhgbncghpecaaGreat

namespace Go.Proofs.YtnnhgbncghpecaaGreat
open Go.RowKit

section
variable {P : Program} {ops : Array Oper} {Q : Exit → Act → World → Prop} {md : Region.Mode}

/-- How many operations are still to come. -/
def toCome (ops : Array Oper) (listed : Array Bool) : Nat := ((List.range ops.size).filter fun j => !listed.getD j true).length
theorem toCome_set {listed : Array Bool} {i : Nat} (hi : i < ops.size) (h : listed.getD i true = false) : toCome ops (listed.setIfInBounds i true) < toCome ops listed := by
  have gen : ∀ l : List Nat, (∀ j, j ∈ l → j ≠ i) → (l.filter fun j => !(listed.setIfInBounds i true).getD j true) = l.filter fun j => !listed.getD j true := by
    intro l hl
    apply List.filter_congr
    intro j hj
    rw [getD_set_ne true (hl j hj).symm]
  have own : (listed.setIfInBounds i true).getD i true = true := by
    by_cases hs : i < listed.size
    · simp [hs]
    · simp [hs]
  have le : ∀ l : List Nat, (l.filter fun j => !(listed.setIfInBounds i true).getD j true).length ≤ (l.filter fun j => !listed.getD j true).length := by
    intro l
    induction l with
    | nil => exact Nat.le_refl _
    | cons j l ih =>
      by_cases hj : i = j
      · subst hj
        rw [List.filter_cons_of_neg (by rw [own]; simp), List.filter_cons_of_pos (by rw [h]; rfl), List.length_cons]
        omega
      · rw [List.filter_cons, List.filter_cons, getD_set_ne true hj]
        split
        · simp only [List.length_cons]
          omega
        · omega
  have lt : ∀ l : List Nat, i ∈ l → (l.filter fun j => !(listed.setIfInBounds i true).getD j true).length < (l.filter fun j => !listed.getD j true).length := by
    intro l
    induction l with
    | nil => intro hm; cases hm
    | cons j l ih =>
      intro hm
      by_cases hj : i = j
      · subst hj
        rw [List.filter_cons_of_neg (by rw [own]; simp), List.filter_cons_of_pos (by rw [h]; rfl), List.length_cons]
        have := le l
        omega
      · have := ih ((List.mem_cons.1 hm).resolve_left hj)
        rw [List.filter_cons, List.filter_cons, getD_set_ne true hj]
        split
        · simp only [List.length_cons]
          omega
        · omega
  exact lt _ (List.mem_range.2 hi)

theorem wpAny_inv (I : Array Bool → Act → World → Prop)
    (step : ∀ (listed : Array Bool) (a : Act) (w : World) (i : Nat), I listed a w → i ∈ Region.ready md ops listed → wpOp P ops Q i (I (listed.setIfInBounds i true)) a w)
    (done : ∀ (listed : Array Bool) (a : Act) (w : World), I listed a w → Region.ready md ops listed = [] → Q .normal a w) :
    ∀ (fuel : Nat) (listed : Array Bool) (a : Act) (w : World), toCome ops listed ≤ fuel → I listed a w → wpAny P md ops Q fuel listed a w := by
  intro fuel
  induction fuel with
  | zero =>
    intro listed a w hf hI
    have hr : Region.ready md ops listed = [] := by
      apply List.eq_nil_iff_forall_not_mem.2
      intro j hj
      obtain ⟨h0, o, ho, -⟩ := mem_ready.1 hj
      have hl := toCome_set (ops := ops) (Array.getElem?_eq_some_iff.1 ho).1 h0
      omega
    exact ⟨hr, done _ _ _ hI hr⟩
  | succ fuel ih =>
    intro listed a w hf hI
    refine ⟨fun hr => done _ _ _ hI hr, fun i hi => ?_⟩
    obtain ⟨h0, o, ho, -⟩ := mem_ready.1 hi
    have hl := toCome_set (ops := ops) (Array.getElem?_eq_some_iff.1 ho).1 h0
    exact wpOp_mono (fun a' w' h => ih _ a' w' (by omega) h) (step _ _ _ _ hI hi)

/-- Where every operation waits for earlier ones alone, nothing is ready only when all are done. -/
def earlier (ops : Array Oper) : Bool := (List.range ops.size).all fun j => match ops[j]? with | some o => o.after.toList.all fun e => decide (e.on < j) | none => true
theorem all_done (he : earlier ops = true) {listed : Array Bool} (hs : listed.size = ops.size) (hr : Region.ready md ops listed = []) : ∀ j, j < ops.size → listed.getD j false = true := by
  intro j
  induction j using Nat.strongRecOn with
  | ind j ih =>
    intro hj
    apply Classical.byContradiction
    intro hn
    have hgd : listed.getD j true = false := by
      have hjs : j < listed.size := by omega
      simp only [Array.getD_eq_getD_getElem?, Array.getElem?_eq_getElem hjs, Option.getD_some] at hn ⊢
      simpa using hn
    have hmem : j ∈ Region.ready md ops listed := by
      refine mem_ready.2 ⟨hgd, ops[j], Array.getElem?_eq_getElem hj, fun e hm _ => ?_⟩
      have h1 := List.all_eq_true.1 he j (List.mem_range.2 hj)
      rw [Array.getElem?_eq_getElem hj] at h1
      have h2 := of_decide_eq_true (List.all_eq_true.1 h1 e (by simpa using hm))
      exact ih e.on h2 (by omega)
    rw [hr] at hmem
    cases hmem

/-- A region that draws its order: I holds at its start, and every operation that may come up keeps it. -/
theorem wp_region_inv {id : Nat} {a : Act} {w : World} (I : Array Bool → Act → World → Prop) (hm : P.follows .mixedOrders = true) (he : earlier ops = true)
    (start : I (Array.replicate ops.size false) a w.drew)
    (step : ∀ (listed : Array Bool) (a : Act) (w : World) (i : Nat), listed.size = ops.size → I listed a w → i ∈ Region.ready .any ops listed → wpOp P ops Q i (I (listed.setIfInBounds i true)) a w)
    (done : ∀ (listed : Array Bool) (a : Act) (w : World), I listed a w → (∀ j, j < ops.size → listed.getD j false = true) → Q .normal a w) : (Code.region id ops true).wp P Q a w := by
  refine wp_region_any hm ?_
  refine wpAny_inv (fun l a w => l.size = ops.size ∧ I l a w) (fun l a w i h hi => ?_) (fun l a w h hr => done l a w h.2 (all_done he h.1 hr)) _ _ _ _ ?_ ⟨by simp, start⟩
  · exact wpOp_mono (fun a' w' h' => ⟨by rw [Array.size_setIfInBounds]; exact h.1, h'⟩) (step l a w i h.1 h.2 hi)
  · unfold toCome
    refine Nat.le_trans (List.length_filter_le _ _) ?_
    rw [List.length_range]
    exact Nat.le_refl _
end
section
variable {ops : Array Oper} {Q : Exit → Act → World → Prop} {i : Nat} {listed : Array Bool}
/-- Whether an operation waits for another. -/
def waitsFor (ops : Array Oper) (i j : Nat) : Bool := ((ops[i]?).map fun o => o.after.any fun e => Region.binds .any e && e.on == j).getD false
theorem waits_done {j : Nat} (hr : i ∈ Region.ready .any ops listed) (h : waitsFor ops i j = true) : listed.getD j false = true := by
  obtain ⟨-, o, ho, hall⟩ := mem_ready.1 hr
  unfold waitsFor at h
  rw [ho] at h
  obtain ⟨k, hk, h1⟩ := Array.any_eq_true.1 (show (o.after.any fun e => Region.binds .any e && e.on == j) = true from h)
  rw [Bool.and_eq_true, beq_iff_eq] at h1
  rw [← h1.2]
  exact hall _ (Array.getElem_mem hk) h1.1
theorem ready_lt (hr : i ∈ Region.ready .any ops listed) : i < ops.size := by
  obtain ⟨-, o, ho, -⟩ := mem_ready.1 hr
  exact (Array.getElem?_eq_some_iff.1 ho).1
theorem ready_not (hs : listed.size = ops.size) (hr : i ∈ Region.ready .any ops listed) : listed.getD i false = false := by
  have h := (mem_ready.1 hr).1
  have hi : i < listed.size := by rw [hs]; exact ready_lt hr
  simp [hi] at h ⊢
  exact h
/-- What is listed behind an operation. -/
theorem getD_listed (hs : i < listed.size) (j : Nat) : (listed.setIfInBounds i true).getD j false = if j = i then true else listed.getD j false := by
  by_cases h : j = i
  · subst h
    rw [if_pos rfl]
    simp [hs]
  · rw [if_neg h, getD_set_ne false (fun e => h e.symm)]
end

/-- A frame with some slots filled. -/
def fillF (a0 : Act) (x : Nat → Value) : List Nat → Act
  | [] => a0
  | d :: l => (fillF a0 x l).put (some d) (x d)
def updF (x : Nat → Value) (d : Nat) (v : Value) : Nat → Value := fun t => if t = d then v else x t
theorem eval_put_ne (a : Act) (d t : Nat) (v : Value) (h : t ≠ d) : (a.put (some d) v).eval (.tmp t) = a.eval (.tmp t) := by
  simp [Act.put, Act.eval, Array.getElem?_setIfInBounds_ne (Ne.symm h)]
theorem eval_put_same (a : Act) (d : Nat) (v : Value) (h : d < a.tmps.size) : (a.put (some d) v).eval (.tmp d) = v := by
  simp [Act.put, Act.eval, h]
theorem fillF_size (a0 : Act) (x : Nat → Value) : ∀ l, (fillF a0 x l).tmps.size = a0.tmps.size
  | [] => rfl
  | d :: l => by
    show ((fillF a0 x l).tmps.setIfInBounds d (x d)).size = _
    rw [Array.size_setIfInBounds, fillF_size a0 x l]
theorem fillF_ne (a0 : Act) (x : Nat → Value) (t : Nat) : ∀ l, t ∉ l → (fillF a0 x l).eval (.tmp t) = a0.eval (.tmp t)
  | [], _ => rfl
  | d :: l, h => by
    rw [fillF, eval_put_ne _ _ _ _ (fun e => h (by simp [e])), fillF_ne a0 x t l (fun e => h (List.mem_cons_of_mem _ e))]
theorem fillF_mem (a0 : Act) (x : Nat → Value) (t : Nat) : ∀ l, t ∈ l → t < a0.tmps.size → (fillF a0 x l).eval (.tmp t) = x t
  | d :: l, h, hs => by
    rw [fillF]
    by_cases e : t = d
    · subst e
      exact eval_put_same _ _ _ (by rw [fillF_size]; exact hs)
    · rw [eval_put_ne _ _ _ _ e]
      exact fillF_mem a0 x t l ((List.mem_cons.1 h).resolve_left e) hs
theorem put_put (a : Act) (d : Nat) (u v : Value) : (a.put (some d) u).put (some d) v = a.put (some d) v := by
  simp [Act.put]
theorem put_comm (a : Act) (d e : Nat) (u v : Value) (h : d ≠ e) : (a.put (some d) u).put (some e) v = (a.put (some e) v).put (some d) u := by
  simp only [Act.put]
  congr 1
  apply Array.ext_getElem?
  intro j
  by_cases a1 : d = j
  · by_cases a2 : e = j
    · exact absurd (a1.trans a2.symm) h
    · simp [a1, a2, Array.getElem?_setIfInBounds]
  · by_cases a2 : e = j
    · simp [a1, a2, Array.getElem?_setIfInBounds]
    · simp [a1, a2]
theorem fillF_upd_ne (a0 : Act) (x : Nat → Value) (d : Nat) (v : Value) : ∀ l, d ∉ l → fillF a0 (updF x d v) l = fillF a0 x l
  | [], _ => rfl
  | e :: l, h => by
    rw [fillF, fillF, fillF_upd_ne a0 x d v l (fun q => h (List.mem_cons_of_mem _ q))]
    have : updF x d v e = x e := if_neg (fun q => h (by simp [q]))
    rw [this]
theorem fillF_put (a0 : Act) (x : Nat → Value) (d : Nat) (v : Value) : ∀ l, d ∈ l → (fillF a0 x l).put (some d) v = fillF a0 (updF x d v) l
  | e :: l, h => by
    rw [fillF, fillF]
    by_cases q : e = d
    · subst q
      have hu : updF x e v e = v := if_pos rfl
      rw [put_put, hu]
      by_cases hm : e ∈ l
      · rw [← fillF_put a0 x e v l hm, put_put]
      · rw [fillF_upd_ne a0 x e v l hm]
    · have hu : updF x d v e = x e := if_neg q
      rw [hu, put_comm _ _ _ _ _ q, fillF_put a0 x d v l ((List.mem_cons.1 h).resolve_left (fun r => q r.symm))]
theorem put_self (a : Act) (d : Nat) (h : d < a.tmps.size) : a.put (some d) (a.eval (.tmp d)) = a := by
  obtain ⟨t, df⟩ := a
  have h' : d < t.size := h
  simp only [Act.put, Act.eval]
  congr 1
  apply Array.ext_getElem?
  intro j
  by_cases e : d = j
  · subst e
    simp [h']
  · simp [e]
theorem fillF_self (a0 : Act) : ∀ l, (∀ d, d ∈ l → d < a0.tmps.size) → fillF a0 (fun t => a0.eval (.tmp t)) l = a0
  | [], _ => rfl
  | d :: l, h => by
    rw [fillF, fillF_self a0 l (fun e he => h e (List.mem_cons_of_mem _ he))]
    exact put_self a0 d (h d (by simp))
end Go.Proofs.YtnnhgbncghpecaaGreat

namespace Go.Proofs.YtnnhgbncghpecaaGreat
open Go.RowKit

section
variable {ops : Array Oper} {Q : Exit → Act → World → Prop} {K : Act → World → Prop} {a : Act} {w : World} {i d : Nat} {ty : TypeId} {pos : String} {after : Array Edge}

theorem wpOp_go {o : Oper} (hi : ops[i]? = some o) (hg : o.guard = none) (h : o.wp Tryz.prog a w K Q) : wpOp Tryz.prog ops Q i K a w := by
  unfold wpOp
  rw [hi]
  have hw : Region.wanted o (yielded ops a.tmps) = true := by simp [Region.wanted, hg]
  simp only [hw, if_true]
  exact Or.inl h
theorem wpOp_move {x : Operand} (hi : ops[i]? = some { dst := some d, op := .move x, type := ty, pos := pos, after := after, guard := none }) (hK : K (a.put (some d) (a.eval x)) w) : wpOp Tryz.prog ops Q i K a w := by
  refine wpOp_go hi rfl ?_
  unfold Oper.wp
  have KK := Lib.hid hK
  clear hK hi
  generalize a.eval = ρ at *
  go_simp
  exact KK.out
theorem wpOp_call {f : FuncId} {xs : Array Operand} {vs : Array Value} {ts : Array TypeId} (hi : ops[i]? = some { dst := some d, op := .call { callee := .value (.func f), args := xs, argTypes := ts }, type := ty, pos := pos, after := after, guard := none })
    (he : Enters Tryz.prog f) (hv : xs.map a.eval = vs) (hc : Calls Tryz.prog f vs w fun e w' => ∃ v, e = .returned v ∧ K (a.put (some d) v) w') : wpOp Tryz.prog ops Q i K a w := by
  refine wpOp_go hi rfl ?_
  unfold Oper.wp
  have e3 : a.eval (.func f) = .func (.func f) #[] #[] := rfl
  have KC := Lib.hid hc
  clear hc hi
  generalize a.eval = ρ at *
  go_simp
  rw [he]
  refine KC.out.mono ?_
  rintro e w' ⟨v, rfl, h⟩
  exact h
theorem wpOp_loadV {x : Operand} {b : Nat} {v0 v1 v2 : Value} (hi : ops[i]? = some { dst := some d, op := .load 27 x, type := ty, pos := pos, after := after, guard := none })
    (hx : a.eval x = .pointer (some ⟨b, 0, none⟩)) (hb : ∀ j, w.cell? ⟨b, j, none⟩ = #[v0, v1, v2][j]?) (hK : K (a.put (some d) (.agg #[v0, v1, v2])) w) : wpOp Tryz.prog ops Q i K a w := by
  refine wpOp_go hi rfl ?_
  unfold Oper.wp
  have KK := Lib.hid hK
  clear hK hi
  generalize a.eval = ρ at *
  go_simp
  exact KK.out
theorem wpOp_lit0 (hi : ops[i]? = some { dst := some d, op := .buildSlice 37 0 #[], type := ty, pos := pos, after := after, guard := none })
    (hK : K (a.put (some d) (.slice (some ⟨w.heap.size, 0, none⟩) 0 0)) (w.alloc (.cells #[] 4))) : wpOp Tryz.prog ops Q i K a w := by
  refine wpOp_go hi rfl ?_
  unfold Oper.wp
  have KK := Lib.hid hK
  clear hK hi
  generalize a.eval = ρ at *
  go_simp
  exact KK.out
theorem wpOp_litB {b : Bool} (hi : ops[i]? = some { dst := some d, op := .buildSlice 37 1 #[(0, .const (.bool b))], type := ty, pos := pos, after := after, guard := none })
    (hK : K (a.put (some d) (.slice (some ⟨w.heap.size, 0, none⟩) 1 1)) (w.alloc (.cells #[.bool b] 4))) : wpOp Tryz.prog ops Q i K a w := by
  refine wpOp_go hi rfl ?_
  unfold Oper.wp
  have KK := Lib.hid hK
  have e3 : a.eval (.const (.bool b)) = .bool b := rfl
  clear hK hi
  generalize a.eval = ρ at *
  go_simp
  exact KK.out
theorem wpOp_litV {x : Operand} {v0 v1 v2 : Value} (hi : ops[i]? = some { dst := some d, op := .buildSlice 34 1 #[(0, x)], type := ty, pos := pos, after := after, guard := none })
    (hx : a.eval x = .agg #[v0, v1, v2]) (hK : K (a.put (some d) (.slice (some ⟨w.heap.size, 0, none⟩) 1 1)) (w.alloc (.cells #[v0, v1, v2] 27))) : wpOp Tryz.prog ops Q i K a w := by
  refine wpOp_go hi rfl ?_
  unfold Oper.wp
  have KK := Lib.hid hK
  clear hK hi
  generalize a.eval = ρ at *
  go_simp
  exact KK.out
theorem wpOp_build {x y : Operand} (hi : ops[i]? = some { dst := some d, op := .build 44 #[(0, x), (1, y)], type := ty, pos := pos, after := after, guard := none })
    {ao bo : Option Addr} {n c m e : Nat} (hx : a.eval x = .slice ao n c) (hy : a.eval y = .slice bo m e) (hK : K (a.put (some d) (.agg #[.slice ao n c, .slice bo m e])) w) : wpOp Tryz.prog ops Q i K a w := by
  refine wpOp_go hi rfl ?_
  unfold Oper.wp
  have KK := Lib.hid hK
  clear hK hi
  generalize a.eval = ρ at *
  go_simp
  exact KK.out
theorem wpOp_allocE (hi : ops[i]? = some { dst := some d, op := .alloc 44, type := ty, pos := pos, after := after, guard := none })
    (hK : K (a.put (some d) (.pointer (some ⟨w.heap.size, 0, none⟩))) (w.alloc (.cells #[.slice none 0 0, .slice none 0 0] 44))) : wpOp Tryz.prog ops Q i K a w := by
  refine wpOp_go hi rfl ?_
  unfold Oper.wp
  have KK := Lib.hid hK
  clear hK hi
  generalize a.eval = ρ at *
  go_simp
  exact KK.out
theorem wpOp_storeE {x y : Operand} {g : Nat} {ao bo : Option Addr} {n c m e : Nat} {z0 z1 : Value} (hi : ops[i]? = some { dst := none, op := .store 44 x y, type := ty, pos := pos, after := after, guard := none })
    (hx : a.eval x = .pointer (some ⟨g, 0, none⟩)) (hy : a.eval y = .agg #[.slice ao n c, .slice bo m e]) (hg : w.heap[g]? = some (.cells #[z0, z1] 44 (0, 0))) (hK : K a ((w.setCell ⟨g, 0, none⟩ (.slice ao n c)).setCell ⟨g, 1, none⟩ (.slice bo m e))) : wpOp Tryz.prog ops Q i K a w := by
  refine wpOp_go hi rfl ?_
  unfold Oper.wp
  have KK := Lib.hid hK
  have hf := fun j => Lib.frozen_of_heap hg j
  have hc0 : w.cell? ⟨g, 0, none⟩ = some z0 := Lib.cell_of_heap hg 0
  have hc1 : w.cell? ⟨g, 1, none⟩ = some z1 := Lib.cell_of_heap hg 1
  clear hK hi
  generalize a.eval = ρ at *
  go_simp
  exact KK.out
theorem wpOp_append {s x : Operand} {t : TypeId} (hi : ops[i]? = some { dst := some d, op := .call { callee := Callee.builtin Builtin.append, args := #[s, x], argTypes := #[t, t] }, type := ty, pos := pos, after := after, guard := none })
    (base : Nat) (e : TypeId) (j : TypeInfo) (z : Value) (size bytes : Nat) (ht : Tryz.prog.underlying t = some (.slice e)) (hj : Tryz.prog.info? e = some j) (hz : j.zero = some z) (hsize : j.size = size) (hby : j.bytes = bytes) (hzs : z.cells.size = size) (hsz : 0 < size)
    (v : Value) (n : Nat) (xs : List Value) (hs : a.eval s = v) (hown : w.ownsRow base e size v n xs) (ao : Option Addr) (m c : Nat) (news : List Value) (hx : a.eval x = .slice ao m c) (hl : news.length = m * size)
    (hnone : ao = none → m = 0 ∧ c = 0) (hnews : ∀ ad, ao = some ad → ∀ j u, news[j]? = some u → w.cell? (ad.add j) = some u) (h1 : ∀ u ∈ news, u.oneCell' = true)
    (h63 : n + m ≤ maxLen) (hbytes : (n + m) * bytes ≤ 140737488355328) (hbase : base ≤ w.heap.size)
    (hK : ∀ v' w', w'.ownsRow base e size v' (n + m) (xs ++ news) → w.grownBy w' v.ownBlock → K (a.put (some d) v') w') : wpOp Tryz.prog ops Q i K a w := by
  refine wpOp_go hi rfl ?_
  have := step_append_any (P := Tryz.prog) (ops := ops) (o := { dst := some d, op := .call { callee := Callee.builtin Builtin.append, args := #[s, x], argTypes := #[t, t] }, type := ty, pos := pos, after := after, guard := none }) (a := a) (w := w) (K := K) (Q := Q) (E := False) rfl s x t rfl base e j z size bytes ht hj hz hsize hby hzs hsz v n xs hs hown ao m c news hx hl hnone hnews h1 h63 hbytes hbase hK
  rwa [if_pos (by simp [Region.wanted])] at this
end
end Go.Proofs.YtnnhgbncghpecaaGreat

namespace Go.Proofs.YtnnhgbncghpecaaGreat
open Go.RowKit

def Lit0 (B : Nat) (w : World) (y : Value) : Prop := ∃ g, y = .slice (some ⟨g, 0, none⟩) 0 0 ∧ B ≤ g ∧ w.heap[g]? = some (.cells #[] 4 (0, 0))
def LitB (w : World) (y : Value) : Prop := ∃ g, y = .slice (some ⟨g, 0, none⟩) 1 1 ∧ w.heap[g]? = some (.cells #[.bool true] 4 (0, 0))
def LitV (v : V3) (w : World) (y : Value) : Prop := ∃ g, y = .slice (some ⟨g, 0, none⟩) 1 1 ∧ w.heap[g]? = some (.cells #[.int .u8 v.1, .int .i64 v.2.1, .string v.2.2] 27 (0, 0))
def RowB (B : Nat) (w : World) (y : Value) (n : Nat) (l : List Bool) : Prop := ∃ a d, y = .slice a n d ∧ w.ownsRow B 4 1 y n (cellsB l)
def RowV (B : Nat) (w : World) (y : Value) (n : Nat) (l : List V3) : Prop := ∃ a d, y = .slice a n d ∧ w.ownsRow B 27 3 y n (cellsV l)
def BoxE (B : Nat) (w : World) (y z0 z1 : Value) : Prop := ∃ g, y = .pointer (some ⟨g, 0, none⟩) ∧ B ≤ g ∧ w.heap[g]? = some (.cells #[z0, z1] 44 (0, 0))
def ApartL (y z : Value) : Prop := ∀ g g', y = .slice (some ⟨g, 0, none⟩) 0 0 → z = .slice (some ⟨g', 0, none⟩) 1 1 → g ≠ g'
section
variable {B : Nat} {w w' : World} {y z0 z1 : Value} {n : Nat}
/-- A change of the world that leaves all blocks that are no row of elements e. -/
def Far (e : TypeId) (w w' : World) : Prop := (∀ (k : Nat) (cs : Array Value) (t : TypeId) (fz : Nat × Nat), w.heap[k]? = some (Obj.cells cs t fz) → t ≠ e → w'.heap[k]? = some (Obj.cells cs t fz)) ∧ ∀ (base : Nat) (e1 : TypeId) (size : Nat) (v : Value) (n : Nat) (xs : List Value), e1 ≠ e → w.ownsRow base e1 size v n xs → w'.ownsRow base e1 size v n xs
theorem far_row {base e size n : Nat} {v : Value} {xs : List Value} (h : w.ownsRow base e size v n xs) (g : w.grownBy w' v.ownBlock) : Far e w w' :=
  ⟨fun k cs t fz hk hne => (g.block k (lt_of_heap hk) (fun e' => by
    obtain ⟨cs', fz', h1⟩ := owns_tag h k e'.symm
    rw [hk] at h1
    injection h1 with h1
    injection h1 with _ h1 _
    exact hne h1)).trans hk, fun base e1 size v n xs hne ho => owns_far ho hne g (owns_tag h)⟩
theorem far_block {g : Nat} {cs : Array Value} {e : TypeId} {fz : Nat × Nat} (h : w.heap[g]? = some (.cells cs e fz)) (gr : w.grownBy w' (some g)) : Far e w w' :=
  ⟨fun k cs' t fz' hk hne => (gr.block k (lt_of_heap hk) (fun e' => by
    obtain rfl := Option.some.inj e'
    rw [hk] at h
    injection h with h
    injection h with _ h _
    exact hne h)).trans hk, fun base e1 size v n xs hne ho => owns_far ho hne gr (fun k hk => by obtain rfl := Option.some.inj hk; exact ⟨cs, fz, h⟩)⟩
theorem Lit0.old (h : Lit0 B w y) (b : Below w.heap.size w w') : Lit0 B w' y := by obtain ⟨g, h1, h2, h3⟩ := h; exact ⟨g, h1, h2, (b.block g (lt_of_heap h3)).trans h3⟩
theorem LitB.old (h : LitB w y) (b : Below w.heap.size w w') : LitB w' y := by obtain ⟨g, h1, h3⟩ := h; exact ⟨g, h1, (b.block g (lt_of_heap h3)).trans h3⟩
theorem LitV.old {v : V3} (h : LitV v w y) (b : Below w.heap.size w w') : LitV v w' y := by obtain ⟨g, h1, h3⟩ := h; exact ⟨g, h1, (b.block g (lt_of_heap h3)).trans h3⟩
theorem RowB.old {l : List Bool} (h : RowB B w y n l) (b : Below w.heap.size w w') : RowB B w' y n l := by obtain ⟨a, d, h1, h2⟩ := h; exact ⟨a, d, h1, owns_below h2 b⟩
theorem RowV.old {l : List V3} (h : RowV B w y n l) (b : Below w.heap.size w w') : RowV B w' y n l := by obtain ⟨a, d, h1, h2⟩ := h; exact ⟨a, d, h1, owns_below h2 b⟩
theorem BoxE.old (h : BoxE B w y z0 z1) (b : Below w.heap.size w w') : BoxE B w' y z0 z1 := by obtain ⟨g, h1, h2, h3⟩ := h; exact ⟨g, h1, h2, (b.block g (lt_of_heap h3)).trans h3⟩
theorem Lit0.far {e : TypeId} (h : Lit0 B w y) (f : Far e w w') (hne : 4 ≠ e) : Lit0 B w' y := by obtain ⟨g, h1, h2, h3⟩ := h; exact ⟨g, h1, h2, f.1 _ _ _ _ h3 hne⟩
theorem LitB.far {e : TypeId} (h : LitB w y) (f : Far e w w') (hne : 4 ≠ e) : LitB w' y := by obtain ⟨g, h1, h3⟩ := h; exact ⟨g, h1, f.1 _ _ _ _ h3 hne⟩
theorem LitV.far {v : V3} {e : TypeId} (h : LitV v w y) (f : Far e w w') (hne : 27 ≠ e) : LitV v w' y := by obtain ⟨g, h1, h3⟩ := h; exact ⟨g, h1, f.1 _ _ _ _ h3 hne⟩
theorem RowB.far {l : List Bool} {e : TypeId} (h : RowB B w y n l) (f : Far e w w') (hne : 4 ≠ e) : RowB B w' y n l := by obtain ⟨a, d, h1, h2⟩ := h; exact ⟨a, d, h1, f.2 _ _ _ _ _ _ hne h2⟩
theorem RowV.far {l : List V3} {e : TypeId} (h : RowV B w y n l) (f : Far e w w') (hne : 27 ≠ e) : RowV B w' y n l := by obtain ⟨a, d, h1, h2⟩ := h; exact ⟨a, d, h1, f.2 _ _ _ _ _ _ hne h2⟩
theorem BoxE.far {e : TypeId} (h : BoxE B w y z0 z1) (f : Far e w w') (hne : 44 ≠ e) : BoxE B w' y z0 z1 := by obtain ⟨g, h1, h2, h3⟩ := h; exact ⟨g, h1, h2, f.1 _ _ _ _ h3 hne⟩
end
def setL (l : Nat → Bool) (i : Nat) : Nat → Bool := fun j => if j = i then true else l j
theorem no_bool {p : Prop} {b : Bool} (h : b = false) (h' : b = true) : p := by rw [h] at h'; cases h'
theorem replicate_getD (m j : Nat) : (Array.replicate m false).getD j false = false := by
  by_cases h : j < m
  · simp [h]
  · simp [h]
end Go.Proofs.YtnnhgbncghpecaaGreat
