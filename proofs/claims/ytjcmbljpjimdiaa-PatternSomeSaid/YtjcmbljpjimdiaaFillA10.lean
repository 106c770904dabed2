/- PatternFills: what is known when a fact matched; plainly. -/
import Derived.Test.YtjcmbljpjimdiaaAwake10
import Derived.Test.YtjcmbljpjimdiaaKit10
import Derived.Test.YtjcmbljpjimdiaaMaps10
namespace Go.Proofs.Ytjcmbljpjimdiaa
open Go.RowKit

/-- What is known when a fact matched. -/
theorem firstB_known {c : C10} {f : F10} {e e' : E10} (h : firstB c [f] e = some e') : madeP e = true ∧ (c.kind = 1 ∨ c.kind = 2) ∧ f.type = c.type ∧ f.args.length = c.args.length ∧ fitsP (c.args.zip f.args) e = some e' := by
  obtain ⟨hm, hh⟩ := firstB_one h
  unfold firstB at h
  split at h
  · rename_i h1
    rw [Bool.and_eq_true, Bool.or_eq_true, decide_eq_true_eq, decide_eq_true_eq] at h1
    unfold hit10 at hh
    split at hh
    · rename_i h2
      rw [Bool.and_eq_true, decide_eq_true_eq, decide_eq_true_eq] at h2
      exact ⟨hm, h1.1, h2.1, h2.2, hh⟩
    · cases hh
  · cases h
theorem firstB_of {c : C10} {f : F10} {e e' : E10} (hm : madeP e = true) (hk : c.kind = 1 ∨ c.kind = 2) (ht : f.type = c.type) (hl : f.args.length = c.args.length) (hf : fitsP (c.args.zip f.args) e = some e') : firstB c [f] e = some e' := by
  unfold firstB
  rw [if_pos]
  · rw [first10]
    have : hit10 c.type c.args e f = some e' := by
      unfold hit10
      rw [if_pos (by simp [ht, hl])]
      exact hf
    rw [this]
  · rw [Bool.and_eq_true, Bool.or_eq_true, decide_eq_true_eq, decide_eq_true_eq]
    exact ⟨hk, hm⟩
theorem made_iff {e : E10} : madeP e = true ↔ e.1.length = e.2.length ∧ ∀ j, j < e.1.length → made1 (e.1.getD j false, e.2.getD j zeroT) = true := by
  constructor
  · intro h
    have hl := (made_even h).2.symm
    refine ⟨hl, fun j hj => ?_⟩
    cases hb : made1 (e.1.getD j false, e.2.getD j zeroT) with
    | true => rfl
    | false => rw [made_bad hj hb] at h; cases h
  · exact fun h => made_good h.1 h.2
theorem fit1_made {a : A10} {v : V3} {e e' : E10} (h : fit1 a v e = some e') (hm : madeP e = true) : madeP e' = true := by
  rcases fit1_some h with ⟨-, rfl⟩ | ⟨-, k, -, hk, rfl⟩ | ⟨-, rfl, -⟩ | ⟨-, rfl, -⟩
  · exact hm
  · obtain ⟨h1, h2⟩ := made_iff.1 hm
    refine made_iff.2 ⟨by simp [bind10, h1], fun j hj => ?_⟩
    have hj' : j < e.1.length := by simpa [bind10] using hj
    by_cases hkj : k = j
    · subst hkj
      simp [bind10, List.getD_eq_getElem?_getD, hk, made1]
    · have e1 : (bind10 k v e).1.getD j false = e.1.getD j false := by simp [bind10, List.getD_eq_getElem?_getD, hkj]
      have e2 : (bind10 k v e).2.getD j zeroT = e.2.getD j zeroT := by simp [bind10, List.getD_eq_getElem?_getD, hkj]
      rw [e1, e2]
      exact h2 j hj'
  · exact hm
  · exact hm
theorem fitsP_made {l : List (A10 × V3)} : ∀ {e e' : E10}, fitsP l e = some e' → madeP e = true → madeP e' = true := by
  induction l with
  | nil => intro e e' h he; exact Option.some.inj h ▸ he
  | cons p l ih =>
    intro e e' h he
    rw [fitsP] at h
    split at h
    · exact ih h (fit1_made (by assumption) he)
    · cases h
theorem made_wide {e : E10} (h : madeP e = true) (v : V3) : madeP (e.1 ++ [true], e.2 ++ [v]) = true := by
  obtain ⟨h1, h2⟩ := made_iff.1 h
  refine made_iff.2 ⟨by simp [h1], fun j hj => ?_⟩
  rcases Nat.lt_or_ge j e.1.length with hlt | hge
  · have := h2 j hlt
    rw [List.getD_eq_getElem?_getD, List.getD_eq_getElem?_getD, List.getElem?_append_left hlt, List.getElem?_append_left (by omega)]
    rw [List.getD_eq_getElem?_getD, List.getD_eq_getElem?_getD] at this
    exact this
  · have hj' : j = e.1.length := by
      simp at hj
      omega
    subst hj'
    simp [List.getD_eq_getElem?_getD, made1]
/-- Matched once more. -/
theorem firstB_again {c : C10} {f : F10} {e e' : E10} (h : firstB c [f] e = some e') (hl : late10 c.args = false) : firstB c [f] e' = some e' := by
  obtain ⟨hm, hk, ht, hlen, hf⟩ := firstB_known h
  refine firstB_of (fitsP_made hf hm) hk ht hlen (fits_again (made_even hm) hf ?_)
  rw [List.map_fst_zip (by omega)]
  exact hl
/-- Under an env that has a variable more. -/
theorem firstB_wide {c : C10} {f : F10} {e e' : E10} (h : firstB c [f] e = some e') (v : V3) : firstB c [f] (e.1 ++ [true], e.2 ++ [v]) = some (e'.1 ++ [true], e'.2 ++ [v]) := by
  obtain ⟨hm, hk, ht, hlen, hf⟩ := firstB_known h
  exact firstB_of (made_wide hm v) hk ht hlen (fits_wide v (made_even hm) hf)

/-- Is a variable asked for ahead? -/
def asked10 (l : List A10) (x : Int) : Bool := l.any fun a => decide (a.kind = 3) && decide (a.var = x)
theorem asked_snoc (l : List A10) (a : A10) (x : Int) : asked10 (l ++ [a]) x = (asked10 l x || (decide (a.kind = 3) && decide (a.var = x))) := by simp [asked10]
theorem late_snoc (a : A10) : ∀ l : List A10, late10 (l ++ [a]) = (late10 l || (decide (a.kind = 2) && asked10 l a.var))
  | [] => by simp [late10, asked10]
  | b :: l => by
    have e1 : asked10 (b :: l) a.var = ((decide (b.kind = 3) && decide (b.var = a.var)) || asked10 l a.var) := by simp [asked10]
    rw [List.cons_append, late10, late10, late_snoc a l, e1, List.any_append]
    simp only [List.any_cons, List.any_nil, Bool.or_false]
    have e2 : decide (a.var = b.var) = decide (b.var = a.var) := by
      by_cases h : a.var = b.var
      · simp [h]
      · have h' : ¬ b.var = a.var := fun e => h e.symm
        simp [h, h']
    rw [e2]
    cases decide (b.kind = 3) <;> cases decide (a.kind = 2) <;> cases decide (b.var = a.var) <;> cases l.any (fun c => decide (c.kind = 2) && decide (c.var = b.var)) <;> cases late10 l <;> cases asked10 l a.var <;> rfl
/-- What the maps tell. -/
def lastF (l : List (A10 × V3)) (x : Int) : Option Value := (lastP 0 l x).map fun k => .int .i64 (k : Nat)
def askedF (l : List A10) (x : Int) : Option Value := if asked10 l x = true then some (.bool true) else none
theorem lastF_snoc (l : List (A10 × V3)) (p : A10 × V3) : lastF (l ++ [p]) = fun x => if p.1.kind = 2 ∧ p.1.var = x then some (.int .i64 (l.length : Nat)) else lastF l x := by
  funext x
  unfold lastF
  rw [lastP_snoc]
  split
  · simp
  · rfl
theorem askedF_snoc (l : List A10) (a : A10) : askedF (l ++ [a]) = fun x => if a.kind = 3 ∧ a.var = x then some (.bool true) else askedF l x := by
  funext x
  unfold askedF
  rw [asked_snoc]
  by_cases h : a.kind = 3 ∧ a.var = x
  · rw [if_pos h]
    simp [h.1, h.2]
  · rw [if_neg h]
    have : (decide (a.kind = 3) && decide (a.var = x)) = false := by
      rw [Bool.and_eq_false_imp]
      intro h1
      exact decide_eq_false fun h2 => h ⟨of_decide_eq_true h1, h2⟩
    rw [this, Bool.or_false]

/-- Only two maps turn, and new blocks. -/
structure LFr (m1 m2 : Nat) (w0 w : World) : Prop where
  os : w.os = w0.os
  tape : w.tape = w0.tape
  output : w.output = w0.output
  size : w0.heap.size ≤ w.heap.size
  block : ∀ k, k < w0.heap.size → k ≠ m1 → k ≠ m2 → w.heap[k]? = w0.heap[k]?
theorem LFr.refl (m1 m2 : Nat) (w : World) : LFr m1 m2 w w := ⟨rfl, rfl, rfl, Nat.le_refl _, fun _ _ _ _ => rfl⟩
theorem LFr.grown {m1 m2 g : Nat} {a b c : World} (h : LFr m1 m2 a b) (k : b.grownBy c (some g)) (hg : g = m1 ∨ g = m2) : LFr m1 m2 a c :=
  ⟨k.os.trans h.os, k.tape.trans h.tape, k.output.trans h.output, Nat.le_trans h.size k.size, fun i hi h1 h2 => (k.block i (Nat.lt_of_lt_of_le hi h.size) (fun e => by
    obtain rfl := Option.some.inj e
    rcases hg with hg | hg
    · exact h1 hg
    · exact h2 hg)).trans (h.block i hi h1 h2)⟩
theorem LFr.alloc {m1 m2 : Nat} {a b : World} (h : LFr m1 m2 a b) (o : Obj) : LFr m1 m2 a (b.alloc o) :=
  ⟨h.os, h.tape, h.output, by have := h.size; simp; omega, fun i hi h1 h2 => ((below_own (w := b) o).block i (Nat.lt_of_lt_of_le hi h.size)).trans (h.block i hi h1 h2)⟩
theorem LFr.drewN {m1 m2 : Nat} {a b : World} (h : LFr m1 m2 a b) (n : Nat) : LFr m1 m2 a (b.drewN n) := ⟨h.os, h.tape, h.output, h.size, h.block⟩
theorem LFr.below {m1 m2 B : Nat} {a b : World} (h : LFr m1 m2 a b) (h1 : B ≤ m1) (h2 : B ≤ m2) (hB : B ≤ a.heap.size) : Below B a b :=
  ⟨h.os, h.tape, h.output, h.size, fun k hk => h.block k (by omega) (by omega) (by omega)⟩
theorem LFr.cells {m1 m2 k : Nat} {a b : World} {cs : Array Value} {t : TypeId} {fz : Nat × Nat} {f1 f2 : Int → Option Value} (h : LFr m1 m2 a b) (hk : a.heap[k]? = some (.cells cs t fz)) (q1 : IMap a m1 f1) (q2 : IMap a m2 f2) : b.heap[k]? = some (.cells cs t fz) := by
  refine (h.block k (lt_of_heap hk) ?_ ?_).trans hk
  · rintro rfl
    obtain ⟨l, es, cl, q, -⟩ := q1
    rw [hk] at q
    cases q
  · rintro rfl
    obtain ⟨l, es, cl, q, -⟩ := q2
    rw [hk] at q
    cases q
end Go.Proofs.Ytjcmbljpjimdiaa
