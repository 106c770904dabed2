/- pattern.first: the match with the first fact that fits. -/
import Derived.Test.YtnnhgbncghpecaaGreatIndex10
namespace Go.Proofs.YtnnhgbncghpecaaGreat
open Go.RowKit

def firstB (c : C10) (fl : List F10) (e : E10) : Option E10 := if ((decide (c.kind = 1) || decide (c.kind = 2)) && madeP e) = true then first10 c.type c.args e fl else none
theorem made_even {e : E10} (h : madeP e = true) : Even e.1.length e := by
  unfold madeP at h
  rw [Bool.and_eq_true, decide_eq_true_eq] at h
  exact ⟨rfl, h.1.symm⟩
theorem hit10_even {ct : Int} {al : List A10} {e e' : E10} {f : F10} {n : Nat} (h : hit10 ct al e f = some e') (he : Even n e) : Even n e' := by
  unfold hit10 at h
  split at h
  · exact fitsP_even h he
  · cases h
theorem first10_even {ct : Int} {al : List A10} {e e' : E10} {n : Nat} : ∀ {l : List F10}, first10 ct al e l = some e' → Even n e → Even n e'
  | [], h, _ => by cases h
  | f :: l, h, he => by
    rw [first10] at h
    split at h
    · rename_i e2 h2
      obtain rfl := Option.some.inj h
      exact hit10_even h2 he
    · exact first10_even h he
/-- A row of one's own is a slice below the world's end. -/
theorem owns_sl {base : Nat} {w : World} {e size n : Nat} {ao : Option Addr} {c : Nat} {xs : List Value} (h : w.ownsRow base e size (.slice ao n c) n xs) : Sl10 w.heap.size w n ao c xs := by
  rcases h.2 with ⟨h1, h2⟩ | ⟨g, cap, cur, h1, hb, hg, hnc, hcm, hcs, htk⟩
  · simp only [Value.slice.injEq] at h1
    obtain ⟨rfl, rfl, rfl⟩ := h1
    refine ⟨fun hn => ?_, fun _ => ⟨rfl, rfl⟩, Nat.le_refl _, by unfold maxLen; omega⟩
    exact absurd (List.eq_nil_of_length_eq_zero (by rw [h.1]; omega)) hn
  · simp only [Value.slice.injEq, true_and] at h1
    obtain ⟨rfl, rfl⟩ := h1
    refine ⟨fun _ => ⟨g, 0, rfl, lt_of_heap hg, fun j u hu => ?_⟩, (fun h => by cases h), hnc, hcm⟩
    rw [Nat.zero_add, h.cellAt j (by have := (List.getElem?_eq_some_iff.1 hu).1; rw [h.1] at this; exact this)]
    exact hu
section
variable {B : Nat} {w : World} {nb n : Nat} {e0 e : E10} {ho : Option Addr} {hc : Nat} {vo : Option Addr} {vc : Nat} {bd : Bool}
/-- A match's rows, seen as an env's. -/
theorem M10.env (h : M10 B w nb n e0 e ho hc vo vc bd) (hB : B ≤ w.heap.size) :
    ∃ a1 c1 a2 c2, w.heap[nb]? = some (.cells #[.slice a1 n c1, .slice a2 n c2, .slice ho n hc, .slice vo n vc, .bool bd] 70 (0, 0)) ∧ Env10 w.heap.size w e a1 c1 a2 c2 ∧ (∀ W cs g, w.grownBy W (some g) → B ≤ g → w.heap[g]? = some (.cells cs 70 (0, 0)) → Env10 W.heap.size W e a1 c1 a2 c2) := by
  obtain ⟨a1, c1, a2, c2, h1, h2, h3⟩ := h.slices
  refine ⟨a1, c1, a2, c2, h1, ?_⟩
  cases bd with
  | false =>
    obtain ⟨e1, e2, rfl⟩ := h2 rfl
    simp only [Value.slice.injEq, true_and] at e1 e2
    obtain ⟨rfl, rfl⟩ := e1
    obtain ⟨rfl, rfl⟩ := e2
    exact ⟨h.ahead.up (Below.refl _ _) hB, fun W cs g hg hBg hgc => h.ahead.up ⟨hg.os, hg.tape, hg.output, hg.size, fun k hk => hg.block k (by omega) (fun e => by have := Option.some.inj e; omega)⟩ (Nat.le_trans hB hg.size)⟩
  | true =>
    have hO := h3 rfl
    have conv : ∀ W, Own10 B W e (.slice a1 n c1) (.slice a2 n c2) → Env10 W.heap.size W e a1 c1 a2 c2 := fun W hW => by
      have q1 := hW.has
      have q2 := hW.vals
      refine ⟨?_, ?_⟩
      · have := h.even.1
        subst this
        exact owns_sl q1
      · have e1 := h.even.1
        have e2 := h.even.2
        rw [e2] at q2
        rw [e2]
        exact owns_sl q2
    exact ⟨conv w hO, fun W cs g hg _ hgc => conv W (hO.far hg hgc (by decide) (by decide))⟩
end
theorem five_set {W : World} {g : Nat} {cs : Array Value} {T : TypeId} (v0 v1 v2 v3 v4 : Value) (h : W.heap[g]? = some (.cells cs T (0, 0))) (hs : cs.size = 5) :
    (((((W.setCell ⟨g, 0, none⟩ v0).setCell ⟨g, 1, none⟩ v1).setCell ⟨g, 2, none⟩ v2).setCell ⟨g, 3, none⟩ v3).setCell ⟨g, 4, none⟩ v4).heap[g]? = some (.cells #[v0, v1, v2, v3, v4] T (0, 0)) ∧ W.grownBy (((((W.setCell ⟨g, 0, none⟩ v0).setCell ⟨g, 1, none⟩ v1).setCell ⟨g, 2, none⟩ v2).setCell ⟨g, 3, none⟩ v3).setCell ⟨g, 4, none⟩ v4) (some g) := by
  have g0 := Lib.grownBy_setCell W g 0 v0
  have e0 := Joins.block_setCell h v0 (i := 0)
  generalize W.setCell ⟨g, 0, none⟩ v0 = W0 at g0 e0 ⊢
  have g1 := grown_set2 (i := 1) (v := v1) g0
  have e1 := Joins.block_setCell e0 v1 (i := 1)
  generalize W0.setCell ⟨g, 1, none⟩ v1 = W1 at g1 e1 ⊢
  have g2 := grown_set2 (i := 2) (v := v2) g1
  have e2 := Joins.block_setCell e1 v2 (i := 2)
  generalize W1.setCell ⟨g, 2, none⟩ v2 = W2 at g2 e2 ⊢
  have g3 := grown_set2 (i := 3) (v := v3) g2
  have e3 := Joins.block_setCell e2 v3 (i := 3)
  generalize W2.setCell ⟨g, 3, none⟩ v3 = W3 at g3 e3 ⊢
  have g4 := grown_set2 (i := 4) (v := v4) g3
  have e4 := Joins.block_setCell e3 v4 (i := 4)
  refine ⟨?_, g4⟩
  rw [e4]
  obtain ⟨l⟩ := cs
  rcases l with _ | ⟨a, _ | ⟨b, _ | ⟨c, _ | ⟨d, _ | ⟨f, _ | ⟨x, l⟩⟩⟩⟩⟩⟩
  · exact absurd hs (by simp)
  · exact absurd hs (by simp)
  · exact absurd hs (by simp)
  · exact absurd hs (by simp)
  · exact absurd hs (by simp)
  · simp
  · exact absurd hs (by simp)
/-- What first tells: whether a fact fits, and an env. -/
def FirstP (x : Option E10) (w : World) (r : Ending) (w' : World) : Prop :=
  ∃ a1 n1 c1 a2 n2 c2 a3 n3 c3 a4 n4 c4 bd, r = .returned (.tuple #[.agg #[.slice a1 n1 c1, .slice a2 n2 c2, .slice a3 n3 c3, .slice a4 n4 c4, .bool bd], .bool x.isSome]) ∧ (∀ e', x = some e' → n1 = e'.1.length ∧ n2 = e'.2.length ∧ Env10 w'.heap.size w' e' a1 c1 a2 c2) ∧ Below w.heap.size w w'
/-- first's results: a match that stands in a cell, and whether it is one. -/
theorem match_end {F : Func} {Q : Ending → World → Prop} {a : Act} {W : World} {g slot es : Nat} {cs : Array Value} {v0 v1 v2 v3 v4 err : Value} (hr : F.results = #[ResultVar.cell slot 70, ResultVar.tmp es]) (hp : a.tmps[slot]?.getD undef = .pointer (some ⟨g, 0, none⟩)) (he : a.tmps[es]?.getD undef = err) (hd : a.defers = []) (h : W.heap[g]? = some (.cells cs 70 (0, 0))) (hs : cs.size = 5)
    (hQ : ∀ W3, W.grownBy W3 (some g) → Q (.returned (.tuple #[.agg #[v0, v1, v2, v3, v4], err])) W3) :
    bodyPost Tryz.prog F Q .ret a (((((W.setCell ⟨g, 0, none⟩ v0).setCell ⟨g, 1, none⟩ v1).setCell ⟨g, 2, none⟩ v2).setCell ⟨g, 3, none⟩ v3).setCell ⟨g, 4, none⟩ v4) := by
  obtain ⟨h3, g3⟩ := five_set v0 v1 v2 v3 v4 h hs
  generalize (((((W.setCell ⟨g, 0, none⟩ v0).setCell ⟨g, 1, none⟩ v1).setCell ⟨g, 2, none⟩ v2).setCell ⟨g, 3, none⟩ v3).setCell ⟨g, 4, none⟩ v4) = W3 at h3 g3 ⊢
  have d0 := Lib.cell_of_heap h3 0
  have d1 := Lib.cell_of_heap h3 1
  have d2 := Lib.cell_of_heap h3 2
  have d3 := Lib.cell_of_heap h3 3
  have d4 := Lib.cell_of_heap h3 4
  exact bodyPost_ret (v := .tuple #[.agg #[v0, v1, v2, v3, v4], err]) (by simp [results, hr, hp, he, go_sem, d0, d1, d2, d3, d4]) hd (hQ W3 g3)
theorem alloc_at {w : World} {n : Nat} (h : n = w.heap.size) (o : Obj) : (w.alloc o).heap[n]? = some o := by
  subst h
  show (w.heap.push o)[w.heap.size]? = _
  exact Array.getElem?_push_size
theorem alloc_keep {w : World} {k : Nat} {x : Obj} (h : w.heap[k]? = some x) (o : Obj) : (w.alloc o).heap[k]? = some x := by
  have := (below_own (w := w) o).block k (lt_of_heap h)
  rw [this]
  exact h
theorem heap_three {w : World} (o1 o2 o3 : Obj) : (((w.alloc o1).alloc o2).alloc o3).heap[w.heap.size]? = some o1 ∧ (((w.alloc o1).alloc o2).alloc o3).heap[w.heap.size + 1]? = some o2 ∧ (((w.alloc o1).alloc o2).alloc o3).heap[w.heap.size + 2]? = some o3 := by
  obtain ⟨h1, h2⟩ := heap_two (w := w) o1 o2
  refine ⟨alloc_keep h1 _, alloc_keep h2 _, ?_⟩
  have := heap_alloc_new ((w.alloc o1).alloc o2) o3
  simpa using this
end Go.Proofs.YtnnhgbncghpecaaGreat
