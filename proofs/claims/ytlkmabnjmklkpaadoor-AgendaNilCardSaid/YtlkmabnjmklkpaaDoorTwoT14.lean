/- AgendaBetter: two matches are lent, each in a box. -/
import Derived.Test.YtlkmabnjmklkpaaDoorBetL14
namespace Go.Proofs.YtlkmabnjmklkpaaDoor
open Go.RowKit
set_option maxRecDepth 100000

def fillF (a0 : Act) (x : Nat → Value) : List Nat → Act
  | [] => a0
  | d :: l => (fillF a0 x l).put (some d) (x d)
def updF (x : Nat → Value) (d : Nat) (v : Value) : Nat → Value := fun t => if t = d then v else x t
theorem fillF_size (a0 : Act) (x : Nat → Value) : ∀ l, (fillF a0 x l).tmps.size = a0.tmps.size
  | [] => rfl
  | d :: l => by
    show ((fillF a0 x l).tmps.setIfInBounds d (x d)).size = _
    rw [Array.size_setIfInBounds, fillF_size a0 x l]
theorem fillF_ne (a0 : Act) (x : Nat → Value) (t : Nat) : ∀ l, t ∉ l → (fillF a0 x l).eval (.tmp t) = a0.eval (.tmp t)
  | [], _ => rfl
  | d :: l, h => by
    rw [fillF, eval_put_ne _ _ _ _ (fun e => h (by simp [e])), fillF_ne a0 x t l (fun e => h (List.mem_cons_of_mem _ e))]
theorem fillF_mem (a0 : Act) (x : Nat → Value) (t : Nat) : ∀ l, t ∈ l → t < a0.tmps.size → (fillF a0 x l).eval (.tmp t) = x t
  | d :: l, h, hs => by
    rw [fillF]
    by_cases e : t = d
    · subst e
      exact eval_put_same _ _ _ (by rw [fillF_size]; exact hs)
    · rw [eval_put_ne _ _ _ _ e]
      exact fillF_mem a0 x t l ((List.mem_cons.1 h).resolve_left e) hs
theorem put_put (a : Act) (d : Nat) (u v : Value) : (a.put (some d) u).put (some d) v = a.put (some d) v := by
  simp [Act.put]
theorem put_comm (a : Act) (d e : Nat) (u v : Value) (h : d ≠ e) : (a.put (some d) u).put (some e) v = (a.put (some e) v).put (some d) u := by
  simp only [Act.put]
  congr 1
  apply Array.ext_getElem?
  intro j
  by_cases a1 : d = j
  · by_cases a2 : e = j
    · exact absurd (a1.trans a2.symm) h
    · simp [a1, a2, Array.getElem?_setIfInBounds]
  · by_cases a2 : e = j
    · simp [a1, a2, Array.getElem?_setIfInBounds]
    · simp [a1, a2]
theorem fillF_upd_ne (a0 : Act) (x : Nat → Value) (d : Nat) (v : Value) : ∀ l, d ∉ l → fillF a0 (updF x d v) l = fillF a0 x l
  | [], _ => rfl
  | e :: l, h => by
    rw [fillF, fillF, fillF_upd_ne a0 x d v l (fun q => h (List.mem_cons_of_mem _ q))]
    have : updF x d v e = x e := if_neg (fun q => h (by simp [q]))
    rw [this]
theorem fillF_put (a0 : Act) (x : Nat → Value) (d : Nat) (v : Value) : ∀ l, d ∈ l → (fillF a0 x l).put (some d) v = fillF a0 (updF x d v) l
  | e :: l, h => by
    rw [fillF, fillF]
    by_cases q : e = d
    · subst q
      have hu : updF x e v e = v := if_pos rfl
      rw [put_put, hu]
      by_cases hm : e ∈ l
      · rw [← fillF_put a0 x e v l hm, put_put]
      · rw [fillF_upd_ne a0 x e v l hm]
    · have hu : updF x d v e = x e := if_neg q
      rw [hu, put_comm _ _ _ _ _ q, fillF_put a0 x d v l ((List.mem_cons.1 h).resolve_left (fun r => q r.symm))]
theorem put_self (a : Act) (d : Nat) (h : d < a.tmps.size) : a.put (some d) (a.eval (.tmp d)) = a := by
  obtain ⟨t, df⟩ := a
  have h' : d < t.size := h
  simp only [Act.put, Act.eval]
  congr 1
  apply Array.ext_getElem?
  intro j
  by_cases e : d = j
  · subst e
    simp [h']
  · simp [e]
theorem fillF_self (a0 : Act) : ∀ l, (∀ d, d ∈ l → d < a0.tmps.size) → fillF a0 (fun t => a0.eval (.tmp t)) l = a0
  | [], _ => rfl
  | d :: l, h => by
    rw [fillF, fillF_self a0 l (fun e he => h e (List.mem_cons_of_mem _ he))]
    exact put_self a0 d (h d (by simp))

theorem replicate_getD (m j : Nat) : (Array.replicate m false).getD j false = false := by
  by_cases h : j < m
  · simp [h]
  · simp [h]
theorem no_bool {p : Prop} {b : Bool} (h : b = false) (h' : b = true) : p := by rw [h] at h'; cases h'
/-- What a match was lent as; a box; a box that holds what was lent. -/
def LentKV (w8 w : World) (k : Int) (d : List Int) (y : Value) : Prop := ∃ g, y = .agg #[.int .i64 k, .slice (some ⟨g, 0, none⟩) d.length (d.length + 12)] ∧ LentAt w g d ∧ w8.heap.size ≤ g
def BoxT (w8 w : World) (cs : Array Value) (y : Value) : Prop := ∃ b, y = .pointer (some ⟨b, 0, none⟩) ∧ w8.heap.size ≤ b ∧ w.heap[b]? = some (.cells cs 24 (0, 0))
def HoldT (w8 w : World) (k : Int) (d : List Int) (y : Value) : Prop := ∃ g, BoxT w8 w #[.int .i64 k, .slice (some ⟨g, 0, none⟩) d.length (d.length + 12)] y ∧ LentAt w g d ∧ w8.heap.size ≤ g
section
variable {w8 w w' : World} {k : Int} {d : List Int} {cs : Array Value} {y : Value} {b : Nat}
theorem LentKV.old (h : LentKV w8 w k d y) (hb : Below w.heap.size w w') : LentKV w8 w' k d y := by obtain ⟨g, h1, h2, h3⟩ := h; exact ⟨g, h1, h2.below hb, h3⟩
theorem BoxT.old (h : BoxT w8 w cs y) (hb : Below w.heap.size w w') : BoxT w8 w' cs y := by obtain ⟨g, h1, h2, h3⟩ := h; exact ⟨g, h1, h2, (hb.block g (lt_of_heap h3)).trans h3⟩
theorem HoldT.old (h : HoldT w8 w k d y) (hb : Below w.heap.size w w') : HoldT w8 w' k d y := by obtain ⟨g, h1, h2, h3⟩ := h; exact ⟨g, h1.old hb, h2.below hb, h3⟩
theorem lent_ne {g : Nat} (h : LentAt w g d) (hb : w.heap[b]? = some (.cells cs 24 (0, 0))) : g ≠ b := by
  obtain ⟨cur, h1, _⟩ := h
  exact ne_block h1 hb (by decide)
/-- Behind a store into another box. -/
theorem LentKV.store (h : LentKV w8 w k d y) (hb : w.heap[b]? = some (.cells cs 24 (0, 0))) (hg : w.grownBy w' (some b)) : LentKV w8 w' k d y := by
  obtain ⟨g, h1, h2, h3⟩ := h
  exact ⟨g, h1, h2.keep (hg.block g h2.size (fun e => lent_ne h2 hb (Option.some.inj e))), h3⟩
theorem BoxT.store {cs' : Array Value} (h : BoxT w8 w cs' y) (hn : y ≠ .pointer (some ⟨b, 0, none⟩)) (hg : w.grownBy w' (some b)) : BoxT w8 w' cs' y := by
  obtain ⟨g, h1, h2, h3⟩ := h
  exact ⟨g, h1, h2, (hg.block g (lt_of_heap h3) (fun e => hn (by rw [h1, Option.some.inj e]))).trans h3⟩
theorem HoldT.store (h : HoldT w8 w k d y) (hn : y ≠ .pointer (some ⟨b, 0, none⟩)) (hb : w.heap[b]? = some (.cells cs 24 (0, 0))) (hg : w.grownBy w' (some b)) : HoldT w8 w' k d y := by
  obtain ⟨g, h1, h2, h3⟩ := h
  exact ⟨g, h1.store hn hg, h2.keep (hg.block g h2.size (fun e => lent_ne h2 hb (Option.some.inj e))), h3⟩
theorem BoxT.lt {cs' : Array Value} (h : BoxT w8 w cs' y) : y ≠ .pointer (some ⟨w.heap.size, 0, none⟩) := fun e => by
  obtain ⟨g, h1, h2, h3⟩ := h
  rw [h1] at e
  simp only [Value.pointer.injEq, Option.some.injEq, Addr.mk.injEq, and_true] at e
  have := lt_of_heap h3
  omega
theorem two_set (v0 v1 : Value) (h : w.heap[b]? = some (.cells #[.int .i64 0, .slice none 0 0] 24 (0, 0))) : ((w.setCell ⟨b, 0, none⟩ v0).setCell ⟨b, 1, none⟩ v1).heap[b]? = some (.cells #[v0, v1] 24 (0, 0)) ∧ w.grownBy ((w.setCell ⟨b, 0, none⟩ v0).setCell ⟨b, 1, none⟩ v1) (some b) :=
  ⟨Lib.heap_setCell_same (i := 1) (Lib.heap_setCell_same (i := 0) h v0) v1, Lib.grownBy_trans (Lib.grownBy_setCell w b 0 v0) (Lib.grownBy_setCell _ b 1 v1)⟩
end
section
variable {ops : Array Oper} {Q : Exit → Act → World → Prop} {K : Act → World → Prop} {a : Act} {w : World} {i d : Nat} {ty : TypeId} {pos : String} {after : Array Edge}
theorem wpOp_allocT (hi : ops[i]? = some { dst := some d, op := .alloc 24, type := ty, pos := pos, after := after, guard := none })
    (hK : K (a.put (some d) (.pointer (some ⟨w.heap.size, 0, none⟩))) (w.alloc (.cells #[.int .i64 0, .slice none 0 0] 24))) : wpOp Tryd.prog ops Q i K a w := by
  refine wpOp_go hi rfl ?_
  unfold Oper.wp
  have KK := Lib.hid hK
  clear hK hi
  generalize a.eval = ρ at *
  go_simp
  exact KK.out
theorem wpOp_storeT {x y : Operand} {g : Nat} {r : Int} {ao : Option Addr} {n m : Nat} (hi : ops[i]? = some { dst := none, op := .store 24 x y, type := ty, pos := pos, after := after, guard := none })
    (hx : a.eval x = .pointer (some ⟨g, 0, none⟩)) (hy : a.eval y = .agg #[.int .i64 r, .slice ao n m]) (hg : w.heap[g]? = some (.cells #[.int .i64 0, .slice none 0 0] 24 (0, 0))) (hK : K a ((w.setCell ⟨g, 0, none⟩ (.int .i64 r)).setCell ⟨g, 1, none⟩ (.slice ao n m))) : wpOp Tryd.prog ops Q i K a w := by
  refine wpOp_go hi rfl ?_
  unfold Oper.wp
  have KK := Lib.hid hK
  have hf := fun j => Lib.frozen_of_heap hg j
  have hce := fun j => Lib.cell_of_heap hg j
  clear hK hi hg
  generalize a.eval = ρ at *
  go_simp
  exact KK.out
end
/-- On the way through the region. -/
structure Ld (w8 : World) (k1 k2 : Int) (d1 d2 : List Int) (ao1 ao2 : Option Addr) (c1 c2 : Nat) (l : Nat → Bool) (x : Nat → Value) (w : World) : Prop where
  bel : Below w8.heap.size w8 w
  f0 : l 0 = true → x 23 = .agg #[.int .i64 k1, .slice ao1 d1.length c1]
  f1 : l 1 = true → LentKV w8 w k1 d1 (x 24)
  f2 : l 2 = true → x 25 = .agg #[.int .i64 k2, .slice ao2 d2.length c2]
  f3 : l 3 = true → LentKV w8 w k2 d2 (x 26)
  f4 : l 4 = true → l 6 = false → BoxT w8 w #[.int .i64 0, .slice none 0 0] (x 8)
  f5 : l 5 = true → l 7 = false → BoxT w8 w #[.int .i64 0, .slice none 0 0] (x 9)
  f45 : l 4 = true → l 5 = true → x 8 ≠ x 9
  f6 : l 6 = true → HoldT w8 w k1 d1 (x 8) ∧ l 4 = true
  f7 : l 7 = true → HoldT w8 w k2 d2 (x 9) ∧ l 5 = true
def slotsL : List Nat := [23, 24, 25, 26, 8, 9]
def Lf (a0 : Act) (w8 : World) (k1 k2 : Int) (d1 d2 : List Int) (ao1 ao2 : Option Addr) (c1 c2 : Nat) (l : Nat → Bool) (a : Act) (w : World) : Prop := ∃ x, a = fillF a0 x slotsL ∧ Ld w8 k1 k2 d1 d2 ao1 ao2 c1 c2 l x w
structure Lo (a0 : Act) (w8 : World) (k1 k2 : Int) (d1 d2 : List Int) (ao1 ao2 : Option Addr) (c1 c2 : Nat) (b4 b5 : Nat) : Prop where
  size : a0.tmps.size = 74
  s4 : a0.eval (.tmp 4) = .pointer (some ⟨b4, 0, none⟩)
  s5 : a0.eval (.tmp 5) = .pointer (some ⟨b5, 0, none⟩)
  r1 : SlG w8.heap.size w8 ao1 (icells d1)
  r2 : SlG w8.heap.size w8 ao2 (icells d2)
  n1 : ao1 = none → c1 = 0
  n2 : ao2 = none → c2 = 0
  few1 : d1.length ≤ 100000
  few2 : d2.length ≤ 100000
  box1 : w8.heap[b4]? = some (.cells #[.int .i64 k1, .slice ao1 d1.length c1] 24 (0, 0))
  box2 : w8.heap[b5]? = some (.cells #[.int .i64 k2, .slice ao2 d2.length c2] 24 (0, 0))
section
variable {ops : Array Oper} {Q : Exit → Act → World → Prop} {a0 : Act} {w w8 : World} {ty : TypeId} {pos : String} {after : Array Edge} {k1 k2 : Int} {d1 d2 : List Int} {ao1 ao2 : Option Addr} {c1 c2 b4 b5 : Nat} {l : Nat → Bool} {x : Nat → Value} {ts : Array TypeId}
theorem Lo.get (o : Lo a0 w8 k1 k2 d1 d2 ao1 ao2 c1 c2 b4 b5) {t : Nat} (h : t ∈ slotsL) (h2 : t < 74) : (fillF a0 x slotsL).eval (.tmp t) = x t := fillF_mem a0 x t slotsL h (by rw [o.size]; exact h2)
theorem Lo.put {l' : Nat → Bool} {w' : World} {d : Nat} {u : Value} (hd : d ∈ slotsL) (h : Ld w8 k1 k2 d1 d2 ao1 ao2 c1 c2 l' (updF x d u) w') : Lf a0 w8 k1 k2 d1 d2 ao1 ao2 c1 c2 l' ((fillF a0 x slotsL).put (some d) u) w' := ⟨_, fillF_put a0 x d u slotsL hd, h⟩
set_option linter.unusedVariables false in
theorem Ld.op0 (o : Lo a0 w8 k1 k2 d1 d2 ao1 ao2 c1 c2 b4 b5) (h : Ld w8 k1 k2 d1 d2 ao1 ao2 c1 c2 l x w) (hi : ops[0]? = some { dst := some 23, op := .load 24 (.tmp 4), type := ty, pos := pos, after := after, guard := none }) (neg : l 0 = false) : wpOp Tryd.prog ops Q 0 (Lf a0 w8 k1 k2 d1 d2 ao1 ao2 c1 c2 (setL l 0)) (fillF a0 x slotsL) w := by
  have hg := (h.bel.block b4 (lt_of_heap o.box1)).trans o.box1
  refine wpOp_ldK hi (by simp [Region.wanted]) ((fillF_ne a0 x 4 slotsL (by decide)).trans o.s4) hg ?_
  have hb := Below.refl w.heap.size w
  exact Lo.put (by decide) ⟨h.bel, (fun _ => rfl), (fun z0 => (h.f1 z0).old hb), (fun z0 => (h.f2 z0)), (fun z0 => (h.f3 z0).old hb), (fun z0 z1 => (h.f4 z0 z1).old hb), (fun z0 z1 => (h.f5 z0 z1).old hb), (fun z0 z1 => (h.f45 z0 z1)), (fun z0 => ⟨(h.f6 z0).1.old hb, (h.f6 z0).2⟩), (fun z0 => ⟨(h.f7 z0).1.old hb, (h.f7 z0).2⟩)⟩
set_option linter.unusedVariables false in
theorem Ld.op2 (o : Lo a0 w8 k1 k2 d1 d2 ao1 ao2 c1 c2 b4 b5) (h : Ld w8 k1 k2 d1 d2 ao1 ao2 c1 c2 l x w) (hi : ops[2]? = some { dst := some 25, op := .load 24 (.tmp 5), type := ty, pos := pos, after := after, guard := none }) (neg : l 2 = false) : wpOp Tryd.prog ops Q 2 (Lf a0 w8 k1 k2 d1 d2 ao1 ao2 c1 c2 (setL l 2)) (fillF a0 x slotsL) w := by
  have hg := (h.bel.block b5 (lt_of_heap o.box2)).trans o.box2
  refine wpOp_ldK hi (by simp [Region.wanted]) ((fillF_ne a0 x 5 slotsL (by decide)).trans o.s5) hg ?_
  have hb := Below.refl w.heap.size w
  exact Lo.put (by decide) ⟨h.bel, (fun z0 => (h.f0 z0)), (fun z0 => (h.f1 z0).old hb), (fun _ => rfl), (fun z0 => (h.f3 z0).old hb), (fun z0 z1 => (h.f4 z0 z1).old hb), (fun z0 z1 => (h.f5 z0 z1).old hb), (fun z0 z1 => (h.f45 z0 z1)), (fun z0 => ⟨(h.f6 z0).1.old hb, (h.f6 z0).2⟩), (fun z0 => ⟨(h.f7 z0).1.old hb, (h.f7 z0).2⟩)⟩
set_option linter.unusedVariables false in
theorem Ld.op4 (o : Lo a0 w8 k1 k2 d1 d2 ao1 ao2 c1 c2 b4 b5) (h : Ld w8 k1 k2 d1 d2 ao1 ao2 c1 c2 l x w) (hi : ops[4]? = some { dst := some 8, op := .alloc 24, type := ty, pos := pos, after := after, guard := none }) (neg : l 4 = false) : wpOp Tryd.prog ops Q 4 (Lf a0 w8 k1 k2 d1 d2 ao1 ao2 c1 c2 (setL l 4)) (fillF a0 x slotsL) w := by
  refine wpOp_allocT hi ?_
  have hb := below_own (w := w) (.cells #[.int .i64 0, .slice none 0 0] 24)
  have hother : l 5 = true → x 9 ≠ .pointer (some ⟨w.heap.size, 0, none⟩) := fun ho => by
    cases hl : l 7 with
    | false => exact (h.f5 ho hl).lt
    | true =>
      obtain ⟨g, h1, _⟩ := (h.f7 hl).1
      exact h1.lt
  exact Lo.put (by decide) ⟨h.bel.trans (hb.mono h.bel.size), (fun z0 => (h.f0 z0)), (fun z0 => (h.f1 z0).old hb), (fun z0 => (h.f2 z0)), (fun z0 => (h.f3 z0).old hb), (fun _ _ => ⟨w.heap.size, rfl, h.bel.size, heap_alloc_new w _⟩), (fun z0 z1 => (h.f5 z0 z1).old hb), (fun _ z1 => fun e => hother z1 e.symm), (fun z0 => no_bool neg (h.f6 z0).2), (fun z0 => ⟨(h.f7 z0).1.old hb, (h.f7 z0).2⟩)⟩
set_option linter.unusedVariables false in
theorem Ld.op5 (o : Lo a0 w8 k1 k2 d1 d2 ao1 ao2 c1 c2 b4 b5) (h : Ld w8 k1 k2 d1 d2 ao1 ao2 c1 c2 l x w) (hi : ops[5]? = some { dst := some 9, op := .alloc 24, type := ty, pos := pos, after := after, guard := none }) (neg : l 5 = false) : wpOp Tryd.prog ops Q 5 (Lf a0 w8 k1 k2 d1 d2 ao1 ao2 c1 c2 (setL l 5)) (fillF a0 x slotsL) w := by
  refine wpOp_allocT hi ?_
  have hb := below_own (w := w) (.cells #[.int .i64 0, .slice none 0 0] 24)
  have hother : l 4 = true → x 8 ≠ .pointer (some ⟨w.heap.size, 0, none⟩) := fun ho => by
    cases hl : l 6 with
    | false => exact (h.f4 ho hl).lt
    | true =>
      obtain ⟨g, h1, _⟩ := (h.f6 hl).1
      exact h1.lt
  exact Lo.put (by decide) ⟨h.bel.trans (hb.mono h.bel.size), (fun z0 => (h.f0 z0)), (fun z0 => (h.f1 z0).old hb), (fun z0 => (h.f2 z0)), (fun z0 => (h.f3 z0).old hb), (fun z0 z1 => (h.f4 z0 z1).old hb), (fun _ _ => ⟨w.heap.size, rfl, h.bel.size, heap_alloc_new w _⟩), (fun z0 _ => hother z0), (fun z0 => ⟨(h.f6 z0).1.old hb, (h.f6 z0).2⟩), (fun z0 => no_bool neg (h.f7 z0).2)⟩
set_option linter.unusedVariables false in
theorem Ld.op6 (o : Lo a0 w8 k1 k2 d1 d2 ao1 ao2 c1 c2 b4 b5) (h : Ld w8 k1 k2 d1 d2 ao1 ao2 c1 c2 l x w) (hi : ops[6]? = some { dst := none, op := .store 24 (.tmp 8) (.tmp 24), type := ty, pos := pos, after := after, guard := none }) (neg : l 6 = false) (la : l 4 = true) (lb : l 1 = true) (lo : l 5 = true) : wpOp Tryd.prog ops Q 6 (Lf a0 w8 k1 k2 d1 d2 ao1 ao2 c1 c2 (setL l 6)) (fillF a0 x slotsL) w := by
  obtain ⟨g, eg, hB, hg⟩ := h.f4 la neg
  obtain ⟨g1, e1, hL, hz⟩ := h.f1 lb
  refine wpOp_storeT hi ((o.get (by decide) (by decide)).trans eg) ((o.get (by decide) (by decide)).trans e1) hg ?_
  obtain ⟨q1, q2⟩ := two_set (.int .i64 k1) (.slice (some ⟨g1, 0, none⟩) d1.length (d1.length + 12)) hg
  generalize hw' : (w.setCell ⟨g, 0, none⟩ (.int .i64 k1)).setCell ⟨g, 1, none⟩ (.slice (some ⟨g1, 0, none⟩) d1.length (d1.length + 12)) = w' at q1 q2
  clear hw'
  have hbel : Below w8.heap.size w8 w' := h.bel.grown q2 h.bel.size (fun k hk => by obtain rfl := Option.some.inj hk; exact hB)
  exact ⟨x, rfl, hbel, (fun z0 => (h.f0 z0)), (fun z0 => (h.f1 z0).store hg q2), (fun z0 => (h.f2 z0)), (fun z0 => (h.f3 z0).store hg q2), (fun z0 z1 => no_bool z1 rfl), (fun z0 z1 => (h.f5 z0 z1).store (fun e => h.f45 la lo (eg.trans e.symm)) q2), (fun z0 z1 => (h.f45 z0 z1)), (fun _ => ⟨⟨g1, ⟨g, eg, hB, q1⟩, hL.keep (q2.block g1 hL.size (fun e => lent_ne hL hg (Option.some.inj e))), hz⟩, la⟩), (fun z0 => ⟨(h.f7 z0).1.store (fun e => h.f45 la lo (eg.trans e.symm)) hg q2, (h.f7 z0).2⟩)⟩
set_option linter.unusedVariables false in
theorem Ld.op7 (o : Lo a0 w8 k1 k2 d1 d2 ao1 ao2 c1 c2 b4 b5) (h : Ld w8 k1 k2 d1 d2 ao1 ao2 c1 c2 l x w) (hi : ops[7]? = some { dst := none, op := .store 24 (.tmp 9) (.tmp 26), type := ty, pos := pos, after := after, guard := none }) (neg : l 7 = false) (la : l 5 = true) (lb : l 3 = true) (lo : l 4 = true) : wpOp Tryd.prog ops Q 7 (Lf a0 w8 k1 k2 d1 d2 ao1 ao2 c1 c2 (setL l 7)) (fillF a0 x slotsL) w := by
  obtain ⟨g, eg, hB, hg⟩ := h.f5 la neg
  obtain ⟨g1, e1, hL, hz⟩ := h.f3 lb
  refine wpOp_storeT hi ((o.get (by decide) (by decide)).trans eg) ((o.get (by decide) (by decide)).trans e1) hg ?_
  obtain ⟨q1, q2⟩ := two_set (.int .i64 k2) (.slice (some ⟨g1, 0, none⟩) d2.length (d2.length + 12)) hg
  generalize hw' : (w.setCell ⟨g, 0, none⟩ (.int .i64 k2)).setCell ⟨g, 1, none⟩ (.slice (some ⟨g1, 0, none⟩) d2.length (d2.length + 12)) = w' at q1 q2
  clear hw'
  have hbel : Below w8.heap.size w8 w' := h.bel.grown q2 h.bel.size (fun k hk => by obtain rfl := Option.some.inj hk; exact hB)
  exact ⟨x, rfl, hbel, (fun z0 => (h.f0 z0)), (fun z0 => (h.f1 z0).store hg q2), (fun z0 => (h.f2 z0)), (fun z0 => (h.f3 z0).store hg q2), (fun z0 z1 => (h.f4 z0 z1).store (fun e => h.f45 lo la (e.trans eg.symm)) q2), (fun z0 z1 => no_bool z1 rfl), (fun z0 z1 => (h.f45 z0 z1)), (fun z0 => ⟨(h.f6 z0).1.store (fun e => h.f45 lo la (e.trans eg.symm)) hg q2, (h.f6 z0).2⟩), (fun _ => ⟨⟨g1, ⟨g, eg, hB, q1⟩, hL.keep (q2.block g1 hL.size (fun e => lent_ne hL hg (Option.some.inj e))), hz⟩, la⟩)⟩
theorem Ld.start (w8 : World) (k1 k2 : Int) (d1 d2 : List Int) (ao1 ao2 : Option Addr) (c1 c2 : Nat) (x : Nat → Value) {l : Nat → Bool} (hl : ∀ j, l j = false) : Ld w8 k1 k2 d1 d2 ao1 ao2 c1 c2 l x w8.drew :=
  ⟨below_drew (Below.refl _ _), (fun z0 => no_bool (hl _) z0), (fun z0 => no_bool (hl _) z0), (fun z0 => no_bool (hl _) z0), (fun z0 => no_bool (hl _) z0), (fun z0 _ => no_bool (hl _) z0), (fun z0 _ => no_bool (hl _) z0), (fun z0 _ => no_bool (hl _) z0), (fun z0 => no_bool (hl _) z0), (fun z0 => no_bool (hl _) z0)⟩
end
end Go.Proofs.YtlkmabnjmklkpaaDoor
