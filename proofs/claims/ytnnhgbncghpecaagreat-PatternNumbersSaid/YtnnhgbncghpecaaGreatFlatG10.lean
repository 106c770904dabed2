/- Rows that lie apart from each other: what is kept while each is marked, and grown. -/
import Derived.Test.YtnnhgbncghpecaaGreatTree10
namespace Go.Proofs.YtnnhgbncghpecaaGreat
open Go.RowKit

/-- A slice's head: where it lies, how many, how many there may be. -/
abbrev Hd := Option Addr × Nat × Nat
abbrev hv (h : Hd) : Value := .slice h.1 h.2.1 h.2.2
abbrev OwnH (w : World) (base e size : Nat) (h : Hd) (xs : List Value) : Prop := w.ownsRow base e size (hv h) h.2.1 xs

theorem OwnH.pre {w : World} {base e size : Nat} {a : Option Addr} {n m c : Nat} {xs ys : List Value} (h : OwnH w base e size (a, n + m, c) (xs ++ ys)) (hl : xs.length = n * size) : OwnH w base e size (a, n, c) xs := by
  refine ⟨hl, ?_⟩
  rcases h.2 with ⟨h1, h2⟩ | ⟨g, cap, cur, h1, hb, hg, hnc, hcm, hcs, ht⟩
  · simp only [Value.slice.injEq] at h1
    obtain ⟨rfl, h3, rfl⟩ := h1
    obtain rfl : n = 0 := by omega
    exact Or.inl ⟨rfl, rfl⟩
  · simp only [Value.slice.injEq] at h1
    obtain ⟨rfl, _, rfl⟩ := h1
    have hnc' : n ≤ c := by
      simp only at hnc
      omega
    refine Or.inr ⟨g, _, cur, rfl, hb, hg, hnc', hcm, hcs, ?_⟩
    have h5 : (cur.toList.take ((n + m) * size)).take (n * size) = cur.toList.take (n * size) := by
      rw [List.take_take, Nat.min_eq_left (Nat.mul_le_mul_right _ (by omega))]
    rw [← h5, ht, ← hl, List.take_left]

/-- Below base all stands; above it all but blocks of one kind. -/
structure FK (e base : Nat) (w w' : World) : Prop where
  bel : Below base w w'
  oth : ∀ (k : Nat) (cs : Array Value) (t : TypeId) (fz : Nat × Nat), w.heap[k]? = some (.cells cs t fz) → t ≠ e → w'.heap[k]? = some (.cells cs t fz)
theorem FK.refl (e base : Nat) (w : World) : FK e base w w := ⟨Below.refl _ _, fun _ _ _ _ h _ => h⟩
theorem FK.trans {e base : Nat} {a b c : World} (h : FK e base a b) (k : FK e base b c) : FK e base a c := ⟨h.bel.trans k.bel, fun i cs t fz h1 h2 => k.oth i cs t fz (h.oth i cs t fz h1 h2) h2⟩
theorem FK.of_below {e base : Nat} {w w' : World} (h : Below w.heap.size w w') (hb : base ≤ w.heap.size) : FK e base w w' :=
  ⟨h.mono hb, fun k _ _ _ hk _ => (h.block k (lt_of_heap hk)).trans hk⟩
theorem FK.step {e base : Nat} {w w1 w2 : World} (h : FK e base w w1) (b : Below w1.heap.size w1 w2) (hb : base ≤ w.heap.size) : FK e base w w2 := h.trans (FK.of_below b (Nat.le_trans hb h.bel.size))
/-- Behind a write to a block of that kind. -/
theorem FK.grown {e base : Nat} {w w1 w2 : World} {row : Option Nat} (h : FK e base w w1) (g : w1.grownBy w2 row) (hb : base ≤ w.heap.size) (hr : ∀ b, row = some b → base ≤ b ∧ ((∃ cs fz, w1.heap[b]? = some (.cells cs e fz)) ∨ w.heap.size ≤ b)) : FK e base w w2 :=
  ⟨h.bel.grown g (Nat.le_trans hb h.bel.size) (fun b hb => (hr b hb).1), fun k cs t fz h1 h2 => by
    have h3 := h.oth k cs t fz h1 h2
    refine (g.block k (lt_of_heap h3) fun e' => ?_).trans h3
    obtain ⟨_, h4⟩ := hr k e'.symm
    rcases h4 with ⟨cs', fz', h5⟩ | h4
    · rw [h3] at h5
      injection h5 with h5
      injection h5 with _ h6 _
      exact h2 h6
    · have := lt_of_heap h1
      omega⟩

/-- A row of heads. -/
def LsAt (w : World) (T : Nat) (al : Option Addr) (hs : List Hd) : Prop :=
  0 < hs.length → ∃ lb lo cs fz, al = some ⟨lb, lo, none⟩ ∧ w.heap[lb]? = some (.cells cs T fz) ∧ ∀ k, (hk : k < hs.length) → cs[lo + k]? = some (hv hs[k])
theorem LsAt.fk {e base T : Nat} {w w' : World} {al : Option Addr} {hs : List Hd} (h : LsAt w T al hs) (f : FK e base w w') (ht : T ≠ e) : LsAt w' T al hs := fun hl => by
  obtain ⟨lb, lo, cs, fz, h1, h2, h3⟩ := h hl
  exact ⟨lb, lo, cs, fz, h1, f.oth _ _ _ _ h2 ht, h3⟩
theorem LsAt.cell {w : World} {T : Nat} {al : Option Addr} {hs : List Hd} (h : LsAt w T al hs) (hl : 0 < hs.length) : ∃ lb lo, al = some ⟨lb, lo, none⟩ ∧ ∀ k, (hk : k < hs.length) → w.cell? ⟨lb, lo + k, none⟩ = some (hv hs[k]) := by
  obtain ⟨lb, lo, cs, fz, h1, h2, h3⟩ := h hl
  exact ⟨lb, lo, h1, fun k hk => (cell_of_row w lb _ cs T fz h2).trans (h3 k hk)⟩

/-- Marks, one behind the other. -/
def marksR (mk : Nat → Nat → List Value) (k n : Nat) : List Value := (List.range n).flatMap (mk k)
theorem marksR_succ (mk : Nat → Nat → List Value) (k n : Nat) : marksR mk k (n + 1) = marksR mk k n ++ mk k n := by
  unfold marksR
  rw [List.range_succ, List.flatMap_append]
  simp
theorem marksR_length {mk : Nat → Nat → List Value} {size : Nat} (h : ∀ k i, (mk k i).length = size) (k n : Nat) : (marksR mk k n).length = n * size := by
  induction n with
  | zero => simp [marksR]
  | succ n ih => rw [marksR_succ, List.length_append, ih, h, Nat.add_mul, Nat.one_mul]
theorem marksR_add (mk : Nat → Nat → List Value) (k n m : Nat) : ∃ ys, marksR mk k (n + m) = marksR mk k n ++ ys := by
  induction m with
  | zero => exact ⟨[], by simp⟩
  | succ m ih =>
    obtain ⟨ys, hy⟩ := ih
    exact ⟨ys ++ mk k (n + m), by rw [← Nat.add_assoc, marksR_succ, hy, List.append_assoc]⟩
theorem marksR_get {mk : Nat → Nat → List Value} {size : Nat} (h : ∀ k i, (mk k i).length = size) (k n i j : Nat) (hi : i < n) (hj : j < size) : (marksR mk k n)[i * size + j]? = (mk k i)[j]? := by
  obtain ⟨m, rfl⟩ : ∃ m, n = (i + 1) + m := ⟨n - (i + 1), by omega⟩
  obtain ⟨ys, hy⟩ := marksR_add mk k (i + 1) m
  have h1 := marksR_length h k i
  have h2 := h k i
  have h3 : i * size + j < (marksR mk k (i + 1)).length := by rw [marksR_length h, Nat.add_mul]; omega
  rw [hy, List.getElem?_append_left h3, marksR_succ, List.getElem?_append_right (by omega), h1, Nat.add_sub_cancel_left]

/-- Rows of one's own, apart from each other. -/
structure Rows (w : World) (base e size : Nat) (hs : List Hd) (X : Nat → List Value) : Prop where
  own : ∀ k, (hk : k < hs.length) → OwnH w base e size hs[k] (X k)
  apart : ∀ j k, (hj : j < hs.length) → (hk : k < hs.length) → j ≠ k → ∀ b, (hv hs[j]).ownBlock = some b → (hv hs[k]).ownBlock ≠ some b
theorem Rows.below {w w' : World} {base e size : Nat} {hs : List Hd} {X : Nat → List Value} (h : Rows w base e size hs X) (b : Below w.heap.size w w') : Rows w' base e size hs X :=
  ⟨fun k hk => owns_below (h.own k hk) b, h.apart⟩
theorem own_block {w : World} {base e size : Nat} {h : Hd} {xs : List Value} (o : OwnH w base e size h xs) (hl : 0 < h.2.1) : ∃ b, h.1 = some ⟨b, 0, none⟩ := by
  rcases o.2 with ⟨_, h2⟩ | ⟨g, cap, cur, h1, _⟩
  · omega
  · simp only [Value.slice.injEq] at h1
    exact ⟨g, h1.1⟩
/-- One row is turned. -/
theorem Rows.one {w w' : World} {base e size : Nat} {hs : List Hd} {X : Nat → List Value} (h : Rows w base e size hs X) (k : Nat) (hk : k < hs.length) (b : Nat) (hb : (hv hs[k]).ownBlock = some b) (g : w.grownBy w' (some b)) (ys : List Value) (ho : OwnH w' base e size hs[k] ys) :
    Rows w' base e size hs (fun j => if j = k then ys else X j) :=
  ⟨fun j hj => by
    by_cases e' : j = k
    · subst e'
      rw [if_pos rfl]
      exact ho
    · rw [if_neg e']
      refine (h.own j hj).kept g ?_
      exact Or.inr (fun e2 => h.apart j k hj hk e' b e2 hb), h.apart⟩
theorem Rows.congr {w : World} {base e size : Nat} {hs : List Hd} {X Y : Nat → List Value} (h : Rows w base e size hs X) (e' : ∀ k, k < hs.length → X k = Y k) : Rows w base e size hs Y :=
  ⟨fun k hk => by rw [← e' k hk]; exact h.own k hk, h.apart⟩

/-- All rows are marked; some are grown: gs, in the row gb; what is grown at j holds Y j. -/
structure Grown (w : World) (base e size T gb B2 : Nat) (mk : Nat → Nat → List Value) (Y : Nat → List Value) (hs gs : List Hd) (k : Nat) : Prop where
  len : gs.length = hs.length
  row : OwnH w base T 1 (some ⟨gb, 0, none⟩, hs.length, hs.length) (gs.map hv)
  rows : Rows w base e size hs (fun j => marksR mk j (hs.getD j (none, 0, 0)).2.1)
  old : ∀ j, (hj : j < hs.length) → ∀ b, (hv hs[j]).ownBlock = some b → b < B2
  gown : ∀ j, j < k → (hj : j < hs.length) → (hg : j < gs.length) → OwnH w base e size gs[j] (Y j) ∧ (gs[j]).2.1 = (hs[j]).2.1 + 64
  gwh : ∀ j, j < k → (hj : j < hs.length) → (hg : j < gs.length) → ∀ b, (hv gs[j]).ownBlock = some b → (hv hs[j]).ownBlock = some b ∨ B2 ≤ b
theorem Grown.below {w w' : World} {base e size T gb B2 k : Nat} {mk : Nat → Nat → List Value} {Y : Nat → List Value} {hs gs : List Hd} (h : Grown w base e size T gb B2 mk Y hs gs k) (b : Below w.heap.size w w') : Grown w' base e size T gb B2 mk Y hs gs k :=
  ⟨h.len, owns_below h.row b, h.rows.below b, h.old, fun j hj h1 h2 => ⟨owns_below (h.gown j hj h1 h2).1 b, (h.gown j hj h1 h2).2⟩, h.gwh⟩
/-- Behind a write to another block of the kind, that is none of them; or to a row's own block, where the row stands. -/
theorem Grown.write {w w' : World} {base e size T gb B2 k : Nat} {mk : Nat → Nat → List Value} {Y : Nat → List Value} {hs gs : List Hd} (h : Grown w base e size T gb B2 mk Y hs gs k) (hT : T ≠ e) (b : Nat) (hb : ∃ cs fz, w.heap[b]? = some (.cells cs e fz)) (g : w.grownBy w' (some b))
    (hrow : ∀ j, (hj : j < hs.length) → (hv hs[j]).ownBlock = some b → OwnH w' base e size hs[j] (marksR mk j (hs[j]).2.1)) (hg : ∀ j, j < k → (hj : j < hs.length) → (hg : j < gs.length) → (hv gs[j]).ownBlock ≠ some b) : Grown w' base e size T gb B2 mk Y hs gs k :=
  ⟨h.len, owns_far h.row hT g (fun q hq => by obtain rfl := Option.some.inj hq; exact hb), ⟨fun j hj => by
    by_cases e' : (hv hs[j]).ownBlock = some b
    · have := hrow j hj e'
      simpa [List.getD, hj] using this
    · exact (h.rows.own j hj).kept g (Or.inr e'), h.rows.apart⟩, h.old, fun j hj h1 h2 => ⟨(h.gown j hj h1 h2).1.kept g (Or.inr (hg j hj h1 h2)), (h.gown j hj h1 h2).2⟩, h.gwh⟩
/-- Nothing old was written. -/
theorem Grown.fresh {w w' : World} {base e size T gb B2 k : Nat} {mk : Nat → Nat → List Value} {Y : Nat → List Value} {hs gs : List Hd} (h : Grown w base e size T gb B2 mk Y hs gs k) (g : w.grownBy w' none) : Grown w' base e size T gb B2 mk Y hs gs k :=
  h.below ⟨g.os, g.tape, g.output, g.size, fun q hq => g.block q hq (by simp)⟩
/-- What was grown is put into the row. -/
theorem Grown.put {w : World} {base e size T gb B2 k : Nat} {mk : Nat → Nat → List Value} {Y : Nat → List Value} {hs gs : List Hd} (h : Grown w base e size T gb B2 mk Y hs gs k) (hT : T ≠ e) (hk : k < hs.length) (g : Hd) (ho : OwnH w base e size g (Y k)) (hn : g.2.1 = (hs[k]).2.1 + 64) (hw : ∀ b, (hv g).ownBlock = some b → (hv hs[k]).ownBlock = some b ∨ B2 ≤ b) :
    Grown (w.setCell ⟨gb, k, none⟩ (hv g)) base e size T gb B2 mk Y hs (gs.set k g) (k + 1) := by
  obtain ⟨r1, r2⟩ := h.row.stored k (hv g)
  have htag : ∀ q, some gb = some q → ∃ cs fz, w.heap[q]? = some (.cells cs T fz) := fun q hq => by
    obtain rfl := Option.some.inj hq
    exact owns_tag h.row gb rfl
  have far : ∀ {h' : Hd} {xs : List Value}, OwnH w base e size h' xs → OwnH (w.setCell ⟨gb, k, none⟩ (hv g)) base e size h' xs := fun o => owns_far o (fun e' => hT e'.symm) r2 htag
  refine ⟨by rw [List.length_set]; exact h.len, by rw [List.map_set]; exact r1, ⟨fun j hj => far (h.rows.own j hj), h.rows.apart⟩, h.old, fun j hj h1 h2 => ?_, fun j hj h1 h2 => ?_⟩
  · by_cases e' : j = k
    · subst e'
      rw [List.getElem_set_self]
      exact ⟨far ho, hn⟩
    · rw [List.getElem_set_ne (fun q => e' q.symm)]
      have h3 := h.gown j (by omega) h1 (by rw [h.len]; exact h1)
      exact ⟨far h3.1, h3.2⟩
  · by_cases e' : j = k
    · subst e'
      rw [List.getElem_set_self]
      exact hw
    · rw [List.getElem_set_ne (fun q => e' q.symm)]
      exact h.gwh j (by omega) h1 (by rw [h.len]; exact h1)

theorem marks_set1 {mk : Nat → Nat → List Value} (h1 : ∀ k i, (mk k i).length = 1) {k i : Nat} {u : Value} (hu : mk k i = [u]) {xs rest : List Value} (hx : xs = marksR mk k i ++ rest) (hl : i < xs.length) : xs.set i u = marksR mk k (i + 1) ++ rest.drop 1 := by
  have hm := marksR_length h1 k i
  rw [hx, List.length_append] at hl
  cases rest with
  | nil => simp only [List.length_nil] at hl; omega
  | cons x rest =>
    rw [hx, List.set_append_right _ _ (by omega), hm, show i - i * 1 = 0 by omega, List.set_cons_zero, marksR_succ, hu]
    simp
theorem marks_full {mk : Nat → Nat → List Value} {size : Nat} (h1 : ∀ k i, (mk k i).length = size) {k n : Nat} {xs rest : List Value} (hx : xs = marksR mk k n ++ rest) (hl : xs.length = n * size) : xs = marksR mk k n := by
  have hm := marksR_length h1 k n
  rw [hx, List.length_append] at hl
  have : rest = [] := List.eq_nil_of_length_eq_zero (by omega)
  rw [hx, this, List.append_nil]

/-- Behind an append that fits: into the row's own spare room, or into what was made since. -/
theorem Grown.fits {w w' : World} {base e size T gb B2 Br k gg cg q : Nat} {mk : Nat → Nat → List Value} {Y : Nat → List Value} {hs gs : List Hd} (h : Grown w base e size T gb B2 mk Y hs gs k) (hT : T ≠ e) (hk : k < hs.length) (hm : ∀ k i, (mk k i).length = size)
    (hB : B2 ≤ Br) (hbr : ∀ j, j < k → (hj : j < hs.length) → (hg : j < gs.length) → ∀ b, (hv gs[j]).ownBlock = some b → b < Br) (htag : ∃ cs fz, w.heap[gg]? = some (.cells cs e fz)) (hsh : ((hs[k]).1 = some ⟨gg, 0, none⟩ ∧ cg = (hs[k]).2.2) ∨ Br ≤ gg)
    (g : w.grownBy w' (some gg)) (ys : List Value) (own' : OwnH w' base e size (some ⟨gg, 0, none⟩, (hs[k]).2.1 + q, cg) (marksR mk k (hs[k]).2.1 ++ ys)) : Grown w' base e size T gb B2 mk Y hs gs k := by
  refine h.write hT gg htag g (fun j hj hjb => ?_) (fun j hj1 hj hg e' => ?_)
  · rcases hsh with ⟨h1, rfl⟩ | h1
    · have hkb : (hv hs[k]).ownBlock = some gg := by simp [hv, h1, Value.ownBlock]
      by_cases e' : j = k
      · subst e'
        have := own'.pre (marksR_length hm j _)
        have e2 : hs[j] = (some ⟨gg, 0, none⟩, (hs[j]).2.1, (hs[j]).2.2) := by
          rw [← h1]
        rw [e2]
        exact this
      · exact absurd hkb (h.rows.apart j k hj hk e' gg hjb)
    · have := h.old j hj gg hjb
      omega
  · rcases hsh with ⟨h1, rfl⟩ | h1
    · have hkb : (hv hs[k]).ownBlock = some gg := by simp [hv, h1, Value.ownBlock]
      rcases h.gwh j hj1 hj hg gg e' with h2 | h2
      · exact h.rows.apart j k hj hk (by omega) gg h2 hkb
      · have := h.old k hk gg hkb
        omega
    · have := hbr j hj1 hj hg gg e'
      omega
theorem own_cap {w : World} {base e size : Nat} {a : Option Addr} {n c : Nat} {xs : List Value} (o : OwnH w base e size (a, n, c) xs) (hc : 0 < c) : ∃ b, a = some ⟨b, 0, none⟩ := by
  rcases o.2 with ⟨h1, _⟩ | ⟨g, cap, cur, h1, _⟩
  · simp only [Value.slice.injEq] at h1
    omega
  · simp only [Value.slice.injEq] at h1
    exact ⟨g, h1.1⟩
theorem own_nil {w : World} {base e size : Nat} {a : Option Addr} {n c : Nat} {xs : List Value} (o : OwnH w base e size (a, n, c) xs) : a = none → n = 0 ∧ c = 0 := by
  rintro rfl
  rcases o.2 with ⟨h1, h2⟩ | ⟨g, cap, cur, h1, _⟩
  · simp only [Value.slice.injEq] at h1
    exact ⟨h2, h1.2.2⟩
  · simp at h1
theorem OwnH.alloc' {w : World} {base e size : Nat} {h : Hd} {xs : List Value} (o : OwnH w base e size h xs) (x : Obj) : OwnH (w.alloc x) base e size h xs := World.ownsRow.alloc o x
theorem own_cells {w : World} {base e size : Nat} {a : Option Addr} {n c : Nat} {xs : List Value} (o : OwnH w base e size (a, n, c) xs) : ∀ b, a = some b → ∀ j u, xs[j]? = some u → w.cell? (b.add j) = some u := by
  rintro b rfl j u hu
  rcases o.2 with ⟨h1, _⟩ | ⟨g, cap, cur, h1, _⟩
  · simp at h1
  · simp only [Value.slice.injEq, Option.some.injEq] at h1
    obtain ⟨rfl, _, rfl⟩ := h1
    exact World.ownsRow.cells o (g := g) rfl j u hu
/-- A row that was just made holds nothing yet. -/
theorem Grown.start {w : World} {base e size T gb : Nat} {mk : Nat → Nat → List Value} {Y : Nat → List Value} {hs : List Hd} (hR : Rows w base e size hs (fun j => marksR mk j (hs.getD j (none, 0, 0)).2.1)) (hrow : OwnH w base T 1 (some ⟨gb, 0, none⟩, hs.length, hs.length) (List.replicate hs.length (.slice none 0 0))) :
    Grown w base e size T gb w.heap.size mk Y hs (List.replicate hs.length (none, 0, 0)) 0 :=
  ⟨by simp, by rw [List.map_replicate]; exact hrow, hR, fun j hj b hb => ((hR.own j hj).lt b hb).2, fun j hj => by omega, fun j hj => by omega⟩
theorem Grown.cellG {w : World} {base e size T gb B2 k : Nat} {mk : Nat → Nat → List Value} {Y : Nat → List Value} {hs gs : List Hd} (h : Grown w base e size T gb B2 mk Y hs gs k) (j : Nat) (hj : j < hs.length) (hg : j < gs.length) : w.cell? ⟨gb, j, none⟩ = some (hv gs[j]) := by
  rw [h.row.cellAt j (by simp only; omega), List.getElem?_map, List.getElem?_eq_getElem hg]
  rfl
theorem Grown.freeG {w : World} {base e size T gb B2 k : Nat} {mk : Nat → Nat → List Value} {Y : Nat → List Value} {hs gs : List Hd} (h : Grown w base e size T gb B2 mk Y hs gs k) (j : Nat) : w.frozen? ⟨gb, j, none⟩ = false := h.row.frozenAt j
theorem own_at {w : World} {base e size : Nat} {a : Option Addr} {n c : Nat} {xs : List Value} (o : OwnH w base e size (a, n, c) xs) (hn : 0 < n) (j : Nat) (u : Value) (hu : xs[j]? = some u) : ∃ b, a = some ⟨b, 0, none⟩ ∧ w.cell? ⟨b, j, none⟩ = some u := by
  obtain ⟨b, hb⟩ := own_block o hn
  simp only at hb
  refine ⟨b, hb, ?_⟩
  have h := own_cells o _ hb j u hu
  rwa [Addr.add_lit, Nat.zero_add] at h
/-- A cell of a row, and of what was grown of it. -/
theorem Grown.atH {w : World} {base e size T gb B2 k a n c : _} {mk : Nat → Nat → List Value} {Y : Nat → List Value} {hs gs : List Hd} (h : Grown w base e size T gb B2 mk Y hs gs k) (hm : ∀ k i, (mk k i).length = size) (j : Nat) (hj : j < hs.length) (hh : hs[j] = (a, n, c)) (i r : Nat) (hi : i < n) (hr : r < size) (u : Value) (hu : (mk j i)[r]? = some u) :
    ∃ b, a = some ⟨b, 0, none⟩ ∧ w.cell? ⟨b, i * size + r, none⟩ = some u := by
  have o := h.rows.own j hj
  simp only [List.getD, List.getElem?_eq_getElem hj, Option.getD_some, hh] at o
  exact own_at o (by omega) _ _ ((marksR_get hm j n i r hi hr).trans hu)
theorem Grown.atG {w : World} {base e size T gb B2 k a m c : _} {mk : Nat → Nat → List Value} {Y : Nat → List Value} {hs gs : List Hd} (h : Grown w base e size T gb B2 mk Y hs gs k) (j : Nat) (hjk : j < k) (hj : j < hs.length) (hg : j < gs.length) (hh : gs[j] = (a, m, c)) (hm : 0 < m) (i : Nat) (u : Value) (hu : (Y j)[i]? = some u) :
    ∃ b, a = some ⟨b, 0, none⟩ ∧ w.cell? ⟨b, i, none⟩ = some u := by
  have o := (h.gown j hjk hj hg).1
  rw [hh] at o
  exact own_at o hm _ _ hu
theorem Grown.restart {w : World} {base e size T gb B2 B4 k : Nat} {mk : Nat → Nat → List Value} {Y : Nat → List Value} {hs gs : List Hd} (h : Grown w base e size T gb B2 mk Y hs gs k) (hb : B2 ≤ B4) (Y2 : Nat → List Value) : Grown w base e size T gb B4 mk Y2 hs gs 0 :=
  ⟨h.len, h.row, h.rows, fun j hj b hb' => Nat.lt_of_lt_of_le (h.old j hj b hb') hb, fun j hj => by omega, fun j hj => by omega⟩
theorem FK.drewN {e base : Nat} {w w1 : World} (h : FK e base w w1) (n : Nat) : FK e base w (w1.drewN n) :=
  ⟨RowKit_drewN h.bel n, fun k cs t fz h1 h2 => h.oth k cs t fz h1 h2⟩
def mkI (k i : Int) : Int := 1000003 * (k + 7) + i
theorem mark_big (k i : Int) (hk : 0 ≤ k) (hk2 : k ≤ 1000000) (hi : 0 ≤ i) (hi2 : i ≤ 1000000) (w : World) :
    Calls Tryz.prog 41 #[.int .i64 k, .int .i64 i] w fun e w' => e = .returned (.int .i64 (1000003 * (k + 7) + i)) ∧ w' = w := by
  go_enter Tryz.func41, Tryz.ntmps41
  go_wp2
  go_ret
  exact ⟨rfl, rfl⟩
theorem marks_set3 {mk : Nat → Nat → List Value} (h2 : ∀ k i, (mk k i).length = 3) {k i : Nat} {u v x : Value} (hu : mk k i = [u, v, x]) {xs rest : List Value} (hx : xs = marksR mk k i ++ rest) (hl : i * 3 + 2 < xs.length) : ((xs.set (i * 3) u).set (i * 3 + 1) v).set (i * 3 + 2) x = marksR mk k (i + 1) ++ rest.drop 3 := by
  have hm := marksR_length h2 k i
  rw [hx, List.length_append] at hl
  match rest, hl, hx with
  | [], hl, _ => simp only [List.length_nil] at hl; omega
  | [a], hl, _ => simp only [List.length_singleton] at hl; omega
  | [a, b], hl, _ => simp only [List.length_cons, List.length_nil] at hl; omega
  | a :: b :: c :: rest, hl, hx =>
    rw [hx, List.set_append_right _ _ (by omega), hm, show i * 3 - i * 3 = 0 by omega, List.set_cons_zero, List.set_append_right _ _ (by omega), hm, show i * 3 + 1 - i * 3 = 1 by omega, List.set_append_right _ _ (by omega), hm, show i * 3 + 2 - i * 3 = 2 by omega, marksR_succ, hu]
    simp
theorem cell_lt {w : World} {b o : Nat} {v : Value} (h : w.cell? ⟨b, o, none⟩ = some v) : b < w.heap.size := by
  apply Classical.byContradiction
  intro hn
  have hnone : w.heap[b]? = none := Array.getElem?_eq_none (by omega)
  simp [World.cell?, hnone] at h
theorem OwnH.n3 {w : World} {base e : Nat} {b n c : Nat} {xs : List Value} (o : OwnH w base e 3 (some ⟨b, 0, none⟩, n, c) xs) (i j r : Nat) (u v x : Value) :
    OwnH (((w.setCell ⟨b, i, none⟩ u).setCell ⟨b, j, none⟩ v).setCell ⟨b, r, none⟩ x) base e 3 (some ⟨b, 0, none⟩, n, c) (((xs.set i u).set j v).set r x) ∧ w.grownBy (((w.setCell ⟨b, i, none⟩ u).setCell ⟨b, j, none⟩ v).setCell ⟨b, r, none⟩ x) (some b) := by
  obtain ⟨s1, s2⟩ := World.ownsRow.stored o i u
  obtain ⟨s3, s4⟩ := World.ownsRow.stored s1 j v
  obtain ⟨s5, s6⟩ := World.ownsRow.stored s3 r x
  exact ⟨s5, Lib.grownBy_trans s2 (Lib.grownBy_trans s4 s6)⟩
end Go.Proofs.YtnnhgbncghpecaaGreat
