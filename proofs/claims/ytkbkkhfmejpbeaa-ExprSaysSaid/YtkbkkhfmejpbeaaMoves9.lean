/- How the walk's memory goes on: what was said, the way, what is known. -/
import Derived.Test.YtkbkkhfmejpbeaaVar9
namespace Go.Proofs.Ytkbkkhfmejpbeaa
open Go.RowKit

section
variable {B : Nat} {w0 w : World} {R mb vb kb : Nat} {vo : Option Addr} {vc : Nat} {vs : List V3} {wv sv : Value} {ws : List Frm} {sd : List V3} {kn : List (Addr × V3)}

theorem WS.B_le (h : WS B w0 w R mb vb kb vo vc vs wv sv ws sd kn) : B ≤ w.heap.size := Nat.le_trans h.bw h.base.size
theorem WS.up (h : WS B w0 w R mb vb kb vo vc vs wv sv ws sd kn) {W : World} (b : Below w.heap.size w W) : WS B w0 W R mb vb kb vo vc vs wv sv ws sd kn :=
  ⟨h.base.trans (b.mono h.B_le), h.bw, h.hR, h.hm, h.hv, h.hk, (b.block R (lt_of_heap h.box)).trans h.box, (b.block mb (lt_of_heap h.says)).trans h.says, (b.block vb (lt_of_heap h.vars)).trans h.vars, h.vrow, owns_below h.way b, owns_below h.said b, h.known.keep (b.block kb h.known.lt), h.ne⟩
theorem set_other {W : World} {R i : Nat} {v : Value} {k : Nat} {o : Obj} (h : W.heap[k]? = some o) (hne : k ≠ R) : (W.setCell ⟨R, i, none⟩ v).heap[k]? = some o :=
  ((Lib.grownBy_setCell W R i v).block k (lt_of_heap h) (fun e => hne (Option.some.inj e))).trans h
theorem tag_ne {W : World} {k R : Nat} {cs cs' : Array Value} {t t' : TypeId} {fr fr' : Nat × Nat} (h : W.heap[k]? = some (.cells cs t fr)) (h' : W.heap[R]? = some (.cells cs' t' fr')) (ht : t ≠ t') : k ≠ R := by
  rintro rfl
  rw [h] at h'
  injection h' with h'
  injection h' with _ h2 _
  exact ht h2
theorem map_ne {W : World} {k R : Nat} {es : Array MapEntry} {c : Nat} {cs' : Array Value} {t' : TypeId} {fr' : Nat × Nat} (h : W.heap[k]? = some (.map es c)) (h' : W.heap[R]? = some (.cells cs' t' fr')) : k ≠ R := by
  rintro rfl
  rw [h] at h'
  cases h'
/-- What is laid in a cell of a block keeps rows of another type. -/
theorem owns_set {W : World} {base e size n : Nat} {v u : Value} {xs : List Value} {R i : Nat} {cs : Array Value} {t : TypeId} {fr : Nat × Nat} (h : W.ownsRow base e size v n xs) (hR : W.heap[R]? = some (.cells cs t fr)) (ht : e ≠ t) : (W.setCell ⟨R, i, none⟩ u).ownsRow base e size v n xs :=
  owns_far h ht (Lib.grownBy_setCell W R i u) (fun k e => by obtain rfl := Option.some.inj e; exact ⟨cs, fr, hR⟩)

/-- What was said is another row. -/
theorem WS.setSaid (h : WS B w0 w R mb vb kb vo vc vs wv sv ws sd kn) {w' : World} {sv' : Value} {sd' : List V3} (hg : w.grownBy w' sv.ownBlock) (ho : w'.ownsRow B 25 3 sv' sd'.length (cellsV sd')) :
    WS B w0 (w'.setCell ⟨R, 2, none⟩ sv') R mb vb kb vo vc vs wv sv' ws sd' kn := by
  have tag := owns_tag h.said
  have far : ∀ (k : Nat) (o : Obj), w.heap[k]? = some o → (∀ cs fz, o ≠ .cells cs 25 fz) → w'.heap[k]? = some o := fun k o hk hn =>
    (hg.block k (lt_of_heap hk) (fun e => by
      obtain ⟨cs, fz, h1⟩ := tag k e.symm
      rw [hk] at h1
      exact hn cs fz (Option.some.inj h1))).trans hk
  have hbox := far R _ h.box (fun cs fz e => by injection e with _ e _; exact absurd e (by decide))
  have hsays := far mb _ h.says (fun cs fz e => by cases e)
  have hvars := far vb _ h.vars (fun cs fz e => by injection e with _ e _; exact absurd e (by decide))
  obtain ⟨es, clock, hkn, hkm⟩ := h.known
  have hkn' := far kb _ hkn (fun cs fz e => by cases e)
  have hway : w'.ownsRow B 86 2 wv ws.length (cellsF ws) := owns_far h.way (by decide) hg tag
  refine ⟨(h.base.grown hg h.B_le (fun k e => (h.said.lt k e).1)).setCell (p := ⟨R, 2, none⟩) h.hR _, h.bw, h.hR, h.hm, h.hv, h.hk, ?_, set_other hsays (map_ne hsays hbox), set_other hvars (tag_ne hvars hbox (by decide)), h.vrow, owns_set hway hbox (by decide), owns_set ho hbox (by decide), ⟨es, clock, set_other hkn' (map_ne hkn' hbox), hkm⟩, h.ne⟩
  exact Joins.block_setCell hbox sv' (i := 2)
/-- The way is another row. -/
theorem WS.setWay (h : WS B w0 w R mb vb kb vo vc vs wv sv ws sd kn) {w' : World} {wv' : Value} {ws' : List Frm} (hg : w.grownBy w' wv.ownBlock) (ho : w'.ownsRow B 86 2 wv' ws'.length (cellsF ws')) :
    WS B w0 (w'.setCell ⟨R, 1, none⟩ wv') R mb vb kb vo vc vs wv' sv ws' sd kn := by
  have tag := owns_tag h.way
  have far : ∀ (k : Nat) (o : Obj), w.heap[k]? = some o → (∀ cs fz, o ≠ .cells cs 86 fz) → w'.heap[k]? = some o := fun k o hk hn =>
    (hg.block k (lt_of_heap hk) (fun e => by
      obtain ⟨cs, fz, h1⟩ := tag k e.symm
      rw [hk] at h1
      exact hn cs fz (Option.some.inj h1))).trans hk
  have hbox := far R _ h.box (fun cs fz e => by injection e with _ e _; exact absurd e (by decide))
  have hsays := far mb _ h.says (fun cs fz e => by cases e)
  have hvars := far vb _ h.vars (fun cs fz e => by injection e with _ e _; exact absurd e (by decide))
  obtain ⟨es, clock, hkn, hkm⟩ := h.known
  have hkn' := far kb _ hkn (fun cs fz e => by cases e)
  have hsaid : w'.ownsRow B 25 3 sv sd.length (cellsV sd) := owns_far h.said (by decide) hg tag
  refine ⟨(h.base.grown hg h.B_le (fun k e => (h.way.lt k e).1)).setCell (p := ⟨R, 1, none⟩) h.hR _, h.bw, h.hR, h.hm, h.hv, h.hk, ?_, set_other hsays (map_ne hsays hbox), set_other hvars (tag_ne hvars hbox (by decide)), h.vrow, owns_set ho hbox (by decide), owns_set hsaid hbox (by decide), ⟨es, clock, set_other hkn' (map_ne hkn' hbox), hkm⟩, h.ne⟩
  exact Joins.block_setCell hbox wv' (i := 1)
/-- A step on the way is turned where it lies. -/
theorem WS.turnWay (h : WS B w0 w R mb vb kb vo vc vs wv sv ws sd kn) {w' : World} {ws' : List Frm} (hg : w.grownBy w' wv.ownBlock) (ho : w'.ownsRow B 86 2 wv ws'.length (cellsF ws')) :
    WS B w0 w' R mb vb kb vo vc vs wv sv ws' sd kn := by
  have tag := owns_tag h.way
  have far : ∀ (k : Nat) (o : Obj), w.heap[k]? = some o → (∀ cs fz, o ≠ .cells cs 86 fz) → w'.heap[k]? = some o := fun k o hk hn =>
    (hg.block k (lt_of_heap hk) (fun e => by
      obtain ⟨cs, fz, h1⟩ := tag k e.symm
      rw [hk] at h1
      exact hn cs fz (Option.some.inj h1))).trans hk
  obtain ⟨es, clock, hkn, hkm⟩ := h.known
  exact ⟨h.base.grown hg h.B_le (fun k e => (h.way.lt k e).1), h.bw, h.hR, h.hm, h.hv, h.hk, far R _ h.box (fun cs fz e => by injection e with _ e _; exact absurd e (by decide)), far mb _ h.says (fun cs fz e => by cases e), far vb _ h.vars (fun cs fz e => by injection e with _ e _; exact absurd e (by decide)), h.vrow, ho, owns_far h.said (by decide) hg tag, ⟨es, clock, far kb _ hkn (fun cs fz e => by cases e), hkm⟩, h.ne⟩
/-- Something more is known. -/
theorem WS.setKnown (h : WS B w0 w R mb vb kb vo vc vs wv sv ws sd kn) {w' : World} {kn' : List (Addr × V3)} (hg : w.grownBy w' (some kb)) (hm : MapIs (fun a => .pointer (some a)) w' kb (kn'.map fun p => (p.1, aggV p.2))) :
    WS B w0 w' R mb vb kb vo vc vs wv sv ws sd kn' := by
  obtain ⟨es, clock, hkn, hkm⟩ := h.known
  have far : ∀ (k : Nat) (o : Obj), w.heap[k]? = some o → k ≠ kb → w'.heap[k]? = some o := fun k o hk hn => (hg.block k (lt_of_heap hk) (fun e => hn (Option.some.inj e))).trans hk
  have row : ∀ {e size n : Nat} {v : Value} {xs : List Value}, w.ownsRow B e size v n xs → w'.ownsRow B e size v n xs := fun ho => owns_apart ho hg (fun e => by
    obtain ⟨cs, fz, h1⟩ := owns_tag ho kb e
    rw [hkn] at h1
    cases h1)
  exact ⟨h.base.grown hg h.B_le (fun k e => by obtain rfl := Option.some.inj e; exact h.hk), h.bw, h.hR, h.hm, h.hv, h.hk, far R _ h.box (map_ne hkn h.box).symm, far mb _ h.says h.ne.symm, far vb _ h.vars (map_ne hkn h.vars).symm, h.vrow, row h.way, row h.said, hm, h.ne⟩
end

/-- A row of one's own, cut short. -/
theorem owns_cut {w : World} {base e size n m c : Nat} {ao : Option Addr} {xs ys : List Value} (h : w.ownsRow base e size (.slice ao n c) n (xs ++ ys)) (hx : xs.length = m * size) (hm : m ≤ n) : w.ownsRow base e size (.slice ao m c) m xs := by
  rcases h.2 with ⟨h', h0⟩ | ⟨g, cap, cur, h', hb, hg, hn, hmx, hs, ht⟩
  · simp only [Value.slice.injEq] at h'
    obtain ⟨rfl, rfl, rfl⟩ := h'
    obtain rfl : m = 0 := by omega
    exact ⟨hx, Or.inl ⟨rfl, rfl⟩⟩
  · simp only [Value.slice.injEq, true_and] at h'
    obtain ⟨rfl, rfl⟩ := h'
    refine ⟨hx, Or.inr ⟨g, c, cur, rfl, hb, hg, by omega, hmx, hs, ?_⟩⟩
    have hle : m * size ≤ n * size := Nat.mul_le_mul_right _ hm
    have := congrArg (List.take (m * size)) ht
    rw [List.take_take, Nat.min_eq_left hle, ← hx, List.take_left] at this
    rw [← hx]
    exact this
/-- A row of values of one's own: its room, where it lies. -/
theorem owns_capV {w : World} {base g n c : Nat} {xs : List Value} (h : w.ownsRow base 25 3 (.slice (some ⟨g, 0, none⟩) n c) n xs) : n ≤ c ∧ c ≤ maxLen := by
  rcases h.2 with ⟨h', _⟩ | ⟨g', cap, cur, h', _, _, hn, hm, _⟩
  · simp at h'
  · simp only [Value.slice.injEq] at h'
    obtain ⟨_, _, rfl⟩ := h'
    exact ⟨hn, hm⟩
theorem owns_tagV {w : World} {base g n c : Nat} {xs : List Value} (h : w.ownsRow base 25 3 (.slice (some ⟨g, 0, none⟩) n c) n xs) : w.heap[g]? = some (.cells (Classical.choose (owns_tag h g rfl)) 25 (Classical.choose (Classical.choose_spec (owns_tag h g rfl)))) :=
  Classical.choose_spec (Classical.choose_spec (owns_tag h g rfl))
theorem owns_rowV {w : World} {base g c : Nat} {pre q : List V3} (h : w.ownsRow base 25 3 (.slice (some ⟨g, 0, none⟩) (pre ++ q).length c) (pre ++ q).length (cellsV (pre ++ q))) : RowAt w g (pre.length * 3) q := by
  refine RowAt.ofCells q fun j hj => ?_
  have := h.cellAt (pre.length * 3 + j) (by rw [List.length_append]; omega)
  rw [this, cellsV_append, List.getElem?_append_right (by rw [cellsV_length]; omega), cellsV_length, Nat.add_sub_cancel_left]
end Go.Proofs.Ytkbkkhfmejpbeaa
