/- MemoryKeeps, plainly: which fact says so, what Add, Drop, Get and Find tell of it. -/
import Derived.Test.YtajhngkdnkbfcaaKeep11
namespace Go.Proofs.Ytajhngkdnkbfcaa
open Go.RowKit

def atN (l : List F11) (kind : Int) (vs : List V3) : Nat → Int
  | 0 => -1
  | j + 1 => if (l.getD j default).kind = kind ∧ (l.getD j default).args = vs then (j : Int) else atN l kind vs j
theorem atN_is (l : List F11) (kind : Int) (vs : List V3) : ∀ n, (atN l kind vs n = -1 ∧ ∀ j, j < n → ¬ ((l.getD j default).kind = kind ∧ (l.getD j default).args = vs)) ∨ ∃ j, j < n ∧ atN l kind vs n = j ∧ (l.getD j default).kind = kind ∧ (l.getD j default).args = vs := by
  intro n
  induction n with
  | zero => exact Or.inl ⟨rfl, fun j hj => absurd hj (Nat.not_lt_zero _)⟩
  | succ n ih =>
    by_cases h : (l.getD n default).kind = kind ∧ (l.getD n default).args = vs
    · exact Or.inr ⟨n, Nat.lt_succ_self _, by unfold atN; rw [if_pos h], h⟩
    · have e : atN l kind vs (n + 1) = atN l kind vs n := by rw [atN, if_neg h]
      rw [e]
      rcases ih with ⟨h1, h2⟩ | ⟨j, h1, h2, h3⟩
      · refine Or.inl ⟨h1, fun j hj => ?_⟩
        by_cases hjn : j = n
        · subst hjn
          exact h
        · exact h2 j (by omega)
      · exact Or.inr ⟨j, by omega, h2, h3⟩
theorem dist_at {l : List F11} (h : Gd l) {i j : Nat} (hij : i < j) (hj : j < l.length) : ¬ ((l.getD i default).kind = (l.getD j default).kind ∧ (l.getD i default).args = (l.getD j default).args) := by
  have := (List.pairwise_iff_getElem.1 h.dist) i j (by omega) hj hij
  rw [List.getD_eq_getElem?_getD, List.getD_eq_getElem?_getD, List.getElem?_eq_getElem (by omega), List.getElem?_eq_getElem hj]
  exact this
theorem who_at {l : List F11} (h : Gd l) {j : Nat} (hj : j < l.length) : whoF l (l.getD j default).kind (l.getD j default).args = some (l.getD j default).id := by
  unfold whoF
  rw [find_first hj (fun i hi => decide_eq_false (dist_at h hi hj)) (decide_eq_true ⟨rfl, rfl⟩)]
  rfl
theorem at_who {l : List F11} (h : Gd l) (kind : Int) (vs : List V3) : (atN l kind vs l.length = -1 ∧ whoF l kind vs = none) ∨ ∃ j, j < l.length ∧ atN l kind vs l.length = j ∧ whoF l kind vs = some (l.getD j default).id ∧ mayB kind vs = true := by
  rcases atN_is l kind vs l.length with ⟨h1, h2⟩ | ⟨j, h1, h2, rfl, rfl⟩
  · refine Or.inl ⟨h1, whoF_none.2 fun f hf => ?_⟩
    obtain ⟨j, hj, rfl⟩ := mem_getD hf
    exact h2 j hj
  · exact Or.inr ⟨j, h1, h2, who_at h h1, h.may _ (getD_mem11 h1)⟩
/-- What Add tells, beside where a fact stands that says so. -/
theorem add_cases {l : List F11} {nx : Int} (h : Gd l) (kind : Int) (vs : List V3) (hl : l.length ≤ 200) (hn : nx ≤ 1000) :
    (addM l nx kind vs = ⟨.tuple #[.int .i64 nx, .int .i64 0], l ++ [⟨nx, kind, vs⟩], nx + 1⟩ ∧ atN l kind vs l.length = -1) ∨
    (∃ j, j < l.length ∧ addM l nx kind vs = ⟨.tuple #[.int .i64 (l.getD j default).id, .int .i64 7], l, nx⟩ ∧ atN l kind vs l.length = j) ∨
    (addM l nx kind vs = ⟨.tuple #[.int .i64 0, .int .i64 2], l, nx⟩ ∧ atN l kind vs l.length = -1) := by
  rcases at_who h kind vs with ⟨h1, h2⟩ | ⟨j, h1, h2, h3, h4⟩
  · cases hm : mayB kind vs with
    | false => exact Or.inr (Or.inr ⟨by unfold addM; rw [if_pos hm], h1⟩)
    | true =>
      refine Or.inl ⟨?_, h1⟩
      have hf : fullB l.length nx = false := by unfold fullB; simp; omega
      unfold addM
      rw [if_neg (by rw [hm]; decide), h2]
      simp only
      rw [if_neg (by rw [hf]; decide)]
  · refine Or.inr (Or.inl ⟨j, h1, ?_, h2⟩)
    unfold addM
    rw [if_neg (by rw [h4]; decide), h3]
theorem stands_at {l : List F11} (hr : Rise l) {k : Nat} (hk : k < l.length) : Stands l (l.getD k default).id k :=
  ⟨Nat.le_of_lt hk, fun m hm => hr m k hm hk, fun m h1 h2 => by
    by_cases e : k = m
    · subst e; exact Int.le_refl _
    · exact Int.le_of_lt (hr k m (by omega) h2)⟩
theorem has_at {l : List F11} {k : Nat} (hk : k < l.length) : hasB l (l.getD k default).id k = true := by
  unfold hasB
  exact decide_eq_true ⟨hk, rfl⟩
theorem drop_at {l : List F11} {nx : Int} (hr : Rise l) {k : Nat} (hk : k < l.length) : dropM l nx (l.getD k default).id = ⟨.int .i64 0, l.take k ++ l.drop (k + 1), nx⟩ := by
  unfold dropM
  rw [if_pos (by rw [has_of hr (stands_at hr hk), has_at hk]), less_of hr (stands_at hr hk) (has_at hk)]
theorem get_at {l : List F11} (hr : Rise l) {k : Nat} (hk : k < l.length) : getF l (l.getD k default).id = some (l.getD k default) := (get_yes (stands_at hr hk) (has_at hk)).1
theorem find_at {l : List F11} (h : Gd l) {k : Nat} (hk : k < l.length) : findA l (l.getD k default).kind (l.getD k default).args = .tuple #[.int .i64 (l.getD k default).id, .bool true] := by
  unfold findA
  rw [if_neg (by rw [h.may _ (getD_mem11 hk)]; decide)]
  unfold whoA
  rw [who_at h hk]
/-- What is known of a memory's facts. -/
theorem Aw.info {w W : World} {mb rb : Nat} {l : List F11} {nx : Int} (h : Aw w mb rb l nx W) : Rise l ∧ (∀ f ∈ l, f.id < nx) ∧ (∀ f ∈ l, ∀ v ∈ f.args, v.2.2.size ≤ 140737488355328) ∧ (∀ f ∈ l, f.args.length ≤ 6) ∧ l.length ≤ 256 := by
  obtain ⟨ao, c, h1, -⟩ := h
  exact ⟨h1.rise, h1.top, h1.txt, h1.row.few, h1.row.many⟩
theorem Gd.less {l : List F11} (h : Gd l) (k : Nat) : Gd (l.take k ++ l.drop (k + 1)) := by
  have hs : (l.take k ++ l.drop (k + 1)).Sublist l := by
    have h1 : (l.drop (k + 1)).Sublist (l.drop k) := by
      rw [← List.drop_drop]
      exact List.drop_sublist _ _
    have := List.Sublist.append (List.Sublist.refl (l.take k)) h1
    rwa [List.take_append_drop] at this
  exact ⟨fun f hf => h.may f (hs.subset hf), h.dist.sublist hs, fun f hf => h.pos f (hs.subset hf)⟩
/-- The cells of the facts from k on. -/
theorem cells3_drop (ps : List (F11 × Value)) : ∀ (k : Nat), (cells3 ps).drop (k * 3) = cells3 (ps.drop k) := by
  induction ps with
  | nil => intro k; simp [cells3]
  | cons p ps ih =>
    intro k
    match k with
    | 0 => rfl
    | k + 1 =>
      rw [show (k + 1) * 3 = k * 3 + 1 + 1 + 1 by omega]
      simp only [cells3, List.drop_succ_cons]
      exact ih k
/-- Some facts, and behind them some that are there. -/
theorem RowF.join {base : Nat} {w w' : World} {v v' : Value} {ps qs : List (F11 × Value)} {n : Nat} (h0 : w.ownsRow base 37 3 v ps.length (cells3 ps)) (h1 : ∀ p ∈ ps, ArgV base w p.1 p.2) (h2 : ∀ p ∈ qs, ArgV base w p.1 p.2)
    (hn : n = ps.length + qs.length) (ho : w'.ownsRow base 37 3 v' n (cells3 ps ++ cells3 qs)) (hg : w.grownBy w' v.ownBlock) : RowF base w' (ps.map Prod.fst ++ qs.map Prod.fst) v' := by
  have hfar : ∀ {v1 : Value} {n : Nat} {xs : List Value}, w.ownsRow base 33 3 v1 n xs → w'.ownsRow base 33 3 v1 n xs := fun h => owns_far (e' := 37) h (by decide) hg (owns_tag h0)
  refine ⟨ps ++ qs, by rw [List.map_append], ?_, fun p hp => ?_⟩
  · rw [cells3_append, List.length_append, List.length_map, List.length_map, ← hn]
    exact ho
  · have : ArgV base w p.1 p.2 := by
      rcases List.mem_append.1 hp with h | h
      · exact h1 p h
      · exact h2 p h
    obtain ⟨a, d, e1, e2⟩ := this
    exact ⟨a, d, e1, hfar e2⟩
end Go.Proofs.Ytajhngkdnkbfcaa
