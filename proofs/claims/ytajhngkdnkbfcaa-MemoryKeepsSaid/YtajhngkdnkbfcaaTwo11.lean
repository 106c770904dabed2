/- Two memories side by side; facts that a memory may have, made again by Of. -/
import Derived.Test.YtajhngkdnkbfcaaOf11
namespace Go.Proofs.Ytajhngkdnkbfcaa
open Go.RowKit

/-- What holds of a memory's facts. -/
structure Gd (l : List F11) : Prop where
  may : ∀ f ∈ l, mayB f.kind f.args = true
  dist : l.Pairwise fun f g => ¬ (f.kind = g.kind ∧ f.args = g.args)
  pos : ∀ f ∈ l, 1 ≤ f.id
theorem Gd.nil : Gd [] := ⟨fun f hf => (by cases hf), List.Pairwise.nil, fun f hf => by cases hf⟩
theorem whoF_none {l : List F11} {kind : Int} {vs : List V3} : whoF l kind vs = none ↔ ∀ f ∈ l, ¬ (f.kind = kind ∧ f.args = vs) := by
  unfold whoF
  rw [Option.map_eq_none_iff, List.find?_eq_none]
  constructor
  · intro h f hf he
    exact h f hf (decide_eq_true he)
  · intro h f hf he
    exact h f hf (of_decide_eq_true he)
theorem Gd.more {l : List F11} {nx kind : Int} {vs : List V3} (h : Gd l) (hm : mayB kind vs = true) (hw : whoF l kind vs = none) (hn : 1 ≤ nx) : Gd (l ++ [⟨nx, kind, vs⟩]) := by
  refine ⟨fun f hf => ?_, ?_, fun f hf => ?_⟩
  · rcases List.mem_append.1 hf with h1 | h1
    · exact h.may f h1
    · obtain rfl := List.mem_singleton.1 h1
      exact hm
  · rw [List.pairwise_append]
    refine ⟨h.dist, List.pairwise_singleton _ _, fun f hf g hg => ?_⟩
    obtain rfl := List.mem_singleton.1 hg
    exact whoF_none.1 hw f hf
  · rcases List.mem_append.1 hf with h1 | h1
    · exact h.pos f h1
    · obtain rfl := List.mem_singleton.1 h1
      exact hn
theorem Gd.filter {l : List F11} (p : F11 → Bool) (h : Gd l) : Gd (l.filter p) := ⟨fun f hf => h.may f (List.mem_filter.1 hf).1, h.dist.filter p, fun f hf => h.pos f (List.mem_filter.1 hf).1⟩
theorem Gd.add {l : List F11} {nx : Int} (h : Gd l) (hn : 1 ≤ nx) (kind : Int) (vs : List V3) : Gd (addM l nx kind vs).facts := by
  unfold addM
  by_cases hm : mayB kind vs = false
  · rw [if_pos hm]
    exact h
  · rw [if_neg hm]
    cases hw : whoF l kind vs with
    | some i => exact h
    | none =>
      simp only
      by_cases hf : fullB l.length nx = true
      · rw [if_pos hf]
        exact h
      · rw [if_neg hf]
        exact h.more (by simpa using hm) hw hn
theorem Gd.drop {l : List F11} {nx : Int} (h : Gd l) (t : Int) : Gd (dropM l nx t).facts := by
  unfold dropM
  split
  · exact h.filter _
  · exact h
theorem Gd.does {l : List F11} {nx : Int} (h : Gd l) (hn : 1 ≤ nx) (x : D11) : Gd (doM l nx x).facts := by
  unfold doM
  split
  · exact h.drop x.id
  · exact h.add hn _ _
/-- Made again, it is the same. -/
theorem ofL_good (nx : Int) (hhi : nx ≤ 1099511627777) : ∀ (r pre : List F11) (n0 : Int), Gd (pre ++ r) → (pre ++ r).length ≤ 256 → Rise r → (∀ f ∈ r, f.id < nx) → (∀ f ∈ r, n0 ≤ f.id) → n0 ≤ nx → ∃ n', ofL r (pre, n0) = some (pre ++ r, n') ∧ n' ≤ nx := by
  intro r
  induction r with
  | nil => intro pre n0 _ _ _ _ _ hn; exact ⟨n0, by rw [List.append_nil]; rfl, hn⟩
  | cons f r ih =>
    intro pre n0 hg hl hr ht h0 hn
    have hmem : f ∈ pre ++ f :: r := by simp
    have hid := ht f (by simp)
    have hlo := h0 f (by simp)
    have hsk : skipB n0 f.id = true := by unfold skipB; simp; omega
    have hmay := hg.may f hmem
    have hwho : whoF pre f.kind f.args = none := whoF_none.2 fun g hgm he => by
      have := (List.pairwise_append.1 hg.dist).2.2 g hgm f (by simp)
      exact this he
    have hfull : fullB pre.length f.id = false := by
      rw [List.length_append, List.length_cons] at hl
      unfold fullB
      simp
      omega
    have hadd : addM pre f.id f.kind f.args = ⟨.tuple #[.int .i64 f.id, .int .i64 0], pre ++ [f], f.id + 1⟩ := by
      unfold addM
      rw [if_neg (by rw [hmay]; decide), hwho]
      simp only
      rw [if_neg (by rw [hfull]; decide)]
    have hstep : ofStep (pre, n0) f = some (pre ++ [f], f.id + 1) := by
      unfold ofStep
      rw [if_pos hsk]
      simp only
      rw [hadd]
      rfl
    have e : pre ++ f :: r = (pre ++ [f]) ++ r := by simp
    rw [e] at hg hl ⊢
    obtain ⟨n', h1, h2⟩ := ih (pre ++ [f]) (f.id + 1) hg hl (fun i j hij hj => by
      have := hr (i + 1) (j + 1) (by omega) (by simp only [List.length_cons]; omega)
      exact this) (fun g hgm => ht g (by simp [hgm])) (fun g hgm => by
      obtain ⟨j, hj, rfl⟩ := mem_getD hgm
      have := hr 0 (j + 1) (by omega) (by simp only [List.length_cons]; omega)
      have h3 : ((f :: r).getD 0 default).id = f.id := rfl
      have h4 : (f :: r).getD (j + 1) default = r.getD j default := by simp
      rw [h3, h4] at this
      omega) (by omega)
    refine ⟨n', ?_, h2⟩
    show (match ofStep (pre, n0) f with | some s' => ofL r s' | none => none) = _
    rw [hstep]
    exact h1
theorem ofM_good {W : World} {mb rb : Nat} {ao : Option Addr} {c : Nat} {l : List F11} {nx : Int} (h : Mm W mb rb ao c l nx) (hg : Gd l) : ofM nx l = some l := by
  obtain ⟨n', h1, h2⟩ := ofL_good nx h.hi l [] 1 hg h.row.many h.rise (fun f hf => h.top f hf) (fun f hf => hg.pos f hf) h.lo
  unfold ofM
  rw [List.nil_append] at h1
  rw [h1]
  simp only
  have hh := h.hi
  rw [if_pos (by unfold skipB; simp; omega)]
/-- Another memory stays. -/
theorem Mm.touch {W W' : World} {S : Nat → Prop} {mb rb : Nat} {ao : Option Addr} {c : Nat} {l : List F11} {nx : Int} (h : Mm W mb rb ao c l nx) (t : Touch S W W') (h1 : ¬ S mb) (h2 : ¬ S rb) (h3 : ∀ a, ao = some a → ¬ S a.block) : Mm W' mb rb ao c l nx := by
  refine ⟨(t.block mb h.ptr.lt h1).trans h.ptr, ⟨(t.block rb h.row.box.lt h2).trans h.row.box, ?_, h.row.few, h.row.many⟩, h.rise, h.top, h.lo, h.hi, h.txt⟩
  refine owns_touch h.row.own t fun k hk => ?_
  cases ao with
  | none => cases hk
  | some a =>
    have : a.block = k := by simpa [Value.ownBlock] using hk
    rw [← this]
    exact h3 a rfl
/-- Two memories, apart from each other. -/
def Two (w : World) (mb1 rb1 mb2 rb2 : Nat) (l1 : List F11) (n1 : Int) (l2 : List F11) (n2 : Int) (W : World) : Prop := ∃ ao1 c1 ao2 c2, Mm W mb1 rb1 ao1 c1 l1 n1 ∧ Mm W mb2 rb2 ao2 c2 l2 n2 ∧ Below w.heap.size w W ∧ w.heap.size ≤ rb1 ∧ (∀ a, ao1 = some a → w.heap.size ≤ a.block) ∧ w.heap.size ≤ rb2 ∧ (∀ a, ao2 = some a → w.heap.size ≤ a.block) ∧ rb1 ≠ rb2 ∧ ∀ a1 a2, ao1 = some a1 → ao2 = some a2 → a1.block ≠ a2.block
theorem Two.symm {w W : World} {mb1 rb1 mb2 rb2 : Nat} {l1 l2 : List F11} {n1 n2 : Int} (h : Two w mb1 rb1 mb2 rb2 l1 n1 l2 n2 W) : Two w mb2 rb2 mb1 rb1 l2 n2 l1 n1 W := by
  obtain ⟨ao1, c1, ao2, c2, h1, h2, h3, h4, h5, h6, h7, h8, h9⟩ := h
  exact ⟨ao2, c2, ao1, c1, h2, h1, h3, h6, h7, h4, h5, h8.symm, fun a1 a2 e1 e2 => (h9 a2 a1 e2 e1).symm⟩
theorem Two.below {w W : World} {mb1 rb1 mb2 rb2 : Nat} {l1 l2 : List F11} {n1 n2 : Int} (h : Two w mb1 rb1 mb2 rb2 l1 n1 l2 n2 W) : Below w.heap.size w W := by
  obtain ⟨ao1, c1, ao2, c2, h1, h2, h3, h4⟩ := h
  exact h3
theorem Two.old {w W W' : World} {mb1 rb1 mb2 rb2 : Nat} {l1 l2 : List F11} {n1 n2 : Int} (h : Two w mb1 rb1 mb2 rb2 l1 n1 l2 n2 W) (b : Below W.heap.size W W') : Two w mb1 rb1 mb2 rb2 l1 n1 l2 n2 W' := by
  obtain ⟨ao1, c1, ao2, c2, h1, h2, h3, h4⟩ := h
  exact ⟨ao1, c1, ao2, c2, h1.old b, h2.old b, h3.trans (b.mono h3.size), h4⟩
theorem Two.lo {w W : World} {mb1 rb1 mb2 rb2 : Nat} {l1 l2 : List F11} {n1 n2 : Int} (h : Two w mb1 rb1 mb2 rb2 l1 n1 l2 n2 W) : 1 ≤ n1 := by
  obtain ⟨ao1, c1, ao2, c2, h1, -⟩ := h
  exact h1.lo
/-- A step of the first one. -/
theorem Two.does {w W : World} {mb1 rb1 mb2 rb2 : Nat} {l1 l2 : List F11} {n1 n2 : Int} (h : Two w mb1 rb1 mb2 rb2 l1 n1 l2 n2 W) (x : D11) (vo : Option Addr) (vc : Nat) (hs : Sl10 W.heap.size W x.args.length vo vc (cellsV x.args)) (hx : ∀ v ∈ x.args, v.2.2.size ≤ 140737488355328) (hn : x.args.length ≤ 100000) :
    Calls Try.prog 22 #[.pointer (some ⟨mb1, 0, none⟩), .agg #[.int .i64 x.op, .int .i64 x.id, .int .i64 x.kind, .slice vo x.args.length vc]] W fun e W' => e = .returned (doM l1 n1 x).tells ∧ Two w mb1 rb1 mb2 rb2 (doM l1 n1 x).facts (doM l1 n1 x).next l2 n2 W' := by
  obtain ⟨ao1, c1, ao2, c2, h1, h2, h3, h4, h5, h6, h7, h8, h9⟩ := h
  refine (do_any x vo vc mb1 rb1 ao1 c1 l1 n1 W h1 hs hx hn).mono ?_
  rintro e W' ⟨he, ao', c', hM, ht, hnb⟩
  have s1 : ¬ RowS rb1 ao1 mb2 := by
    rintro (e | ⟨a, rfl, e⟩)
    · subst e
      have q : _ = _ := (show W.heap[mb2]? = _ from h2.ptr).symm.trans h1.row.box
      cases q
    · obtain ⟨cs, fz, q1⟩ := owns_tag h1.row.own a.block rfl
      rw [e] at q1
      have q : _ = _ := (show W.heap[mb2]? = _ from h2.ptr).symm.trans q1
      cases q
  have s2 : ¬ RowS rb1 ao1 rb2 := by
    rintro (e | ⟨a, rfl, e⟩)
    · exact h8 e.symm
    · obtain ⟨cs, fz, q1⟩ := owns_tag h1.row.own a.block rfl
      rw [e] at q1
      have q : _ = _ := (show W.heap[rb2]? = _ from h2.row.box).symm.trans q1
      cases q
  have s3 : ∀ a, ao2 = some a → ¬ RowS rb1 ao1 a.block := by
    rintro a rfl (e | ⟨a1, e1, e⟩)
    · obtain ⟨cs, fz, q1⟩ := owns_tag h2.row.own a.block rfl
      rw [e] at q1
      have q : _ = _ := q1.symm.trans h1.row.box
      cases q
    · exact h9 a1 a e1 rfl e
  refine ⟨he, ao', c', ao2, c2, hM, h2.touch ht s1 s2 s3, h3.trans (ht.below h3.size ?_), h4, fun a ea => ?_, h6, h7, h8, fun a1 a2 e1 e2 => ?_⟩
  · rintro j (rfl | ⟨a, ea, rfl⟩)
    · exact h4
    · exact h5 a ea
  · rcases hnb a ea with ⟨a0, e0, q⟩ | q
    · rw [← q]
      exact h5 a0 e0
    · exact Nat.le_trans h3.size q
  · rcases hnb a1 e1 with ⟨a0, e0, q⟩ | q
    · rw [← q]
      exact h9 a0 a2 e0 e2
    · subst e2
      have := (World.ownsRow.lt h2.row.own a2.block rfl).2
      omega
theorem Two.next {w W : World} {mb1 rb1 mb2 rb2 : Nat} {l1 l2 : List F11} {n1 n2 : Int} (h : Two w mb1 rb1 mb2 rb2 l1 n1 l2 n2 W) : Calls Try.prog 14 #[.pointer (some ⟨mb1, 0, none⟩)] W fun e w' => e = .returned (.int .i64 n1) ∧ W = w' := by
  obtain ⟨ao1, c1, ao2, c2, h1, -⟩ := h
  exact next_any mb1 rb1 ao1 c1 l1 n1 W h1.ptr h1.row
theorem Two.all {w W : World} {mb1 rb1 mb2 rb2 : Nat} {l1 l2 : List F11} {n1 n2 : Int} (h : Two w mb1 rb1 mb2 rb2 l1 n1 l2 n2 W) : Calls Try.prog 13 #[.pointer (some ⟨mb1, 0, none⟩)] W (AllP l1 W) := by
  obtain ⟨ao1, c1, ao2, c2, h1, -⟩ := h
  exact all_any mb1 rb1 ao1 c1 l1 n1 W h1
/-- One that Of made beside one that was there. -/
theorem two_of {w W W' : World} {mb1 rb1 mb2 rb2 : Nat} {l : List F11} {nx : Int} (h1 : Aw w mb1 rb1 l nx W) (b : Below W.heap.size W W') (h2 : Aw W mb2 rb2 l nx W') : Two w mb1 rb1 mb2 rb2 l nx l nx W' := by
  obtain ⟨ao1, c1, q1, q2, q3, q4⟩ := h1
  obtain ⟨ao2, c2, p1, p2, p3, p4⟩ := h2
  have hl := q1.row.box.lt
  refine ⟨ao1, c1, ao2, c2, q1.old b, p1, q2.trans (b.mono q2.size), q3, q4, Nat.le_trans q2.size p3, fun a ea => Nat.le_trans q2.size (p4 a ea), by omega, fun a1 a2 e1 e2 => ?_⟩
  subst e1
  have := (World.ownsRow.lt q1.row.own a1.block rfl).2
  have := p4 a2 e2
  omega
end Go.Proofs.Ytajhngkdnkbfcaa
