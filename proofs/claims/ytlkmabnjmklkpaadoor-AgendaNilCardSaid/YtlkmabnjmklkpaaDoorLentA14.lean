/- Matches that are lent: a row of their own, marks behind it, and and each one's Ids lent too. -/
import Derived.Test.YtlkmabnjmklkpaaDoorMark14
namespace Go.Proofs.YtlkmabnjmklkpaaDoor
open Go.RowKit

def lv (p : TK × Nat) : TK × Value := (p.1, .slice (some ⟨p.2, 0, none⟩) p.1.2.length (p.1.2.length + 12))
def mkF (n : Nat) : List (TK × Value) := (List.range n).map fun (i : Nat) => ((1000003 * (1 + 7) + (i : Int), []), .slice none 0 0)
theorem mkF_succ (n : Nat) : mkF (n + 1) = mkF n ++ [((1000003 * (1 + 7) + (n : Int), []), .slice none 0 0)] := by
  unfold mkF
  rw [List.range_succ, List.map_append]
  rfl
theorem mkF_length (n : Nat) : (mkF n).length = n := by simp [mkF]

/-- Data that are lent, each at a block of its own. -/
structure LentD (w : World) (base : Nat) (ps : List (TK × Nat)) : Prop where
  lent : ∀ p, p ∈ ps → LentAt w p.2 p.1.2 ∧ base ≤ p.2
  nodup : (ps.map Prod.snd).Nodup
theorem LentD.below {w w' : World} {base : Nat} {ps : List (TK × Nat)} (h : LentD w base ps) (b : Below w.heap.size w w') : LentD w' base ps :=
  ⟨fun p hp => ⟨(h.lent p hp).1.below b, (h.lent p hp).2⟩, h.nodup⟩
theorem LentD.far {w w' : World} {base g : Nat} {ps : List (TK × Nat)} {cs : Array Value} {t : TypeId} {fz : Nat × Nat} (h : LentD w base ps) (b : w.grownBy w' (some g)) (hg : w.heap[g]? = some (.cells cs t fz)) (ht : t ≠ 3) : LentD w' base ps :=
  ⟨fun p hp => ⟨(h.lent p hp).1.keep (b.block p.2 (h.lent p hp).1.size (fun e => by
    obtain ⟨cur, h1, _⟩ := (h.lent p hp).1
    obtain rfl := Option.some.inj e
    rw [hg] at h1
    injection h1 with h1
    injection h1 with _ h2 _
    exact ht h2)), (h.lent p hp).2⟩, h.nodup⟩
theorem LentD.snoc {w : World} {base : Nat} {ps : List (TK × Nat)} {p : TK × Nat} (h : LentD w base ps) (hp : LentAt w p.2 p.1.2) (hb : base ≤ p.2) (hn : ∀ q, q ∈ ps → q.2 ≠ p.2) : LentD w base (ps ++ [p]) := by
  refine ⟨fun q hq => ?_, ?_⟩
  · rcases List.mem_append.1 hq with hq | hq
    · exact h.lent q hq
    · obtain rfl : q = p := by simpa using hq
      exact ⟨hp, hb⟩
  · rw [List.map_append, List.nodup_append]
    refine ⟨h.nodup, by simp, ?_⟩
    intro a ha b hb' e
    obtain ⟨q, hq, rfl⟩ := List.mem_map.1 ha
    simp at hb'
    exact hn q hq (e.trans hb')

def LentFP (k : Int) (d : List Int) (w : World) (e : Ending) (w' : World) : Prop :=
  ∃ g, e = .returned (.agg #[.int .i64 k, .slice (some ⟨g, 0, none⟩) d.length (d.length + 12)]) ∧ LentAt w' g d ∧ w.heap.size ≤ g ∧ Below w.heap.size w w'

theorem two_frozen {w w1 : World} {c1 c2 : Array Value} {t1 t2 : TypeId} (h : Below ((w.alloc (.cells c1 t1)).alloc (.cells c2 t2)).heap.size ((w.alloc (.cells c1 t1)).alloc (.cells c2 t2)) w1) :
    (∀ j, w1.frozen? ⟨w.heap.size, j, none⟩ = false) ∧ (∀ j, w1.frozen? ⟨w.heap.size + 1, j, none⟩ = false) := by
  have e1 : ((w.alloc (.cells c1 t1)).alloc (.cells c2 t2)).heap[w.heap.size]? = some (.cells c1 t1 (0, 0)) := by
    rw [Below.heap_alloc _ _ _ (by simp)]
    exact heap_alloc_new w _
  have e2 : ((w.alloc (.cells c1 t1)).alloc (.cells c2 t2)).heap[w.heap.size + 1]? = some (.cells c2 t2 (0, 0)) := by
    have := heap_alloc_new (w.alloc (.cells c1 t1)) (.cells c2 t2)
    simpa using this
  exact ⟨fun j => Lib.frozen_of_heap ((h.block _ (by simp; omega)).trans e1) j, fun j => Lib.frozen_of_heap ((h.block _ (by simp)).trans e2) j⟩

end Go.Proofs.YtlkmabnjmklkpaaDoor
