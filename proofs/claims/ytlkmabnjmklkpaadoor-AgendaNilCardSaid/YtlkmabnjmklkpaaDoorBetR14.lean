/- The document's Better. -/
import Derived.Test.YtlkmabnjmklkpaaDoorSal14
import Derived.Test.YtlkmabnjmklkpaaDoorMark14
namespace Go.Proofs.YtlkmabnjmklkpaaDoor
open Go.RowKit

theorem gr_mk (w : World) (q : Nat) (os : Array Obj) : Gr w (Sort.grow (w.drewN q) os) := ⟨q, os, rfl⟩
/-- A row of its own, read. -/
theorem owns_slI' {w : World} {base n : Nat} {v : Value} {l : List Int} (h : w.ownsRow base 3 1 v n (icells l)) (hn : n = l.length) : ∃ ao c, v = .slice ao l.length c ∧ SlG w.heap.size w ao (icells l) := by
  subst hn
  obtain ⟨ao, c, rfl⟩ := owns_slice h
  exact ⟨ao, c, rfl, owns_slI h⟩

end Go.Proofs.YtlkmabnjmklkpaaDoor
