/- The document's row of numbers, the greatest first. -/
import Derived.Test.YtlkmabnjmklkpaaDoorBase14
import Derived.Test.YtlkmabnjmklkpaaDoorPlain14
namespace Go.Proofs.YtlkmabnjmklkpaaDoor
open Go.RowKit

/-- A row of its own of these ints. -/
def FellP (l : List Int) (w : World) (e : Ending) (w' : World) : Prop := ∃ v, e = .returned v ∧ w'.ownsRow w.heap.size 3 1 v l.length (icells l) ∧ Below w.heap.size w w'

theorem icells_set (l : List Int) (k : Nat) (x : Int) : icells (l.set k x) = (icells l).set k (.int .i64 x) := List.map_set ..
theorem icells_get (l : List Int) (k : Nat) (h : k < l.length) : (icells l)[k]? = some (.int .i64 l[k]) := by simp [icells, h]

end Go.Proofs.YtlkmabnjmklkpaaDoor
