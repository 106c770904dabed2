/- The library's table of powers of ten. -/
import Derived.Test.YtlkmabnjmklkpaaDoorBase14
import Derived.Lib.AppendIntMem
namespace Go.Proofs.YtlkmabnjmklkpaaDoor
open Go.RowKit

/-- The library's table of powers of ten is there. -/
abbrev Tab14 (W : World) : Prop := Lib.TabIs Tryd.prog W "internal/strconv.uint64pow10" .u64 Lib.pow10Tab
theorem Tab14.on {w W : World} (h : Tab14 w) (b : Below w.heap.size w W) : Tab14 W := (Lib.tabBelow_of_tabIs h) W b
theorem Tab14.below {B : Nat} {w : World} (h : Lib.TabBelow Tryd.prog B w "internal/strconv.uint64pow10" .u64 Lib.pow10Tab) {W : World} (b : Below B w W) : Lib.TabBelow Tryd.prog B W "internal/strconv.uint64pow10" .u64 Lib.pow10Tab := fun w' h' => h w' (b.trans h')
end Go.Proofs.YtlkmabnjmklkpaaDoor
