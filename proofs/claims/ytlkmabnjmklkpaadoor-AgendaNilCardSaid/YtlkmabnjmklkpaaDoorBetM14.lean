/- AgendaBetter answers yes, whatever came in, given what the program's Better and the law's awake tell. -/
import Derived.Test.YtlkmabnjmklkpaaDoorTwoT14
import Derived.Test.YtlkmabnjmklkpaaDoorGreat14
import Derived.Test.YtlkmabnjmklkpaaDoorTab14
namespace Go.Proofs.YtlkmabnjmklkpaaDoor
open Go.RowKit
set_option maxRecDepth 100000

theorem below_three {w : World} (o1 o2 o3 : Obj) : Below w.heap.size w (((w.alloc o1).alloc o2).alloc o3) := below_new (below_two w o1 o2) o3
/-- What the program's Better tells. -/
def BetterTells : Prop := ∀ (s : List Int) (x y : TK) (ao ao1 ao2 : Option Addr) (c c1 c2 : Nat) (W : World), s.length ≤ 1000000 → x.2.length ≤ 1000000 → y.2.length ≤ 1000000 → SlG W.heap.size W ao (rcells s) → SlG W.heap.size W ao1 (icells x.2) → SlG W.heap.size W ao2 (icells y.2) → (ao = none → c = 0) → (ao1 = none → c1 = 0) → (ao2 = none → c2 = 0) → s.length ≤ c → x.2.length ≤ c1 → y.2.length ≤ c2 →
  Calls Tryd.prog 13 #[aggR ao s.length c, aggK x.1 ao1 x.2.length c1, aggK y.1 ao2 y.2.length c2] W (SaysP (better14 s x y) W)
def AwakeTells : Prop := ∀ W : World, Tab14 W → Calls Tryd.prog 5 #[] W (YesP W)

end Go.Proofs.YtlkmabnjmklkpaaDoor
