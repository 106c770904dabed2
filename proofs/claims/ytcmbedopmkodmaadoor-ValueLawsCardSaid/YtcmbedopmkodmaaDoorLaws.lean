/- ValueLaws is true, its cases joined. -/
import Derived.Test.YtcmbedopmkodmaaDoorLawsA
import Derived.Test.YtcmbedopmkodmaaDoorLawsB
import Derived.Test.YtcmbedopmkodmaaDoorLawsC
import Derived.Test.YtcmbedopmkodmaaDoorLawsD
namespace Go.Proofs.YtcmbedopmkodmaaDoor
open Go.RowKit

theorem laws_any (x y : Int) (w : World) (hx : In64 x) (hy : In64 y) :
    Calls Tryd.prog 6 #[.int .i64 x, .int .i64 y] w fun e w' => e = .returned (.bool true) ∧ Below w.heap.size w w' := by
  cases hs : fitB (x + y) <;> cases hn : fitB (-x) <;> cases hl : decide (x < y)
  · exact laws_xxg x y w hx hy hs hn hl
  · exact laws_xxl x y w hx hy hs hn hl
  · exact laws_xng x y w hx hy hs hn hl
  · exact laws_xnl x y w hx hy hs hn hl
  · exact laws_sxg x y w hx hy hs hn hl
  · exact laws_sxl x y w hx hy hs hn hl
  · exact laws_sng x y w hx hy hs hn hl
  · exact laws_snl x y w hx hy hs hn hl
end Go.Proofs.YtcmbedopmkodmaaDoor
