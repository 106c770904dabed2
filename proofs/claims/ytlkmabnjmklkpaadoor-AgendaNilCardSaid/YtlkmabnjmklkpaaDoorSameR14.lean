/- Rules that have nothing but saliences are told to be the same. -/
import Derived.Test.YtlkmabnjmklkpaaDoorSal14
namespace Go.Proofs.YtlkmabnjmklkpaaDoor
open Go.RowKit

abbrev aggU (x : Int) : Value := .agg #[.string ⟨#[]⟩, .int .i64 x, .int .i64 0, .slice none 0 0, .slice none 0 0]
end Go.Proofs.YtlkmabnjmklkpaaDoor
