/- A match that was lent is kept; a match's mark. -/
import Derived.Test.YtlkmabnjmklkpaaDoorToks14
namespace Go.Proofs.YtlkmabnjmklkpaaDoor
open Go.RowKit

end Go.Proofs.YtlkmabnjmklkpaaDoor
