/- The document's own deferred tax of rows: a contract. -/
import Derived.Test.YtolmdoigcaaieaaRMeas
namespace Go.Proofs.Ytolmdoigcaaieaa
open Go.RowKit

end Go.Proofs.Ytolmdoigcaaieaa
