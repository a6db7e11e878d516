import Derived.Test.YtldpikcgeijkpaaFma
namespace Go.Proofs.Ytldpikcgeijkpaa.Rhy
open Go.RowKit

end Go.Proofs.Ytldpikcgeijkpaa.Rhy
