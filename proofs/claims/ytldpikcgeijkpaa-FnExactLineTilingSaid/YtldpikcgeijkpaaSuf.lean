import Derived.Test.YtldpikcgeijkpaaSue
namespace Go.Proofs.Ytldpikcgeijkpaa.Rhy
open Go.RowKit

end Go.Proofs.Ytldpikcgeijkpaa.Rhy
