import Derived.Test.YthjkblekccpafaaFma
namespace Go.Proofs.Ythjkblekccpafaa.Rhy
open Go.RowKit

end Go.Proofs.Ythjkblekccpafaa.Rhy
