import Derived.Test.YthnlakdfbalgdaaFma
namespace Go.Proofs.Ythnlakdfbalgdaa.Rhy
open Go.RowKit

end Go.Proofs.Ythnlakdfbalgdaa.Rhy
