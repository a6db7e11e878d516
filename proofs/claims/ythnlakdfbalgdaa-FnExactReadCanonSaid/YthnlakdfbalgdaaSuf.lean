import Derived.Test.YthnlakdfbalgdaaSue
namespace Go.Proofs.Ythnlakdfbalgdaa.Rhy
open Go.RowKit

end Go.Proofs.Ythnlakdfbalgdaa.Rhy
