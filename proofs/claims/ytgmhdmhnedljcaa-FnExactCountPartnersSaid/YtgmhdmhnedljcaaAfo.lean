import Derived.Test.YtgmhdmhnedljcaaFma
namespace Go.Proofs.Ytgmhdmhnedljcaa.Rhy
open Go.RowKit

end Go.Proofs.Ytgmhdmhnedljcaa.Rhy
