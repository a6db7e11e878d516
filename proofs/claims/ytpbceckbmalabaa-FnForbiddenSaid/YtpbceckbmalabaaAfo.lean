import Derived.Test.YtpbceckbmalabaaFma
namespace Go.Proofs.Ytpbceckbmalabaa.Rhy
open Go.RowKit

end Go.Proofs.Ytpbceckbmalabaa.Rhy
