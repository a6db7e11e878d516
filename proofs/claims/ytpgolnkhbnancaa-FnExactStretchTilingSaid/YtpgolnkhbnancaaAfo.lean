import Derived.Test.YtpgolnkhbnancaaFma
namespace Go.Proofs.Ytpgolnkhbnancaa.Rhy
open Go.RowKit

end Go.Proofs.Ytpgolnkhbnancaa.Rhy
