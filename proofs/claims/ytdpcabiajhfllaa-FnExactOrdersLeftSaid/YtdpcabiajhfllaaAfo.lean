import Derived.Test.YtdpcabiajhfllaaFma
namespace Go.Proofs.Ytdpcabiajhfllaa.Rhy
open Go.RowKit

end Go.Proofs.Ytdpcabiajhfllaa.Rhy
