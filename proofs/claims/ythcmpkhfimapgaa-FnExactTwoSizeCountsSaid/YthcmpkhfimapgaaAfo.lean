import Derived.Test.YthcmpkhfimapgaaFma
namespace Go.Proofs.Ythcmpkhfimapgaa.Rhy
open Go.RowKit

end Go.Proofs.Ythcmpkhfimapgaa.Rhy
