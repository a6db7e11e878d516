import Derived.Test.YtoejafpijcacoaaFma
namespace Go.Proofs.Ytoejafpijcacoaa.Rhy
open Go.RowKit

end Go.Proofs.Ytoejafpijcacoaa.Rhy
