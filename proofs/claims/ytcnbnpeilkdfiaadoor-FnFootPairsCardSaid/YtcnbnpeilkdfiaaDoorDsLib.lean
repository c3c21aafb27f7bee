/- Decimal forms: the walk of the spec's loop over the digits. -/
import Derived.Test.YtcnbnpeilkdfiaaDoorDcLib
namespace Go.Proofs.YtcnbnpeilkdfiaaDoor.Ds
open Go.RowKit Ba Go.Lib Dc

end Go.Proofs.YtcnbnpeilkdfiaaDoor.Ds
