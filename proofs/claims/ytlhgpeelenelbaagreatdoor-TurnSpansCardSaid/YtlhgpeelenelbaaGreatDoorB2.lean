/- Contracts of the specification's apart, Apart, CheckApart. -/
import Derived.Test.YtlhgpeelenelbaaGreatDoorB1
import Derived.Test.YtlhgpeelenelbaaGreatDoorA6
namespace Go.Proofs.YtlhgpeelenelbaaGreatDoor
open Go.RowKit

end Go.Proofs.YtlhgpeelenelbaaGreatDoor
