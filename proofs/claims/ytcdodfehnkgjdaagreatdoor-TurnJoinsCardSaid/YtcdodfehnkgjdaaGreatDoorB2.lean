/- Contracts of the specification's apart, Apart, CheckApart. -/
import Derived.Test.YtcdodfehnkgjdaaGreatDoorB1
import Derived.Test.YtcdodfehnkgjdaaGreatDoorA6
namespace Go.Proofs.YtcdodfehnkgjdaaGreatDoor
open Go.RowKit

end Go.Proofs.YtcdodfehnkgjdaaGreatDoor
