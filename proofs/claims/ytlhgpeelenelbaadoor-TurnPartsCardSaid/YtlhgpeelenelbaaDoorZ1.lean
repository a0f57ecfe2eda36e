/- The law TurnParts holds for every input: two turns and three numbers. No condition beside the statement's own. -/
import Derived.Test.YtlhgpeelenelbaaDoorP1
import Derived.Test.YtlhgpeelenelbaaDoorI2
namespace Go.Proofs.YtlhgpeelenelbaaDoor
theorem turnParts_holds : Rows.TurnPartsCardSaid := turnParts.card sanity_any
end Go.Proofs.YtlhgpeelenelbaaDoor
