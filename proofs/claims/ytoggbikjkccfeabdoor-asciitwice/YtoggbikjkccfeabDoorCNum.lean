/- Contracts of isNumber and Number. -/
import Derived.Test.YtoggbikjkccfeabDoorCHex
import Derived.Test.YtoggbikjkccfeabDoorAscNum
namespace Go.Proofs.YtoggbikjkccfeabDoor
open Go.RowKit
theorem IsDigit_any (c : UInt8) (w : World) :
    Calls Tryd.prog 28 #[.int .u8 c.toNat] w fun e w' => e = .returned (.bool (Asc.isDig (Asc.bt c))) ∧ w' = w := IsDigit_n _ _
end Go.Proofs.YtoggbikjkccfeabDoor
