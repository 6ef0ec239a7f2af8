/- The exact law of SamePrograms and what opens its arguments, for the row. -/
import Derived.Test.YtnehfghffdgceaaProgSame
import Derived.Test.YtnehfghffdgceaaRowI
namespace Go.Proofs.Ytnehfghffdgceaa
end Go.Proofs.Ytnehfghffdgceaa
