/- The exact laws of the programs' functions and what opens their arguments, for the rows. -/
import Derived.Test.YtnehfghffdgceaaProgLaws
import Derived.Test.YtnehfghffdgceaaRowI
namespace Go.Proofs.Ytnehfghffdgceaa
end Go.Proofs.Ytnehfghffdgceaa
