/- LocalStep's exact law and what opens its arguments. -/
import Derived.Test.YtimkcgbhkbchfaaRowI
import Derived.Test.YtimkcgbhkbchfaaLaneLaws
namespace Go.Proofs.Ytimkcgbhkbchfaa
end Go.Proofs.Ytimkcgbhkbchfaa
