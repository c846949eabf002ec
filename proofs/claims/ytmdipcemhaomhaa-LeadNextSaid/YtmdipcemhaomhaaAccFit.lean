/- Fit, by the program; Prepare. -/
import Derived.Test.YtmdipcemhaomhaaRows
import Derived.Test.YtmdipcemhaomhaaAccBox
namespace Go.Proofs.Ytmdipcemhaomhaa.crush
open Go.RowKit
open Go.Proofs.Ytmdipcemhaomhaa.kit Go.Proofs.Ytmdipcemhaomhaa.own
set_option linter.unusedVariables false
set_option linter.unusedSimpArgs false

def okPr (r m : Int) : Bool := okBal r m || (decide (r = 0) && decide (m = 0))
def okAt (a : AccV) : Bool := if a.has then okBal a.ar a.am && (!laterB a.ar a.am a.pr a.pm && okTxt a.val) else decide (a.ar = 0) && (decide (a.am = 0) && decide (a.val.size = 0))
def okCom (l : List ByteArray) : Bool := decide (l.length ≤ 4096) && l.all okTxt
def okA (a : AccV) : Bool := okPr a.pr a.pm && (okAt a && okCom a.com)

end Go.Proofs.Ytmdipcemhaomhaa.crush
