import Derived.Test.YtijafckdbhklmaaYCa
import Derived.Test.YtijafckdbhklmaaYCb
import Derived.Test.YtijafckdbhklmaaYCc
namespace Go.Proofs.Ytijafckdbhklmaa.I
open Go.RowKit Go.Sort Go.Lib Go.Shelf Classical
attribute [local go_sem] Oper.semAt_some
set_option linter.unusedVariables false
set_option linter.unusedSimpArgs false
set_option maxRecDepth 100000

theorem lawCut_any (size first lo mid hi v : Int) (ao : Option Addr) (n cap : Nat) (l : List Put) (w : World) (HL : n = l.length) (hn : n ≤ 9223372036854775807) (HR : Puts w ao l) :
    Calls Try.prog 5 #[.int .i64 size, .int .i64 first, .slice ao n cap, .int .i64 lo, .int .i64 mid, .int .i64 hi, .int .i64 v] w fun e w' => e = .returned (.bool true) ∧ Below w.heap.size w w' := by
  by_cases hs : 0 ≤ size ∧ size ≤ 1099511627776
  · by_cases hr : 0 ≤ lo ∧ lo ≤ mid ∧ mid ≤ hi ∧ hi ≤ size
    · by_cases hlt : lo = hi
      · exact lawCut_eq size first lo mid hi v ao n cap l w HL hn HR hs.2 hr.1 hr.2.1 hr.2.2.1 hr.2.2.2 hlt
      · exact lawCut_lt size first lo mid hi v ao n cap l w HL hn HR hs.2 hr.1 hr.2.1 hr.2.2.1 hr.2.2.2 hlt
    · exact lawCut_range size first lo mid hi v ao n cap l w HL hn HR hs.1 hs.2 (by omega)
  · exact lawCut_bad size first lo mid hi v ao n cap w (by omega)
end Go.Proofs.Ytijafckdbhklmaa.I
