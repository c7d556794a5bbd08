import Derived.Test.YtjikibhhhchgeaaDoorPlainR
import Derived.Test.YtjikibhhhchgeaaDoorShelf
namespace Go.Proofs.YtjikibhhhchgeaaDoor
open Go.RowKit
set_option linter.unusedVariables false
set_option maxRecDepth 100000

def Tabs (w : World) : Prop := Lib.Utf8Tabs (Tryd.laysValid_ren.g 3) (Tryd.laysValid_ren.g 4) w
set_option maxRecDepth 100000 in
set_option maxHeartbeats 1000000 in
theorem plain_any (s : ByteArray) (w : World) (hs : s.size ≤ 9223372036854775807) (hT : Tabs w) :
    Calls Tryd.prog 114 #[.string s] w fun e w' => e = .returned (.bool (plainB s.data.toList)) ∧ Below w.heap.size w w' := by
  have HV : Hid (Calls Tryd.prog 120 #[.string s] w fun e w' => e = .returned (.bool (Lib.validD s.data.toList)) ∧ Below w.heap.size w w') := Any.utf8_ValidString Tryd.laysValid s w hs hT
  have HI : Hid (∀ w, Calls Tryd.prog 121 #[.string s, .int .u8 0] w fun e w' => e = .returned (.int .i64 (Lib.indexByte s.data.toList 0)) ∧ w' = w) := fun w => Tryd.strings_IndexByte s 0 w
  clear hT
  unfold plainB
  generalize Lib.indexByte s.data.toList 0 = x at *
  cases hv : Lib.validD s.data.toList with
  | true =>
    rw [hv] at HV
    clear hv
    go_enter Tryd.func114, Tryd.ntmps114
    go_wp2_with fail
    refine HV.out.mono ?_
    rintro e w1 ⟨rfl, hb⟩
    go_wp2_with fail
    refine (HI.out w1).mono ?_
    rintro e w2 ⟨rfl, hw⟩
    rw [hw]; clear hw
    go_wp2
    go_ret
    exact ⟨rfl, hb⟩
  | false =>
    rw [hv] at HV
    clear hv
    go_enter Tryd.func114, Tryd.ntmps114
    go_wp2_with fail
    refine HV.out.mono ?_
    rintro e w1 ⟨rfl, hb⟩
    go_wp2
    go_ret
    exact ⟨rfl, hb⟩
end Go.Proofs.YtjikibhhhchgeaaDoor
