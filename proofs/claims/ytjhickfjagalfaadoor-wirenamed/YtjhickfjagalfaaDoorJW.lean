import Derived.Test.YtjhickfjagalfaaDoorJU
import Derived.Great.BuildSlice
namespace Go.Proofs.YtjhickfjagalfaaDoor
open Go.RowKit
set_option linter.unusedVariables false
set_option linter.unusedSimpArgs false
set_option maxRecDepth 100000

abbrev TEn : TypeId := 110
theorem names_flat : (flat allL).toArray.size = 165 := by kernel_rfl
theorem infoEn : (Tryd.prog.info? TEn).map (fun i => (i.zero, i.size, i.bytes)) = some (some (.agg #[.int .i64 0, .int .u32 0, .string ⟨#[]⟩]), 3, 32) := by kernel_rfl
set_option maxHeartbeats 8000000 in
theorem names_any (w : World) : Calls Tryd.prog 56 #[] w fun e w' => e = .returned (.slice (some ⟨w.heap.size, 0, none⟩) 55 55) ∧ w' = w.alloc (.cells (flat allL).toArray TEn) := by
  obtain ⟨ie, hie, hz, hsz, _⟩ := info_parts infoEn
  go_enter Tryd.func56, Tryd.ntmps56
  go_wp2_with (refine wpList_buildSlice rfl 107 TEn 55 _ rfl (flat allL).toArray ie _ Tryd.underlying107 hie hz (by rw [hsz]; decide) (by rw [hsz]; decide) (by rw [hsz]; kernel_rfl) ?_)
  go_ret
  exact ⟨rfl, rfl⟩
end Go.Proofs.YtjhickfjagalfaaDoor
