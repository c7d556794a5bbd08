import Derived.Test.YtjikibhhhchgeaaDoorJM
import Derived.Test.YtjikibhhhchgeaaDoorJR
namespace Go.Proofs.YtjikibhhhchgeaaDoor
open Go.RowKit
set_option linter.unusedVariables false
set_option linter.unusedSimpArgs false
set_option maxRecDepth 100000

set_option maxHeartbeats 2000000 in
theorem rChunk_true (f t c o : Nat) (ao : Option Addr) (cap : Nat) (d : List Nat) (w : World) (hf : f < 65536) (ht : t < 65536) (hc : c < 18446744073709551616) (ho : o < 18446744073709551616) (hd : BRow w ao cap d) (hn : d.length < 4294967296) :
    Calls Tryd.prog 30 #[.agg #[.int .u16 (f : Int), .int .u16 (t : Int), .int .u64 (c : Int), .int .u64 (o : Int), .slice ao d.length cap], .bool true] w fun e w' => ∃ ao cap, e = .returned (.slice ao (cL64 f t c o d).length cap) ∧ Row w w' ao cap (cL64 f t c o d) := by
  have hwl : IntKind.u64.wrap (d.length : Int) = (d.length : Int) := by rw [IntKind.wrap_u64]; omega
  have HD : Hid (BRow w ao cap d) := hd
  obtain ⟨W0, hW0⟩ : ∃ W0, W0 = w.alloc (.cells #[.int .u16 (f : Int), .int .u16 (t : Int), .int .u64 (c : Int), .int .u64 (o : Int), .slice ao d.length cap] 85) := ⟨_, rfl⟩
  have hB0 : Below w.heap.size w W0 := by rw [hW0]; exact (Below.refl _ _).alloc (Nat.le_refl _) _
  have g0 : W0.heap[w.heap.size]? = some (.cells #[.int .u16 (f : Int), .int .u16 (t : Int), .int .u64 (c : Int), .int .u64 (o : Int), .slice ao d.length cap] 85 (0, 0)) := by rw [hW0]; exact heap_new w _
  have HLy : Hid (∀ Wa : World, Below w.heap.size w Wa → Calls Tryd.prog 88 #[.slice (some ⟨Wa.heap.size, 0, none⟩) 6 6, .slice ao d.length cap] (Wa.alloc (.cells #[.int .u64 (mChunk64 : Nat), .int .i64 4, .int .u64 (f : Nat), .int .i64 2, .int .u64 (t : Nat), .int .i64 2, .int .u64 (c : Nat), .int .i64 8, .int .u64 (o : Nat), .int .i64 8, .int .u64 (d.length : Nat), .int .i64 8] TFd)) fun e w' => ∃ ao cap, e = .returned (.slice ao (cL64 f t c o d).length cap) ∧ Row w w' ao cap (cL64 f t c o d)) := fun Wa hba => by
    have hb : Below w.heap.size w (Wa.alloc (.cells #[.int .u64 (mChunk64 : Nat), .int .i64 4, .int .u64 (f : Nat), .int .i64 2, .int .u64 (t : Nat), .int .i64 2, .int .u64 (c : Nat), .int .i64 8, .int .u64 (o : Nat), .int .i64 8, .int .u64 (d.length : Nat), .int .i64 8] TFd)) := hba.alloc hba.size _
    have h := lay_ok [(mChunk64, 4), (f, 2), (t, 2), (c, 8), (o, 8), (d.length, 8)] Wa.heap.size 6 ao cap d (Wa.alloc (.cells #[.int .u64 (mChunk64 : Nat), .int .i64 4, .int .u64 (f : Nat), .int .i64 2, .int .u64 (t : Nat), .int .i64 2, .int .u64 (c : Nat), .int .i64 8, .int .u64 (o : Nat), .int .i64 8, .int .u64 (d.length : Nat), .int .i64 8] TFd)) (heap_new Wa _) rfl (by simp [mHave, mReply, mReq, mReq64, mChunk, mChunk64] <;> omega) (by decide) (HD.out.later hb) (by omega)
    have e : layF [(mChunk64, 4), (f, 2), (t, 2), (c, 8), (o, 8), (d.length, 8)] ++ d = cL64 f t c o d := by simp [layF, oL, rL, qL, cL, cL64, nL]
    rw [e] at h
    exact h.mono fun r w' ⟨ao, cap, h1, h2⟩ => ⟨ao, cap, h1, owns_mono h2.own hb.size, h2.lt, hb.trans (h2.bel.mono hb.size)⟩
  have HL0 : Hid (Calls Tryd.prog 88 #[.slice (some ⟨w.heap.size + 1, 0, none⟩) 6 6, .slice ao d.length cap] ((w.alloc (.cells #[.int .u16 (f : Int), .int .u16 (t : Int), .int .u64 (c : Int), .int .u64 (o : Int), .slice ao d.length cap] 85)).alloc (.cells #[.int .u64 (mChunk64 : Nat), .int .i64 4, .int .u64 (f : Nat), .int .i64 2, .int .u64 (t : Nat), .int .i64 2, .int .u64 (c : Nat), .int .i64 8, .int .u64 (o : Nat), .int .i64 8, .int .u64 (d.length : Nat), .int .i64 8] TFd)) fun e w' => ∃ ao cap, e = .returned (.slice ao (cL64 f t c o d).length cap) ∧ Row w w' ao cap (cL64 f t c o d)) := by
    have := HLy.out W0 hB0
    rw [hW0, World.size_alloc] at this
    exact this
  clear hB0 g0 hW0 HLy hd
  go_enter Tryd.func30, Tryd.ntmps30
  go_wp2_with fail
  refine HL0.out.mono ?_
  rintro e w1 ⟨aq, cq, he, hr⟩
  have HR : Hid _ := hr
  obtain ⟨m, hm⟩ : ∃ m, m = (cL64 f t c o d).length := ⟨_, rfl⟩
  rw [← hm] at he
  have HM : Hid (m = (cL64 f t c o d).length) := hm
  clear hr hm
  subst he
  go_wp2
  go_ret
  exact ⟨_, _, by rw [← HM.out]; rfl, HR.out⟩
set_option maxHeartbeats 2000000 in
theorem rChunk_false (f t c o : Nat) (ao : Option Addr) (cap : Nat) (d : List Nat) (w : World) (hf : f < 65536) (ht : t < 65536) (hc : c < 18446744073709551616) (ho : o < 18446744073709551616) (hd : BRow w ao cap d) (hn : d.length < 4294967296) :
    Calls Tryd.prog 30 #[.agg #[.int .u16 (f : Int), .int .u16 (t : Int), .int .u64 (c : Int), .int .u64 (o : Int), .slice ao d.length cap], .bool false] w fun e w' => ∃ ao cap, e = .returned (.slice ao (cL f t c d).length cap) ∧ Row w w' ao cap (cL f t c d) := by
  have hwl : IntKind.u64.wrap (d.length : Int) = (d.length : Int) := by rw [IntKind.wrap_u64]; omega
  have HD : Hid (BRow w ao cap d) := hd
  obtain ⟨W0, hW0⟩ : ∃ W0, W0 = w.alloc (.cells #[.int .u16 (f : Int), .int .u16 (t : Int), .int .u64 (c : Int), .int .u64 (o : Int), .slice ao d.length cap] 85) := ⟨_, rfl⟩
  have hB0 : Below w.heap.size w W0 := by rw [hW0]; exact (Below.refl _ _).alloc (Nat.le_refl _) _
  have g0 : W0.heap[w.heap.size]? = some (.cells #[.int .u16 (f : Int), .int .u16 (t : Int), .int .u64 (c : Int), .int .u64 (o : Int), .slice ao d.length cap] 85 (0, 0)) := by rw [hW0]; exact heap_new w _
  have HLy : Hid (∀ Wa : World, Below w.heap.size w Wa → Calls Tryd.prog 88 #[.slice (some ⟨Wa.heap.size, 0, none⟩) 5 5, .slice ao d.length cap] (Wa.alloc (.cells #[.int .u64 (mChunk : Nat), .int .i64 4, .int .u64 (f : Nat), .int .i64 2, .int .u64 (t : Nat), .int .i64 2, .int .u64 (c : Nat), .int .i64 8, .int .u64 (d.length : Nat), .int .i64 4] TFd)) fun e w' => ∃ ao cap, e = .returned (.slice ao (cL f t c d).length cap) ∧ Row w w' ao cap (cL f t c d)) := fun Wa hba => by
    have hb : Below w.heap.size w (Wa.alloc (.cells #[.int .u64 (mChunk : Nat), .int .i64 4, .int .u64 (f : Nat), .int .i64 2, .int .u64 (t : Nat), .int .i64 2, .int .u64 (c : Nat), .int .i64 8, .int .u64 (d.length : Nat), .int .i64 4] TFd)) := hba.alloc hba.size _
    have h := lay_ok [(mChunk, 4), (f, 2), (t, 2), (c, 8), (d.length, 4)] Wa.heap.size 5 ao cap d (Wa.alloc (.cells #[.int .u64 (mChunk : Nat), .int .i64 4, .int .u64 (f : Nat), .int .i64 2, .int .u64 (t : Nat), .int .i64 2, .int .u64 (c : Nat), .int .i64 8, .int .u64 (d.length : Nat), .int .i64 4] TFd)) (heap_new Wa _) rfl (by simp [mHave, mReply, mReq, mReq64, mChunk, mChunk64] <;> omega) (by decide) (HD.out.later hb) (by omega)
    have e : layF [(mChunk, 4), (f, 2), (t, 2), (c, 8), (d.length, 4)] ++ d = cL f t c d := by simp [layF, oL, rL, qL, cL, cL64, nL, Nat.mod_eq_of_lt hn]
    rw [e] at h
    exact h.mono fun r w' ⟨ao, cap, h1, h2⟩ => ⟨ao, cap, h1, owns_mono h2.own hb.size, h2.lt, hb.trans (h2.bel.mono hb.size)⟩
  have HL0 : Hid (Calls Tryd.prog 88 #[.slice (some ⟨w.heap.size + 1, 0, none⟩) 5 5, .slice ao d.length cap] ((w.alloc (.cells #[.int .u16 (f : Int), .int .u16 (t : Int), .int .u64 (c : Int), .int .u64 (o : Int), .slice ao d.length cap] 85)).alloc (.cells #[.int .u64 (mChunk : Nat), .int .i64 4, .int .u64 (f : Nat), .int .i64 2, .int .u64 (t : Nat), .int .i64 2, .int .u64 (c : Nat), .int .i64 8, .int .u64 (d.length : Nat), .int .i64 4] TFd)) fun e w' => ∃ ao cap, e = .returned (.slice ao (cL f t c d).length cap) ∧ Row w w' ao cap (cL f t c d)) := by
    have := HLy.out W0 hB0
    rw [hW0, World.size_alloc] at this
    exact this
  clear hB0 g0 hW0 HLy hd
  go_enter Tryd.func30, Tryd.ntmps30
  go_wp2_with fail
  refine HL0.out.mono ?_
  rintro e w1 ⟨aq, cq, he, hr⟩
  have HR : Hid _ := hr
  obtain ⟨m, hm⟩ : ∃ m, m = (cL f t c d).length := ⟨_, rfl⟩
  rw [← hm] at he
  have HM : Hid (m = (cL f t c d).length) := hm
  clear hr hm
  subst he
  go_wp2
  go_ret
  exact ⟨_, _, by rw [← HM.out]; rfl, HR.out⟩
end Go.Proofs.YtjikibhhhchgeaaDoor
