import Derived.Test.YtjhickfjagalfaaDoorV42
import Derived.Test.YtjhickfjagalfaaDoorV9
namespace Go.Proofs.YtjhickfjagalfaaDoor
open Go.RowKit
set_option linter.unusedVariables false
set_option linter.unusedSimpArgs false
set_option maxRecDepth 100000

set_option maxHeartbeats 2000000 in
theorem rOption (c : Nat) (ao : Option Addr) (cap : Nat) (d : List Nat) (w : World) (hc : c < 4294967296) (hd : BRow w ao cap d) (hn : d.length < 4294967296) :
    Calls Tryd.prog 33 #[.agg #[.int .u32 (c : Int), .int .u32 (d.length : Int), .bool false, .slice ao d.length cap]] w fun e w' => ∃ ao cap, e = .returned (.tuple #[.slice ao (oL c d).length cap, .int .i64 0]) ∧ Row w w' ao cap (oL c d) := by
  have hwl : IntKind.u64.wrap (d.length : Int) = (d.length : Int) := by rw [IntKind.wrap_u64]; omega
  have HD : Hid (BRow w ao cap d) := hd
  obtain ⟨W0, hW0⟩ : ∃ W0, W0 = w.alloc (.cells #[.int .u32 (c : Int), .int .u32 (d.length : Int), .bool false, .slice ao d.length cap] 55) := ⟨_, rfl⟩
  have hB0 : Below w.heap.size w W0 := by rw [hW0]; exact (Below.refl _ _).alloc (Nat.le_refl _) _
  have g0 : W0.heap[w.heap.size]? = some (.cells #[.int .u32 (c : Int), .int .u32 (d.length : Int), .bool false, .slice ao d.length cap] 55 (0, 0)) := by rw [hW0]; exact heap_new w _
  have HLy : Hid (∀ Wa : World, Below w.heap.size w Wa → Calls Tryd.prog 65 #[.slice (some ⟨Wa.heap.size, 0, none⟩) 3 3, .slice ao d.length cap] (Wa.alloc (.cells #[.int .u64 (mHave : Nat), .int .i64 8, .int .u64 (c : Nat), .int .i64 4, .int .u64 (d.length : Nat), .int .i64 4] TFd)) fun e w' => ∃ ao cap, e = .returned (.slice ao (oL c d).length cap) ∧ Row w w' ao cap (oL c d)) := fun Wa hba => by
    have hb : Below w.heap.size w (Wa.alloc (.cells #[.int .u64 (mHave : Nat), .int .i64 8, .int .u64 (c : Nat), .int .i64 4, .int .u64 (d.length : Nat), .int .i64 4] TFd)) := hba.alloc hba.size _
    have h := lay_ok [(mHave, 8), (c, 4), (d.length, 4)] Wa.heap.size 3 ao cap d (Wa.alloc (.cells #[.int .u64 (mHave : Nat), .int .i64 8, .int .u64 (c : Nat), .int .i64 4, .int .u64 (d.length : Nat), .int .i64 4] TFd)) (heap_new Wa _) rfl (by simp [mHave, mReply, mReq, mReq64, mChunk, mChunk64] <;> omega) (by decide) (HD.out.later hb) (by omega)
    have e : layF [(mHave, 8), (c, 4), (d.length, 4)] ++ d = oL c d := by simp [layF, oL, rL, qL, cL, cL64, nL]
    rw [e] at h
    exact h.mono fun r w' ⟨ao, cap, h1, h2⟩ => ⟨ao, cap, h1, owns_mono h2.own hb.size, h2.lt, hb.trans (h2.bel.mono hb.size)⟩
  have HL0 : Hid (Calls Tryd.prog 65 #[.slice (some ⟨w.heap.size + 1, 0, none⟩) 3 3, .slice ao d.length cap] ((w.alloc (.cells #[.int .u32 (c : Int), .int .u32 (d.length : Int), .bool false, .slice ao d.length cap] 55)).alloc (.cells #[.int .u64 (mHave : Nat), .int .i64 8, .int .u64 (c : Nat), .int .i64 4, .int .u64 (d.length : Nat), .int .i64 4] TFd)) fun e w' => ∃ ao cap, e = .returned (.slice ao (oL c d).length cap) ∧ Row w w' ao cap (oL c d)) := by
    have := HLy.out W0 hB0
    rw [hW0, World.size_alloc] at this
    exact this
  clear hB0 g0 hW0 HLy hd
  go_enter Tryd.func33, Tryd.ntmps33
  go_wp2_with fail
  refine HL0.out.mono ?_
  rintro e w1 ⟨aq, cq, he, hr⟩
  have HR : Hid _ := hr
  obtain ⟨m, hm⟩ : ∃ m, m = (oL c d).length := ⟨_, rfl⟩
  rw [← hm] at he
  have HM : Hid (m = (oL c d).length) := hm
  clear hr hm
  subst he
  go_wp2
  go_ret2
  exact ⟨_, _, by rw [← HM.out]; rfl, HR.out⟩
set_option maxHeartbeats 2000000 in
theorem rReply (o k : Nat) (ao : Option Addr) (cap : Nat) (d : List Nat) (w : World) (ho : o < 4294967296) (hk : k < 4294967296) (hd : BRow w ao cap d) (hn : d.length < 4294967296) :
    Calls Tryd.prog 35 #[.agg #[.int .u32 (o : Int), .int .u32 (k : Int), .slice ao d.length cap]] w fun e w' => ∃ ao cap, e = .returned (.slice ao (rL o k d).length cap) ∧ Row w w' ao cap (rL o k d) := by
  have hwl : IntKind.u64.wrap (d.length : Int) = (d.length : Int) := by rw [IntKind.wrap_u64]; omega
  have HD : Hid (BRow w ao cap d) := hd
  obtain ⟨W0, hW0⟩ : ∃ W0, W0 = w.alloc (.cells #[.int .u32 (o : Int), .int .u32 (k : Int), .slice ao d.length cap] 57) := ⟨_, rfl⟩
  have hB0 : Below w.heap.size w W0 := by rw [hW0]; exact (Below.refl _ _).alloc (Nat.le_refl _) _
  have g0 : W0.heap[w.heap.size]? = some (.cells #[.int .u32 (o : Int), .int .u32 (k : Int), .slice ao d.length cap] 57 (0, 0)) := by rw [hW0]; exact heap_new w _
  have HLy : Hid (∀ Wa : World, Below w.heap.size w Wa → Calls Tryd.prog 65 #[.slice (some ⟨Wa.heap.size, 0, none⟩) 4 4, .slice ao d.length cap] (Wa.alloc (.cells #[.int .u64 (mReply : Nat), .int .i64 8, .int .u64 (o : Nat), .int .i64 4, .int .u64 (k : Nat), .int .i64 4, .int .u64 (d.length : Nat), .int .i64 4] TFd)) fun e w' => ∃ ao cap, e = .returned (.slice ao (rL o k d).length cap) ∧ Row w w' ao cap (rL o k d)) := fun Wa hba => by
    have hb : Below w.heap.size w (Wa.alloc (.cells #[.int .u64 (mReply : Nat), .int .i64 8, .int .u64 (o : Nat), .int .i64 4, .int .u64 (k : Nat), .int .i64 4, .int .u64 (d.length : Nat), .int .i64 4] TFd)) := hba.alloc hba.size _
    have h := lay_ok [(mReply, 8), (o, 4), (k, 4), (d.length, 4)] Wa.heap.size 4 ao cap d (Wa.alloc (.cells #[.int .u64 (mReply : Nat), .int .i64 8, .int .u64 (o : Nat), .int .i64 4, .int .u64 (k : Nat), .int .i64 4, .int .u64 (d.length : Nat), .int .i64 4] TFd)) (heap_new Wa _) rfl (by simp [mHave, mReply, mReq, mReq64, mChunk, mChunk64] <;> omega) (by decide) (HD.out.later hb) (by omega)
    have e : layF [(mReply, 8), (o, 4), (k, 4), (d.length, 4)] ++ d = rL o k d := by simp [layF, oL, rL, qL, cL, cL64, nL, Nat.mod_eq_of_lt hn]
    rw [e] at h
    exact h.mono fun r w' ⟨ao, cap, h1, h2⟩ => ⟨ao, cap, h1, owns_mono h2.own hb.size, h2.lt, hb.trans (h2.bel.mono hb.size)⟩
  have HL0 : Hid (Calls Tryd.prog 65 #[.slice (some ⟨w.heap.size + 1, 0, none⟩) 4 4, .slice ao d.length cap] ((w.alloc (.cells #[.int .u32 (o : Int), .int .u32 (k : Int), .slice ao d.length cap] 57)).alloc (.cells #[.int .u64 (mReply : Nat), .int .i64 8, .int .u64 (o : Nat), .int .i64 4, .int .u64 (k : Nat), .int .i64 4, .int .u64 (d.length : Nat), .int .i64 4] TFd)) fun e w' => ∃ ao cap, e = .returned (.slice ao (rL o k d).length cap) ∧ Row w w' ao cap (rL o k d)) := by
    have := HLy.out W0 hB0
    rw [hW0, World.size_alloc] at this
    exact this
  clear hB0 g0 hW0 HLy hd
  go_enter Tryd.func35, Tryd.ntmps35
  go_wp2_with fail
  refine HL0.out.mono ?_
  rintro e w1 ⟨aq, cq, he, hr⟩
  have HR : Hid _ := hr
  obtain ⟨m, hm⟩ : ∃ m, m = (rL o k d).length := ⟨_, rfl⟩
  rw [← hm] at he
  have HM : Hid (m = (rL o k d).length) := hm
  clear hr hm
  subst he
  go_wp2
  go_ret
  exact ⟨_, _, by rw [← HM.out]; rfl, HR.out⟩
set_option maxHeartbeats 2000000 in
theorem rChunk_true (f t c o : Nat) (ao : Option Addr) (cap : Nat) (d : List Nat) (w : World) (hf : f < 65536) (ht : t < 65536) (hc : c < 18446744073709551616) (ho : o < 18446744073709551616) (hd : BRow w ao cap d) (hn : d.length < 4294967296) :
    Calls Tryd.prog 36 #[.agg #[.int .u16 (f : Int), .int .u16 (t : Int), .int .u64 (c : Int), .int .u64 (o : Int), .slice ao d.length cap], .bool true] w fun e w' => ∃ ao cap, e = .returned (.slice ao (cL64 f t c o d).length cap) ∧ Row w w' ao cap (cL64 f t c o d) := by
  have hwl : IntKind.u64.wrap (d.length : Int) = (d.length : Int) := by rw [IntKind.wrap_u64]; omega
  have HD : Hid (BRow w ao cap d) := hd
  obtain ⟨W0, hW0⟩ : ∃ W0, W0 = w.alloc (.cells #[.int .u16 (f : Int), .int .u16 (t : Int), .int .u64 (c : Int), .int .u64 (o : Int), .slice ao d.length cap] 61) := ⟨_, rfl⟩
  have hB0 : Below w.heap.size w W0 := by rw [hW0]; exact (Below.refl _ _).alloc (Nat.le_refl _) _
  have g0 : W0.heap[w.heap.size]? = some (.cells #[.int .u16 (f : Int), .int .u16 (t : Int), .int .u64 (c : Int), .int .u64 (o : Int), .slice ao d.length cap] 61 (0, 0)) := by rw [hW0]; exact heap_new w _
  have HLy : Hid (∀ Wa : World, Below w.heap.size w Wa → Calls Tryd.prog 65 #[.slice (some ⟨Wa.heap.size, 0, none⟩) 6 6, .slice ao d.length cap] (Wa.alloc (.cells #[.int .u64 (mChunk64 : Nat), .int .i64 4, .int .u64 (f : Nat), .int .i64 2, .int .u64 (t : Nat), .int .i64 2, .int .u64 (c : Nat), .int .i64 8, .int .u64 (o : Nat), .int .i64 8, .int .u64 (d.length : Nat), .int .i64 8] TFd)) fun e w' => ∃ ao cap, e = .returned (.slice ao (cL64 f t c o d).length cap) ∧ Row w w' ao cap (cL64 f t c o d)) := fun Wa hba => by
    have hb : Below w.heap.size w (Wa.alloc (.cells #[.int .u64 (mChunk64 : Nat), .int .i64 4, .int .u64 (f : Nat), .int .i64 2, .int .u64 (t : Nat), .int .i64 2, .int .u64 (c : Nat), .int .i64 8, .int .u64 (o : Nat), .int .i64 8, .int .u64 (d.length : Nat), .int .i64 8] TFd)) := hba.alloc hba.size _
    have h := lay_ok [(mChunk64, 4), (f, 2), (t, 2), (c, 8), (o, 8), (d.length, 8)] Wa.heap.size 6 ao cap d (Wa.alloc (.cells #[.int .u64 (mChunk64 : Nat), .int .i64 4, .int .u64 (f : Nat), .int .i64 2, .int .u64 (t : Nat), .int .i64 2, .int .u64 (c : Nat), .int .i64 8, .int .u64 (o : Nat), .int .i64 8, .int .u64 (d.length : Nat), .int .i64 8] TFd)) (heap_new Wa _) rfl (by simp [mHave, mReply, mReq, mReq64, mChunk, mChunk64] <;> omega) (by decide) (HD.out.later hb) (by omega)
    have e : layF [(mChunk64, 4), (f, 2), (t, 2), (c, 8), (o, 8), (d.length, 8)] ++ d = cL64 f t c o d := by simp [layF, oL, rL, qL, cL, cL64, nL]
    rw [e] at h
    exact h.mono fun r w' ⟨ao, cap, h1, h2⟩ => ⟨ao, cap, h1, owns_mono h2.own hb.size, h2.lt, hb.trans (h2.bel.mono hb.size)⟩
  have HL0 : Hid (Calls Tryd.prog 65 #[.slice (some ⟨w.heap.size + 1, 0, none⟩) 6 6, .slice ao d.length cap] ((w.alloc (.cells #[.int .u16 (f : Int), .int .u16 (t : Int), .int .u64 (c : Int), .int .u64 (o : Int), .slice ao d.length cap] 61)).alloc (.cells #[.int .u64 (mChunk64 : Nat), .int .i64 4, .int .u64 (f : Nat), .int .i64 2, .int .u64 (t : Nat), .int .i64 2, .int .u64 (c : Nat), .int .i64 8, .int .u64 (o : Nat), .int .i64 8, .int .u64 (d.length : Nat), .int .i64 8] TFd)) fun e w' => ∃ ao cap, e = .returned (.slice ao (cL64 f t c o d).length cap) ∧ Row w w' ao cap (cL64 f t c o d)) := by
    have := HLy.out W0 hB0
    rw [hW0, World.size_alloc] at this
    exact this
  clear hB0 g0 hW0 HLy hd
  go_enter Tryd.func36, Tryd.ntmps36
  go_wp2_with fail
  refine HL0.out.mono ?_
  rintro e w1 ⟨aq, cq, he, hr⟩
  have HR : Hid _ := hr
  obtain ⟨m, hm⟩ : ∃ m, m = (cL64 f t c o d).length := ⟨_, rfl⟩
  rw [← hm] at he
  have HM : Hid (m = (cL64 f t c o d).length) := hm
  clear hr hm
  subst he
  go_wp2
  go_ret
  exact ⟨_, _, by rw [← HM.out]; rfl, HR.out⟩
set_option maxHeartbeats 2000000 in
theorem rChunk_false (f t c o : Nat) (ao : Option Addr) (cap : Nat) (d : List Nat) (w : World) (hf : f < 65536) (ht : t < 65536) (hc : c < 18446744073709551616) (ho : o < 18446744073709551616) (hd : BRow w ao cap d) (hn : d.length < 4294967296) :
    Calls Tryd.prog 36 #[.agg #[.int .u16 (f : Int), .int .u16 (t : Int), .int .u64 (c : Int), .int .u64 (o : Int), .slice ao d.length cap], .bool false] w fun e w' => ∃ ao cap, e = .returned (.slice ao (cL f t c d).length cap) ∧ Row w w' ao cap (cL f t c d) := by
  have hwl : IntKind.u64.wrap (d.length : Int) = (d.length : Int) := by rw [IntKind.wrap_u64]; omega
  have HD : Hid (BRow w ao cap d) := hd
  obtain ⟨W0, hW0⟩ : ∃ W0, W0 = w.alloc (.cells #[.int .u16 (f : Int), .int .u16 (t : Int), .int .u64 (c : Int), .int .u64 (o : Int), .slice ao d.length cap] 61) := ⟨_, rfl⟩
  have hB0 : Below w.heap.size w W0 := by rw [hW0]; exact (Below.refl _ _).alloc (Nat.le_refl _) _
  have g0 : W0.heap[w.heap.size]? = some (.cells #[.int .u16 (f : Int), .int .u16 (t : Int), .int .u64 (c : Int), .int .u64 (o : Int), .slice ao d.length cap] 61 (0, 0)) := by rw [hW0]; exact heap_new w _
  have HLy : Hid (∀ Wa : World, Below w.heap.size w Wa → Calls Tryd.prog 65 #[.slice (some ⟨Wa.heap.size, 0, none⟩) 5 5, .slice ao d.length cap] (Wa.alloc (.cells #[.int .u64 (mChunk : Nat), .int .i64 4, .int .u64 (f : Nat), .int .i64 2, .int .u64 (t : Nat), .int .i64 2, .int .u64 (c : Nat), .int .i64 8, .int .u64 (d.length : Nat), .int .i64 4] TFd)) fun e w' => ∃ ao cap, e = .returned (.slice ao (cL f t c d).length cap) ∧ Row w w' ao cap (cL f t c d)) := fun Wa hba => by
    have hb : Below w.heap.size w (Wa.alloc (.cells #[.int .u64 (mChunk : Nat), .int .i64 4, .int .u64 (f : Nat), .int .i64 2, .int .u64 (t : Nat), .int .i64 2, .int .u64 (c : Nat), .int .i64 8, .int .u64 (d.length : Nat), .int .i64 4] TFd)) := hba.alloc hba.size _
    have h := lay_ok [(mChunk, 4), (f, 2), (t, 2), (c, 8), (d.length, 4)] Wa.heap.size 5 ao cap d (Wa.alloc (.cells #[.int .u64 (mChunk : Nat), .int .i64 4, .int .u64 (f : Nat), .int .i64 2, .int .u64 (t : Nat), .int .i64 2, .int .u64 (c : Nat), .int .i64 8, .int .u64 (d.length : Nat), .int .i64 4] TFd)) (heap_new Wa _) rfl (by simp [mHave, mReply, mReq, mReq64, mChunk, mChunk64] <;> omega) (by decide) (HD.out.later hb) (by omega)
    have e : layF [(mChunk, 4), (f, 2), (t, 2), (c, 8), (d.length, 4)] ++ d = cL f t c d := by simp [layF, oL, rL, qL, cL, cL64, nL, Nat.mod_eq_of_lt hn]
    rw [e] at h
    exact h.mono fun r w' ⟨ao, cap, h1, h2⟩ => ⟨ao, cap, h1, owns_mono h2.own hb.size, h2.lt, hb.trans (h2.bel.mono hb.size)⟩
  have HL0 : Hid (Calls Tryd.prog 65 #[.slice (some ⟨w.heap.size + 1, 0, none⟩) 5 5, .slice ao d.length cap] ((w.alloc (.cells #[.int .u16 (f : Int), .int .u16 (t : Int), .int .u64 (c : Int), .int .u64 (o : Int), .slice ao d.length cap] 61)).alloc (.cells #[.int .u64 (mChunk : Nat), .int .i64 4, .int .u64 (f : Nat), .int .i64 2, .int .u64 (t : Nat), .int .i64 2, .int .u64 (c : Nat), .int .i64 8, .int .u64 (d.length : Nat), .int .i64 4] TFd)) fun e w' => ∃ ao cap, e = .returned (.slice ao (cL f t c d).length cap) ∧ Row w w' ao cap (cL f t c d)) := by
    have := HLy.out W0 hB0
    rw [hW0, World.size_alloc] at this
    exact this
  clear hB0 g0 hW0 HLy hd
  go_enter Tryd.func36, Tryd.ntmps36
  go_wp2_with fail
  refine HL0.out.mono ?_
  rintro e w1 ⟨aq, cq, he, hr⟩
  have HR : Hid _ := hr
  obtain ⟨m, hm⟩ : ∃ m, m = (cL f t c d).length := ⟨_, rfl⟩
  rw [← hm] at he
  have HM : Hid (m = (cL f t c d).length) := hm
  clear hr hm
  subst he
  go_wp2
  go_ret
  exact ⟨_, _, by rw [← HM.out]; rfl, HR.out⟩
set_option maxHeartbeats 2000000 in
theorem rRequest_true (f t c o n : Nat) (ao : Option Addr) (cap : Nat) (d : List Nat) (w : World) (hf : f < 65536) (ht : t < 65536) (hc : c < 18446744073709551616) (ho : o < 18446744073709551616) (hn64 : n < 18446744073709551616) (hd : BRow w ao cap d) (hn : d.length < 4294967296) (hfit : fitB f t n d.length true = true) :
    Calls Tryd.prog 34 #[.agg #[.int .u16 (f : Int), .int .u16 (t : Int), .int .u64 (c : Int), .int .u64 (o : Int), .int .u64 (n : Int), .slice ao d.length cap], .bool true] w fun e w' => ∃ ao cap, e = .returned (.tuple #[.slice ao (qL f t c o n d true).length cap, .int .i64 0]) ∧ Row w w' ao cap (qL f t c o n d true) := by
  have hwl : IntKind.u64.wrap (d.length : Int) = (d.length : Int) := by rw [IntKind.wrap_u64]; omega
  have HD : Hid (BRow w ao cap d) := hd
  obtain ⟨W0, hW0⟩ : ∃ W0, W0 = w.alloc (.cells #[.int .u16 (f : Int), .int .u16 (t : Int), .int .u64 (c : Int), .int .u64 (o : Int), .int .u64 (n : Int), .slice ao d.length cap] 59) := ⟨_, rfl⟩
  have hB0 : Below w.heap.size w W0 := by rw [hW0]; exact (Below.refl _ _).alloc (Nat.le_refl _) _
  have g0 : W0.heap[w.heap.size]? = some (.cells #[.int .u16 (f : Int), .int .u16 (t : Int), .int .u64 (c : Int), .int .u64 (o : Int), .int .u64 (n : Int), .slice ao d.length cap] 59 (0, 0)) := by rw [hW0]; exact heap_new w _
  have HLy : Hid (∀ Wa : World, Below w.heap.size w Wa → Calls Tryd.prog 65 #[.slice (some ⟨Wa.heap.size, 0, none⟩) 6 6, .slice ao d.length cap] (Wa.alloc (.cells #[.int .u64 (mReq64 : Nat), .int .i64 4, .int .u64 (f : Nat), .int .i64 2, .int .u64 (t : Nat), .int .i64 2, .int .u64 (c : Nat), .int .i64 8, .int .u64 (o : Nat), .int .i64 8, .int .u64 (n : Nat), .int .i64 8] TFd)) fun e w' => ∃ ao cap, e = .returned (.slice ao (qL f t c o n d true).length cap) ∧ Row w w' ao cap (qL f t c o n d true)) := fun Wa hba => by
    have hb : Below w.heap.size w (Wa.alloc (.cells #[.int .u64 (mReq64 : Nat), .int .i64 4, .int .u64 (f : Nat), .int .i64 2, .int .u64 (t : Nat), .int .i64 2, .int .u64 (c : Nat), .int .i64 8, .int .u64 (o : Nat), .int .i64 8, .int .u64 (n : Nat), .int .i64 8] TFd)) := hba.alloc hba.size _
    have h := lay_ok [(mReq64, 4), (f, 2), (t, 2), (c, 8), (o, 8), (n, 8)] Wa.heap.size 6 ao cap d (Wa.alloc (.cells #[.int .u64 (mReq64 : Nat), .int .i64 4, .int .u64 (f : Nat), .int .i64 2, .int .u64 (t : Nat), .int .i64 2, .int .u64 (c : Nat), .int .i64 8, .int .u64 (o : Nat), .int .i64 8, .int .u64 (n : Nat), .int .i64 8] TFd)) (heap_new Wa _) rfl (by simp [mHave, mReply, mReq, mReq64, mChunk, mChunk64] <;> omega) (by decide) (HD.out.later hb) (by omega)
    have e : layF [(mReq64, 4), (f, 2), (t, 2), (c, 8), (o, 8), (n, 8)] ++ d = qL f t c o n d true := by simp [layF, oL, rL, qL, cL, cL64, nL]
    rw [e] at h
    exact h.mono fun r w' ⟨ao, cap, h1, h2⟩ => ⟨ao, cap, h1, owns_mono h2.own hb.size, h2.lt, hb.trans (h2.bel.mono hb.size)⟩
  have HPy : Hid (Calls Tryd.prog 79 #[.agg #[.int .u16 (f : Int), .int .u16 (t : Int), .int .u64 (c : Int), .int .u64 (o : Int), .int .u64 (n : Int), .slice ao d.length cap], .bool true] W0 fun e w' => e = .returned (.bool (payB f t true)) ∧ Below W0.heap.size W0 w') := rpay_any f t c o n ao cap d true W0
  have z0 := fun j => blk_at g0 j
  have y0 := z0 0; have y1 := z0 1; have y2 := z0 2; have y3 := z0 3; have y4 := z0 4; have y5 := z0 5
  simp at y0 y1 y2 y3 y4 y5
  have hcase : (payB f t true = true ∧ n = d.length) ∨ (payB f t true = false ∧ d.length = 0) := by
    cases hp : payB f t true <;> simp [fitB, hp] at hfit
    · right; exact ⟨rfl, by simp [hfit]⟩
    · left; exact ⟨rfl, by omega⟩
  have hd4 : decide ((4294967295 : Int) < (n : Int)) = false ∨ true = true := by
    have := hfit
    simp [fitB] at this
    right; rfl
  clear z0 hd
  go_enter Tryd.func34, Tryd.ntmps34
  go_wp2_with fail
  rw [← hW0]
  clear hW0
  refine HPy.out.mono ?_
  rintro e Wa ⟨rfl, hb⟩
  have hBa : Below w.heap.size w Wa := hB0.trans (hb.mono hB0.size)
  have ga : Wa.heap[w.heap.size]? = some (.cells #[.int .u16 (f : Int), .int .u16 (t : Int), .int .u64 (c : Int), .int .u64 (o : Int), .int .u64 (n : Int), .slice ao d.length cap] 59 (0, 0)) := (hb.block _ (block_lt g0)).trans g0
  have HL0 : Hid _ := HLy.out Wa hBa
  have z0 := fun j => blk_at ga j
  have x0 := z0 0; have x1 := z0 1; have x2 := z0 2; have x3 := z0 3; have x4 := z0 4; have x5 := z0 5
  simp at x0 x1 x2 x3 x4 x5
  have x6 : ∀ ob, (Wa.alloc ob).cell? ⟨w.heap.size, 5, none⟩ = some (.slice ao d.length cap) := fun ob => (World.cell?_of_block (w := Wa) (a := ⟨w.heap.size, 5, none⟩) (Below.heap_alloc _ _ _ (block_lt ga))).trans x5
  clear z0 hb hB0 g0 HPy y0 y1 y2 y3 y4 y5 hBa ga HLy
  rcases hcase with ⟨hp, hnd⟩ | ⟨hp, hd0⟩
  all_goals
    rw [hp]
    skip
    first | (have hq : ((0 : Int) != (d.length : Int)) = false := by simp; omega) | (have hq : ((n : Int) != (d.length : Int)) = false := by simp; omega)
    first | (have HZ : Hid _ := hd0; clear hd0) | (have HZ : Hid _ := hnd; clear hnd)
    clear hfit hp
    go_wp2_with fail
    refine Calls.mono HL0.out ?_
    rintro e w1 ⟨aq, cq, he, hr⟩
    have HR : Hid _ := hr
    obtain ⟨m, hm⟩ : ∃ m, m = (qL f t c o n d true).length := ⟨_, rfl⟩
    rw [← hm] at he
    have HM : Hid (m = (qL f t c o n d true).length) := hm
    clear hr hm
    subst he
    go_wp2
    go_ret2
    exact ⟨_, _, by rw [← HM.out]; rfl, HR.out⟩
set_option maxHeartbeats 2000000 in
theorem rRequest_false (f t c o n : Nat) (ao : Option Addr) (cap : Nat) (d : List Nat) (w : World) (hf : f < 65536) (ht : t < 65536) (hc : c < 18446744073709551616) (ho : o < 18446744073709551616) (hn64 : n < 18446744073709551616) (hd : BRow w ao cap d) (hn : d.length < 4294967296) (hfit : fitB f t n d.length false = true) :
    Calls Tryd.prog 34 #[.agg #[.int .u16 (f : Int), .int .u16 (t : Int), .int .u64 (c : Int), .int .u64 (o : Int), .int .u64 (n : Int), .slice ao d.length cap], .bool false] w fun e w' => ∃ ao cap, e = .returned (.tuple #[.slice ao (qL f t c o n d false).length cap, .int .i64 0]) ∧ Row w w' ao cap (qL f t c o n d false) := by
  have hwl : IntKind.u64.wrap (d.length : Int) = (d.length : Int) := by rw [IntKind.wrap_u64]; omega
  have HD : Hid (BRow w ao cap d) := hd
  obtain ⟨W0, hW0⟩ : ∃ W0, W0 = w.alloc (.cells #[.int .u16 (f : Int), .int .u16 (t : Int), .int .u64 (c : Int), .int .u64 (o : Int), .int .u64 (n : Int), .slice ao d.length cap] 59) := ⟨_, rfl⟩
  have hB0 : Below w.heap.size w W0 := by rw [hW0]; exact (Below.refl _ _).alloc (Nat.le_refl _) _
  have g0 : W0.heap[w.heap.size]? = some (.cells #[.int .u16 (f : Int), .int .u16 (t : Int), .int .u64 (c : Int), .int .u64 (o : Int), .int .u64 (n : Int), .slice ao d.length cap] 59 (0, 0)) := by rw [hW0]; exact heap_new w _
  have HLy : Hid (∀ Wa : World, Below w.heap.size w Wa → Calls Tryd.prog 65 #[.slice (some ⟨Wa.heap.size, 0, none⟩) 6 6, .slice ao d.length cap] (Wa.alloc (.cells #[.int .u64 (mReq : Nat), .int .i64 4, .int .u64 (f : Nat), .int .i64 2, .int .u64 (t : Nat), .int .i64 2, .int .u64 (c : Nat), .int .i64 8, .int .u64 (o : Nat), .int .i64 8, .int .u64 (n : Nat), .int .i64 4] TFd)) fun e w' => ∃ ao cap, e = .returned (.slice ao (qL f t c o n d false).length cap) ∧ Row w w' ao cap (qL f t c o n d false)) := fun Wa hba => by
    have hb : Below w.heap.size w (Wa.alloc (.cells #[.int .u64 (mReq : Nat), .int .i64 4, .int .u64 (f : Nat), .int .i64 2, .int .u64 (t : Nat), .int .i64 2, .int .u64 (c : Nat), .int .i64 8, .int .u64 (o : Nat), .int .i64 8, .int .u64 (n : Nat), .int .i64 4] TFd)) := hba.alloc hba.size _
    have h := lay_ok [(mReq, 4), (f, 2), (t, 2), (c, 8), (o, 8), (n, 4)] Wa.heap.size 6 ao cap d (Wa.alloc (.cells #[.int .u64 (mReq : Nat), .int .i64 4, .int .u64 (f : Nat), .int .i64 2, .int .u64 (t : Nat), .int .i64 2, .int .u64 (c : Nat), .int .i64 8, .int .u64 (o : Nat), .int .i64 8, .int .u64 (n : Nat), .int .i64 4] TFd)) (heap_new Wa _) rfl (by simp [mHave, mReply, mReq, mReq64, mChunk, mChunk64] <;> omega) (by decide) (HD.out.later hb) (by omega)
    have e : layF [(mReq, 4), (f, 2), (t, 2), (c, 8), (o, 8), (n, 4)] ++ d = qL f t c o n d false := by simp [layF, oL, rL, qL, cL, cL64, nL, Nat.mod_eq_of_lt (show n < 4294967296 by simp [fitB] at hfit; omega)]
    rw [e] at h
    exact h.mono fun r w' ⟨ao, cap, h1, h2⟩ => ⟨ao, cap, h1, owns_mono h2.own hb.size, h2.lt, hb.trans (h2.bel.mono hb.size)⟩
  have HPy : Hid (Calls Tryd.prog 79 #[.agg #[.int .u16 (f : Int), .int .u16 (t : Int), .int .u64 (c : Int), .int .u64 (o : Int), .int .u64 (n : Int), .slice ao d.length cap], .bool false] W0 fun e w' => e = .returned (.bool (payB f t false)) ∧ Below W0.heap.size W0 w') := rpay_any f t c o n ao cap d false W0
  have z0 := fun j => blk_at g0 j
  have y0 := z0 0; have y1 := z0 1; have y2 := z0 2; have y3 := z0 3; have y4 := z0 4; have y5 := z0 5
  simp at y0 y1 y2 y3 y4 y5
  have hcase : (payB f t false = true ∧ n = d.length) ∨ (payB f t false = false ∧ d.length = 0) := by
    cases hp : payB f t false <;> simp [fitB, hp] at hfit
    · right; exact ⟨rfl, by simp [hfit]⟩
    · left; exact ⟨rfl, by omega⟩
  have hd4 : decide ((4294967295 : Int) < (n : Int)) = false ∨ false = true := by
    have := hfit
    simp [fitB] at this
    left; simp; omega
  clear z0 hd
  go_enter Tryd.func34, Tryd.ntmps34
  go_wp2_with fail
  rw [← hW0]
  clear hW0
  refine HPy.out.mono ?_
  rintro e Wa ⟨rfl, hb⟩
  have hBa : Below w.heap.size w Wa := hB0.trans (hb.mono hB0.size)
  have ga : Wa.heap[w.heap.size]? = some (.cells #[.int .u16 (f : Int), .int .u16 (t : Int), .int .u64 (c : Int), .int .u64 (o : Int), .int .u64 (n : Int), .slice ao d.length cap] 59 (0, 0)) := (hb.block _ (block_lt g0)).trans g0
  have HL0 : Hid _ := HLy.out Wa hBa
  have z0 := fun j => blk_at ga j
  have x0 := z0 0; have x1 := z0 1; have x2 := z0 2; have x3 := z0 3; have x4 := z0 4; have x5 := z0 5
  simp at x0 x1 x2 x3 x4 x5
  have x6 : ∀ ob, (Wa.alloc ob).cell? ⟨w.heap.size, 5, none⟩ = some (.slice ao d.length cap) := fun ob => (World.cell?_of_block (w := Wa) (a := ⟨w.heap.size, 5, none⟩) (Below.heap_alloc _ _ _ (block_lt ga))).trans x5
  clear z0 hb hB0 g0 HPy y0 y1 y2 y3 y4 y5 hBa ga HLy
  rcases hcase with ⟨hp, hnd⟩ | ⟨hp, hd0⟩
  all_goals
    rw [hp]
    have hd4 := hd4.resolve_right (by decide)
    first | (have hq : ((0 : Int) != (d.length : Int)) = false := by simp; omega) | (have hq : ((n : Int) != (d.length : Int)) = false := by simp; omega)
    first | (have HZ : Hid _ := hd0; clear hd0) | (have HZ : Hid _ := hnd; clear hnd)
    clear hfit hp
    go_wp2_with fail
    refine Calls.mono HL0.out ?_
    rintro e w1 ⟨aq, cq, he, hr⟩
    have HR : Hid _ := hr
    obtain ⟨m, hm⟩ : ∃ m, m = (qL f t c o n d false).length := ⟨_, rfl⟩
    rw [← hm] at he
    have HM : Hid (m = (qL f t c o n d false).length) := hm
    clear hr hm
    subst he
    go_wp2
    go_ret2
    exact ⟨_, _, by rw [← HM.out]; rfl, HR.out⟩
end Go.Proofs.YtjhickfjagalfaaDoor
