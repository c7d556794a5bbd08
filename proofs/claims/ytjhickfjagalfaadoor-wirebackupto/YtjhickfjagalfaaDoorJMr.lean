import Derived.Test.YtjhickfjagalfaaDoorJM
namespace Go.Proofs.YtjhickfjagalfaaDoor
open Go.RowKit
set_option linter.unusedVariables false
set_option linter.unusedSimpArgs false
set_option maxRecDepth 100000
set_option maxHeartbeats 2000000 in
theorem rGreeting (f : Nat) (w : World) (hf : f < 65536) :
    Calls Tryd.prog 19 #[.agg #[.int .u16 (f : Int)]] w fun e w' => ∃ ao cap, e = .returned (.slice ao (gL f).length cap) ∧ Row w w' ao cap (gL f) := by
  have hb : Below w.heap.size w ((w.alloc (.cells #[.int .u16 (f : Int)] 31)).alloc (.cells #[.int .u64 (mInit : Nat), .int .i64 8, .int .u64 (mHave : Nat), .int .i64 8, .int .u64 (f : Nat), .int .i64 2] TFd)) := ((Below.refl _ _).alloc (Nat.le_refl _) _).alloc (by simp) _
  have hg : ((w.alloc (.cells #[.int .u16 (f : Int)] 31)).alloc (.cells #[.int .u64 (mInit : Nat), .int .i64 8, .int .u64 (mHave : Nat), .int .i64 8, .int .u64 (f : Nat), .int .i64 2] TFd)).heap[w.heap.size + 1]? = some (.cells (fcells [(mInit, 8), (mHave, 8), (f, 2)]).toArray TFd (0, 0)) := by
    have h := heap_new (w.alloc (.cells #[.int .u16 (f : Int)] 31)) (.cells #[.int .u64 (mInit : Nat), .int .i64 8, .int .u64 (mHave : Nat), .int .i64 8, .int .u64 (f : Nat), .int .i64 2] TFd)
    rw [World.size_alloc] at h
    exact h
  have HL : Hid (Calls Tryd.prog 65 #[.slice (some ⟨w.heap.size + 1, 0, none⟩) 3 3, .slice none 0 0] ((w.alloc (.cells #[.int .u16 (f : Int)] 31)).alloc (.cells #[.int .u64 (mInit : Nat), .int .i64 8, .int .u64 (mHave : Nat), .int .i64 8, .int .u64 (f : Nat), .int .i64 2] TFd)) fun e w' => ∃ ao cap, e = .returned (.slice ao (gL f).length cap) ∧ Row w w' ao cap (gL f)) := by
    have h := lay_ok [(mInit, 8), (mHave, 8), (f, 2)] (w.heap.size + 1) 3 none 0 [] ((w.alloc (.cells #[.int .u16 (f : Int)] 31)).alloc (.cells #[.int .u64 (mInit : Nat), .int .i64 8, .int .u64 (mHave : Nat), .int .i64 8, .int .u64 (f : Nat), .int .i64 2] TFd)) hg rfl (by simp [mInit, mHave, mSimple] <;> omega) (by decide) ⟨by simp, by simp, fun _ => ⟨rfl, rfl⟩, fun h => absurd rfl h⟩ (by simp)
    have e : layF [(mInit, 8), (mHave, 8), (f, 2)] ++ [] = gL f := by simp [layF, gL, xL, sL]
    rw [e] at h
    exact h.mono fun r w' ⟨ao, cap, h1, h2⟩ => ⟨ao, cap, h1, owns_mono h2.own hb.size, h2.lt, hb.trans (h2.bel.mono hb.size)⟩
  clear hb hg
  go_enter Tryd.func19, Tryd.ntmps19
  go_wp2_with fail
  refine HL.out.mono ?_
  rintro e w1 ⟨ao, cap, he, hr⟩
  have HR : Hid _ := hr
  obtain ⟨m, hm⟩ : ∃ m, m = (gL f).length := ⟨_, rfl⟩
  rw [← hm] at he
  have HM : Hid (m = (gL f).length) := hm
  clear hr hm HL
  subst he
  go_wp2
  go_ret
  exact ⟨_, _, by rw [← HM.out]; rfl, HR.out⟩
set_option maxHeartbeats 2000000 in
theorem rSimple (c k : Nat) (w : World) (hc : c < 4294967296) (hk : k < 18446744073709551616) :
    Calls Tryd.prog 22 #[.agg #[.int .u32 (c : Int), .int .u64 (k : Int)]] w fun e w' => ∃ ao cap, e = .returned (.slice ao (sL c k).length cap) ∧ Row w w' ao cap (sL c k) := by
  have hb : Below w.heap.size w ((w.alloc (.cells #[.int .u32 (c : Int), .int .u64 (k : Int)] 36)).alloc (.cells #[.int .u64 (mSimple : Nat), .int .i64 4, .int .u64 (c : Nat), .int .i64 4, .int .u64 (k : Nat), .int .i64 8] TFd)) := ((Below.refl _ _).alloc (Nat.le_refl _) _).alloc (by simp) _
  have hg : ((w.alloc (.cells #[.int .u32 (c : Int), .int .u64 (k : Int)] 36)).alloc (.cells #[.int .u64 (mSimple : Nat), .int .i64 4, .int .u64 (c : Nat), .int .i64 4, .int .u64 (k : Nat), .int .i64 8] TFd)).heap[w.heap.size + 1]? = some (.cells (fcells [(mSimple, 4), (c, 4), (k, 8)]).toArray TFd (0, 0)) := by
    have h := heap_new (w.alloc (.cells #[.int .u32 (c : Int), .int .u64 (k : Int)] 36)) (.cells #[.int .u64 (mSimple : Nat), .int .i64 4, .int .u64 (c : Nat), .int .i64 4, .int .u64 (k : Nat), .int .i64 8] TFd)
    rw [World.size_alloc] at h
    exact h
  have HL : Hid (Calls Tryd.prog 65 #[.slice (some ⟨w.heap.size + 1, 0, none⟩) 3 3, .slice none 0 0] ((w.alloc (.cells #[.int .u32 (c : Int), .int .u64 (k : Int)] 36)).alloc (.cells #[.int .u64 (mSimple : Nat), .int .i64 4, .int .u64 (c : Nat), .int .i64 4, .int .u64 (k : Nat), .int .i64 8] TFd)) fun e w' => ∃ ao cap, e = .returned (.slice ao (sL c k).length cap) ∧ Row w w' ao cap (sL c k)) := by
    have h := lay_ok [(mSimple, 4), (c, 4), (k, 8)] (w.heap.size + 1) 3 none 0 [] ((w.alloc (.cells #[.int .u32 (c : Int), .int .u64 (k : Int)] 36)).alloc (.cells #[.int .u64 (mSimple : Nat), .int .i64 4, .int .u64 (c : Nat), .int .i64 4, .int .u64 (k : Nat), .int .i64 8] TFd)) hg rfl (by simp [mInit, mHave, mSimple] <;> omega) (by decide) ⟨by simp, by simp, fun _ => ⟨rfl, rfl⟩, fun h => absurd rfl h⟩ (by simp)
    have e : layF [(mSimple, 4), (c, 4), (k, 8)] ++ [] = sL c k := by simp [layF, gL, xL, sL]
    rw [e] at h
    exact h.mono fun r w' ⟨ao, cap, h1, h2⟩ => ⟨ao, cap, h1, owns_mono h2.own hb.size, h2.lt, hb.trans (h2.bel.mono hb.size)⟩
  clear hb hg
  go_enter Tryd.func22, Tryd.ntmps22
  go_wp2_with fail
  refine HL.out.mono ?_
  rintro e w1 ⟨ao, cap, he, hr⟩
  have HR : Hid _ := hr
  obtain ⟨m, hm⟩ : ∃ m, m = (sL c k).length := ⟨_, rfl⟩
  rw [← hm] at he
  have HM : Hid (m = (sL c k).length) := hm
  clear hr hm HL
  subst he
  go_wp2
  go_ret
  exact ⟨_, _, by rw [← HM.out]; rfl, HR.out⟩
set_option maxHeartbeats 2000000 in
theorem rExport0 (s f : Nat) (w : World) (hs : s < 18446744073709551616) (hf : f < 65536) :
    Calls Tryd.prog 21 #[.agg #[.int .u64 (s : Int), .int .u16 (f : Int)], .bool false] w fun e w' => ∃ ao cap, e = .returned (.slice ao (xL s f).length cap) ∧ Row w w' ao cap (xL s f) := by
  have hb : Below w.heap.size w ((w.alloc (.cells #[.int .u64 (s : Int), .int .u16 (f : Int)] 34)).alloc (.cells #[.int .u64 (s : Nat), .int .i64 8, .int .u64 (f : Nat), .int .i64 2] TFd)) := ((Below.refl _ _).alloc (Nat.le_refl _) _).alloc (by simp) _
  have hg : ((w.alloc (.cells #[.int .u64 (s : Int), .int .u16 (f : Int)] 34)).alloc (.cells #[.int .u64 (s : Nat), .int .i64 8, .int .u64 (f : Nat), .int .i64 2] TFd)).heap[w.heap.size + 1]? = some (.cells (fcells [(s, 8), (f, 2)]).toArray TFd (0, 0)) := by
    have h := heap_new (w.alloc (.cells #[.int .u64 (s : Int), .int .u16 (f : Int)] 34)) (.cells #[.int .u64 (s : Nat), .int .i64 8, .int .u64 (f : Nat), .int .i64 2] TFd)
    rw [World.size_alloc] at h
    exact h
  have HL : Hid (Calls Tryd.prog 65 #[.slice (some ⟨w.heap.size + 1, 0, none⟩) 2 2, .slice none 0 0] ((w.alloc (.cells #[.int .u64 (s : Int), .int .u16 (f : Int)] 34)).alloc (.cells #[.int .u64 (s : Nat), .int .i64 8, .int .u64 (f : Nat), .int .i64 2] TFd)) fun e w' => ∃ ao cap, e = .returned (.slice ao (xL s f).length cap) ∧ Row w w' ao cap (xL s f)) := by
    have h := lay_ok [(s, 8), (f, 2)] (w.heap.size + 1) 2 none 0 [] ((w.alloc (.cells #[.int .u64 (s : Int), .int .u16 (f : Int)] 34)).alloc (.cells #[.int .u64 (s : Nat), .int .i64 8, .int .u64 (f : Nat), .int .i64 2] TFd)) hg rfl (by simp [mInit, mHave, mSimple] <;> omega) (by decide) ⟨by simp, by simp, fun _ => ⟨rfl, rfl⟩, fun h => absurd rfl h⟩ (by simp)
    have e : layF [(s, 8), (f, 2)] ++ [] = xL s f := by simp [layF, gL, xL, sL]
    rw [e] at h
    exact h.mono fun r w' ⟨ao, cap, h1, h2⟩ => ⟨ao, cap, h1, owns_mono h2.own hb.size, h2.lt, hb.trans (h2.bel.mono hb.size)⟩
  clear hb hg
  go_enter Tryd.func21, Tryd.ntmps21
  go_wp2_with fail
  refine HL.out.mono ?_
  rintro e w1 ⟨ao, cap, he, hr⟩
  have HR : Hid _ := hr
  obtain ⟨m, hm⟩ : ∃ m, m = (xL s f).length := ⟨_, rfl⟩
  rw [← hm] at he
  have HM : Hid (m = (xL s f).length) := hm
  clear hr hm HL
  subst he
  go_wp2
  go_ret
  exact ⟨_, _, by rw [← HM.out]; rfl, HR.out⟩
set_option maxHeartbeats 2000000 in
theorem rExport1 (s f : Nat) (w : World) (hs : s < 18446744073709551616) (hf : f < 65536) :
    Calls Tryd.prog 21 #[.agg #[.int .u64 (s : Int), .int .u16 (f : Int)], .bool true] w fun e w' => ∃ ao cap, e = .returned (.slice ao 134 cap) ∧ Row w w' ao cap (xL s f ++ List.replicate 124 0) := by
  have hb : Below w.heap.size w ((w.alloc (.cells #[.int .u64 (s : Int), .int .u16 (f : Int)] 34)).alloc (.cells #[.int .u64 (s : Nat), .int .i64 8, .int .u64 (f : Nat), .int .i64 2] TFd)) := ((Below.refl _ _).alloc (Nat.le_refl _) _).alloc (by simp) _
  have hg : ((w.alloc (.cells #[.int .u64 (s : Int), .int .u16 (f : Int)] 34)).alloc (.cells #[.int .u64 (s : Nat), .int .i64 8, .int .u64 (f : Nat), .int .i64 2] TFd)).heap[w.heap.size + 1]? = some (.cells (fcells [(s, 8), (f, 2)]).toArray TFd (0, 0)) := by
    have h := heap_new (w.alloc (.cells #[.int .u64 (s : Int), .int .u16 (f : Int)] 34)) (.cells #[.int .u64 (s : Nat), .int .i64 8, .int .u64 (f : Nat), .int .i64 2] TFd)
    rw [World.size_alloc] at h
    exact h
  have HL : Hid (Calls Tryd.prog 65 #[.slice (some ⟨w.heap.size + 1, 0, none⟩) 2 2, .slice none 0 0] ((w.alloc (.cells #[.int .u64 (s : Int), .int .u16 (f : Int)] 34)).alloc (.cells #[.int .u64 (s : Nat), .int .i64 8, .int .u64 (f : Nat), .int .i64 2] TFd)) fun e w' => ∃ ao cap, e = .returned (.slice ao (xL s f).length cap) ∧ Row w w' ao cap (xL s f)) := by
    have h := lay_ok [(s, 8), (f, 2)] (w.heap.size + 1) 2 none 0 [] ((w.alloc (.cells #[.int .u64 (s : Int), .int .u16 (f : Int)] 34)).alloc (.cells #[.int .u64 (s : Nat), .int .i64 8, .int .u64 (f : Nat), .int .i64 2] TFd)) hg rfl (by simp [mInit, mHave, mSimple] <;> omega) (by decide) ⟨by simp, by simp, fun _ => ⟨rfl, rfl⟩, fun h => absurd rfl h⟩ (by simp)
    have e : layF [(s, 8), (f, 2)] ++ [] = xL s f := by simp [layF, gL, xL, sL]
    rw [e] at h
    exact h.mono fun r w' ⟨ao, cap, h1, h2⟩ => ⟨ao, cap, h1, owns_mono h2.own hb.size, h2.lt, hb.trans (h2.bel.mono hb.size)⟩
  clear hb hg
  go_enter Tryd.func21, Tryd.ntmps21
  go_wp2_with fail
  refine HL.out.mono ?_
  rintro e w1 ⟨ao, cap, he, hr⟩
  have HR : Hid _ := hr
  obtain ⟨m, hm⟩ : ∃ m, m = (xL s f).length := ⟨_, rfl⟩
  rw [← hm] at he
  have HM : Hid (m = (xL s f).length) := hm
  clear hr hm HL
  subst he
  obtain ⟨i0, hi, hz0, hz1, hz2⟩ := info_parts Tryd.info5
  have hm10 : m = 10 := by rw [HM.out]; simp [xL, bigTo_length]
  subst hm10
  go_wp2_with (at_builtin; refine wpList_append_two_make _ rfl _ _ 37 9 3 rfl w.heap.size 5 i0 Tryd.underlying37 Tryd.underlying9 Tryd.underlying3 hi hz0 hz1 hz2 (.slice ao 10 cap) 10 ((xL s f).map bv) rfl (by have := HR.out.own; rw [← HM.out] at this; exact this) 124 rfl (by decide) (by decide) HR.out.bel.size ?_)
  intro ao2 cp2 w2 ho hg hf2
  have hb : Below w.heap.size w w2 := HR.out.bel.grown hg HR.out.bel.size (fun g hg' => (owns_lt HR.out.own g hg').2)
  have H2 : Hid (Row w w2 ao2 cp2 (xL s f ++ List.replicate 124 0)) := ⟨by simpa [xL, bigTo_length] using ho, fun x hx => by
    rcases List.mem_append.1 hx with hx | hx
    · exact HR.out.lt x hx
    · exact zeros_lt 124 x hx, hb⟩
  clear ho hg hf2 hb HR HM
  go_wp2
  go_ret
  exact ⟨_, _, rfl, H2.out⟩
set_option maxHeartbeats 400000 in
theorem rFlags (f : Nat) (w : World) (hf : f < 4294967296) :
    Calls Tryd.prog 20 #[.int .u32 (f : Int)] w fun e w' => ∃ ao cap, e = .returned (.slice ao 4 cap) ∧ Row w w' ao cap (bigTo f 4 4) := by
  have HB : Hid (Calls Tryd.prog 66 #[.int .u64 (f : Int), .int .i64 4] w fun e w' => e = .returned (.slice (some ⟨w.heap.size, 0, none⟩) 4 4) ∧ w'.ownsRow w.heap.size 5 1 (.slice (some ⟨w.heap.size, 0, none⟩) 4 4) 4 ((bigTo f 4 4).map bv) ∧ Below w.heap.size w w') := rbig_any f 4 w (by omega) (by decide)
  go_enter Tryd.func20, Tryd.ntmps20
  go_wp2_with fail
  refine HB.out.mono ?_
  rintro e w1 ⟨rfl, ho, hb⟩
  have H1 : Hid (Row w w1 (some ⟨w.heap.size, 0, none⟩) 4 (bigTo f 4 4)) := ⟨by rw [bigTo_length]; exact ho, bigTo_lt _ _ _, hb⟩
  clear ho hb HB
  go_wp2
  go_ret
  exact ⟨_, _, rfl, H1.out⟩
end Go.Proofs.YtjhickfjagalfaaDoor
