import Derived.Test.YtjhickfjagalfaaDoorV42
import Derived.Test.YtjhickfjagalfaaDoorV9
namespace Go.Proofs.YtjhickfjagalfaaDoor
open Go.RowKit
set_option linter.unusedVariables false
set_option linter.unusedSimpArgs false
set_option maxRecDepth 100000
set_option maxHeartbeats 2000000 in
theorem rGreeting (f : Nat) (w : World) (hf : f < 65536) :
    Calls Tryd.prog 19 #[.agg #[.int .u16 (f : Int)]] w fun e w' => ∃ ao cap, e = .returned (.slice ao (gL f).length cap) ∧ Row w w' ao cap (gL f) := by
  have hb : Below w.heap.size w ((w.alloc (.cells #[.int .u16 (f : Int)] 31)).alloc (.cells #[.int .u64 (mInit : Nat), .int .i64 8, .int .u64 (mHave : Nat), .int .i64 8, .int .u64 (f : Nat), .int .i64 2] TFd)) := ((Below.refl _ _).alloc (Nat.le_refl _) _).alloc (by simp) _
  have hg : ((w.alloc (.cells #[.int .u16 (f : Int)] 31)).alloc (.cells #[.int .u64 (mInit : Nat), .int .i64 8, .int .u64 (mHave : Nat), .int .i64 8, .int .u64 (f : Nat), .int .i64 2] TFd)).heap[w.heap.size + 1]? = some (.cells (fcells [(mInit, 8), (mHave, 8), (f, 2)]).toArray TFd (0, 0)) := by
    have h := heap_new (w.alloc (.cells #[.int .u16 (f : Int)] 31)) (.cells #[.int .u64 (mInit : Nat), .int .i64 8, .int .u64 (mHave : Nat), .int .i64 8, .int .u64 (f : Nat), .int .i64 2] TFd)
    rw [World.size_alloc] at h
    exact h
  have HL : Hid (Calls Tryd.prog 65 #[.slice (some ⟨w.heap.size + 1, 0, none⟩) 3 3, .slice none 0 0] ((w.alloc (.cells #[.int .u16 (f : Int)] 31)).alloc (.cells #[.int .u64 (mInit : Nat), .int .i64 8, .int .u64 (mHave : Nat), .int .i64 8, .int .u64 (f : Nat), .int .i64 2] TFd)) fun e w' => ∃ ao cap, e = .returned (.slice ao (gL f).length cap) ∧ Row w w' ao cap (gL f)) := by
    have h := lay_ok [(mInit, 8), (mHave, 8), (f, 2)] (w.heap.size + 1) 3 none 0 [] ((w.alloc (.cells #[.int .u16 (f : Int)] 31)).alloc (.cells #[.int .u64 (mInit : Nat), .int .i64 8, .int .u64 (mHave : Nat), .int .i64 8, .int .u64 (f : Nat), .int .i64 2] TFd)) hg rfl (by simp [mInit, mHave, mSimple] <;> omega) (by decide) ⟨by simp, by simp, fun _ => ⟨rfl, rfl⟩, fun h => absurd rfl h⟩ (by simp)
    have e : layF [(mInit, 8), (mHave, 8), (f, 2)] ++ [] = gL f := by simp [layF, gL, xL, sL]
    rw [e] at h
    exact h.mono fun r w' ⟨ao, cap, h1, h2⟩ => ⟨ao, cap, h1, owns_mono h2.own hb.size, h2.lt, hb.trans (h2.bel.mono hb.size)⟩
  clear hb hg
  go_enter Tryd.func19, Tryd.ntmps19
  go_wp2_with fail
  refine HL.out.mono ?_
  rintro e w1 ⟨ao, cap, he, hr⟩
  have HR : Hid _ := hr
  obtain ⟨m, hm⟩ : ∃ m, m = (gL f).length := ⟨_, rfl⟩
  rw [← hm] at he
  have HM : Hid (m = (gL f).length) := hm
  clear hr hm HL
  subst he
  go_wp2
  go_ret
  exact ⟨_, _, by rw [← HM.out]; rfl, HR.out⟩
set_option maxHeartbeats 2000000 in
theorem rSimple (c k : Nat) (w : World) (hc : c < 4294967296) (hk : k < 18446744073709551616) :
    Calls Tryd.prog 22 #[.agg #[.int .u32 (c : Int), .int .u64 (k : Int)]] w fun e w' => ∃ ao cap, e = .returned (.slice ao (sL c k).length cap) ∧ Row w w' ao cap (sL c k) := by
  have hb : Below w.heap.size w ((w.alloc (.cells #[.int .u32 (c : Int), .int .u64 (k : Int)] 36)).alloc (.cells #[.int .u64 (mSimple : Nat), .int .i64 4, .int .u64 (c : Nat), .int .i64 4, .int .u64 (k : Nat), .int .i64 8] TFd)) := ((Below.refl _ _).alloc (Nat.le_refl _) _).alloc (by simp) _
  have hg : ((w.alloc (.cells #[.int .u32 (c : Int), .int .u64 (k : Int)] 36)).alloc (.cells #[.int .u64 (mSimple : Nat), .int .i64 4, .int .u64 (c : Nat), .int .i64 4, .int .u64 (k : Nat), .int .i64 8] TFd)).heap[w.heap.size + 1]? = some (.cells (fcells [(mSimple, 4), (c, 4), (k, 8)]).toArray TFd (0, 0)) := by
    have h := heap_new (w.alloc (.cells #[.int .u32 (c : Int), .int .u64 (k : Int)] 36)) (.cells #[.int .u64 (mSimple : Nat), .int .i64 4, .int .u64 (c : Nat), .int .i64 4, .int .u64 (k : Nat), .int .i64 8] TFd)
    rw [World.size_alloc] at h
    exact h
  have HL : Hid (Calls Tryd.prog 65 #[.slice (some ⟨w.heap.size + 1, 0, none⟩) 3 3, .slice none 0 0] ((w.alloc (.cells #[.int .u32 (c : Int), .int .u64 (k : Int)] 36)).alloc (.cells #[.int .u64 (mSimple : Nat), .int .i64 4, .int .u64 (c : Nat), .int .i64 4, .int .u64 (k : Nat), .int .i64 8] TFd)) fun e w' => ∃ ao cap, e = .returned (.slice ao (sL c k).length cap) ∧ Row w w' ao cap (sL c k)) := by
    have h := lay_ok [(mSimple, 4), (c, 4), (k, 8)] (w.heap.size + 1) 3 none 0 [] ((w.alloc (.cells #[.int .u32 (c : Int), .int .u64 (k : Int)] 36)).alloc (.cells #[.int .u64 (mSimple : Nat), .int .i64 4, .int .u64 (c : Nat), .int .i64 4, .int .u64 (k : Nat), .int .i64 8] TFd)) hg rfl (by simp [mInit, mHave, mSimple] <;> omega) (by decide) ⟨by simp, by simp, fun _ => ⟨rfl, rfl⟩, fun h => absurd rfl h⟩ (by simp)
    have e : layF [(mSimple, 4), (c, 4), (k, 8)] ++ [] = sL c k := by simp [layF, gL, xL, sL]
    rw [e] at h
    exact h.mono fun r w' ⟨ao, cap, h1, h2⟩ => ⟨ao, cap, h1, owns_mono h2.own hb.size, h2.lt, hb.trans (h2.bel.mono hb.size)⟩
  clear hb hg
  go_enter Tryd.func22, Tryd.ntmps22
  go_wp2_with fail
  refine HL.out.mono ?_
  rintro e w1 ⟨ao, cap, he, hr⟩
  have HR : Hid _ := hr
  obtain ⟨m, hm⟩ : ∃ m, m = (sL c k).length := ⟨_, rfl⟩
  rw [← hm] at he
  have HM : Hid (m = (sL c k).length) := hm
  clear hr hm HL
  subst he
  go_wp2
  go_ret
  exact ⟨_, _, by rw [← HM.out]; rfl, HR.out⟩
set_option maxHeartbeats 2000000 in
theorem rExport0 (s f : Nat) (w : World) (hs : s < 18446744073709551616) (hf : f < 65536) :
    Calls Tryd.prog 21 #[.agg #[.int .u64 (s : Int), .int .u16 (f : Int)], .bool false] w fun e w' => ∃ ao cap, e = .returned (.slice ao (xL s f).length cap) ∧ Row w w' ao cap (xL s f) := by
  have hb : Below w.heap.size w ((w.alloc (.cells #[.int .u64 (s : Int), .int .u16 (f : Int)] 34)).alloc (.cells #[.int .u64 (s : Nat), .int .i64 8, .int .u64 (f : Nat), .int .i64 2] TFd)) := ((Below.refl _ _).alloc (Nat.le_refl _) _).alloc (by simp) _
  have hg : ((w.alloc (.cells #[.int .u64 (s : Int), .int .u16 (f : Int)] 34)).alloc (.cells #[.int .u64 (s : Nat), .int .i64 8, .int .u64 (f : Nat), .int .i64 2] TFd)).heap[w.heap.size + 1]? = some (.cells (fcells [(s, 8), (f, 2)]).toArray TFd (0, 0)) := by
    have h := heap_new (w.alloc (.cells #[.int .u64 (s : Int), .int .u16 (f : Int)] 34)) (.cells #[.int .u64 (s : Nat), .int .i64 8, .int .u64 (f : Nat), .int .i64 2] TFd)
    rw [World.size_alloc] at h
    exact h
  have HL : Hid (Calls Tryd.prog 65 #[.slice (some ⟨w.heap.size + 1, 0, none⟩) 2 2, .slice none 0 0] ((w.alloc (.cells #[.int .u64 (s : Int), .int .u16 (f : Int)] 34)).alloc (.cells #[.int .u64 (s : Nat), .int .i64 8, .int .u64 (f : Nat), .int .i64 2] TFd)) fun e w' => ∃ ao cap, e = .returned (.slice ao (xL s f).length cap) ∧ Row w w' ao cap (xL s f)) := by
    have h := lay_ok [(s, 8), (f, 2)] (w.heap.size + 1) 2 none 0 [] ((w.alloc (.cells #[.int .u64 (s : Int), .int .u16 (f : Int)] 34)).alloc (.cells #[.int .u64 (s : Nat), .int .i64 8, .int .u64 (f : Nat), .int .i64 2] TFd)) hg rfl (by simp [mInit, mHave, mSimple] <;> omega) (by decide) ⟨by simp, by simp, fun _ => ⟨rfl, rfl⟩, fun h => absurd rfl h⟩ (by simp)
    have e : layF [(s, 8), (f, 2)] ++ [] = xL s f := by simp [layF, gL, xL, sL]
    rw [e] at h
    exact h.mono fun r w' ⟨ao, cap, h1, h2⟩ => ⟨ao, cap, h1, owns_mono h2.own hb.size, h2.lt, hb.trans (h2.bel.mono hb.size)⟩
  clear hb hg
  go_enter Tryd.func21, Tryd.ntmps21
  go_wp2_with fail
  refine HL.out.mono ?_
  rintro e w1 ⟨ao, cap, he, hr⟩
  have HR : Hid _ := hr
  obtain ⟨m, hm⟩ : ∃ m, m = (xL s f).length := ⟨_, rfl⟩
  rw [← hm] at he
  have HM : Hid (m = (xL s f).length) := hm
  clear hr hm HL
  subst he
  go_wp2
  go_ret
  exact ⟨_, _, by rw [← HM.out]; rfl, HR.out⟩
set_option maxHeartbeats 2000000 in
theorem rExport1 (s f : Nat) (w : World) (hs : s < 18446744073709551616) (hf : f < 65536) :
    Calls Tryd.prog 21 #[.agg #[.int .u64 (s : Int), .int .u16 (f : Int)], .bool true] w fun e w' => ∃ ao cap, e = .returned (.slice ao 134 cap) ∧ Row w w' ao cap (xL s f ++ List.replicate 124 0) := by
  have hb : Below w.heap.size w ((w.alloc (.cells #[.int .u64 (s : Int), .int .u16 (f : Int)] 34)).alloc (.cells #[.int .u64 (s : Nat), .int .i64 8, .int .u64 (f : Nat), .int .i64 2] TFd)) := ((Below.refl _ _).alloc (Nat.le_refl _) _).alloc (by simp) _
  have hg : ((w.alloc (.cells #[.int .u64 (s : Int), .int .u16 (f : Int)] 34)).alloc (.cells #[.int .u64 (s : Nat), .int .i64 8, .int .u64 (f : Nat), .int .i64 2] TFd)).heap[w.heap.size + 1]? = some (.cells (fcells [(s, 8), (f, 2)]).toArray TFd (0, 0)) := by
    have h := heap_new (w.alloc (.cells #[.int .u64 (s : Int), .int .u16 (f : Int)] 34)) (.cells #[.int .u64 (s : Nat), .int .i64 8, .int .u64 (f : Nat), .int .i64 2] TFd)
    rw [World.size_alloc] at h
    exact h
  have HL : Hid (Calls Tryd.prog 65 #[.slice (some ⟨w.heap.size + 1, 0, none⟩) 2 2, .slice none 0 0] ((w.alloc (.cells #[.int .u64 (s : Int), .int .u16 (f : Int)] 34)).alloc (.cells #[.int .u64 (s : Nat), .int .i64 8, .int .u64 (f : Nat), .int .i64 2] TFd)) fun e w' => ∃ ao cap, e = .returned (.slice ao (xL s f).length cap) ∧ Row w w' ao cap (xL s f)) := by
    have h := lay_ok [(s, 8), (f, 2)] (w.heap.size + 1) 2 none 0 [] ((w.alloc (.cells #[.int .u64 (s : Int), .int .u16 (f : Int)] 34)).alloc (.cells #[.int .u64 (s : Nat), .int .i64 8, .int .u64 (f : Nat), .int .i64 2] TFd)) hg rfl (by simp [mInit, mHave, mSimple] <;> omega) (by decide) ⟨by simp, by simp, fun _ => ⟨rfl, rfl⟩, fun h => absurd rfl h⟩ (by simp)
    have e : layF [(s, 8), (f, 2)] ++ [] = xL s f := by simp [layF, gL, xL, sL]
    rw [e] at h
    exact h.mono fun r w' ⟨ao, cap, h1, h2⟩ => ⟨ao, cap, h1, owns_mono h2.own hb.size, h2.lt, hb.trans (h2.bel.mono hb.size)⟩
  clear hb hg
  go_enter Tryd.func21, Tryd.ntmps21
  go_wp2_with fail
  refine HL.out.mono ?_
  rintro e w1 ⟨ao, cap, he, hr⟩
  have HR : Hid _ := hr
  obtain ⟨m, hm⟩ : ∃ m, m = (xL s f).length := ⟨_, rfl⟩
  rw [← hm] at he
  have HM : Hid (m = (xL s f).length) := hm
  clear hr hm HL
  subst he
  obtain ⟨i0, hi, hz0, hz1, hz2⟩ := info_parts Tryd.info5
  have hm10 : m = 10 := by rw [HM.out]; simp [xL, bigTo_length]
  subst hm10
  go_wp2_with (at_builtin; refine wpList_append_two_make _ rfl _ _ 37 9 3 rfl w.heap.size 5 i0 Tryd.underlying37 Tryd.underlying9 Tryd.underlying3 hi hz0 hz1 hz2 (.slice ao 10 cap) 10 ((xL s f).map bv) rfl (by have := HR.out.own; rw [← HM.out] at this; exact this) 124 rfl (by decide) (by decide) HR.out.bel.size ?_)
  intro ao2 cp2 w2 ho hg hf2
  have hb : Below w.heap.size w w2 := HR.out.bel.grown hg HR.out.bel.size (fun g hg' => (owns_lt HR.out.own g hg').2)
  have H2 : Hid (Row w w2 ao2 cp2 (xL s f ++ List.replicate 124 0)) := ⟨by simpa [xL, bigTo_length] using ho, fun x hx => by
    rcases List.mem_append.1 hx with hx | hx
    · exact HR.out.lt x hx
    · exact zeros_lt 124 x hx, hb⟩
  clear ho hg hf2 hb HR HM
  go_wp2
  go_ret
  exact ⟨_, _, rfl, H2.out⟩
set_option maxHeartbeats 400000 in
theorem rFlags (f : Nat) (w : World) (hf : f < 4294967296) :
    Calls Tryd.prog 20 #[.int .u32 (f : Int)] w fun e w' => ∃ ao cap, e = .returned (.slice ao 4 cap) ∧ Row w w' ao cap (bigTo f 4 4) := by
  have HB : Hid (Calls Tryd.prog 66 #[.int .u64 (f : Int), .int .i64 4] w fun e w' => e = .returned (.slice (some ⟨w.heap.size, 0, none⟩) 4 4) ∧ w'.ownsRow w.heap.size 5 1 (.slice (some ⟨w.heap.size, 0, none⟩) 4 4) 4 ((bigTo f 4 4).map bv) ∧ Below w.heap.size w w') := rbig_any f 4 w (by omega) (by decide)
  go_enter Tryd.func20, Tryd.ntmps20
  go_wp2_with fail
  refine HB.out.mono ?_
  rintro e w1 ⟨rfl, ho, hb⟩
  have H1 : Hid (Row w w1 (some ⟨w.heap.size, 0, none⟩) 4 (bigTo f 4 4)) := ⟨by rw [bigTo_length]; exact ho, bigTo_lt _ _ _, hb⟩
  clear ho hb HB
  go_wp2
  go_ret
  exact ⟨_, _, rfl, H1.out⟩
end Go.Proofs.YtjhickfjagalfaaDoor

namespace Go.Proofs.YtjhickfjagalfaaDoor
open Go.RowKit
set_option linter.unusedVariables false
set_option linter.unusedSimpArgs false
set_option maxRecDepth 100000

set_option maxHeartbeats 2000000 in
theorem encRequest_true (f t c o n : Nat) (ao : Option Addr) (cap : Nat) (d : List Nat) (w : World) (hf : f < 65536) (ht : t < 65536) (hc : c < 18446744073709551616) (ho : o < 18446744073709551616) (hn64 : n < 18446744073709551616) (hd : BRow w ao cap d) (hn : d.length ≤ 1099511627776) (hfit : fitB f t n d.length true = true) :
    Calls Tryd.prog 31 #[.agg #[.int .u16 (f : Int), .int .u16 (t : Int), .int .u64 (c : Int), .int .u64 (o : Int), .int .u64 (n : Int), .slice ao d.length cap], .bool true] w fun e w' => ∃ ao cap, e = .returned (.tuple #[.slice ao (qL f t c o n d true).length cap, .int .i64 0]) ∧ Row w w' ao cap (qL f t c o n d true) := by
  have hn0 := hn
  replace hd : Hid (BRow w ao cap d) := hd
  replace hn : Hid (d.length ≤ 1099511627776) := hn
  have hwl : IntKind.u64.wrap (d.length : Int) = (d.length : Int) := by rw [IntKind.wrap_u64]; omega
  obtain ⟨W0, hW0⟩ : ∃ W0, W0 = w.alloc (.cells #[.int .u16 (f : Int), .int .u16 (t : Int), .int .u64 (c : Int), .int .u64 (o : Int), .int .u64 (n : Int), .slice ao d.length cap] 59) := ⟨_, rfl⟩
  have hB0 : Below w.heap.size w W0 := by rw [hW0]; exact (Below.refl _ _).alloc (Nat.le_refl _) _
  have g0 : W0.heap[w.heap.size]? = some (.cells #[.int .u16 (f : Int), .int .u16 (t : Int), .int .u64 (c : Int), .int .u64 (o : Int), .int .u64 (n : Int), .slice ao d.length cap] 59 (0, 0)) := by rw [hW0]; exact heap_new w _
  have HFt : Hid (Calls Tryd.prog 75 #[.agg #[.int .u16 (f : Int), .int .u16 (t : Int), .int .u64 (c : Int), .int .u64 (o : Int), .int .u64 (n : Int), .slice ao d.length cap], .bool true] W0 fun e w' => e = .returned (.bool true) ∧ Below W0.heap.size W0 w') := by have := fits_any f t c o n ao cap d true W0 hn64 hn0; rw [hfit] at this; exact this
  have HRh : Hid (∀ W : World, Calls Tryd.prog 76 #[.bool true] W fun e W' => e = .returned (.tuple #[.int .u32 (mReq64 : Nat), .int .i64 32]) ∧ W' = W) := fun W => by
    go_enter Tryd.func76, Tryd.ntmps76
    go_wp2
    go_ret2
    exact ⟨rfl, rfl⟩
  have z0 := fun j => blk_at g0 j
  have y0 := z0 0; have y1 := z0 1; have y2 := z0 2; have y3 := z0 3; have y4 := z0 4; have y5 := z0 5
  simp at y0 y1 y2 y3 y4 y5
  clear z0
  go_enter Tryd.func31, Tryd.ntmps31
  go_wp2_with fail
  rw [← hW0]
  clear hW0
  refine HFt.out.mono ?_
  rintro e Wa ⟨rfl, hb⟩
  have hBa : Hid (Below w.heap.size w Wa) := hB0.trans (hb.mono hB0.size)
  have ga : Hid (Wa.heap[w.heap.size]? = some (.cells #[.int .u16 (f : Int), .int .u16 (t : Int), .int .u64 (c : Int), .int .u64 (o : Int), .int .u64 (n : Int), .slice ao d.length cap] 59 (0, 0))) := (hb.block _ (block_lt g0)).trans g0
  clear hb hB0 g0 HFt y0 y1 y2 y3 y4 y5
  go_wp2_with fail
  refine (HRh.out _).mono ?_
  rintro e W9 ⟨rfl, hw⟩
  rw [hw]; clear hw HRh
  go_wp2_with fail
  have h0 : Enc w (Wa.alloc (.cells #[.bool true, .slice none 0 0] 149)) w.heap.size Wa.heap.size (.slice none 0 0) [] (.cells #[.int .u16 (f : Int), .int .u16 (t : Int), .int .u64 (c : Int), .int .u64 (o : Int), .int .u64 (n : Int), .slice ao d.length cap] 59) := Enc.new hBa.out ga.out
  refine (newWriter_any Wa).mono ?_
  rintro e w1 ⟨rfl, rfl⟩
  generalize Wa.alloc (.cells #[.bool true, .slice none 0 0] 149) = W1 at *
  generalize Wa.heap.size = p at *
  have H1 : Hid _ := h0
  clear h0 hBa ga
  go_wp2_with fail
  refine (wu32_any w.heap.size p mReq64 _ _ W1 H1.out.ok (by decide) (by simp [bigTo_length, nL_length] <;> omega) H1.out.hB).mono ?_
  rintro e W2 ⟨rfl, v2, hp⟩
  have H2 : Hid _ := H1.out.step hp
  clear hp H1
  have c0 := H2.out.c 0
  simp at c0
  go_wp2_with fail
  refine (wu16_any w.heap.size p f v2 _ W2 H2.out.ok hf (by simp [bigTo_length, nL_length] <;> omega) H2.out.hB).mono ?_
  rintro e W3 ⟨rfl, v3, hp⟩
  have H3 : Hid _ := H2.out.step hp
  clear hp H2 c0
  have c1 := H3.out.c 1
  simp at c1
  go_wp2_with fail
  refine (wu16_any w.heap.size p t v3 _ W3 H3.out.ok ht (by simp [bigTo_length, nL_length] <;> omega) H3.out.hB).mono ?_
  rintro e W4 ⟨rfl, v4, hp⟩
  have H4 : Hid _ := H3.out.step hp
  clear hp H3 c1
  have c2 := H4.out.c 2
  simp at c2
  go_wp2_with fail
  refine (wu64_any w.heap.size p c v4 _ W4 H4.out.ok hc (by simp [bigTo_length, nL_length] <;> omega) H4.out.hB).mono ?_
  rintro e W5 ⟨rfl, v5, hp⟩
  have H5 : Hid _ := H4.out.step hp
  clear hp H4 c2
  have c3 := H5.out.c 3
  simp at c3
  go_wp2_with fail
  refine (wu64_any w.heap.size p o v5 _ W5 H5.out.ok ho (by simp [bigTo_length, nL_length] <;> omega) H5.out.hB).mono ?_
  rintro e W6 ⟨rfl, v6, hp⟩
  have H6 : Hid _ := H5.out.step hp
  clear hp H5 c3
  have c4 := H6.out.c 4
  simp at c4
  go_wp2_with fail
  refine (lay_any w.heap.size p n true v6 _ W6 H6.out.ok hn64 (by simp [bigTo_length, nL_length] <;> omega) H6.out.hB).mono ?_
  rintro e W7 ⟨rfl, v7, hp⟩
  have H7 : Hid _ := H6.out.step hp
  clear hp H6 c4
  have c5 := H7.out.c 5
  simp at c5
  go_wp2_with fail
  refine (wraw_any w.heap.size p v7 _ d ao cap d.length W7 H7.out.ok (hd.out.later H7.out.bel) rfl (by have := hn.out; simp [bigTo_length, nL_length] <;> omega) H7.out.hB).mono ?_
  rintro e W8 ⟨rfl, v8, hp⟩
  have H8 : Hid _ := H7.out.step hp
  clear hp H7 c5
  go_wp2_with fail
  refine (wout_any w.heap.size p v8 _ W8 H8.out.ok (by have := hn.out; simp [bigTo_length, nL_length] <;> omega)).mono ?_
  rintro e W9 ⟨ao', cap', he, ho, hb⟩
  have H9 : Hid _ := H8.out.out ho hb
  clear ho hb H8
  obtain ⟨m, hm⟩ : ∃ m, m = (qL f t c o n d true).length := ⟨_, rfl⟩
  obtain rfl : e = .returned (.slice ao' m cap') := by rw [hm]; exact he
  have HM : Hid (m = (qL f t c o n d true).length) := hm
  clear hm he
  go_wp2
  go_ret2
  exact ⟨_, _, by rw [← HM.out]; rfl, H9.out⟩
set_option maxHeartbeats 2000000 in
theorem encChunk_true (f t c o : Nat) (ao : Option Addr) (cap : Nat) (d : List Nat) (w : World) (hf : f < 65536) (ht : t < 65536) (hc : c < 18446744073709551616) (ho : o < 18446744073709551616) (hd : BRow w ao cap d) (hn : d.length ≤ 1099511627776) :
    Calls Tryd.prog 32 #[.agg #[.int .u16 (f : Int), .int .u16 (t : Int), .int .u64 (c : Int), .int .u64 (o : Int), .slice ao d.length cap], .bool true] w fun e w' => ∃ ao cap, e = .returned (.slice ao (cL64 f t c o d).length cap) ∧ Row w w' ao cap (cL64 f t c o d) := by
  have hn0 := hn
  replace hd : Hid (BRow w ao cap d) := hd
  replace hn : Hid (d.length ≤ 1099511627776) := hn
  have hwl : IntKind.u64.wrap (d.length : Int) = (d.length : Int) := by rw [IntKind.wrap_u64]; omega
  obtain ⟨W0, hW0⟩ : ∃ W0, W0 = w.alloc (.cells #[.int .u16 (f : Int), .int .u16 (t : Int), .int .u64 (c : Int), .int .u64 (o : Int), .slice ao d.length cap] 61) := ⟨_, rfl⟩
  have hB0 : Below w.heap.size w W0 := by rw [hW0]; exact (Below.refl _ _).alloc (Nat.le_refl _) _
  have g0 : W0.heap[w.heap.size]? = some (.cells #[.int .u16 (f : Int), .int .u16 (t : Int), .int .u64 (c : Int), .int .u64 (o : Int), .slice ao d.length cap] 61 (0, 0)) := by rw [hW0]; exact heap_new w _
  have HRh : Hid (∀ W : World, Calls Tryd.prog 78 #[.bool true] W fun e W' => e = .returned (.tuple #[.int .u32 (mChunk64 : Nat), .int .i64 32]) ∧ W' = W) := fun W => by
    go_enter Tryd.func78, Tryd.ntmps78
    go_wp2
    go_ret2
    exact ⟨rfl, rfl⟩
  go_enter Tryd.func32, Tryd.ntmps32
  go_wp2_with fail
  rw [← hW0]
  clear hW0
  refine (HRh.out _).mono ?_
  rintro e W9 ⟨rfl, hw⟩
  rw [hw]; clear hw HRh
  have hBa : Hid (Below w.heap.size w W0) := hB0
  have ga : Hid (W0.heap[w.heap.size]? = some (.cells #[.int .u16 (f : Int), .int .u16 (t : Int), .int .u64 (c : Int), .int .u64 (o : Int), .slice ao d.length cap] 61 (0, 0))) := g0
  clear hB0 g0
  go_wp2_with fail
  have h0 : Enc w (W0.alloc (.cells #[.bool true, .slice none 0 0] 149)) w.heap.size W0.heap.size (.slice none 0 0) [] (.cells #[.int .u16 (f : Int), .int .u16 (t : Int), .int .u64 (c : Int), .int .u64 (o : Int), .slice ao d.length cap] 61) := Enc.new hBa.out ga.out
  refine (newWriter_any W0).mono ?_
  rintro e w1 ⟨rfl, rfl⟩
  generalize W0.alloc (.cells #[.bool true, .slice none 0 0] 149) = W1 at *
  generalize W0.heap.size = p at *
  have H1 : Hid _ := h0
  clear h0 hBa ga
  go_wp2_with fail
  refine (wu32_any w.heap.size p mChunk64 _ _ W1 H1.out.ok (by decide) (by simp [bigTo_length, nL_length] <;> omega) H1.out.hB).mono ?_
  rintro e W2 ⟨rfl, v2, hp⟩
  have H2 : Hid _ := H1.out.step hp
  clear hp H1
  have c0 := H2.out.c 0
  simp at c0
  go_wp2_with fail
  refine (wu16_any w.heap.size p f v2 _ W2 H2.out.ok hf (by simp [bigTo_length, nL_length] <;> omega) H2.out.hB).mono ?_
  rintro e W3 ⟨rfl, v3, hp⟩
  have H3 : Hid _ := H2.out.step hp
  clear hp H2 c0
  have c1 := H3.out.c 1
  simp at c1
  go_wp2_with fail
  refine (wu16_any w.heap.size p t v3 _ W3 H3.out.ok ht (by simp [bigTo_length, nL_length] <;> omega) H3.out.hB).mono ?_
  rintro e W4 ⟨rfl, v4, hp⟩
  have H4 : Hid _ := H3.out.step hp
  clear hp H3 c1
  have c2 := H4.out.c 2
  simp at c2
  go_wp2_with fail
  refine (wu64_any w.heap.size p c v4 _ W4 H4.out.ok hc (by simp [bigTo_length, nL_length] <;> omega) H4.out.hB).mono ?_
  rintro e W5 ⟨rfl, v5, hp⟩
  have H5 : Hid _ := H4.out.step hp
  clear hp H4 c2
  have c3 := H5.out.c 3
  simp at c3
  go_wp2_with fail
  refine (wu64_any w.heap.size p o v5 _ W5 H5.out.ok ho (by simp [bigTo_length, nL_length] <;> omega) H5.out.hB).mono ?_
  rintro e W6 ⟨rfl, v6, hp⟩
  have H6 : Hid _ := H5.out.step hp
  clear hp H5 c3
  have c4 := H6.out.c 4
  simp at c4
  go_wp2_with fail
  refine (lay_any w.heap.size p d.length true v6 _ W6 H6.out.ok (by omega) (by simp [bigTo_length, nL_length] <;> omega) H6.out.hB).mono ?_
  rintro e W7 ⟨rfl, v7, hp⟩
  have H7 : Hid _ := H6.out.step hp
  clear hp H6 c4
  have c4 := H7.out.c 4
  simp at c4
  go_wp2_with fail
  refine (wraw_any w.heap.size p v7 _ d ao cap d.length W7 H7.out.ok (hd.out.later H7.out.bel) rfl (by have := hn.out; simp [bigTo_length, nL_length] <;> omega) H7.out.hB).mono ?_
  rintro e W8 ⟨rfl, v8, hp⟩
  have H8 : Hid _ := H7.out.step hp
  clear hp H7 c4
  go_wp2_with fail
  refine (wout_any w.heap.size p v8 _ W8 H8.out.ok (by have := hn.out; simp [bigTo_length, nL_length] <;> omega)).mono ?_
  rintro e W9 ⟨ao', cap', he, ho, hb⟩
  have H9 : Hid _ := H8.out.out ho hb
  clear ho hb H8
  obtain ⟨m, hm⟩ : ∃ m, m = (cL64 f t c o d).length := ⟨_, rfl⟩
  obtain rfl : e = .returned (.slice ao' m cap') := by rw [hm]; exact he
  have HM : Hid (m = (cL64 f t c o d).length) := hm
  clear hm he
  go_wp2
  go_ret
  exact ⟨_, _, by rw [← HM.out]; rfl, H9.out⟩
set_option maxHeartbeats 2000000 in
theorem encRequest_false (f t c o n : Nat) (ao : Option Addr) (cap : Nat) (d : List Nat) (w : World) (hf : f < 65536) (ht : t < 65536) (hc : c < 18446744073709551616) (ho : o < 18446744073709551616) (hn64 : n < 18446744073709551616) (hd : BRow w ao cap d) (hn : d.length ≤ 1099511627776) (hfit : fitB f t n d.length false = true) :
    Calls Tryd.prog 31 #[.agg #[.int .u16 (f : Int), .int .u16 (t : Int), .int .u64 (c : Int), .int .u64 (o : Int), .int .u64 (n : Int), .slice ao d.length cap], .bool false] w fun e w' => ∃ ao cap, e = .returned (.tuple #[.slice ao (qL f t c o n d false).length cap, .int .i64 0]) ∧ Row w w' ao cap (qL f t c o n d false) := by
  have hn0 := hn
  replace hd : Hid (BRow w ao cap d) := hd
  replace hn : Hid (d.length ≤ 1099511627776) := hn
  have hwl : IntKind.u64.wrap (d.length : Int) = (d.length : Int) := by rw [IntKind.wrap_u64]; omega
  obtain ⟨W0, hW0⟩ : ∃ W0, W0 = w.alloc (.cells #[.int .u16 (f : Int), .int .u16 (t : Int), .int .u64 (c : Int), .int .u64 (o : Int), .int .u64 (n : Int), .slice ao d.length cap] 59) := ⟨_, rfl⟩
  have hB0 : Below w.heap.size w W0 := by rw [hW0]; exact (Below.refl _ _).alloc (Nat.le_refl _) _
  have g0 : W0.heap[w.heap.size]? = some (.cells #[.int .u16 (f : Int), .int .u16 (t : Int), .int .u64 (c : Int), .int .u64 (o : Int), .int .u64 (n : Int), .slice ao d.length cap] 59 (0, 0)) := by rw [hW0]; exact heap_new w _
  have HFt : Hid (Calls Tryd.prog 75 #[.agg #[.int .u16 (f : Int), .int .u16 (t : Int), .int .u64 (c : Int), .int .u64 (o : Int), .int .u64 (n : Int), .slice ao d.length cap], .bool false] W0 fun e w' => e = .returned (.bool true) ∧ Below W0.heap.size W0 w') := by have := fits_any f t c o n ao cap d false W0 hn64 hn0; rw [hfit] at this; exact this
  have HRh : Hid (∀ W : World, Calls Tryd.prog 76 #[.bool false] W fun e W' => e = .returned (.tuple #[.int .u32 (mReq : Nat), .int .i64 28]) ∧ W' = W) := fun W => by
    go_enter Tryd.func76, Tryd.ntmps76
    go_wp2
    go_ret2
    exact ⟨rfl, rfl⟩
  have z0 := fun j => blk_at g0 j
  have y0 := z0 0; have y1 := z0 1; have y2 := z0 2; have y3 := z0 3; have y4 := z0 4; have y5 := z0 5
  simp at y0 y1 y2 y3 y4 y5
  clear z0
  go_enter Tryd.func31, Tryd.ntmps31
  go_wp2_with fail
  rw [← hW0]
  clear hW0
  refine HFt.out.mono ?_
  rintro e Wa ⟨rfl, hb⟩
  have hBa : Hid (Below w.heap.size w Wa) := hB0.trans (hb.mono hB0.size)
  have ga : Hid (Wa.heap[w.heap.size]? = some (.cells #[.int .u16 (f : Int), .int .u16 (t : Int), .int .u64 (c : Int), .int .u64 (o : Int), .int .u64 (n : Int), .slice ao d.length cap] 59 (0, 0))) := (hb.block _ (block_lt g0)).trans g0
  clear hb hB0 g0 HFt y0 y1 y2 y3 y4 y5
  go_wp2_with fail
  refine (HRh.out _).mono ?_
  rintro e W9 ⟨rfl, hw⟩
  rw [hw]; clear hw HRh
  go_wp2_with fail
  have h0 : Enc w (Wa.alloc (.cells #[.bool true, .slice none 0 0] 149)) w.heap.size Wa.heap.size (.slice none 0 0) [] (.cells #[.int .u16 (f : Int), .int .u16 (t : Int), .int .u64 (c : Int), .int .u64 (o : Int), .int .u64 (n : Int), .slice ao d.length cap] 59) := Enc.new hBa.out ga.out
  refine (newWriter_any Wa).mono ?_
  rintro e w1 ⟨rfl, rfl⟩
  generalize Wa.alloc (.cells #[.bool true, .slice none 0 0] 149) = W1 at *
  generalize Wa.heap.size = p at *
  have H1 : Hid _ := h0
  clear h0 hBa ga
  go_wp2_with fail
  refine (wu32_any w.heap.size p mReq _ _ W1 H1.out.ok (by decide) (by simp [bigTo_length, nL_length] <;> omega) H1.out.hB).mono ?_
  rintro e W2 ⟨rfl, v2, hp⟩
  have H2 : Hid _ := H1.out.step hp
  clear hp H1
  have c0 := H2.out.c 0
  simp at c0
  go_wp2_with fail
  refine (wu16_any w.heap.size p f v2 _ W2 H2.out.ok hf (by simp [bigTo_length, nL_length] <;> omega) H2.out.hB).mono ?_
  rintro e W3 ⟨rfl, v3, hp⟩
  have H3 : Hid _ := H2.out.step hp
  clear hp H2 c0
  have c1 := H3.out.c 1
  simp at c1
  go_wp2_with fail
  refine (wu16_any w.heap.size p t v3 _ W3 H3.out.ok ht (by simp [bigTo_length, nL_length] <;> omega) H3.out.hB).mono ?_
  rintro e W4 ⟨rfl, v4, hp⟩
  have H4 : Hid _ := H3.out.step hp
  clear hp H3 c1
  have c2 := H4.out.c 2
  simp at c2
  go_wp2_with fail
  refine (wu64_any w.heap.size p c v4 _ W4 H4.out.ok hc (by simp [bigTo_length, nL_length] <;> omega) H4.out.hB).mono ?_
  rintro e W5 ⟨rfl, v5, hp⟩
  have H5 : Hid _ := H4.out.step hp
  clear hp H4 c2
  have c3 := H5.out.c 3
  simp at c3
  go_wp2_with fail
  refine (wu64_any w.heap.size p o v5 _ W5 H5.out.ok ho (by simp [bigTo_length, nL_length] <;> omega) H5.out.hB).mono ?_
  rintro e W6 ⟨rfl, v6, hp⟩
  have H6 : Hid _ := H5.out.step hp
  clear hp H5 c3
  have c4 := H6.out.c 4
  simp at c4
  go_wp2_with fail
  refine (lay_any w.heap.size p n false v6 _ W6 H6.out.ok hn64 (by simp [bigTo_length, nL_length] <;> omega) H6.out.hB).mono ?_
  rintro e W7 ⟨rfl, v7, hp⟩
  have H7 : Hid _ := H6.out.step hp
  clear hp H6 c4
  have c5 := H7.out.c 5
  simp at c5
  go_wp2_with fail
  refine (wraw_any w.heap.size p v7 _ d ao cap d.length W7 H7.out.ok (hd.out.later H7.out.bel) rfl (by have := hn.out; simp [bigTo_length, nL_length] <;> omega) H7.out.hB).mono ?_
  rintro e W8 ⟨rfl, v8, hp⟩
  have H8 : Hid _ := H7.out.step hp
  clear hp H7 c5
  go_wp2_with fail
  refine (wout_any w.heap.size p v8 _ W8 H8.out.ok (by have := hn.out; simp [bigTo_length, nL_length] <;> omega)).mono ?_
  rintro e W9 ⟨ao', cap', he, ho, hb⟩
  have H9 : Hid _ := H8.out.out ho hb
  clear ho hb H8
  obtain ⟨m, hm⟩ : ∃ m, m = (qL f t c o n d false).length := ⟨_, rfl⟩
  obtain rfl : e = .returned (.slice ao' m cap') := by rw [hm]; exact he
  have HM : Hid (m = (qL f t c o n d false).length) := hm
  clear hm he
  go_wp2
  go_ret2
  exact ⟨_, _, by rw [← HM.out]; rfl, H9.out⟩
set_option maxHeartbeats 2000000 in
theorem encChunk_false (f t c o : Nat) (ao : Option Addr) (cap : Nat) (d : List Nat) (w : World) (hf : f < 65536) (ht : t < 65536) (hc : c < 18446744073709551616) (ho : o < 18446744073709551616) (hd : BRow w ao cap d) (hn : d.length ≤ 1099511627776) :
    Calls Tryd.prog 32 #[.agg #[.int .u16 (f : Int), .int .u16 (t : Int), .int .u64 (c : Int), .int .u64 (o : Int), .slice ao d.length cap], .bool false] w fun e w' => ∃ ao cap, e = .returned (.slice ao (cL f t c d).length cap) ∧ Row w w' ao cap (cL f t c d) := by
  have hn0 := hn
  replace hd : Hid (BRow w ao cap d) := hd
  replace hn : Hid (d.length ≤ 1099511627776) := hn
  have hwl : IntKind.u64.wrap (d.length : Int) = (d.length : Int) := by rw [IntKind.wrap_u64]; omega
  obtain ⟨W0, hW0⟩ : ∃ W0, W0 = w.alloc (.cells #[.int .u16 (f : Int), .int .u16 (t : Int), .int .u64 (c : Int), .int .u64 (o : Int), .slice ao d.length cap] 61) := ⟨_, rfl⟩
  have hB0 : Below w.heap.size w W0 := by rw [hW0]; exact (Below.refl _ _).alloc (Nat.le_refl _) _
  have g0 : W0.heap[w.heap.size]? = some (.cells #[.int .u16 (f : Int), .int .u16 (t : Int), .int .u64 (c : Int), .int .u64 (o : Int), .slice ao d.length cap] 61 (0, 0)) := by rw [hW0]; exact heap_new w _
  have HRh : Hid (∀ W : World, Calls Tryd.prog 78 #[.bool false] W fun e W' => e = .returned (.tuple #[.int .u32 (mChunk : Nat), .int .i64 20]) ∧ W' = W) := fun W => by
    go_enter Tryd.func78, Tryd.ntmps78
    go_wp2
    go_ret2
    exact ⟨rfl, rfl⟩
  go_enter Tryd.func32, Tryd.ntmps32
  go_wp2_with fail
  rw [← hW0]
  clear hW0
  refine (HRh.out _).mono ?_
  rintro e W9 ⟨rfl, hw⟩
  rw [hw]; clear hw HRh
  have hBa : Hid (Below w.heap.size w W0) := hB0
  have ga : Hid (W0.heap[w.heap.size]? = some (.cells #[.int .u16 (f : Int), .int .u16 (t : Int), .int .u64 (c : Int), .int .u64 (o : Int), .slice ao d.length cap] 61 (0, 0))) := g0
  clear hB0 g0
  go_wp2_with fail
  have h0 : Enc w (W0.alloc (.cells #[.bool true, .slice none 0 0] 149)) w.heap.size W0.heap.size (.slice none 0 0) [] (.cells #[.int .u16 (f : Int), .int .u16 (t : Int), .int .u64 (c : Int), .int .u64 (o : Int), .slice ao d.length cap] 61) := Enc.new hBa.out ga.out
  refine (newWriter_any W0).mono ?_
  rintro e w1 ⟨rfl, rfl⟩
  generalize W0.alloc (.cells #[.bool true, .slice none 0 0] 149) = W1 at *
  generalize W0.heap.size = p at *
  have H1 : Hid _ := h0
  clear h0 hBa ga
  go_wp2_with fail
  refine (wu32_any w.heap.size p mChunk _ _ W1 H1.out.ok (by decide) (by simp [bigTo_length, nL_length] <;> omega) H1.out.hB).mono ?_
  rintro e W2 ⟨rfl, v2, hp⟩
  have H2 : Hid _ := H1.out.step hp
  clear hp H1
  have c0 := H2.out.c 0
  simp at c0
  go_wp2_with fail
  refine (wu16_any w.heap.size p f v2 _ W2 H2.out.ok hf (by simp [bigTo_length, nL_length] <;> omega) H2.out.hB).mono ?_
  rintro e W3 ⟨rfl, v3, hp⟩
  have H3 : Hid _ := H2.out.step hp
  clear hp H2 c0
  have c1 := H3.out.c 1
  simp at c1
  go_wp2_with fail
  refine (wu16_any w.heap.size p t v3 _ W3 H3.out.ok ht (by simp [bigTo_length, nL_length] <;> omega) H3.out.hB).mono ?_
  rintro e W4 ⟨rfl, v4, hp⟩
  have H4 : Hid _ := H3.out.step hp
  clear hp H3 c1
  have c2 := H4.out.c 2
  simp at c2
  go_wp2_with fail
  refine (wu64_any w.heap.size p c v4 _ W4 H4.out.ok hc (by simp [bigTo_length, nL_length] <;> omega) H4.out.hB).mono ?_
  rintro e W5 ⟨rfl, v5, hp⟩
  have H5 : Hid _ := H4.out.step hp
  clear hp H4 c2
  have c4 := H5.out.c 4
  simp at c4
  go_wp2_with fail
  refine (lay_any w.heap.size p d.length false v5 _ W5 H5.out.ok (by omega) (by simp [bigTo_length, nL_length] <;> omega) H5.out.hB).mono ?_
  rintro e W6 ⟨rfl, v6, hp⟩
  have H6 : Hid _ := H5.out.step hp
  clear hp H5 c4
  have c4 := H6.out.c 4
  simp at c4
  go_wp2_with fail
  refine (wraw_any w.heap.size p v6 _ d ao cap d.length W6 H6.out.ok (hd.out.later H6.out.bel) rfl (by have := hn.out; simp [bigTo_length, nL_length] <;> omega) H6.out.hB).mono ?_
  rintro e W7 ⟨rfl, v7, hp⟩
  have H7 : Hid _ := H6.out.step hp
  clear hp H6 c4
  go_wp2_with fail
  refine (wout_any w.heap.size p v7 _ W7 H7.out.ok (by have := hn.out; simp [bigTo_length, nL_length] <;> omega)).mono ?_
  rintro e W8 ⟨ao', cap', he, ho, hb⟩
  have H8 : Hid _ := H7.out.out ho hb
  clear ho hb H7
  obtain ⟨m, hm⟩ : ∃ m, m = (cL f t c d).length := ⟨_, rfl⟩
  obtain rfl : e = .returned (.slice ao' m cap') := by rw [hm]; exact he
  have HM : Hid (m = (cL f t c d).length) := hm
  clear hm he
  go_wp2
  go_ret
  exact ⟨_, _, by rw [← HM.out]; rfl, H8.out⟩
set_option maxHeartbeats 1000000 in
theorem encRequest_bad (f t c o n : Nat) (ao : Option Addr) (cap : Nat) (d : List Nat) (ext : Bool) (w : World) (hn64 : n < 18446744073709551616) (hn : d.length ≤ 1099511627776) (hfit : fitB f t n d.length ext = false) :
    Calls Tryd.prog 31 #[.agg #[.int .u16 (f : Int), .int .u16 (t : Int), .int .u64 (c : Int), .int .u64 (o : Int), .int .u64 (n : Int), .slice ao d.length cap], .bool ext] w fun e w' => e = .returned (.tuple #[.slice none 0 0, .int .i64 81]) ∧ Below w.heap.size w w' := by
  obtain ⟨W0, hW0⟩ : ∃ W0, W0 = w.alloc (.cells #[.int .u16 (f : Int), .int .u16 (t : Int), .int .u64 (c : Int), .int .u64 (o : Int), .int .u64 (n : Int), .slice ao d.length cap] 59) := ⟨_, rfl⟩
  have hB0 : Below w.heap.size w W0 := by rw [hW0]; exact (Below.refl _ _).alloc (Nat.le_refl _) _
  have HFt : Hid (Calls Tryd.prog 75 #[.agg #[.int .u16 (f : Int), .int .u16 (t : Int), .int .u64 (c : Int), .int .u64 (o : Int), .int .u64 (n : Int), .slice ao d.length cap], .bool ext] W0 fun e w' => e = .returned (.bool false) ∧ Below W0.heap.size W0 w') := by have := fits_any f t c o n ao cap d ext W0 hn64 hn; rw [hfit] at this; exact this
  go_enter Tryd.func31, Tryd.ntmps31
  go_wp2_with fail
  rw [← hW0]
  clear hW0
  refine HFt.out.mono ?_
  rintro e Wa ⟨rfl, hb⟩
  have hBa : Hid (Below w.heap.size w Wa) := hB0.trans (hb.mono hB0.size)
  clear hb hB0 HFt
  go_wp2
  go_ret2
  exact ⟨rfl, hBa.out⟩
set_option maxHeartbeats 1000000 in
theorem encOption_bad (c k : Nat) (lg : Bool) (ao : Option Addr) (cap : Nat) (d : List Nat) (w : World) (hk : k < 4294967296) (hn : d.length ≤ 1099511627776) (hbad : lg = true ∨ k ≠ d.length) :
    Calls Tryd.prog 29 #[.agg #[.int .u32 (c : Int), .int .u32 (k : Int), .bool lg, .slice ao d.length cap]] w fun e w' => e = .returned (.tuple #[.slice none 0 0, .int .i64 81]) ∧ Below w.heap.size w w' := by
  have hB0 : Hid (Below w.heap.size w (w.alloc (.cells #[.int .u32 (c : Int), .int .u32 (k : Int), .bool lg, .slice ao d.length cap] 55))) := (Below.refl _ _).alloc (Nat.le_refl _) _
  have hwl : IntKind.u64.wrap (d.length : Int) = (d.length : Int) := by rw [IntKind.wrap_u64]; omega
  cases lg with
  | true =>
    go_enter Tryd.func29, Tryd.ntmps29
    go_wp2
    go_ret2
    exact ⟨rfl, hB0.out⟩
  | false =>
    have hne : k ≠ d.length := hbad.elim (fun h => by cases h) id
    have h1 : ¬ ((k : Int) = (d.length : Int)) := by omega
    have h2 : ((k : Int) != (d.length : Int)) = true := by simp; omega
    go_enter Tryd.func29, Tryd.ntmps29
    go_wp2
    go_ret2
    exact ⟨rfl, hB0.out⟩
end Go.Proofs.YtjhickfjagalfaaDoor
