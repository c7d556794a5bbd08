import Derived.Test.YtodinademhibjaaDoorRuB
namespace Go.Proofs.YtodinademhibjaaDoor
open Go.RowKit
set_option linter.unusedVariables false
set_option linter.unusedSimpArgs false
set_option maxRecDepth 100000

theorem bcons {w W w1 : World} (h : Below w.heap.size w W) (hb : Below W.heap.size W w1) : Below w.heap.size w w1 := h.trans (hb.mono h.size)
theorem b2 (w : World) (o p : Obj) : Below w.heap.size w ((w.alloc o).alloc p) := bcons (bnew w o) (bnew _ p)
theorem b3 (w : World) (o p r : Obj) : Below w.heap.size w (((w.alloc o).alloc p).alloc r) := bcons (b2 w o p) (bnew _ r)
theorem b4 (w : World) (o p r s : Obj) : Below w.heap.size w ((((w.alloc o).alloc p).alloc r).alloc s) := bcons (b3 w o p r) (bnew _ s)
theorem b2q (w : World) (o p : Obj) (q : Nat) : Below w.heap.size w (((w.alloc o).alloc p).drewN q) := ⟨(b2 w o p).os, (b2 w o p).tape, (b2 w o p).output, (b2 w o p).size, (b2 w o p).block⟩
/-- the flag that must be there -/
def muB (ex : Bool) (ty : Nat) : Nat := if ty = 1 ∧ ex = true then 32 else 0
/-- rule 2 -/
def rfB (st ex : Bool) (fl ty : Nat) : Bool := decide (fl &&& (65535 - flOf ty) = muB ex ty) && (!hasB fl 4 || (st || ex))
theorem andNot_fl (fl ty : Nat) (hf : fl < 65536) : bits BinOp.andNot IntKind.u16 (fl : Int) (flOf ty : Int) = ((fl &&& (65535 - flOf ty) : Nat) : Int) :=
  u16_andNot_nat fl (flOf ty) hf (by have := flOf_lt ty; omega)
set_option maxHeartbeats 2000000 in
theorem right_a (ix : Int) (st : Bool) (bo : Option Addr) (m bc : Nat) (fl ck of ln : Nat) (ao : Option Addr) (n cap : Nat) (x g : Nat) (hb c : Bool) (w : World) (hT : Tb w) 
    (HA : Hid (∀ w, Tb w → Calls Tryd.prog 10 #[.int .u16 (1 : Nat)] w fun e w' => e = .returned (.int .u16 (g : Int)) ∧ w' = w))
    (H1 : Hid (∀ w, Calls Tryd.prog 22 #[reqV fl 1 ck of ln ao n cap, .int .u16 4] w fun e w' => e = .returned (.bool hb) ∧ Below w.heap.size w w'))
    (H2 : Hid (∀ w, Calls Tryd.prog 23 #[sesV ix st true bo m bc] w fun e w' => e = .returned (.bool c) ∧ Below w.heap.size w w'))
    (hN : bits BinOp.andNot IntKind.u16 (fl : Int) (g : Int) = (x : Int)) :
    Calls Tryd.prog 18 #[sesV ix st true bo m bc, reqV fl 1 ck of ln ao n cap] w fun e w' => e = .returned (.bool (decide (x = 32) && (!hb || c))) ∧ Below w.heap.size w w' := by
  have HT : Hid (Tb w) := hT
  clear hT
  have HAq : Hid (∀ (w : World), Tb w → ∀ q, Calls Tryd.prog 10 #[.int .u16 (1 : Nat)] (w.drewN q) fun e w' => e = .returned (.int .u16 (g : Int)) ∧ w' = w.drewN q) := fun w h q => HA.out _ (h.drewN q)
  clear HA
  by_cases hx : x = 32
  · subst hx
    cases hb
    · go_enter Tryd.func18, Tryd.ntmps18
      go_wp2
      go_quiet (first | (go_at_call 10; exact Calls.quiet_of_same (HAq.out _ ((HT.out.alloc _).alloc _) _)))
      go_wp2_with fail
      refine (H1.out _).mono ?_
      rintro e w1 ⟨rfl, hbe⟩
      have B1 : Hid (Below w.heap.size w w1) := bcons (b2q _ _ _ _) hbe
      clear hbe
      go_wp2
      go_ret
      exact ⟨by simp, B1.out⟩
    · go_enter Tryd.func18, Tryd.ntmps18
      go_wp2
      go_quiet (first | (go_at_call 10; exact Calls.quiet_of_same (HAq.out _ ((HT.out.alloc _).alloc _) _)))
      go_wp2_with fail
      refine (H1.out _).mono ?_
      rintro e w1 ⟨rfl, hbe⟩
      have B1 : Hid (Below w.heap.size w w1) := bcons (b2q _ _ _ _) hbe
      have BS : Hid (Bx w1 w.heap.size #[.int .i64 ix, .bool st, .bool true, .slice bo m bc]) := (((Bx.new w _ _ _).alloc _).drewN _).later hbe
      clear hbe
      have s0 : w1.cell? ⟨w.heap.size, 0, none⟩ = some (.int .i64 ix) := BS.out 0 (by show 0 < 4; decide)
      have s1 : w1.cell? ⟨w.heap.size, 1, none⟩ = some (.bool st) := BS.out 1 (by show 1 < 4; decide)
      have s2 : w1.cell? ⟨w.heap.size, 2, none⟩ = some (.bool true) := BS.out 2 (by show 2 < 4; decide)
      have s3 : w1.cell? ⟨w.heap.size, 3, none⟩ = some (.slice bo m bc) := BS.out 3 (by show 3 < 4; decide)
      go_wp2_with fail
      refine (H2.out _).mono ?_
      rintro e w2 ⟨rfl, hbe⟩
      have B2 : Hid (Below w.heap.size w w2) := B1.out.trans (hbe.mono B1.out.size)
      clear hbe
      go_wp2
      go_ret
      exact ⟨by simp, B2.out⟩
  · have hx' : (x : Int) ≠ 32 := by omega
    go_enter Tryd.func18, Tryd.ntmps18
    go_wp2
    go_quiet (first | (go_at_call 10; exact Calls.quiet_of_same (HAq.out _ ((HT.out.alloc _).alloc _) _)))
    go_wp2
    go_ret
    refine ⟨?_, ?_⟩
    · simp [hx]
    · exact b2q _ _ _ _
set_option maxHeartbeats 2000000 in
theorem right_b (ix : Int) (st : Bool) (bo : Option Addr) (m bc : Nat) (fl ck of ln : Nat) (ao : Option Addr) (n cap : Nat) (x g : Nat) (hb c : Bool) (w : World) (hT : Tb w) 
    (HA : Hid (∀ w, Tb w → Calls Tryd.prog 10 #[.int .u16 (1 : Nat)] w fun e w' => e = .returned (.int .u16 (g : Int)) ∧ w' = w))
    (H1 : Hid (∀ w, Calls Tryd.prog 22 #[reqV fl 1 ck of ln ao n cap, .int .u16 4] w fun e w' => e = .returned (.bool hb) ∧ Below w.heap.size w w'))
    (H2 : Hid (∀ w, Calls Tryd.prog 23 #[sesV ix st false bo m bc] w fun e w' => e = .returned (.bool c) ∧ Below w.heap.size w w'))
    (hN : bits BinOp.andNot IntKind.u16 (fl : Int) (g : Int) = (x : Int)) :
    Calls Tryd.prog 18 #[sesV ix st false bo m bc, reqV fl 1 ck of ln ao n cap] w fun e w' => e = .returned (.bool (decide (x = 0) && (!hb || c))) ∧ Below w.heap.size w w' := by
  have HT : Hid (Tb w) := hT
  clear hT
  have HAq : Hid (∀ (w : World), Tb w → ∀ q, Calls Tryd.prog 10 #[.int .u16 (1 : Nat)] (w.drewN q) fun e w' => e = .returned (.int .u16 (g : Int)) ∧ w' = w.drewN q) := fun w h q => HA.out _ (h.drewN q)
  clear HA
  by_cases hx : x = 0
  · subst hx
    cases hb
    · go_enter Tryd.func18, Tryd.ntmps18
      go_wp2
      go_quiet (first | (go_at_call 10; exact Calls.quiet_of_same (HAq.out _ ((HT.out.alloc _).alloc _) _)))
      go_wp2_with fail
      refine (H1.out _).mono ?_
      rintro e w1 ⟨rfl, hbe⟩
      have B1 : Hid (Below w.heap.size w w1) := bcons (b2q _ _ _ _) hbe
      clear hbe
      go_wp2
      go_ret
      exact ⟨by simp, B1.out⟩
    · go_enter Tryd.func18, Tryd.ntmps18
      go_wp2
      go_quiet (first | (go_at_call 10; exact Calls.quiet_of_same (HAq.out _ ((HT.out.alloc _).alloc _) _)))
      go_wp2_with fail
      refine (H1.out _).mono ?_
      rintro e w1 ⟨rfl, hbe⟩
      have B1 : Hid (Below w.heap.size w w1) := bcons (b2q _ _ _ _) hbe
      have BS : Hid (Bx w1 w.heap.size #[.int .i64 ix, .bool st, .bool false, .slice bo m bc]) := (((Bx.new w _ _ _).alloc _).drewN _).later hbe
      clear hbe
      have s0 : w1.cell? ⟨w.heap.size, 0, none⟩ = some (.int .i64 ix) := BS.out 0 (by show 0 < 4; decide)
      have s1 : w1.cell? ⟨w.heap.size, 1, none⟩ = some (.bool st) := BS.out 1 (by show 1 < 4; decide)
      have s2 : w1.cell? ⟨w.heap.size, 2, none⟩ = some (.bool false) := BS.out 2 (by show 2 < 4; decide)
      have s3 : w1.cell? ⟨w.heap.size, 3, none⟩ = some (.slice bo m bc) := BS.out 3 (by show 3 < 4; decide)
      go_wp2_with fail
      refine (H2.out _).mono ?_
      rintro e w2 ⟨rfl, hbe⟩
      have B2 : Hid (Below w.heap.size w w2) := B1.out.trans (hbe.mono B1.out.size)
      clear hbe
      go_wp2
      go_ret
      exact ⟨by simp, B2.out⟩
  · have hx' : (x : Int) ≠ 0 := by omega
    go_enter Tryd.func18, Tryd.ntmps18
    go_wp2
    go_quiet (first | (go_at_call 10; exact Calls.quiet_of_same (HAq.out _ ((HT.out.alloc _).alloc _) _)))
    go_wp2
    go_ret
    refine ⟨?_, ?_⟩
    · simp [hx]
    · exact b2q _ _ _ _
set_option maxHeartbeats 2000000 in
theorem right_c (ix : Int) (st ex : Bool) (bo : Option Addr) (m bc : Nat) (fl ty ck of ln : Nat) (ao : Option Addr) (n cap : Nat) (x g : Nat) (hb c : Bool) (w : World) (hT : Tb w) (h1 : (ty : Int) ≠ 1)
    (HA : Hid (∀ w, Tb w → Calls Tryd.prog 10 #[.int .u16 (ty : Nat)] w fun e w' => e = .returned (.int .u16 (g : Int)) ∧ w' = w))
    (H1 : Hid (∀ w, Calls Tryd.prog 22 #[reqV fl ty ck of ln ao n cap, .int .u16 4] w fun e w' => e = .returned (.bool hb) ∧ Below w.heap.size w w'))
    (H2 : Hid (∀ w, Calls Tryd.prog 23 #[sesV ix st ex bo m bc] w fun e w' => e = .returned (.bool c) ∧ Below w.heap.size w w'))
    (hN : bits BinOp.andNot IntKind.u16 (fl : Int) (g : Int) = (x : Int)) :
    Calls Tryd.prog 18 #[sesV ix st ex bo m bc, reqV fl ty ck of ln ao n cap] w fun e w' => e = .returned (.bool (decide (x = 0) && (!hb || c))) ∧ Below w.heap.size w w' := by
  have HT : Hid (Tb w) := hT
  clear hT
  have HAq : Hid (∀ (w : World), Tb w → ∀ q, Calls Tryd.prog 10 #[.int .u16 (ty : Nat)] (w.drewN q) fun e w' => e = .returned (.int .u16 (g : Int)) ∧ w' = w.drewN q) := fun w h q => HA.out _ (h.drewN q)
  clear HA
  by_cases hx : x = 0
  · subst hx
    cases hb
    · go_enter Tryd.func18, Tryd.ntmps18
      go_wp2
      go_quiet (first | (go_at_call 10; exact Calls.quiet_of_same (HAq.out _ ((HT.out.alloc _).alloc _) _)))
      go_wp2_with fail
      refine (H1.out _).mono ?_
      rintro e w1 ⟨rfl, hbe⟩
      have B1 : Hid (Below w.heap.size w w1) := bcons (b2q _ _ _ _) hbe
      clear hbe
      go_wp2
      go_ret
      exact ⟨by simp, B1.out⟩
    · go_enter Tryd.func18, Tryd.ntmps18
      go_wp2
      go_quiet (first | (go_at_call 10; exact Calls.quiet_of_same (HAq.out _ ((HT.out.alloc _).alloc _) _)))
      go_wp2_with fail
      refine (H1.out _).mono ?_
      rintro e w1 ⟨rfl, hbe⟩
      have B1 : Hid (Below w.heap.size w w1) := bcons (b2q _ _ _ _) hbe
      have BS : Hid (Bx w1 w.heap.size #[.int .i64 ix, .bool st, .bool ex, .slice bo m bc]) := (((Bx.new w _ _ _).alloc _).drewN _).later hbe
      clear hbe
      have s0 : w1.cell? ⟨w.heap.size, 0, none⟩ = some (.int .i64 ix) := BS.out 0 (by show 0 < 4; decide)
      have s1 : w1.cell? ⟨w.heap.size, 1, none⟩ = some (.bool st) := BS.out 1 (by show 1 < 4; decide)
      have s2 : w1.cell? ⟨w.heap.size, 2, none⟩ = some (.bool ex) := BS.out 2 (by show 2 < 4; decide)
      have s3 : w1.cell? ⟨w.heap.size, 3, none⟩ = some (.slice bo m bc) := BS.out 3 (by show 3 < 4; decide)
      go_wp2_with fail
      refine (H2.out _).mono ?_
      rintro e w2 ⟨rfl, hbe⟩
      have B2 : Hid (Below w.heap.size w w2) := B1.out.trans (hbe.mono B1.out.size)
      clear hbe
      go_wp2
      go_ret
      exact ⟨by simp, B2.out⟩
  · have hx' : (x : Int) ≠ 0 := by omega
    go_enter Tryd.func18, Tryd.ntmps18
    go_wp2
    go_quiet (first | (go_at_call 10; exact Calls.quiet_of_same (HAq.out _ ((HT.out.alloc _).alloc _) _)))
    go_wp2
    go_ret
    refine ⟨?_, ?_⟩
    · simp [hx]
    · exact b2q _ _ _ _
theorem right_any (ix : Int) (st ex : Bool) (bo : Option Addr) (m bc : Nat) (fl ty ck of ln : Nat) (ao : Option Addr) (n cap : Nat) (hf : fl < 65536) (ht : ty < 65536) (w : World) (hT : Tb w) :
    Calls Tryd.prog 18 #[sesV ix st ex bo m bc, reqV fl ty ck of ln ao n cap] w fun e w' => e = .returned (.bool (rfB st ex fl ty)) ∧ Below w.heap.size w w' := by
  unfold rfB
  by_cases h1 : ty = 1
  · subst h1
    cases ex
    · exact right_b ix st bo m bc fl ck of ln ao n cap _ _ _ _ w hT (allowed_any 1 ht) (has_any fl 1 ck of ln ao n cap 4 hf (by decide)) (inChunks_any ix st false bo m bc) (andNot_fl fl 1 hf)
    · exact right_a ix st bo m bc fl ck of ln ao n cap _ _ _ _ w hT (allowed_any 1 ht) (has_any fl 1 ck of ln ao n cap 4 hf (by decide)) (inChunks_any ix st true bo m bc) (andNot_fl fl 1 hf)
  · have e : muB ex ty = 0 := if_neg (fun h => h1 h.1)
    rw [e]
    exact right_c ix st ex bo m bc fl ty ck of ln ao n cap _ _ _ _ w hT (by omega) (allowed_any ty ht) (has_any fl ty ck of ln ao n cap 4 hf (by decide)) (inChunks_any ix st ex bo m bc) (andNot_fl fl ty hf)
end Go.Proofs.YtodinademhibjaaDoor
