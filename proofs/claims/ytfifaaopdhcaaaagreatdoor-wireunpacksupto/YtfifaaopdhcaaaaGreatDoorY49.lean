import Derived.Test.YtfifaaopdhcaaaaGreatDoorY45
import Derived.Test.YtfifaaopdhcaaaaGreatDoorY44
import Derived.Test.YtfifaaopdhcaaaaGreatDoorY38
import Derived.Test.YtfifaaopdhcaaaaGreatDoorY20
import Derived.Test.YtfifaaopdhcaaaaGreatDoorY21
import Derived.Deep.RegionWith
namespace Go.Proofs.YtfifaaopdhcaaaaGreatDoor
open Go.RowKit
set_option linter.unusedVariables false
set_option linter.unusedSimpArgs false
set_option maxRecDepth 100000
set_option maxHeartbeats 8000000 in
theorem rInfo_1n (k sz fl : Nat) (s : ByteArray) (mn pf mx : Nat) (da : Option Addr) (n dc : Nat) (d : List Nat) (w : World) (hk : k < 65536) (hsz : sz < 18446744073709551616) (hfl : fl < 65536) (hs : s.size ≤ 9223372036854775807) (hmn : mn < 4294967296) (hpf : pf < 4294967296) (hmx : mx < 4294967296) (hr : BRow w da dc d) (hd : d.length = n) (hn : n ≤ 1048576) (hfit : ifB k sz fl s mn pf mx n = false) (hsame : ((decide (sz = 0)) && ((decide (fl = 0)) && (true && ((decide (mn = 0)) && ((decide (pf = 0)) && ((decide (mx = 0)) && decide (d = []))))))) = true) (hkk : k = 1) :
    Calls Tryz.prog 41 #[.agg #[.int .u16 (k : Int), .int .u64 (sz : Int), .int .u16 (fl : Int), .string s, .int .u32 (mn : Int), .int .u32 (pf : Int), .int .u32 (mx : Int), .slice da n dc]] w fun e w' => Pk w [] 81 e w' := by
  obtain ⟨i0, hi, hz0, hz1, hz2⟩ := info_parts infoFd
  obtain ⟨cS, hcS⟩ : ∃ cS, ((decide (sz = 0)) && ((decide (fl = 0)) && (true && ((decide (mn = 0)) && ((decide (pf = 0)) && ((decide (mx = 0)) && decide (d = []))))))) = cS := ⟨_, rfl⟩
  obtain ⟨cT, hcT⟩ : ∃ cT, tx s = cT := ⟨_, rfl⟩
  have HFit : Hid ((cS && cT) = false) := by
    show _ = _
    rw [← hcS, ← hcT]
    refine Eq.trans ?_ hfit
    have hnd := nil_dec d n hd
    have het : emB s = true → tx s = true := em_tx
    simp only [ifB, hkk, exB, blB, hnd]
    clear hcS hcT hfit
    cases h1 : emB s <;> cases h2 : tx s <;> simp_all [Bool.and_assoc]
  obtain ⟨rfl, rfl⟩ : cS = true ∧ cT = false := by have h := HFit.out; have h2 : cS = true := (by rw [← hcS]; exact hsame); rw [h2] at h ⊢; simpa using h
  have HBr : Hid (∀ W, Below w.heap.size w W → Calls Tryz.prog 71 #[.agg #[.int .u16 (k : Int), .int .u64 (sz : Int), .int .u16 (fl : Int), .string s, .int .u32 (mn : Int), .int .u32 (pf : Int), .int .u32 (mx : Int), .slice da n dc]] W fun e w' => e = .returned (.agg #[.int .u16 (k : Int), .int .u64 0, .int .u16 0, .string s, .int .u32 0, .int .u32 0, .int .u32 0, .slice none 0 0]) ∧ Below W.heap.size W w') := fun W hb => bare_1 k sz fl s mn pf mx da n dc W hkk
  have HSm : Hid (∀ W, Below w.heap.size w W → Calls Tryz.prog 8 #[.agg #[.int .u16 (k : Int), .int .u64 (sz : Int), .int .u16 (fl : Int), .string s, .int .u32 (mn : Int), .int .u32 (pf : Int), .int .u32 (mx : Int), .slice da n dc], .agg #[.int .u16 (k : Int), .int .u64 0, .int .u16 0, .string s, .int .u32 0, .int .u32 0, .int .u32 0, .slice none 0 0]] W fun e w' => e = .returned (.bool true) ∧ Below W.heap.size W w') := fun W hb => (sameInfo_any k sz fl s mn pf mx da n dc d 0 0 s 0 0 0 none 0 0 [] (decide (sz = 0)) (decide (fl = 0)) true (decide (mn = 0)) (decide (pf = 0)) (decide (mx = 0)) W (hr.later hb) hd (brow_nil' W) rfl (z_eq sz) (z_eq fl) (by simp) (z_eq mn) (z_eq pf) (z_eq mx)).mono (fun e w' hh => ⟨by rw [hh.1, hcS], hh.2⟩)
  have HTx : Hid (∀ W, Below w.heap.size w W → Calls Tryz.prog 49 #[.string s] W fun e w' => e = .returned (.bool false) ∧ Below W.heap.size W w') := fun W hb => by have h := rText_any s W hs; rw [hcT] at h; exact h
  have HBR : Hid (BRow w da dc d) := hr
  have HM0 : Hid (d.length = n) := hd
  have t0 : ((k : Int) == 0) = false := by rw [beq_eq_false_iff_ne]; omega
  have t1 : ((k : Int) == 1) = true := by simp [hkk]
  have t2 : ((k : Int) == 2) = false := by rw [beq_eq_false_iff_ne]; omega
  have t3 : ((k : Int) == 3) = false := by rw [beq_eq_false_iff_ne]; omega
  have HL : Hid (inL k sz fl s mn pf mx d = [] ++ bigTo k 2 2 ++ sbytes s) := by show _ = _; simp [inL, hkk]
  clear hr hd hfit hkk hcS hcT
  have hx := mkb1 w #[.int .u16 (k : Int), .int .u64 (sz : Int), .int .u16 (fl : Int), .string s, .int .u32 (mn : Int), .int .u32 (pf : Int), .int .u32 (mx : Int), .slice da n dc] 28
  go_enter Tryz.func41, Tryz.ntmps41
  go_upto_region 1 with fail
  generalize w.alloc (Obj.cells #[.int .u16 (k : Int), .int .u64 (sz : Int), .int .u16 (fl : Int), .string s, .int .u32 (mn : Int), .int .u32 (pf : Int), .int .u32 (mx : Int), .slice da n dc] 28) = W1 at *
  have HY : Hid (Bx1 w W1 #[.int .u16 (k : Int), .int .u64 (sz : Int), .int .u16 (fl : Int), .string s, .int .u32 (mn : Int), .int .u32 (pf : Int), .int .u32 (mx : Int), .slice da n dc] 28) := hx
  clear hx
  have q0 := blk_at HY.out.a 0
  have q1 := blk_at HY.out.a 1
  have q2 := blk_at HY.out.a 2
  have q3 := blk_at HY.out.a 3
  have q4 := blk_at HY.out.a 4
  have q5 := blk_at HY.out.a 5
  have q6 := blk_at HY.out.a 6
  have q7 := blk_at HY.out.a 7
  simp at q0 q1 q2 q3 q4 q5 q6 q7
  have HQ : Hid (∀ W', Below W1.heap.size W1 W' → W'.cell? ⟨w.heap.size, 0, none⟩ = some (.int .u16 (k : Int)) ∧ W'.cell? ⟨w.heap.size, 1, none⟩ = some (.int .u64 (sz : Int)) ∧ W'.cell? ⟨w.heap.size, 2, none⟩ = some (.int .u16 (fl : Int)) ∧ W'.cell? ⟨w.heap.size, 3, none⟩ = some (.string s) ∧ W'.cell? ⟨w.heap.size, 4, none⟩ = some (.int .u32 (mn : Int)) ∧ W'.cell? ⟨w.heap.size, 5, none⟩ = some (.int .u32 (pf : Int)) ∧ W'.cell? ⟨w.heap.size, 6, none⟩ = some (.int .u32 (mx : Int)) ∧ W'.cell? ⟨w.heap.size, 7, none⟩ = some (.slice da n dc)) := fun W' hb => ⟨cell_later hb q0, cell_later hb q1, cell_later hb q2, cell_later hb q3, cell_later hb q4, cell_later hb q5, cell_later hb q6, cell_later hb q7⟩
  go_cut [15] from 5 to 15 (fun v wc => v = .bool true ∧ Hid (Below W1.heap.size W1 wc))
  case first =>
    have HW : Hid (Below w.heap.size w W1.drew) := ⟨HY.out.bel.os, HY.out.bel.tape, HY.out.bel.output, HY.out.bel.size, HY.out.bel.block⟩
    go_region_with (first | (go_at_call 71; refine (HBr.out _ ?_).mono ?_; exact HW.out; rintro e w1 ⟨rfl, b1⟩; have Q1 : Hid (Below W1.heap.size W1 w1) := ⟨b1.os, b1.tape, b1.output, b1.size, b1.block⟩; obtain ⟨x10, x11, x12, x13, x14, x15, x16, x17⟩ := HQ.out _ Q1.out; clear b1) | (go_at_call 8; refine (HSm.out _ (HY.out.bel.trans (Q1.out.mono HY.out.bel.size))).mono ?_; rintro e w2 ⟨rfl, b2⟩; have Q2 : Hid (Below W1.heap.size W1 w2) := Q1.out.trans (b2.mono Q1.out.size); obtain ⟨x20, x21, x22, x23, x24, x25, x26, x27⟩ := HQ.out _ Q2.out; clear b2) | (go_at_call 49; refine (HTx.out _ (HY.out.bel.trans (Q2.out.mono HY.out.bel.size))).mono ?_; rintro e w3 ⟨rfl, b3⟩; have Q3 : Hid (Below W1.heap.size W1 w3) := Q2.out.trans (b3.mono Q2.out.size); clear b3))
    all_goals (go_wp2_with fail; go_meet; exact ⟨rfl, Q3⟩)
  case rest =>
  obtain ⟨rfl, HBc⟩ := hcut
  have HZ : Hid (Bx1 w wc #[.int .u16 (k : Int), .int .u64 (sz : Int), .int .u16 (fl : Int), .string s, .int .u32 (mn : Int), .int .u32 (pf : Int), .int .u32 (mx : Int), .slice da n dc] 28) := HY.out.later HBc.out
  clear q0 q1 q2 q3 q4 q5 q6 q7 HQ HBr HSm HTx HFit
  go_wp2
  go_ret2
  exact pk_none HZ.out.bel
set_option maxHeartbeats 8000000 in
theorem rInfo_2n (k sz fl : Nat) (s : ByteArray) (mn pf mx : Nat) (da : Option Addr) (n dc : Nat) (d : List Nat) (w : World) (hk : k < 65536) (hsz : sz < 18446744073709551616) (hfl : fl < 65536) (hs : s.size ≤ 9223372036854775807) (hmn : mn < 4294967296) (hpf : pf < 4294967296) (hmx : mx < 4294967296) (hr : BRow w da dc d) (hd : d.length = n) (hn : n ≤ 1048576) (hfit : ifB k sz fl s mn pf mx n = false) (hsame : ((decide (sz = 0)) && ((decide (fl = 0)) && (true && ((decide (mn = 0)) && ((decide (pf = 0)) && ((decide (mx = 0)) && decide (d = []))))))) = true) (hkk : k = 2) :
    Calls Tryz.prog 41 #[.agg #[.int .u16 (k : Int), .int .u64 (sz : Int), .int .u16 (fl : Int), .string s, .int .u32 (mn : Int), .int .u32 (pf : Int), .int .u32 (mx : Int), .slice da n dc]] w fun e w' => Pk w [] 81 e w' := by
  obtain ⟨i0, hi, hz0, hz1, hz2⟩ := info_parts infoFd
  obtain ⟨cS, hcS⟩ : ∃ cS, ((decide (sz = 0)) && ((decide (fl = 0)) && (true && ((decide (mn = 0)) && ((decide (pf = 0)) && ((decide (mx = 0)) && decide (d = []))))))) = cS := ⟨_, rfl⟩
  obtain ⟨cT, hcT⟩ : ∃ cT, tx s = cT := ⟨_, rfl⟩
  have HFit : Hid ((cS && cT) = false) := by
    show _ = _
    rw [← hcS, ← hcT]
    refine Eq.trans ?_ hfit
    have hnd := nil_dec d n hd
    have het : emB s = true → tx s = true := em_tx
    simp only [ifB, hkk, exB, blB, hnd]
    clear hcS hcT hfit
    cases h1 : emB s <;> cases h2 : tx s <;> simp_all [Bool.and_assoc]
  obtain ⟨rfl, rfl⟩ : cS = true ∧ cT = false := by have h := HFit.out; have h2 : cS = true := (by rw [← hcS]; exact hsame); rw [h2] at h ⊢; simpa using h
  have HBr : Hid (∀ W, Below w.heap.size w W → Calls Tryz.prog 71 #[.agg #[.int .u16 (k : Int), .int .u64 (sz : Int), .int .u16 (fl : Int), .string s, .int .u32 (mn : Int), .int .u32 (pf : Int), .int .u32 (mx : Int), .slice da n dc]] W fun e w' => e = .returned (.agg #[.int .u16 (k : Int), .int .u64 0, .int .u16 0, .string s, .int .u32 0, .int .u32 0, .int .u32 0, .slice none 0 0]) ∧ Below W.heap.size W w') := fun W hb => bare_2 k sz fl s mn pf mx da n dc W hkk
  have HSm : Hid (∀ W, Below w.heap.size w W → Calls Tryz.prog 8 #[.agg #[.int .u16 (k : Int), .int .u64 (sz : Int), .int .u16 (fl : Int), .string s, .int .u32 (mn : Int), .int .u32 (pf : Int), .int .u32 (mx : Int), .slice da n dc], .agg #[.int .u16 (k : Int), .int .u64 0, .int .u16 0, .string s, .int .u32 0, .int .u32 0, .int .u32 0, .slice none 0 0]] W fun e w' => e = .returned (.bool true) ∧ Below W.heap.size W w') := fun W hb => (sameInfo_any k sz fl s mn pf mx da n dc d 0 0 s 0 0 0 none 0 0 [] (decide (sz = 0)) (decide (fl = 0)) true (decide (mn = 0)) (decide (pf = 0)) (decide (mx = 0)) W (hr.later hb) hd (brow_nil' W) rfl (z_eq sz) (z_eq fl) (by simp) (z_eq mn) (z_eq pf) (z_eq mx)).mono (fun e w' hh => ⟨by rw [hh.1, hcS], hh.2⟩)
  have HTx : Hid (∀ W, Below w.heap.size w W → Calls Tryz.prog 49 #[.string s] W fun e w' => e = .returned (.bool false) ∧ Below W.heap.size W w') := fun W hb => by have h := rText_any s W hs; rw [hcT] at h; exact h
  have HBR : Hid (BRow w da dc d) := hr
  have HM0 : Hid (d.length = n) := hd
  have t0 : ((k : Int) == 0) = false := by rw [beq_eq_false_iff_ne]; omega
  have t1 : ((k : Int) == 1) = false := by rw [beq_eq_false_iff_ne]; omega
  have t2 : ((k : Int) == 2) = true := by simp [hkk]
  have t3 : ((k : Int) == 3) = false := by rw [beq_eq_false_iff_ne]; omega
  have HL : Hid (inL k sz fl s mn pf mx d = [] ++ bigTo k 2 2 ++ sbytes s) := by show _ = _; simp [inL, hkk]
  clear hr hd hfit hkk hcS hcT
  have hx := mkb1 w #[.int .u16 (k : Int), .int .u64 (sz : Int), .int .u16 (fl : Int), .string s, .int .u32 (mn : Int), .int .u32 (pf : Int), .int .u32 (mx : Int), .slice da n dc] 28
  go_enter Tryz.func41, Tryz.ntmps41
  go_upto_region 1 with fail
  generalize w.alloc (Obj.cells #[.int .u16 (k : Int), .int .u64 (sz : Int), .int .u16 (fl : Int), .string s, .int .u32 (mn : Int), .int .u32 (pf : Int), .int .u32 (mx : Int), .slice da n dc] 28) = W1 at *
  have HY : Hid (Bx1 w W1 #[.int .u16 (k : Int), .int .u64 (sz : Int), .int .u16 (fl : Int), .string s, .int .u32 (mn : Int), .int .u32 (pf : Int), .int .u32 (mx : Int), .slice da n dc] 28) := hx
  clear hx
  have q0 := blk_at HY.out.a 0
  have q1 := blk_at HY.out.a 1
  have q2 := blk_at HY.out.a 2
  have q3 := blk_at HY.out.a 3
  have q4 := blk_at HY.out.a 4
  have q5 := blk_at HY.out.a 5
  have q6 := blk_at HY.out.a 6
  have q7 := blk_at HY.out.a 7
  simp at q0 q1 q2 q3 q4 q5 q6 q7
  have HQ : Hid (∀ W', Below W1.heap.size W1 W' → W'.cell? ⟨w.heap.size, 0, none⟩ = some (.int .u16 (k : Int)) ∧ W'.cell? ⟨w.heap.size, 1, none⟩ = some (.int .u64 (sz : Int)) ∧ W'.cell? ⟨w.heap.size, 2, none⟩ = some (.int .u16 (fl : Int)) ∧ W'.cell? ⟨w.heap.size, 3, none⟩ = some (.string s) ∧ W'.cell? ⟨w.heap.size, 4, none⟩ = some (.int .u32 (mn : Int)) ∧ W'.cell? ⟨w.heap.size, 5, none⟩ = some (.int .u32 (pf : Int)) ∧ W'.cell? ⟨w.heap.size, 6, none⟩ = some (.int .u32 (mx : Int)) ∧ W'.cell? ⟨w.heap.size, 7, none⟩ = some (.slice da n dc)) := fun W' hb => ⟨cell_later hb q0, cell_later hb q1, cell_later hb q2, cell_later hb q3, cell_later hb q4, cell_later hb q5, cell_later hb q6, cell_later hb q7⟩
  go_cut [15] from 5 to 15 (fun v wc => v = .bool true ∧ Hid (Below W1.heap.size W1 wc))
  case first =>
    have HW : Hid (Below w.heap.size w W1.drew) := ⟨HY.out.bel.os, HY.out.bel.tape, HY.out.bel.output, HY.out.bel.size, HY.out.bel.block⟩
    go_region_with (first | (go_at_call 71; refine (HBr.out _ ?_).mono ?_; exact HW.out; rintro e w1 ⟨rfl, b1⟩; have Q1 : Hid (Below W1.heap.size W1 w1) := ⟨b1.os, b1.tape, b1.output, b1.size, b1.block⟩; obtain ⟨x10, x11, x12, x13, x14, x15, x16, x17⟩ := HQ.out _ Q1.out; clear b1) | (go_at_call 8; refine (HSm.out _ (HY.out.bel.trans (Q1.out.mono HY.out.bel.size))).mono ?_; rintro e w2 ⟨rfl, b2⟩; have Q2 : Hid (Below W1.heap.size W1 w2) := Q1.out.trans (b2.mono Q1.out.size); obtain ⟨x20, x21, x22, x23, x24, x25, x26, x27⟩ := HQ.out _ Q2.out; clear b2) | (go_at_call 49; refine (HTx.out _ (HY.out.bel.trans (Q2.out.mono HY.out.bel.size))).mono ?_; rintro e w3 ⟨rfl, b3⟩; have Q3 : Hid (Below W1.heap.size W1 w3) := Q2.out.trans (b3.mono Q2.out.size); clear b3))
    all_goals (go_wp2_with fail; go_meet; exact ⟨rfl, Q3⟩)
  case rest =>
  obtain ⟨rfl, HBc⟩ := hcut
  have HZ : Hid (Bx1 w wc #[.int .u16 (k : Int), .int .u64 (sz : Int), .int .u16 (fl : Int), .string s, .int .u32 (mn : Int), .int .u32 (pf : Int), .int .u32 (mx : Int), .slice da n dc] 28) := HY.out.later HBc.out
  clear q0 q1 q2 q3 q4 q5 q6 q7 HQ HBr HSm HTx HFit
  go_wp2
  go_ret2
  exact pk_none HZ.out.bel
end Go.Proofs.YtfifaaopdhcaaaaGreatDoor
