import Derived.Test.YtodinademhibjaaDoorRuC
import Derived.Deep.DeepCutAuto
namespace Go.Proofs.YtodinademhibjaaDoor
open Go.RowKit
set_option linter.unusedVariables false
set_option linter.unusedSimpArgs false
set_option maxRecDepth 100000

/-- the three boxes of checkRange, and the table -/
structure St (w wc : World) (nm ds : ByteArray) (sec : Int) (ro rt pv tr : Bool) (mn pf : Nat) (py op : Nat) (fi : Int) (fl ty ck of ln : Nat) (ao : Option Addr) (n cap : Nat) : Prop where
  bel : Below w.heap.size w wc
  e : Bx wc w.heap.size #[.string nm, .string ds, .int .i64 sec, .bool ro, .bool rt, .bool pv, .bool tr, .int .u32 (mn : Int), .int .u32 (pf : Int)]
  l : Bx wc (w.heap.size + 1) #[.int .u32 (py : Int), .int .u32 (op : Int), .int .i64 fi]
  q : Bx wc (w.heap.size + 1 + 1) #[.int .u16 (fl : Int), .int .u16 (ty : Int), .int .u64 (ck : Int), .int .u64 (of : Int), .int .u64 (ln : Int), .slice ao n cap]
  t : Tb wc
theorem St.later {w wc wd : World} {nm ds : ByteArray} {sec : Int} {ro rt pv tr : Bool} {mn pf : Nat} {py op : Nat} {fi : Int} {fl ty ck of ln : Nat} {ao : Option Addr} {n cap : Nat} (h : St w wc nm ds sec ro rt pv tr mn pf py op fi fl ty ck of ln ao n cap) (hb : Below wc.heap.size wc wd) : St w wd nm ds sec ro rt pv tr mn pf py op fi fl ty ck of ln ao n cap :=
  ⟨bcons h.bel hb, h.e.later hb, h.l.later hb, h.q.later hb, h.t.later hb⟩
theorem St.start (w : World) (nm ds : ByteArray) (sec : Int) (ro rt pv tr : Bool) (mn pf : Nat) (py op : Nat) (fi : Int) (fl ty ck of ln : Nat) (ao : Option Addr) (n cap : Nat) (hT : Tb w) (t1 t2 t3 : TypeId) (f1 f2 f3 : Nat × Nat) : St w (((w.alloc (.cells #[.string nm, .string ds, .int .i64 sec, .bool ro, .bool rt, .bool pv, .bool tr, .int .u32 (mn : Int), .int .u32 (pf : Int)] t1 f1)).alloc (.cells #[.int .u32 (py : Int), .int .u32 (op : Int), .int .i64 fi] t2 f2)).alloc (.cells #[.int .u16 (fl : Int), .int .u16 (ty : Int), .int .u64 (ck : Int), .int .u64 (of : Int), .int .u64 (ln : Int), .slice ao n cap] t3 f3)) nm ds sec ro rt pv tr mn pf py op fi fl ty ck of ln ao n cap := by
  refine ⟨b3 _ _ _ _, ((Bx.new w _ _ _).alloc _).alloc _, ?_, ?_, ((hT.alloc _).alloc _).alloc _⟩
  · have := (Bx.new (w.alloc (.cells #[.string nm, .string ds, .int .i64 sec, .bool ro, .bool rt, .bool pv, .bool tr, .int .u32 (mn : Int), .int .u32 (pf : Int)] t1 f1)) #[.int .u32 (py : Int), .int .u32 (op : Int), .int .i64 fi] t2 f2).alloc (.cells #[.int .u16 (fl : Int), .int .u16 (ty : Int), .int .u64 (ck : Int), .int .u64 (of : Int), .int .u64 (ln : Int), .slice ao n cap] t3 f3)
    rwa [World.size_alloc] at this
  · have := Bx.new ((w.alloc (.cells #[.string nm, .string ds, .int .i64 sec, .bool ro, .bool rt, .bool pv, .bool tr, .int .u32 (mn : Int), .int .u32 (pf : Int)] t1 f1)).alloc (.cells #[.int .u32 (py : Int), .int .u32 (op : Int), .int .i64 fi] t2 f2)) #[.int .u16 (fl : Int), .int .u16 (ty : Int), .int .u64 (ck : Int), .int .u64 (of : Int), .int .u64 (ln : Int), .slice ao n cap] t3 f3
    rwa [World.size_alloc, World.size_alloc] at this
theorem undrew {w w1 : World} (hb : Below w.drew.heap.size w.drew w1) : Below w.heap.size w w1 := ⟨hb.os, hb.tape, hb.output, hb.size, hb.block⟩
def rngT (t0 t1 t2 t3 t4 t5 : Bool) (be : Nat) : Nat := if t0 then 22 else if t1 then 22 else if t2 then 75 else if t3 then be else if t4 then 22 else if t5 then 95 else 0

set_option maxHeartbeats 4000000 in
theorem range_t (nm ds : ByteArray) (sec : Int) (ro rt pv tr : Bool) (mn pf : Nat) (py op : Nat) (fi : Int) (fl ty ck of ln : Nat) (ao : Option Addr) (n cap : Nat) (ca h4 h16 ins ali fa t1 t2 t4 t5 : Bool) (be sz : Nat) (w : World) (hT : Tb w) (h8 : ty < 8) (hln : (ln : Int) ≠ 0) (HLZ : Hid (((ln : Int) == 0) = false))
    (HC2 : Hid (∀ W, Tb W → W.cell? ⟨0, ty * 4 + 2, none⟩ = some (.bool ca))) (HC3 : Hid (∀ W, Tb W → W.cell? ⟨0, ty * 4 + 3, none⟩ = some (.int .u32 (be : Int))))
    (HZ : Hid (∀ W, Calls Tryd.prog 25 #[expV nm ds sec ro rt pv tr mn pf] W fun e w' => e = .returned (.int .u64 (sz : Int)) ∧ Below W.heap.size W w'))
    (HI : Hid (∀ W, Calls Tryd.prog 24 #[.int .u64 (sz : Int), reqV fl ty ck of ln ao n cap] W fun e w' => e = .returned (.bool ins) ∧ Below W.heap.size W w'))
    (HL : Hid (0 < mn → ∀ W, Calls Tryd.prog 26 #[reqV fl ty ck of ln ao n cap, .int .u64 (mn : Int)] W fun e w' => e = .returned (.bool ali) ∧ Below W.heap.size W w'))
    (HF4 : Hid (∀ W, Calls Tryd.prog 22 #[reqV fl ty ck of ln ao n cap, .int .u16 4] W fun e w' => e = .returned (.bool h4) ∧ Below W.heap.size W w'))
    (HF16 : Hid (∀ W, Calls Tryd.prog 22 #[reqV fl ty ck of ln ao n cap, .int .u16 16] W fun e w' => e = .returned (.bool h16) ∧ Below W.heap.size W w'))
    (HFa : Hid (∀ W, Calls Tryd.prog 27 #[reqV fl ty ck of ln ao n cap] W fun e w' => e = .returned (.bool fa) ∧ Below W.heap.size W w'))
    (E1 : Hid (t1 = (ca && decide (py < ln)))) (E2 : Hid (t2 = (h4 && decide (65536 < ln)))) (E4 : Hid (t4 = (decide (1 < mn) && !ali))) (E5 : Hid (t5 = (h16 && !fa)))
    (hpy : py < 4294967296) (hmn : mn < 4294967296) (hlnb : ln < 18446744073709551616) :
    Calls Tryd.prog 21 #[expV nm ds sec ro rt pv tr mn pf, limV py op fi, reqV fl ty ck of ln ao n cap] w fun e w' => e = .returned (.int .u32 (rngT false t1 t2 (!ins) t4 t5 be : Int)) ∧ Below w.heap.size w w' := by
  have HT : Hid (Tb w) := hT
  have HS0 : Hid (∀ (t1 t2 t3 : TypeId) (f1 f2 f3 : Nat × Nat), St w (((w.alloc (.cells #[.string nm, .string ds, .int .i64 sec, .bool ro, .bool rt, .bool pv, .bool tr, .int .u32 (mn : Int), .int .u32 (pf : Int)] t1 f1)).alloc (.cells #[.int .u32 (py : Int), .int .u32 (op : Int), .int .i64 fi] t2 f2)).alloc (.cells #[.int .u16 (fl : Int), .int .u16 (ty : Int), .int .u64 (ck : Int), .int .u64 (of : Int), .int .u64 (ln : Int), .slice ao n cap] t3 f3)) nm ds sec ro rt pv tr mn pf py op fi fl ty ck of ln ao n cap) := fun t1 t2 t3 f1 f2 f3 => St.start w nm ds sec ro rt pv tr mn pf py op fi fl ty ck of ln ao n cap hT t1 t2 t3 f1 f2 f3
  clear hT
  unfold rngT
  go_enter Tryd.func21, Tryd.ntmps21
  go_upto_region 3 with fail
  simp only [HLZ.out]
  go_cut [11] from 12 to 24 (fun v wc => v = .bool t1 ∧ Hid (St w wc nm ds sec ro rt pv tr mn pf py op fi fl ty ck of ln ao n cap))
  case first =>
    have HS := HS0.out 27 32 36 (0, 0) (0, 0) (0, 0)
    have k2 := HC2.out _ HS.t
    have HS' : Hid (St w _ nm ds sec ro rt pv tr mn pf py op fi fl ty ck of ln ao n cap) := HS
    clear HS
    cases ca
    · go_wp2_with fail
      go_meet
      exact ⟨by rw [E1.out]; rfl, HS'⟩
    · by_cases hp : py < ln
      · have hp' : (py : Int) < (ln : Int) := by omega
        go_wp2_with fail
        go_meet
        exact ⟨by rw [E1.out]; simp [hp], HS'⟩
      · have hp' : ¬ (py : Int) < (ln : Int) := by omega
        go_wp2_with fail
        go_meet
        exact ⟨by rw [E1.out]; simp [hp], HS'⟩
  case rest =>
    clear HS0
    obtain ⟨rfl, HS⟩ := hcut
    cases t1
    · go_upto_region 5 with fail
      go_cut [25] from 26 to 32 (fun v wc => v = .bool t2 ∧ Hid (St w wc nm ds sec ro rt pv tr mn pf py op fi fl ty ck of ln ao n cap))
      case first =>
        have q0 : wc.cell? ⟨w.heap.size + 1 + 1, 0, none⟩ = some (.int .u16 (fl : Int)) := HS.out.q 0 (by show 0 < 6; decide)
        have q1 : wc.cell? ⟨w.heap.size + 1 + 1, 1, none⟩ = some (.int .u16 (ty : Int)) := HS.out.q 1 (by show 1 < 6; decide)
        have q2 : wc.cell? ⟨w.heap.size + 1 + 1, 2, none⟩ = some (.int .u64 (ck : Int)) := HS.out.q 2 (by show 2 < 6; decide)
        have q3 : wc.cell? ⟨w.heap.size + 1 + 1, 3, none⟩ = some (.int .u64 (of : Int)) := HS.out.q 3 (by show 3 < 6; decide)
        have q4 : wc.cell? ⟨w.heap.size + 1 + 1, 4, none⟩ = some (.int .u64 (ln : Int)) := HS.out.q 4 (by show 4 < 6; decide)
        have q5 : wc.cell? ⟨w.heap.size + 1 + 1, 5, none⟩ = some (.slice ao n cap) := HS.out.q 5 (by show 5 < 6; decide)
        cases h4
        · go_wp2_with fail
          refine (HF4.out _).mono ?_
          rintro e w1 ⟨rfl, hb⟩
          have HS1 : Hid (St w w1 nm ds sec ro rt pv tr mn pf py op fi fl ty ck of ln ao n cap) := HS.out.later hb
          clear hb HS q0 q1 q2 q3 q4 q5
          go_wp2_with fail
          go_meet
          exact ⟨by rw [E2.out]; rfl, HS1⟩
        · go_wp2_with fail
          refine (HF4.out _).mono ?_
          rintro e w1 ⟨rfl, hb⟩
          have HS1 : Hid (St w w1 nm ds sec ro rt pv tr mn pf py op fi fl ty ck of ln ao n cap) := HS.out.later hb
          clear hb HS q0 q1 q2 q3 q4 q5
          have q4 : w1.cell? ⟨w.heap.size + 1 + 1, 4, none⟩ = some (.int .u64 (ln : Int)) := HS1.out.q 4 (by show 4 < 6; decide)
          by_cases hp : 65536 < ln
          · have hp' : (65536 : Int) < (ln : Int) := by omega
            go_wp2_with fail
            go_meet
            exact ⟨by rw [E2.out]; simp [hp]; try omega, HS1⟩
          · have hp' : ¬ (65536 : Int) < (ln : Int) := by omega
            go_wp2_with fail
            go_meet
            exact ⟨by rw [E2.out]; simp [hp]; try omega, HS1⟩
      case rest =>
        clear HS
        obtain ⟨rfl, HS⟩ := hcut
        cases t2
        · go_upto_region 7 with fail
          go_cut [33] from 34 to 38 (fun v wc => v = .bool (!ins) ∧ Hid (St w wc nm ds sec ro rt pv tr mn pf py op fi fl ty ck of ln ao n cap))
          case first =>
            have q0 : wc.cell? ⟨w.heap.size + 1 + 1, 0, none⟩ = some (.int .u16 (fl : Int)) := HS.out.q 0 (by show 0 < 6; decide)
            have q1 : wc.cell? ⟨w.heap.size + 1 + 1, 1, none⟩ = some (.int .u16 (ty : Int)) := HS.out.q 1 (by show 1 < 6; decide)
            have q2 : wc.cell? ⟨w.heap.size + 1 + 1, 2, none⟩ = some (.int .u64 (ck : Int)) := HS.out.q 2 (by show 2 < 6; decide)
            have q3 : wc.cell? ⟨w.heap.size + 1 + 1, 3, none⟩ = some (.int .u64 (of : Int)) := HS.out.q 3 (by show 3 < 6; decide)
            have q4 : wc.cell? ⟨w.heap.size + 1 + 1, 4, none⟩ = some (.int .u64 (ln : Int)) := HS.out.q 4 (by show 4 < 6; decide)
            have q5 : wc.cell? ⟨w.heap.size + 1 + 1, 5, none⟩ = some (.slice ao n cap) := HS.out.q 5 (by show 5 < 6; decide)
            have e0 : wc.cell? ⟨w.heap.size, 0, none⟩ = some (.string nm) := HS.out.e 0 (by show 0 < 9; decide)
            have e1 : wc.cell? ⟨w.heap.size, 1, none⟩ = some (.string ds) := HS.out.e 1 (by show 1 < 9; decide)
            have e2 : wc.cell? ⟨w.heap.size, 2, none⟩ = some (.int .i64 sec) := HS.out.e 2 (by show 2 < 9; decide)
            have e3 : wc.cell? ⟨w.heap.size, 3, none⟩ = some (.bool ro) := HS.out.e 3 (by show 3 < 9; decide)
            have e4 : wc.cell? ⟨w.heap.size, 4, none⟩ = some (.bool rt) := HS.out.e 4 (by show 4 < 9; decide)
            have e5 : wc.cell? ⟨w.heap.size, 5, none⟩ = some (.bool pv) := HS.out.e 5 (by show 5 < 9; decide)
            have e6 : wc.cell? ⟨w.heap.size, 6, none⟩ = some (.bool tr) := HS.out.e 6 (by show 6 < 9; decide)
            have e7 : wc.cell? ⟨w.heap.size, 7, none⟩ = some (.int .u32 (mn : Int)) := HS.out.e 7 (by show 7 < 9; decide)
            have e8 : wc.cell? ⟨w.heap.size, 8, none⟩ = some (.int .u32 (pf : Int)) := HS.out.e 8 (by show 8 < 9; decide)
            go_region_with (first
              | (refine (HZ.out _).mono ?_
                 rintro e w1 ⟨rfl, hb⟩
                 have HS1 : Hid (St w w1 nm ds sec ro rt pv tr mn pf py op fi fl ty ck of ln ao n cap) := by first | exact HS.out.later hb | exact HS.out.later (undrew hb) | exact HS.out.later (undrew (undrew hb)) | exact HS.out.later (undrew (undrew (undrew hb)))
                 have p0 : w1.cell? ⟨w.heap.size + 1 + 1, 0, none⟩ = some (.int .u16 (fl : Int)) := HS1.out.q 0 (by show 0 < 6; decide)
                 have p1 : w1.cell? ⟨w.heap.size + 1 + 1, 1, none⟩ = some (.int .u16 (ty : Int)) := HS1.out.q 1 (by show 1 < 6; decide)
                 have p2 : w1.cell? ⟨w.heap.size + 1 + 1, 2, none⟩ = some (.int .u64 (ck : Int)) := HS1.out.q 2 (by show 2 < 6; decide)
                 have p3 : w1.cell? ⟨w.heap.size + 1 + 1, 3, none⟩ = some (.int .u64 (of : Int)) := HS1.out.q 3 (by show 3 < 6; decide)
                 have p4 : w1.cell? ⟨w.heap.size + 1 + 1, 4, none⟩ = some (.int .u64 (ln : Int)) := HS1.out.q 4 (by show 4 < 6; decide)
                 have p5 : w1.cell? ⟨w.heap.size + 1 + 1, 5, none⟩ = some (.slice ao n cap) := HS1.out.q 5 (by show 5 < 6; decide)
                 clear hb)
              | (refine (HI.out _).mono ?_
                 rintro e w2 ⟨rfl, hb⟩
                 have HS2 : Hid (St w w2 nm ds sec ro rt pv tr mn pf py op fi fl ty ck of ln ao n cap) := by first | exact HS1.out.later hb | exact HS1.out.later (undrew hb) | exact HS1.out.later (undrew (undrew hb)) | exact HS1.out.later (undrew (undrew (undrew hb)))
                 clear hb))
            all_goals (go_wp2_with fail; go_meet; exact ⟨rfl, HS2⟩)
          case rest =>
            clear HS
            obtain ⟨rfl, HS⟩ := hcut
            cases ins
            · have k3 := HC3.out _ HS.out.t
              have q1 : wc.cell? ⟨w.heap.size + 1 + 1, 1, none⟩ = some (.int .u16 (ty : Int)) := HS.out.q 1 (by show 1 < 6; decide)
              go_wp2
              go_ret
              exact ⟨rfl, HS.out.bel⟩
            · go_upto_region 9 with fail
              go_cut [44] from 45 to 55 (fun v wc => v = .bool t4 ∧ Hid (St w wc nm ds sec ro rt pv tr mn pf py op fi fl ty ck of ln ao n cap))
              case first =>
                have q0 : wc.cell? ⟨w.heap.size + 1 + 1, 0, none⟩ = some (.int .u16 (fl : Int)) := HS.out.q 0 (by show 0 < 6; decide)
                have q1 : wc.cell? ⟨w.heap.size + 1 + 1, 1, none⟩ = some (.int .u16 (ty : Int)) := HS.out.q 1 (by show 1 < 6; decide)
                have q2 : wc.cell? ⟨w.heap.size + 1 + 1, 2, none⟩ = some (.int .u64 (ck : Int)) := HS.out.q 2 (by show 2 < 6; decide)
                have q3 : wc.cell? ⟨w.heap.size + 1 + 1, 3, none⟩ = some (.int .u64 (of : Int)) := HS.out.q 3 (by show 3 < 6; decide)
                have q4 : wc.cell? ⟨w.heap.size + 1 + 1, 4, none⟩ = some (.int .u64 (ln : Int)) := HS.out.q 4 (by show 4 < 6; decide)
                have q5 : wc.cell? ⟨w.heap.size + 1 + 1, 5, none⟩ = some (.slice ao n cap) := HS.out.q 5 (by show 5 < 6; decide)
                have e7 : wc.cell? ⟨w.heap.size, 7, none⟩ = some (.int .u32 (mn : Int)) := HS.out.e 7 (by show 7 < 9; decide)
                by_cases hm1 : 1 < mn
                · have hm1' : (1 : Int) < (mn : Int) := by omega
                  go_wp2_with fail
                  refine (HL.out (by omega) _).mono ?_
                  rintro e w1 ⟨rfl, hb⟩
                  have HS1 : Hid (St w w1 nm ds sec ro rt pv tr mn pf py op fi fl ty ck of ln ao n cap) := HS.out.later hb
                  clear hb HS q0 q1 q2 q3 q4 q5 e7
                  go_wp2_with fail
                  go_meet
                  exact ⟨by rw [E4.out]; simp [hm1], HS1⟩
                · have hm1' : ¬ (1 : Int) < (mn : Int) := by omega
                  go_wp2_with fail
                  go_meet
                  exact ⟨by rw [E4.out]; simp [hm1], HS⟩
              case rest =>
                clear HS
                obtain ⟨rfl, HS⟩ := hcut
                cases t4
                · go_upto_region 11 with fail
                  go_cut [56] from 57 to 63 (fun v wc => v = .bool t5 ∧ Hid (St w wc nm ds sec ro rt pv tr mn pf py op fi fl ty ck of ln ao n cap))
                  case first =>
                    have q0 : wc.cell? ⟨w.heap.size + 1 + 1, 0, none⟩ = some (.int .u16 (fl : Int)) := HS.out.q 0 (by show 0 < 6; decide)
                    have q1 : wc.cell? ⟨w.heap.size + 1 + 1, 1, none⟩ = some (.int .u16 (ty : Int)) := HS.out.q 1 (by show 1 < 6; decide)
                    have q2 : wc.cell? ⟨w.heap.size + 1 + 1, 2, none⟩ = some (.int .u64 (ck : Int)) := HS.out.q 2 (by show 2 < 6; decide)
                    have q3 : wc.cell? ⟨w.heap.size + 1 + 1, 3, none⟩ = some (.int .u64 (of : Int)) := HS.out.q 3 (by show 3 < 6; decide)
                    have q4 : wc.cell? ⟨w.heap.size + 1 + 1, 4, none⟩ = some (.int .u64 (ln : Int)) := HS.out.q 4 (by show 4 < 6; decide)
                    have q5 : wc.cell? ⟨w.heap.size + 1 + 1, 5, none⟩ = some (.slice ao n cap) := HS.out.q 5 (by show 5 < 6; decide)
                    cases h16
                    · go_wp2_with fail
                      refine (HF16.out _).mono ?_
                      rintro e w1 ⟨rfl, hb⟩
                      have HS1 : Hid (St w w1 nm ds sec ro rt pv tr mn pf py op fi fl ty ck of ln ao n cap) := HS.out.later hb
                      clear hb HS q0 q1 q2 q3 q4 q5
                      go_wp2_with fail
                      go_meet
                      exact ⟨by rw [E5.out]; rfl, HS1⟩
                    · go_wp2_with fail
                      refine (HF16.out _).mono ?_
                      rintro e w1 ⟨rfl, hb⟩
                      have HS1 : Hid (St w w1 nm ds sec ro rt pv tr mn pf py op fi fl ty ck of ln ao n cap) := HS.out.later hb
                      clear hb HS q0 q1 q2 q3 q4 q5
                      have q0 : w1.cell? ⟨w.heap.size + 1 + 1, 0, none⟩ = some (.int .u16 (fl : Int)) := HS1.out.q 0 (by show 0 < 6; decide)
                      have q1 : w1.cell? ⟨w.heap.size + 1 + 1, 1, none⟩ = some (.int .u16 (ty : Int)) := HS1.out.q 1 (by show 1 < 6; decide)
                      have q2 : w1.cell? ⟨w.heap.size + 1 + 1, 2, none⟩ = some (.int .u64 (ck : Int)) := HS1.out.q 2 (by show 2 < 6; decide)
                      have q3 : w1.cell? ⟨w.heap.size + 1 + 1, 3, none⟩ = some (.int .u64 (of : Int)) := HS1.out.q 3 (by show 3 < 6; decide)
                      have q4 : w1.cell? ⟨w.heap.size + 1 + 1, 4, none⟩ = some (.int .u64 (ln : Int)) := HS1.out.q 4 (by show 4 < 6; decide)
                      have q5 : w1.cell? ⟨w.heap.size + 1 + 1, 5, none⟩ = some (.slice ao n cap) := HS1.out.q 5 (by show 5 < 6; decide)
                      go_wp2_with fail
                      refine (HFa.out _).mono ?_
                      rintro e w2 ⟨rfl, hb⟩
                      have HS2 : Hid (St w w2 nm ds sec ro rt pv tr mn pf py op fi fl ty ck of ln ao n cap) := HS1.out.later hb
                      clear hb HS1 q0 q1 q2 q3 q4 q5
                      go_wp2_with fail
                      go_meet
                      exact ⟨by rw [E5.out]; rfl, HS2⟩
                  case rest =>
                    clear HS
                    obtain ⟨rfl, HS⟩ := hcut
                    cases t5
                    · go_wp2
                      go_ret
                      exact ⟨rfl, HS.out.bel⟩
                    · go_wp2
                      go_ret
                      exact ⟨rfl, HS.out.bel⟩
                · go_wp2
                  go_ret
                  exact ⟨rfl, HS.out.bel⟩
        · go_wp2
          go_ret
          exact ⟨rfl, HS.out.bel⟩
    · go_wp2
      go_ret
      exact ⟨rfl, HS.out.bel⟩
end Go.Proofs.YtodinademhibjaaDoor
