import Derived.Test.YtodinademhibjaaDoorRuD
namespace Go.Proofs.YtodinademhibjaaDoor
open Go.RowKit
set_option linter.unusedVariables false
set_option linter.unusedSimpArgs false
set_option maxRecDepth 100000

/-- the rules 6 to 11 -/
def rngN (sec : Int) (mn py fl ty of ln : Nat) : Nat := rngT (decide (ln = 0)) (caOf ty && decide (py < ln)) (hasB fl 4 && decide (65536 < ln)) (!(decide (of ≤ szOf sec) && decide (ln ≤ szOf sec - of))) (decide (1 < mn) && !aliB of ln mn) (hasB fl 16 && !fastB fl of ln) (beOf ty)
theorem range_any (nm ds : ByteArray) (sec : Int) (ro rt pv tr : Bool) (mn pf : Nat) (py op : Nat) (fi : Int) (fl ty ck of ln : Nat) (ao : Option Addr) (n cap : Nat) (w : World) (hT : Tb w) (h8 : ty < 8) (hs : (Lit.int .i64 sec).wf = true) (hpy : py < 4294967296) (hmn : mn < 4294967296) (hf : fl < 65536) (hof : of < 18446744073709551616) (hln : ln < 18446744073709551616) :
    Calls Tryd.prog 21 #[expV nm ds sec ro rt pv tr mn pf, limV py op fi, reqV fl ty ck of ln ao n cap] w fun e w' => e = .returned (.int .u32 (rngN sec mn py fl ty of ln : Int)) ∧ Below w.heap.size w w' := by
  unfold rngN
  by_cases h0 : ln = 0
  · subst h0
    go_enter Tryd.func21, Tryd.ntmps21
    go_wp2
    go_ret
    exact ⟨rfl, b3 _ _ _ _⟩
  · rw [show decide (ln = 0) = false by simp [h0]]
    exact range_t nm ds sec ro rt pv tr mn pf py op fi fl ty ck of ln ao n cap _ _ _ _ _ _ _ _ _ _ _ _ w hT h8 (by omega) (by show ((ln : Int) == 0) = false; simp; omega) (fun W h => h.c2 h8) (fun W h => h.c3 h8) (size_any nm ds sec ro rt pv tr mn pf hs) (inside_any (szOf sec) fl ty ck of ln ao n cap (szOf_lt sec) hof hln) (fun h => aligned_any fl ty ck of ln ao n cap mn hof hln (by omega) h) (has_any fl ty ck of ln ao n cap 4 hf (by decide)) (has_any fl ty ck of ln ao n cap 16 hf (by decide)) (fast_any fl ty ck of ln ao n cap hf hof hln) rfl rfl rfl rfl hpy hmn hln
/-- the four boxes of Check, and the table -/
structure S4 (w wc : World) (nm ds : ByteArray) (sec : Int) (ro rt pv tr : Bool) (mn pf : Nat) (ix : Int) (st ex : Bool) (bo : Option Addr) (m bc : Nat) (py op : Nat) (fi : Int) (fl ty ck of ln : Nat) (ao : Option Addr) (n cap : Nat) : Prop where
  bel : Below w.heap.size w wc
  e : Bx wc w.heap.size #[.string nm, .string ds, .int .i64 sec, .bool ro, .bool rt, .bool pv, .bool tr, .int .u32 (mn : Int), .int .u32 (pf : Int)]
  s : Bx wc (w.heap.size + 1) #[.int .i64 ix, .bool st, .bool ex, .slice bo m bc]
  l : Bx wc (w.heap.size + 1 + 1) #[.int .u32 (py : Int), .int .u32 (op : Int), .int .i64 fi]
  q : Bx wc (w.heap.size + 1 + 1 + 1) #[.int .u16 (fl : Int), .int .u16 (ty : Int), .int .u64 (ck : Int), .int .u64 (of : Int), .int .u64 (ln : Int), .slice ao n cap]
  t : Tb wc
theorem S4.later {w wc wd : World} {nm ds : ByteArray} {sec : Int} {ro rt pv tr : Bool} {mn pf : Nat} {ix : Int} {st ex : Bool} {bo : Option Addr} {m bc : Nat} {py op : Nat} {fi : Int} {fl ty ck of ln : Nat} {ao : Option Addr} {n cap : Nat} (h : S4 w wc nm ds sec ro rt pv tr mn pf ix st ex bo m bc py op fi fl ty ck of ln ao n cap) (hb : Below wc.heap.size wc wd) : S4 w wd nm ds sec ro rt pv tr mn pf ix st ex bo m bc py op fi fl ty ck of ln ao n cap :=
  ⟨bcons h.bel hb, h.e.later hb, h.s.later hb, h.l.later hb, h.q.later hb, h.t.later hb⟩
theorem S4.start (w : World) (nm ds : ByteArray) (sec : Int) (ro rt pv tr : Bool) (mn pf : Nat) (ix : Int) (st ex : Bool) (bo : Option Addr) (m bc : Nat) (py op : Nat) (fi : Int) (fl ty ck of ln : Nat) (ao : Option Addr) (n cap : Nat) (hT : Tb w) (t1 t2 t3 t4 : TypeId) (f1 f2 f3 f4 : Nat × Nat) : S4 w ((((w.alloc (.cells #[.string nm, .string ds, .int .i64 sec, .bool ro, .bool rt, .bool pv, .bool tr, .int .u32 (mn : Int), .int .u32 (pf : Int)] t1 f1)).alloc (.cells #[.int .i64 ix, .bool st, .bool ex, .slice bo m bc] t2 f2)).alloc (.cells #[.int .u32 (py : Int), .int .u32 (op : Int), .int .i64 fi] t3 f3)).alloc (.cells #[.int .u16 (fl : Int), .int .u16 (ty : Int), .int .u64 (ck : Int), .int .u64 (of : Int), .int .u64 (ln : Int), .slice ao n cap] t4 f4)) nm ds sec ro rt pv tr mn pf ix st ex bo m bc py op fi fl ty ck of ln ao n cap := by
  refine ⟨b4 _ _ _ _ _, (((Bx.new w _ _ _).alloc _).alloc _).alloc _, ?_, ?_, ?_, (((hT.alloc _).alloc _).alloc _).alloc _⟩
  · have := ((Bx.new (w.alloc (.cells #[.string nm, .string ds, .int .i64 sec, .bool ro, .bool rt, .bool pv, .bool tr, .int .u32 (mn : Int), .int .u32 (pf : Int)] t1 f1)) #[.int .i64 ix, .bool st, .bool ex, .slice bo m bc] t2 f2).alloc (.cells #[.int .u32 (py : Int), .int .u32 (op : Int), .int .i64 fi] t3 f3)).alloc (.cells #[.int .u16 (fl : Int), .int .u16 (ty : Int), .int .u64 (ck : Int), .int .u64 (of : Int), .int .u64 (ln : Int), .slice ao n cap] t4 f4)
    rwa [World.size_alloc] at this
  · have := (Bx.new ((w.alloc (.cells #[.string nm, .string ds, .int .i64 sec, .bool ro, .bool rt, .bool pv, .bool tr, .int .u32 (mn : Int), .int .u32 (pf : Int)] t1 f1)).alloc (.cells #[.int .i64 ix, .bool st, .bool ex, .slice bo m bc] t2 f2)) #[.int .u32 (py : Int), .int .u32 (op : Int), .int .i64 fi] t3 f3).alloc (.cells #[.int .u16 (fl : Int), .int .u16 (ty : Int), .int .u64 (ck : Int), .int .u64 (of : Int), .int .u64 (ln : Int), .slice ao n cap] t4 f4)
    rwa [World.size_alloc, World.size_alloc] at this
  · have := Bx.new (((w.alloc (.cells #[.string nm, .string ds, .int .i64 sec, .bool ro, .bool rt, .bool pv, .bool tr, .int .u32 (mn : Int), .int .u32 (pf : Int)] t1 f1)).alloc (.cells #[.int .i64 ix, .bool st, .bool ex, .slice bo m bc] t2 f2)).alloc (.cells #[.int .u32 (py : Int), .int .u32 (op : Int), .int .i64 fi] t3 f3)) #[.int .u16 (fl : Int), .int .u16 (ty : Int), .int .u64 (ck : Int), .int .u64 (of : Int), .int .u64 (ln : Int), .slice ao n cap] t4 f4
    rwa [World.size_alloc, World.size_alloc, World.size_alloc] at this
theorem eqf {a b : Int} (h : a ≠ b) : (a == b) = false := by simp [h]
def chkT (kn rf : Bool) (ty : Nat) (fv : Nat) (t4 t5 : Bool) (rv : Nat) : Nat := if !kn then 22 else if !rf then 22 else if ty = 2 then 0 else if ty = 3 then fv else if t4 then 1 else if t5 then 22 else rv
theorem chkT_rest {ty : Nat} (h2 : ty ≠ 2) (h3 : ty ≠ 3) {fv : Nat} {t4 t5 : Bool} {rv : Nat} : chkT true true ty fv t4 t5 rv = if t4 then 1 else if t5 then 22 else rv := by simp [chkT, h2, h3]

set_option maxHeartbeats 4000000 in
theorem check_t (nm ds : ByteArray) (sec : Int) (ro rt pv tr : Bool) (mn pf : Nat) (ix : Int) (st ex : Bool) (bo : Option Addr) (m bc : Nat) (py op : Nat) (fi : Int) (fl ty ck of ln : Nat) (ao : Option Addr) (n cap : Nat) (kn rf ch te t4 t5 : Bool) (fv rv : Nat) (w : World) (hT : Tb w)
    (HK : Hid (∀ W, Calls Tryd.prog 8 #[.int .u16 (ty : Int)] W fun e w' => e = .returned (.bool kn) ∧ w' = W))
    (HR : Hid (∀ W, Tb W → Calls Tryd.prog 18 #[sesV ix st ex bo m bc, reqV fl ty ck of ln ao n cap] W fun e w' => e = .returned (.bool rf) ∧ Below W.heap.size W w'))
    (HFl : Hid (∀ W, Calls Tryd.prog 19 #[reqV fl ty ck of ln ao n cap] W fun e w' => e = .returned (.int .u32 (fv : Int)) ∧ Below W.heap.size W w'))
    (HCh : Hid (∀ W, Tb W → Calls Tryd.prog 12 #[.int .u16 (ty : Int)] W fun e w' => e = .returned (.bool ch) ∧ w' = W))
    (HTe : Hid (∀ W, Calls Tryd.prog 20 #[sesV ix st ex bo m bc] W fun e w' => e = .returned (.bool te) ∧ Below W.heap.size W w'))
    (HRg : Hid (kn = true → ∀ W, Tb W → Calls Tryd.prog 21 #[expV nm ds sec ro rt pv tr mn pf, limV py op fi, reqV fl ty ck of ln ao n cap] W fun e w' => e = .returned (.int .u32 (rv : Int)) ∧ Below W.heap.size W w'))
    (E4 : Hid (t4 = (ro && ch))) (E5 : Hid (t5 = (decide (ty = 7) && !te))) :
    Calls Tryd.prog 15 #[expV nm ds sec ro rt pv tr mn pf, sesV ix st ex bo m bc, limV py op fi, reqV fl ty ck of ln ao n cap] w fun e w' => e = .returned (.int .u32 (chkT kn rf ty fv t4 t5 rv : Int)) ∧ Below w.heap.size w w' := by
  have HS0 : Hid (∀ (t1 t2 t3 t4 : TypeId) (f1 f2 f3 f4 : Nat × Nat), S4 w ((((w.alloc (.cells #[.string nm, .string ds, .int .i64 sec, .bool ro, .bool rt, .bool pv, .bool tr, .int .u32 (mn : Int), .int .u32 (pf : Int)] t1 f1)).alloc (.cells #[.int .i64 ix, .bool st, .bool ex, .slice bo m bc] t2 f2)).alloc (.cells #[.int .u32 (py : Int), .int .u32 (op : Int), .int .i64 fi] t3 f3)).alloc (.cells #[.int .u16 (fl : Int), .int .u16 (ty : Int), .int .u64 (ck : Int), .int .u64 (of : Int), .int .u64 (ln : Int), .slice ao n cap] t4 f4)) nm ds sec ro rt pv tr mn pf ix st ex bo m bc py op fi fl ty ck of ln ao n cap) := fun t1 t2 t3 t4 f1 f2 f3 f4 => S4.start w nm ds sec ro rt pv tr mn pf ix st ex bo m bc py op fi fl ty ck of ln ao n cap hT t1 t2 t3 t4 f1 f2 f3 f4
  clear hT
  go_enter Tryd.func15, Tryd.ntmps15
  go_wp2_with fail
  refine (HK.out _).mono ?_
  rintro e w1 ⟨rfl, hw⟩
  have HS : Hid (S4 w w1 nm ds sec ro rt pv tr mn pf ix st ex bo m bc py op fi fl ty ck of ln ao n cap) := by rw [hw]; exact HS0.out _ _ _ _ _ _ _ _
  clear hw HS0
  cases kn
  · go_wp2
    go_ret
    exact ⟨rfl, HS.out.bel⟩
  · replace HRg := HRg.out rfl
    replace HRg : Hid (∀ W, Tb W → Calls Tryd.prog 21 #[expV nm ds sec ro rt pv tr mn pf, limV py op fi, reqV fl ty ck of ln ao n cap] W fun e w' => e = .returned (.int .u32 (rv : Int)) ∧ Below W.heap.size W w') := HRg
    have q0 : w1.cell? ⟨w.heap.size + 1 + 1 + 1, 0, none⟩ = some (.int .u16 (fl : Int)) := HS.out.q 0 (by show 0 < 6; decide)
    have q1 : w1.cell? ⟨w.heap.size + 1 + 1 + 1, 1, none⟩ = some (.int .u16 (ty : Int)) := HS.out.q 1 (by show 1 < 6; decide)
    have q2 : w1.cell? ⟨w.heap.size + 1 + 1 + 1, 2, none⟩ = some (.int .u64 (ck : Int)) := HS.out.q 2 (by show 2 < 6; decide)
    have q3 : w1.cell? ⟨w.heap.size + 1 + 1 + 1, 3, none⟩ = some (.int .u64 (of : Int)) := HS.out.q 3 (by show 3 < 6; decide)
    have q4 : w1.cell? ⟨w.heap.size + 1 + 1 + 1, 4, none⟩ = some (.int .u64 (ln : Int)) := HS.out.q 4 (by show 4 < 6; decide)
    have q5 : w1.cell? ⟨w.heap.size + 1 + 1 + 1, 5, none⟩ = some (.slice ao n cap) := HS.out.q 5 (by show 5 < 6; decide)
    have s0 : w1.cell? ⟨w.heap.size + 1, 0, none⟩ = some (.int .i64 ix) := HS.out.s 0 (by show 0 < 4; decide)
    have s1 : w1.cell? ⟨w.heap.size + 1, 1, none⟩ = some (.bool st) := HS.out.s 1 (by show 1 < 4; decide)
    have s2 : w1.cell? ⟨w.heap.size + 1, 2, none⟩ = some (.bool ex) := HS.out.s 2 (by show 2 < 4; decide)
    have s3 : w1.cell? ⟨w.heap.size + 1, 3, none⟩ = some (.slice bo m bc) := HS.out.s 3 (by show 3 < 4; decide)
    go_wp2_with fail
    refine (HR.out _ HS.out.t).mono ?_
    rintro e w2 ⟨rfl, hb⟩
    have HS2 : Hid (S4 w w2 nm ds sec ro rt pv tr mn pf ix st ex bo m bc py op fi fl ty ck of ln ao n cap) := HS.out.later hb
    clear hb HS q0 q1 q2 q3 q4 q5 s0 s1 s2 s3
    cases rf
    · go_wp2
      go_ret
      exact ⟨rfl, HS2.out.bel⟩
    · by_cases h2 : ty = 2
      · subst h2
        have q1 : w2.cell? ⟨w.heap.size + 1 + 1 + 1, 1, none⟩ = some (.int .u16 2) := HS2.out.q 1 (by show 1 < 6; decide)
        go_wp2
        go_ret
        exact ⟨rfl, HS2.out.bel⟩
      · have h2' : (ty : Int) ≠ 2 := by omega
        by_cases h3 : ty = 3
        · subst h3
          have q0 : w2.cell? ⟨w.heap.size + 1 + 1 + 1, 0, none⟩ = some (.int .u16 (fl : Int)) := HS2.out.q 0 (by show 0 < 6; decide)
          have q1 : w2.cell? ⟨w.heap.size + 1 + 1 + 1, 1, none⟩ = some (.int .u16 3) := HS2.out.q 1 (by show 1 < 6; decide)
          have q2 : w2.cell? ⟨w.heap.size + 1 + 1 + 1, 2, none⟩ = some (.int .u64 (ck : Int)) := HS2.out.q 2 (by show 2 < 6; decide)
          have q3 : w2.cell? ⟨w.heap.size + 1 + 1 + 1, 3, none⟩ = some (.int .u64 (of : Int)) := HS2.out.q 3 (by show 3 < 6; decide)
          have q4 : w2.cell? ⟨w.heap.size + 1 + 1 + 1, 4, none⟩ = some (.int .u64 (ln : Int)) := HS2.out.q 4 (by show 4 < 6; decide)
          have q5 : w2.cell? ⟨w.heap.size + 1 + 1 + 1, 5, none⟩ = some (.slice ao n cap) := HS2.out.q 5 (by show 5 < 6; decide)
          go_wp2_with fail
          refine (HFl.out _).mono ?_
          rintro e w3 ⟨rfl, hb⟩
          have HS3 := HS2.out.later hb
          have HB3 : Hid (Below w.heap.size w w3) := HS3.bel
          clear hb HS3
          go_wp2
          go_ret
          exact ⟨rfl, HB3.out⟩
        · have h3' : (ty : Int) ≠ 3 := by omega
          have HE2 : Hid (((ty : Int) == 2) = false) := eqf h2'
          have HE3 : Hid (((ty : Int) == 3) = false) := eqf h3'
          have q1 : w2.cell? ⟨w.heap.size + 1 + 1 + 1, 1, none⟩ = some (.int .u16 (ty : Int)) := HS2.out.q 1 (by show 1 < 6; decide)
          go_upto_region 8 with fail
          clear q1
          simp only [show ((ty : Int) == 2) = false from HE2.out, show ((ty : Int) == 3) = false from HE3.out]
          go_cut [28] from 29 to 35 (fun v wc => v = .bool t4 ∧ Hid (S4 w wc nm ds sec ro rt pv tr mn pf ix st ex bo m bc py op fi fl ty ck of ln ao n cap))
          case first =>
            have q1 : w2.cell? ⟨w.heap.size + 1 + 1 + 1, 1, none⟩ = some (.int .u16 (ty : Int)) := HS2.out.q 1 (by show 1 < 6; decide)
            have e3 : w2.cell? ⟨w.heap.size, 3, none⟩ = some (.bool ro) := HS2.out.e 3 (by show 3 < 9; decide)
            cases ro
            · go_wp2_with fail
              go_meet
              exact ⟨by rw [E4.out]; rfl, HS2⟩
            · go_wp2_with fail
              refine (HCh.out _ HS2.out.t).mono ?_
              rintro e w3 ⟨rfl, hw⟩
              rw [hw]; clear hw
              go_wp2_with fail
              go_meet
              exact ⟨by rw [E4.out]; rfl, HS2⟩
          case rest =>
            clear HS2
            obtain ⟨rfl, HS⟩ := hcut
            cases t4
            · go_upto_region 10 with fail
              go_cut [36] from 37 to 44 (fun v wc => v = .bool t5 ∧ Hid (S4 w wc nm ds sec ro rt pv tr mn pf ix st ex bo m bc py op fi fl ty ck of ln ao n cap))
              case first =>
                by_cases h7 : ty = 7
                · subst h7
                  have q1 : wc.cell? ⟨w.heap.size + 1 + 1 + 1, 1, none⟩ = some (.int .u16 7) := HS.out.q 1 (by show 1 < 6; decide)
                  have s0 : wc.cell? ⟨w.heap.size + 1, 0, none⟩ = some (.int .i64 ix) := HS.out.s 0 (by show 0 < 4; decide)
                  have s1 : wc.cell? ⟨w.heap.size + 1, 1, none⟩ = some (.bool st) := HS.out.s 1 (by show 1 < 4; decide)
                  have s2 : wc.cell? ⟨w.heap.size + 1, 2, none⟩ = some (.bool ex) := HS.out.s 2 (by show 2 < 4; decide)
                  have s3 : wc.cell? ⟨w.heap.size + 1, 3, none⟩ = some (.slice bo m bc) := HS.out.s 3 (by show 3 < 4; decide)
                  go_wp2_with fail
                  refine (HTe.out _).mono ?_
                  rintro e w3 ⟨rfl, hb⟩
                  have HS3 : Hid (S4 w w3 nm ds sec ro rt pv tr mn pf ix st ex bo m bc py op fi fl 7 ck of ln ao n cap) := HS.out.later hb
                  clear hb HS q1 s0 s1 s2 s3
                  go_wp2_with fail
                  go_meet
                  exact ⟨by rw [E5.out]; rfl, HS3⟩
                · have h7' : (ty : Int) ≠ 7 := by omega
                  have q1 : wc.cell? ⟨w.heap.size + 1 + 1 + 1, 1, none⟩ = some (.int .u16 (ty : Int)) := HS.out.q 1 (by show 1 < 6; decide)
                  go_wp2_with fail
                  go_meet
                  exact ⟨by rw [E5.out]; simp [h7], HS⟩
              case rest =>
                clear HS
                obtain ⟨rfl, HS⟩ := hcut
                cases t5
                · skip
                  have q0 : wc.cell? ⟨w.heap.size + 1 + 1 + 1, 0, none⟩ = some (.int .u16 (fl : Int)) := HS.out.q 0 (by show 0 < 6; decide)
                  have q1 : wc.cell? ⟨w.heap.size + 1 + 1 + 1, 1, none⟩ = some (.int .u16 (ty : Int)) := HS.out.q 1 (by show 1 < 6; decide)
                  have q2 : wc.cell? ⟨w.heap.size + 1 + 1 + 1, 2, none⟩ = some (.int .u64 (ck : Int)) := HS.out.q 2 (by show 2 < 6; decide)
                  have q3 : wc.cell? ⟨w.heap.size + 1 + 1 + 1, 3, none⟩ = some (.int .u64 (of : Int)) := HS.out.q 3 (by show 3 < 6; decide)
                  have q4 : wc.cell? ⟨w.heap.size + 1 + 1 + 1, 4, none⟩ = some (.int .u64 (ln : Int)) := HS.out.q 4 (by show 4 < 6; decide)
                  have q5 : wc.cell? ⟨w.heap.size + 1 + 1 + 1, 5, none⟩ = some (.slice ao n cap) := HS.out.q 5 (by show 5 < 6; decide)
                  have e0 : wc.cell? ⟨w.heap.size, 0, none⟩ = some (.string nm) := HS.out.e 0 (by show 0 < 9; decide)
                  have e1 : wc.cell? ⟨w.heap.size, 1, none⟩ = some (.string ds) := HS.out.e 1 (by show 1 < 9; decide)
                  have e2 : wc.cell? ⟨w.heap.size, 2, none⟩ = some (.int .i64 sec) := HS.out.e 2 (by show 2 < 9; decide)
                  have e3 : wc.cell? ⟨w.heap.size, 3, none⟩ = some (.bool ro) := HS.out.e 3 (by show 3 < 9; decide)
                  have e4 : wc.cell? ⟨w.heap.size, 4, none⟩ = some (.bool rt) := HS.out.e 4 (by show 4 < 9; decide)
                  have e5 : wc.cell? ⟨w.heap.size, 5, none⟩ = some (.bool pv) := HS.out.e 5 (by show 5 < 9; decide)
                  have e6 : wc.cell? ⟨w.heap.size, 6, none⟩ = some (.bool tr) := HS.out.e 6 (by show 6 < 9; decide)
                  have e7 : wc.cell? ⟨w.heap.size, 7, none⟩ = some (.int .u32 (mn : Int)) := HS.out.e 7 (by show 7 < 9; decide)
                  have e8 : wc.cell? ⟨w.heap.size, 8, none⟩ = some (.int .u32 (pf : Int)) := HS.out.e 8 (by show 8 < 9; decide)
                  have l0 : wc.cell? ⟨w.heap.size + 1 + 1, 0, none⟩ = some (.int .u32 (py : Int)) := HS.out.l 0 (by show 0 < 3; decide)
                  have l1 : wc.cell? ⟨w.heap.size + 1 + 1, 1, none⟩ = some (.int .u32 (op : Int)) := HS.out.l 1 (by show 1 < 3; decide)
                  have l2 : wc.cell? ⟨w.heap.size + 1 + 1, 2, none⟩ = some (.int .i64 fi) := HS.out.l 2 (by show 2 < 3; decide)
                  go_wp2_with fail
                  refine (HRg.out _ HS.out.t).mono ?_
                  rintro e w3 ⟨rfl, hb⟩
                  have HS3 := HS.out.later hb
                  have HB3 : Hid (Below w.heap.size w w3) := HS3.bel
                  clear hb HS3 HS q0 q1 q2 q3 q4 q5 e0 e1 e2 e3 e4 e5 e6 e7 e8 l0 l1 l2
                  go_wp2
                  go_ret
                  exact ⟨by rw [chkT_rest h2 h3]; rfl, HB3.out⟩
                · go_wp2
                  go_ret
                  exact ⟨by rw [chkT_rest h2 h3]; rfl, HS.out.bel⟩
            · go_wp2
              go_ret
              exact ⟨by rw [chkT_rest h2 h3]; rfl, HS.out.bel⟩
end Go.Proofs.YtodinademhibjaaDoor
