import Derived.Test.YtodinademhibjaaDoorRuR
namespace Go.Proofs.YtodinademhibjaaDoor
open Go.RowKit
set_option linter.unusedVariables false
set_option linter.unusedSimpArgs false
set_option maxRecDepth 100000

/-- the boxes of RuleNamed, and the table -/
structure S5 (w wc : World) (N : Nat) (ro : Bool) (fl c of ln : Nat) : Prop where
  bel : Below w.heap.size w wc
  e : Bk wc (w.heap.size) #[.string ⟨#[97]⟩, .string ByteArray.empty, .int .i64 (N : Int), .bool ro, .bool false, .bool false, .bool false, .int .u32 1, .int .u32 512] 27
  s : Bk wc (w.heap.size + 1 + 1) #[.int .i64 0, .bool true, .bool false, .slice (some ⟨w.heap.size + 1, 0, none⟩) 1 1] 30
  l : Bk wc (w.heap.size + 1 + 1 + 1) #[.int .u32 1048576, .int .u32 64, .int .i64 1] 32
  q : Bk wc (w.heap.size + 1 + 1 + 1 + 1) #[.int .u16 (fl : Int), .int .u16 (c : Int), .int .u64 0, .int .u64 (of : Int), .int .u64 (ln : Int), .slice none 0 0] 36
  t0 : Tb w
theorem S5.t {w wc : World} {N : Nat} {ro : Bool} {fl c of ln : Nat} (h : S5 w wc N ro fl c of ln) : Tb wc := h.t0.later h.bel
theorem S5.later {w wc wd : World} {N : Nat} {ro : Bool} {fl c of ln : Nat} (h : S5 w wc N ro fl c of ln) (hb : Below wc.heap.size wc wd) : S5 w wd N ro fl c of ln :=
  ⟨bcons h.bel hb, h.e.later hb, h.s.later hb, h.l.later hb, h.q.later hb, h.t0⟩
theorem Bk.alloc {w : World} {b : Nat} {cs : Array Value} {t : TypeId} (h : Bk w b cs t) (o : Obj) : Bk (w.alloc o) b cs t := h.later (bnew w o)
theorem Bk.other {w : World} {b d j : Nat} {cs : Array Value} {t : TypeId} {v : Value} (h : Bk w b cs t) (hd : b ≠ d) : Bk (w.setCell ⟨d, j, none⟩ v) b cs t := (Below.heap_setCell _ _ _ _ hd).trans h
theorem S5.start (w : World) (N : Nat) (ro : Bool) (fl c of ln : Nat) (o : Obj) (hT : Tb w) : S5 w (((((w.alloc (.cells #[.string ⟨#[97]⟩, .string ByteArray.empty, .int .i64 (N : Int), .bool ro, .bool false, .bool false, .bool false, .int .u32 1, .int .u32 512] 27 (0, 0))).alloc o).alloc (.cells #[.int .i64 0, .bool true, .bool false, .slice (some ⟨w.heap.size + 1, 0, none⟩) 1 1] 30 (0, 0))).alloc (.cells #[.int .u32 1048576, .int .u32 64, .int .i64 1] 32 (0, 0))).alloc (.cells #[.int .u16 (fl : Int), .int .u16 (c : Int), .int .u64 0, .int .u64 (of : Int), .int .u64 (ln : Int), .slice none 0 0] 36 (0, 0))) N ro fl c of ln := by
  refine ⟨bcons (b4 _ _ _ _ _) (bnew _ _), ((((Bk.new w _ _).alloc _).alloc _).alloc _).alloc _, ?_, ?_, ?_, hT⟩
  · have := ((Bk.new ((w.alloc (.cells #[.string ⟨#[97]⟩, .string ByteArray.empty, .int .i64 (N : Int), .bool ro, .bool false, .bool false, .bool false, .int .u32 1, .int .u32 512] 27 (0, 0))).alloc o) #[.int .i64 0, .bool true, .bool false, .slice (some ⟨w.heap.size + 1, 0, none⟩) 1 1] 30).alloc (.cells #[.int .u32 1048576, .int .u32 64, .int .i64 1] 32 (0, 0))).alloc (.cells #[.int .u16 (fl : Int), .int .u16 (c : Int), .int .u64 0, .int .u64 (of : Int), .int .u64 (ln : Int), .slice none 0 0] 36 (0, 0))
    rwa [World.size_alloc, World.size_alloc] at this
  · have := (Bk.new (((w.alloc (.cells #[.string ⟨#[97]⟩, .string ByteArray.empty, .int .i64 (N : Int), .bool ro, .bool false, .bool false, .bool false, .int .u32 1, .int .u32 512] 27 (0, 0))).alloc o).alloc (.cells #[.int .i64 0, .bool true, .bool false, .slice (some ⟨w.heap.size + 1, 0, none⟩) 1 1] 30 (0, 0))) #[.int .u32 1048576, .int .u32 64, .int .i64 1] 32).alloc (.cells #[.int .u16 (fl : Int), .int .u16 (c : Int), .int .u64 0, .int .u64 (of : Int), .int .u64 (ln : Int), .slice none 0 0] 36 (0, 0))
    rwa [World.size_alloc, World.size_alloc, World.size_alloc] at this
  · have := Bk.new ((((w.alloc (.cells #[.string ⟨#[97]⟩, .string ByteArray.empty, .int .i64 (N : Int), .bool ro, .bool false, .bool false, .bool false, .int .u32 1, .int .u32 512] 27 (0, 0))).alloc o).alloc (.cells #[.int .i64 0, .bool true, .bool false, .slice (some ⟨w.heap.size + 1, 0, none⟩) 1 1] 30 (0, 0))).alloc (.cells #[.int .u32 1048576, .int .u32 64, .int .i64 1] 32 (0, 0))) #[.int .u16 (fl : Int), .int .u16 (c : Int), .int .u64 0, .int .u64 (of : Int), .int .u64 (ln : Int), .slice none 0 0] 36
    rwa [World.size_alloc, World.size_alloc, World.size_alloc, World.size_alloc] at this
theorem S5.ro {w wc : World} {N : Nat} {ro : Bool} {fl c of ln : Nat} (h : S5 w wc N ro fl c of ln) (r : Bool) : S5 w (wc.setCell ⟨w.heap.size, 3, none⟩ (.bool r)) N r fl c of ln := by
  have hb := below_put (j := 3) (v := .bool r) h.bel (Nat.le_refl _)
  exact ⟨hb, h.e.set 3 (.bool r), h.s.other (by omega), h.l.other (by omega), h.q.other (by omega), h.t0⟩
theorem S5.ln' {w wc : World} {N : Nat} {ro : Bool} {fl c of ln : Nat} (h : S5 w wc N ro fl c of ln) (k : Nat) : S5 w (wc.setCell ⟨w.heap.size + 1 + 1 + 1 + 1, 4, none⟩ (.int .u64 (k : Int))) N ro fl c of k := by
  have hb := below_put (j := 4) (v := .int .u64 (k : Int)) h.bel (show w.heap.size ≤ w.heap.size + 1 + 1 + 1 + 1 by omega)
  exact ⟨hb, h.e.other (by omega), h.s.other (by omega), h.l.other (by omega), h.q.set 4 (.int .u64 (k : Int)), h.t0⟩

set_option maxHeartbeats 8000000 in
theorem named_t (sec : Int) (fl c ov N of ln k : Nat) (G O U g x16 x2 xg : Nat) (bad fa ch : Bool) (w : World) (hT : Tb w)
    (HN : Hid (wrap64 (1 + wrap64 ((IntKind.u64.wrap sec).tmod 1000)) = (N : Int))) (hN0 : 1 ≤ N) (hN1 : N ≤ 1000)
    (HCG : Hid (∀ W, Tb W → Calls Tryd.prog 15 #[expV ⟨#[97]⟩ ByteArray.empty (N : Int) false false false false 1 512, sesV 0 true false (some ⟨w.heap.size + 1, 0, none⟩) 1 1, limV 1048576 64 1, reqV fl c 0 of ln none 0 0] W fun e w' => e = .returned (.int .u32 (G : Int)) ∧ Below W.heap.size W w'))
    (HCO : Hid (∀ W, Tb W → Calls Tryd.prog 15 #[expV ⟨#[97]⟩ ByteArray.empty (N : Int) true false false false 1 512, sesV 0 true false (some ⟨w.heap.size + 1, 0, none⟩) 1 1, limV 1048576 64 1, reqV fl c 0 of ln none 0 0] W fun e w' => e = .returned (.int .u32 (O : Int)) ∧ Below W.heap.size W w'))
    (HCU : Hid (∀ W, Tb W → Calls Tryd.prog 15 #[expV ⟨#[97]⟩ ByteArray.empty (N : Int) false false false false 1 512, sesV 0 true false (some ⟨w.heap.size + 1, 0, none⟩) 1 1, limV 1048576 64 1, reqV fl c 0 of k none 0 0] W fun e w' => e = .returned (.int .u32 (U : Int)) ∧ Below W.heap.size W w'))
    (HA : Hid (∀ W, Tb W → Calls Tryd.prog 10 #[.int .u16 (c : Int)] W fun e w' => e = .returned (.int .u16 (g : Int)) ∧ w' = W))
    (HH : Hid (∀ W, Tb W → Calls Tryd.prog 16 #[] W fun e w' => e = .returned (.bool true) ∧ Below W.heap.size W w'))
    (HOL : Hid ((c = 3 → of = 0 ∧ ln = 0) ∧ (c ≠ 3 → of = 512 * N - 512 ∧ ln = 512))) (HKK : Hid (k = 513 + ov % 1000))
    (hNg : bits BinOp.andNot IntKind.u16 (fl : Int) (g : Int) = (xg : Int)) (hN16 : bits BinOp.and IntKind.u16 (fl : Int) 16 = (x16 : Int)) (hN2 : bits BinOp.and IntKind.u16 (fl : Int) 2 = (x2 : Int))
    (EB : Hid (bad = (decide (7 < c) || decide (xg ≠ 0)))) (EF : Hid (fa = (decide (x16 ≠ 0) && decide (x2 ≠ 0)))) (EC : Hid (ch = (decide (c = 1) || decide (c = 4) || decide (c = 6))))
    (RB : Hid (bad = true → G = 22)) (RG : Hid (bad = false → G = if fa then 95 else 0)) (RO : Hid (bad = false → O = if ch then 1 else G)) (RU : Hid (bad = false → U = if c = 1 ∨ c = 6 then 28 else if c = 2 then 0 else 22))
    (hov : ov < 4294967296) :
    Calls Tryd.prog 7 #[.int .i64 sec, .int .u16 (c : Int), .int .u16 (fl : Int), .int .u32 (ov : Int)] w fun e w' => e = .returned (.bool true) ∧ Below w.heap.size w w' := by
  have HT : Hid (Tb w) := hT
  clear hT
  go_enter Tryd.func7, Tryd.ntmps7
  go_upto_region 1 with fail
  go_cut [9] from 20 to 24 (fun v wc => v = .int .i64 (N : Int) ∧ wc = w)
  case first =>
    go_wp2_with fail
    go_meet
    exact ⟨by rw [← HN.out], rfl⟩
  case rest =>
    obtain ⟨rfl, hw⟩ := hcut
    have hw2 := hw.symm
    subst hw2
    clear hw
    go_upto_if 39 with fail
    go_cut [39] from 40 to 41 (fun d wc => Hid (S5 w wc N false fl c of ln))
    case first =>
      have HSt := S5.start w N false fl c of ln (.cells #[.int .u32 1] 25 (0, 0)) HT.out
      by_cases h3 : c = 3
      · obtain ⟨hx, hy⟩ := HOL.out.1 h3
        subst hx hy
        have h3b : ((c : Int) == 3) = true := by rw [h3]; rfl
        clear h3
        have HSt' : Hid _ := HSt
        clear HSt
        go_wp2_with fail
        go_meet
        exact HSt'
      · obtain ⟨hx, hy⟩ := HOL.out.2 h3
        have h3b : ((c : Int) == 3) = false := eqf (by omega)
        have e1 : (of : Int) = (N : Int) * 512 - 512 := by omega
        have e2 : (ln : Int) = 512 := by omega
        rw [e1, e2] at HSt
        have HSt' : Hid _ := HSt
        clear HSt e1 e2
        go_wp2_with fail
        go_meet
        exact HSt'
    case rest =>
      have HS := hcut
      clear hcut
      have e0 : wc.cell? ⟨w.heap.size, 0, none⟩ = some (.string ⟨#[97]⟩) := HS.out.e.c 0 (by show 0 < 9; decide)
      have e1 : wc.cell? ⟨w.heap.size, 1, none⟩ = some (.string ByteArray.empty) := HS.out.e.c 1 (by show 1 < 9; decide)
      have e2 : wc.cell? ⟨w.heap.size, 2, none⟩ = some (.int .i64 (N : Int)) := HS.out.e.c 2 (by show 2 < 9; decide)
      have e3 : wc.cell? ⟨w.heap.size, 3, none⟩ = some (.bool false) := HS.out.e.c 3 (by show 3 < 9; decide)
      have e4 : wc.cell? ⟨w.heap.size, 4, none⟩ = some (.bool false) := HS.out.e.c 4 (by show 4 < 9; decide)
      have e5 : wc.cell? ⟨w.heap.size, 5, none⟩ = some (.bool false) := HS.out.e.c 5 (by show 5 < 9; decide)
      have e6 : wc.cell? ⟨w.heap.size, 6, none⟩ = some (.bool false) := HS.out.e.c 6 (by show 6 < 9; decide)
      have e7 : wc.cell? ⟨w.heap.size, 7, none⟩ = some (.int .u32 1) := HS.out.e.c 7 (by show 7 < 9; decide)
      have e8 : wc.cell? ⟨w.heap.size, 8, none⟩ = some (.int .u32 512) := HS.out.e.c 8 (by show 8 < 9; decide)
      have s0 : wc.cell? ⟨w.heap.size + 1 + 1, 0, none⟩ = some (.int .i64 0) := HS.out.s.c 0 (by show 0 < 4; decide)
      have s1 : wc.cell? ⟨w.heap.size + 1 + 1, 1, none⟩ = some (.bool true) := HS.out.s.c 1 (by show 1 < 4; decide)
      have s2 : wc.cell? ⟨w.heap.size + 1 + 1, 2, none⟩ = some (.bool false) := HS.out.s.c 2 (by show 2 < 4; decide)
      have s3 : wc.cell? ⟨w.heap.size + 1 + 1, 3, none⟩ = some (.slice (some ⟨w.heap.size + 1, 0, none⟩) 1 1) := HS.out.s.c 3 (by show 3 < 4; decide)
      have l0 : wc.cell? ⟨w.heap.size + 1 + 1 + 1, 0, none⟩ = some (.int .u32 1048576) := HS.out.l.c 0 (by show 0 < 3; decide)
      have l1 : wc.cell? ⟨w.heap.size + 1 + 1 + 1, 1, none⟩ = some (.int .u32 64) := HS.out.l.c 1 (by show 1 < 3; decide)
      have l2 : wc.cell? ⟨w.heap.size + 1 + 1 + 1, 2, none⟩ = some (.int .i64 1) := HS.out.l.c 2 (by show 2 < 3; decide)
      have q0 : wc.cell? ⟨w.heap.size + 1 + 1 + 1 + 1, 0, none⟩ = some (.int .u16 (fl : Int)) := HS.out.q.c 0 (by show 0 < 6; decide)
      have q1 : wc.cell? ⟨w.heap.size + 1 + 1 + 1 + 1, 1, none⟩ = some (.int .u16 (c : Int)) := HS.out.q.c 1 (by show 1 < 6; decide)
      have q2 : wc.cell? ⟨w.heap.size + 1 + 1 + 1 + 1, 2, none⟩ = some (.int .u64 0) := HS.out.q.c 2 (by show 2 < 6; decide)
      have q3 : wc.cell? ⟨w.heap.size + 1 + 1 + 1 + 1, 3, none⟩ = some (.int .u64 (of : Int)) := HS.out.q.c 3 (by show 3 < 6; decide)
      have q4 : wc.cell? ⟨w.heap.size + 1 + 1 + 1 + 1, 4, none⟩ = some (.int .u64 (ln : Int)) := HS.out.q.c 4 (by show 4 < 6; decide)
      have q5 : wc.cell? ⟨w.heap.size + 1 + 1 + 1 + 1, 5, none⟩ = some (.slice none 0 0) := HS.out.q.c 5 (by show 5 < 6; decide)
      go_wp2_with fail
      refine (HCG.out _ HS.out.t).mono ?_
      rintro e w1 ⟨rfl, hb⟩
      have HS1 : Hid (S5 w w1 N false fl c of ln) := HS.out.later hb
      clear hb HS e0 e1 e2 e3 e4 e5 e6 e7 e8 s0 s1 s2 s3 l0 l1 l2 q0 q1 q2 q3 q4 q5
      go_upto_region 11 with fail
      go_cut [55] from 47 to 54 (fun v wc => v = .bool bad ∧ Hid (S5 w wc N false fl c of ln))
      case first =>
        by_cases h7 : 7 < c
        · have h7p : (7 : Int) < (c : Int) := by omega
          go_wp2_with fail
          go_meet
          exact ⟨by rw [EB.out]; simp [h7], HS1⟩
        · have h7p : ¬ (7 : Int) < (c : Int) := by omega
          go_wp2_with fail
          refine (HA.out _ HS1.out.t).mono ?_
          rintro e w2 ⟨rfl, hw⟩
          rw [hw]; clear hw w2
          by_cases hx : xg = 0
          · subst hx
            go_wp2_with fail
            go_meet
            exact ⟨by rw [EB.out]; simp [h7], HS1⟩
          · have hxp : (xg : Int) ≠ 0 := by omega
            have hxb : ((xg : Int) != 0) = true := nef hxp
            go_wp2_with fail
            go_meet
            exact ⟨by rw [EB.out]; simp [h7, hx], HS1⟩
      case rest =>
        clear HS1
        obtain ⟨rfl, HS⟩ := hcut
        cases bad
        · have RG' : G = if fa then 95 else 0 := by have h := RG.out; simpa using h
          have RO' : O = if ch then 1 else G := by have h := RO.out; simpa using h
          have RU' : U = if c = 1 ∨ c = 6 then 28 else if c = 2 then 0 else 22 := by have h := RU.out; simpa using h
          have RGh : Hid (G = if fa then 95 else 0) := RG'
          have ROh : Hid (O = if ch then 1 else G) := RO'
          have RUh : Hid (U = if c = 1 ∨ c = 6 then 28 else if c = 2 then 0 else 22) := RU'
          clear RG' RO' RU' RG RO RU RB EB
          go_upto_region 13 with fail
          go_cut [16] from 61 to 68 (fun v wc => v = .bool fa ∧ Hid (S5 w wc N false fl c of ln))
          case first =>
            by_cases hx : x16 = 0
            · subst hx
              go_wp2_with fail
              go_meet
              exact ⟨by rw [EF.out]; simp, HS⟩
            · have hxp : (x16 : Int) ≠ 0 := by omega
              have hxb : ((x16 : Int) != 0) = true := nef hxp
              by_cases hy : x2 = 0
              · subst hy
                go_wp2_with fail
                go_meet
                exact ⟨by rw [EF.out]; simp [hx], HS⟩
              · have hyp : (x2 : Int) ≠ 0 := by omega
                have hyb : ((x2 : Int) != 0) = true := nef hyp
                go_wp2_with fail
                go_meet
                exact ⟨by rw [EF.out]; simp [hx, hy], HS⟩
          case rest =>
            clear HS
            obtain ⟨rfl, HS⟩ := hcut
            go_upto_region 14 with fail
            go_cut [80] from 69 to 79 (fun v wc => v = .bool false ∧ Hid (S5 w wc N false fl c of ln))
            case first =>
              cases fa
              · obtain rfl : G = 0 := by have h := RGh.out; simpa using h
                go_wp2_with fail
                go_meet
                exact ⟨rfl, HS⟩
              · obtain rfl : G = 95 := by have h := RGh.out; simpa using h
                go_wp2_with fail
                go_meet
                exact ⟨rfl, HS⟩
            case rest =>
              clear HS
              obtain ⟨rfl, HS⟩ := hcut
              have f3 := HS.out.e.free 3
              have e3 : wc.cell? ⟨w.heap.size, 3, none⟩ = some (.bool false) := HS.out.e.c 3 (by show 3 < 9; decide)
              go_upto_region 17 with fail
              obtain ⟨wd, hwd⟩ : ∃ wd, wc.setCell ⟨w.heap.size, 3, none⟩ (.bool true) = wd := ⟨_, rfl⟩
              have HSd : Hid (S5 w wd N true fl c of ln) := by rw [← hwd]; exact HS.out.ro true
              rw [hwd]
              clear hwd f3 e3 HS
              go_cut [17] from 82 to 91 (fun v wc => v = .bool ch ∧ Hid (S5 w wc N true fl c of ln))
              case first =>
                by_cases h1 : c = 1
                · have b1 : ((c : Int) == 1) = true := by rw [h1]; rfl
                  replace h1 : Hid (c = 1) := h1
                  go_wp2_with fail
                  go_meet
                  exact ⟨by rw [EC.out]; simp [h1.out], HSd⟩
                · have b1 : ((c : Int) == 1) = false := eqf (by omega)
                  by_cases h4 : c = 4
                  · have b4 : ((c : Int) == 4) = true := by rw [h4]; rfl
                    replace h4 : Hid (c = 4) := h4
                    go_wp2_with fail
                    go_meet
                    exact ⟨by rw [EC.out]; simp [h4.out], HSd⟩
                  · have b4 : ((c : Int) == 4) = false := eqf (by omega)
                    by_cases h6 : c = 6
                    · have b6 : ((c : Int) == 6) = true := by rw [h6]; rfl
                      replace h6 : Hid (c = 6) := h6
                      go_wp2_with fail
                      go_meet
                      exact ⟨by rw [EC.out]; simp [h6.out], HSd⟩
                    · have b6 : ((c : Int) == 6) = false := eqf (by omega)
                      go_wp2_with fail
                      go_meet
                      exact ⟨by rw [EC.out]; simp [h1, h4, h6], HSd⟩
              case rest =>
                clear HSd
                obtain ⟨rfl, HS⟩ := hcut
                have e0 : wc.cell? ⟨w.heap.size, 0, none⟩ = some (.string ⟨#[97]⟩) := HS.out.e.c 0 (by show 0 < 9; decide)
                have e1 : wc.cell? ⟨w.heap.size, 1, none⟩ = some (.string ByteArray.empty) := HS.out.e.c 1 (by show 1 < 9; decide)
                have e2 : wc.cell? ⟨w.heap.size, 2, none⟩ = some (.int .i64 (N : Int)) := HS.out.e.c 2 (by show 2 < 9; decide)
                have e3 : wc.cell? ⟨w.heap.size, 3, none⟩ = some (.bool true) := HS.out.e.c 3 (by show 3 < 9; decide)
                have e4 : wc.cell? ⟨w.heap.size, 4, none⟩ = some (.bool false) := HS.out.e.c 4 (by show 4 < 9; decide)
                have e5 : wc.cell? ⟨w.heap.size, 5, none⟩ = some (.bool false) := HS.out.e.c 5 (by show 5 < 9; decide)
                have e6 : wc.cell? ⟨w.heap.size, 6, none⟩ = some (.bool false) := HS.out.e.c 6 (by show 6 < 9; decide)
                have e7 : wc.cell? ⟨w.heap.size, 7, none⟩ = some (.int .u32 1) := HS.out.e.c 7 (by show 7 < 9; decide)
                have e8 : wc.cell? ⟨w.heap.size, 8, none⟩ = some (.int .u32 512) := HS.out.e.c 8 (by show 8 < 9; decide)
                have s0 : wc.cell? ⟨w.heap.size + 1 + 1, 0, none⟩ = some (.int .i64 0) := HS.out.s.c 0 (by show 0 < 4; decide)
                have s1 : wc.cell? ⟨w.heap.size + 1 + 1, 1, none⟩ = some (.bool true) := HS.out.s.c 1 (by show 1 < 4; decide)
                have s2 : wc.cell? ⟨w.heap.size + 1 + 1, 2, none⟩ = some (.bool false) := HS.out.s.c 2 (by show 2 < 4; decide)
                have s3 : wc.cell? ⟨w.heap.size + 1 + 1, 3, none⟩ = some (.slice (some ⟨w.heap.size + 1, 0, none⟩) 1 1) := HS.out.s.c 3 (by show 3 < 4; decide)
                have l0 : wc.cell? ⟨w.heap.size + 1 + 1 + 1, 0, none⟩ = some (.int .u32 1048576) := HS.out.l.c 0 (by show 0 < 3; decide)
                have l1 : wc.cell? ⟨w.heap.size + 1 + 1 + 1, 1, none⟩ = some (.int .u32 64) := HS.out.l.c 1 (by show 1 < 3; decide)
                have l2 : wc.cell? ⟨w.heap.size + 1 + 1 + 1, 2, none⟩ = some (.int .i64 1) := HS.out.l.c 2 (by show 2 < 3; decide)
                have q0 : wc.cell? ⟨w.heap.size + 1 + 1 + 1 + 1, 0, none⟩ = some (.int .u16 (fl : Int)) := HS.out.q.c 0 (by show 0 < 6; decide)
                have q1 : wc.cell? ⟨w.heap.size + 1 + 1 + 1 + 1, 1, none⟩ = some (.int .u16 (c : Int)) := HS.out.q.c 1 (by show 1 < 6; decide)
                have q2 : wc.cell? ⟨w.heap.size + 1 + 1 + 1 + 1, 2, none⟩ = some (.int .u64 0) := HS.out.q.c 2 (by show 2 < 6; decide)
                have q3 : wc.cell? ⟨w.heap.size + 1 + 1 + 1 + 1, 3, none⟩ = some (.int .u64 (of : Int)) := HS.out.q.c 3 (by show 3 < 6; decide)
                have q4 : wc.cell? ⟨w.heap.size + 1 + 1 + 1 + 1, 4, none⟩ = some (.int .u64 (ln : Int)) := HS.out.q.c 4 (by show 4 < 6; decide)
                have q5 : wc.cell? ⟨w.heap.size + 1 + 1 + 1 + 1, 5, none⟩ = some (.slice none 0 0) := HS.out.q.c 5 (by show 5 < 6; decide)
                go_wp2_with fail
                refine (HCO.out _ HS.out.t).mono ?_
                rintro e w2 ⟨rfl, hb⟩
                have HS2 : Hid (S5 w w2 N true fl c of ln) := HS.out.later hb
                clear hb HS e0 e1 e2 e3 e4 e5 e6 e7 e8 s0 s1 s2 s3 l0 l1 l2 q0 q1 q2 q3 q4 q5
                go_upto_region 19 with fail
                go_cut [110] from 97 to 109 (fun v wc => v = .bool false ∧ Hid (S5 w wc N true fl c of ln))
                case first =>
                  cases ch
                  · obtain rfl : O = G := by have h := ROh.out; simpa using h
                    have hgg : ((O : Int) != (O : Int)) = false := by simp
                    go_wp2_with fail
                    go_meet
                    exact ⟨rfl, HS2⟩
                  · obtain rfl : O = 1 := by have h := ROh.out; simpa using h
                    go_wp2_with fail
                    go_meet
                    exact ⟨rfl, HS2⟩
                case rest =>
                  clear HS2
                  obtain ⟨rfl, HS⟩ := hcut
                  have f3 := HS.out.e.free 3
                  have e3 : wc.cell? ⟨w.heap.size, 3, none⟩ = some (.bool true) := HS.out.e.c 3 (by show 3 < 9; decide)
                  go_upto_region 22 with fail
                  obtain ⟨wd, hwd⟩ : ∃ wd, wc.setCell ⟨w.heap.size, 3, none⟩ (.bool false) = wd := ⟨_, rfl⟩
                  have HSd : Hid (S5 w wd N false fl c of ln) := by rw [← hwd]; exact HS.out.ro false
                  rw [hwd]
                  clear hwd f3 e3 HS
                  have f4 := HSd.out.q.free 4
                  have q4 : wd.cell? ⟨w.heap.size + 1 + 1 + 1 + 1, 4, none⟩ = some (.int .u64 (ln : Int)) := HSd.out.q.c 4 (by show 4 < 6; decide)
                  have ek : (k : Int) = 513 + (ov : Int) % 1000 := by have := HKK.out; omega
                  have HSe : Hid (S5 w (wd.setCell ⟨w.heap.size + 1 + 1 + 1 + 1, 4, none⟩ (.int .u64 (513 + (ov : Int) % 1000))) N false fl c of k) := by
                    have := HSd.out.ln' k
                    rwa [ek] at this
                  clear ek
                  go_upto_region 23 with fail
                  generalize wd.setCell ⟨w.heap.size + 1 + 1 + 1 + 1, 4, none⟩ (.int .u64 (513 + (ov : Int) % 1000)) = wc at HSe ⊢
                  have HS : Hid (S5 w wc N false fl c of k) := HSe
                  clear HSe HSd f4 q4
                  have e0 : wc.cell? ⟨w.heap.size, 0, none⟩ = some (.string ⟨#[97]⟩) := HS.out.e.c 0 (by show 0 < 9; decide)
                  have e1 : wc.cell? ⟨w.heap.size, 1, none⟩ = some (.string ByteArray.empty) := HS.out.e.c 1 (by show 1 < 9; decide)
                  have e2 : wc.cell? ⟨w.heap.size, 2, none⟩ = some (.int .i64 (N : Int)) := HS.out.e.c 2 (by show 2 < 9; decide)
                  have e3 : wc.cell? ⟨w.heap.size, 3, none⟩ = some (.bool false) := HS.out.e.c 3 (by show 3 < 9; decide)
                  have e4 : wc.cell? ⟨w.heap.size, 4, none⟩ = some (.bool false) := HS.out.e.c 4 (by show 4 < 9; decide)
                  have e5 : wc.cell? ⟨w.heap.size, 5, none⟩ = some (.bool false) := HS.out.e.c 5 (by show 5 < 9; decide)
                  have e6 : wc.cell? ⟨w.heap.size, 6, none⟩ = some (.bool false) := HS.out.e.c 6 (by show 6 < 9; decide)
                  have e7 : wc.cell? ⟨w.heap.size, 7, none⟩ = some (.int .u32 1) := HS.out.e.c 7 (by show 7 < 9; decide)
                  have e8 : wc.cell? ⟨w.heap.size, 8, none⟩ = some (.int .u32 512) := HS.out.e.c 8 (by show 8 < 9; decide)
                  have s0 : wc.cell? ⟨w.heap.size + 1 + 1, 0, none⟩ = some (.int .i64 0) := HS.out.s.c 0 (by show 0 < 4; decide)
                  have s1 : wc.cell? ⟨w.heap.size + 1 + 1, 1, none⟩ = some (.bool true) := HS.out.s.c 1 (by show 1 < 4; decide)
                  have s2 : wc.cell? ⟨w.heap.size + 1 + 1, 2, none⟩ = some (.bool false) := HS.out.s.c 2 (by show 2 < 4; decide)
                  have s3 : wc.cell? ⟨w.heap.size + 1 + 1, 3, none⟩ = some (.slice (some ⟨w.heap.size + 1, 0, none⟩) 1 1) := HS.out.s.c 3 (by show 3 < 4; decide)
                  have l0 : wc.cell? ⟨w.heap.size + 1 + 1 + 1, 0, none⟩ = some (.int .u32 1048576) := HS.out.l.c 0 (by show 0 < 3; decide)
                  have l1 : wc.cell? ⟨w.heap.size + 1 + 1 + 1, 1, none⟩ = some (.int .u32 64) := HS.out.l.c 1 (by show 1 < 3; decide)
                  have l2 : wc.cell? ⟨w.heap.size + 1 + 1 + 1, 2, none⟩ = some (.int .i64 1) := HS.out.l.c 2 (by show 2 < 3; decide)
                  have q0 : wc.cell? ⟨w.heap.size + 1 + 1 + 1 + 1, 0, none⟩ = some (.int .u16 (fl : Int)) := HS.out.q.c 0 (by show 0 < 6; decide)
                  have q1 : wc.cell? ⟨w.heap.size + 1 + 1 + 1 + 1, 1, none⟩ = some (.int .u16 (c : Int)) := HS.out.q.c 1 (by show 1 < 6; decide)
                  have q2 : wc.cell? ⟨w.heap.size + 1 + 1 + 1 + 1, 2, none⟩ = some (.int .u64 0) := HS.out.q.c 2 (by show 2 < 6; decide)
                  have q3 : wc.cell? ⟨w.heap.size + 1 + 1 + 1 + 1, 3, none⟩ = some (.int .u64 (of : Int)) := HS.out.q.c 3 (by show 3 < 6; decide)
                  have q4 : wc.cell? ⟨w.heap.size + 1 + 1 + 1 + 1, 4, none⟩ = some (.int .u64 (k : Int)) := HS.out.q.c 4 (by show 4 < 6; decide)
                  have q5 : wc.cell? ⟨w.heap.size + 1 + 1 + 1 + 1, 5, none⟩ = some (.slice none 0 0) := HS.out.q.c 5 (by show 5 < 6; decide)
                  go_wp2_with fail
                  refine (HCU.out _ HS.out.t).mono ?_
                  rintro e w3 ⟨rfl, hb⟩
                  have HS3 : Hid (S5 w w3 N false fl c of k) := HS.out.later hb
                  clear hb HS e0 e1 e2 e3 e4 e5 e6 e7 e8 s0 s1 s2 s3 l0 l1 l2 q0 q1 q2 q3 q4 q5
                  by_cases h1 : c = 1
                  · have b1 : ((c : Int) == 1) = true := by rw [h1]; rfl
                    replace h1 : Hid (c = 1) := h1
                    obtain rfl : U = 28 := by have h := RUh.out; simpa [h1.out] using h
                    go_wp2_with fail
                    refine (HH.out _ HS3.out.t).mono ?_
                    rintro e wh ⟨rfl, hb⟩
                    have BBh : Hid (Below w.heap.size w wh) := bcons HS3.out.bel hb
                    clear hb
                    go_wp2
                    go_ret
                    exact ⟨rfl, BBh.out⟩
                  · have b1 : ((c : Int) == 1) = false := eqf (by omega)
                    by_cases h6 : c = 6
                    · have b6 : ((c : Int) == 6) = true := by rw [h6]; rfl
                      replace h6 : Hid (c = 6) := h6
                      obtain rfl : U = 28 := by have h := RUh.out; simpa [h6.out] using h
                      go_wp2_with fail
                      refine (HH.out _ HS3.out.t).mono ?_
                      rintro e wh ⟨rfl, hb⟩
                      have BBh : Hid (Below w.heap.size w wh) := bcons HS3.out.bel hb
                      clear hb
                      go_wp2
                      go_ret
                      exact ⟨rfl, BBh.out⟩
                    · have b6 : ((c : Int) == 6) = false := eqf (by omega)
                      by_cases h2 : c = 2
                      · have b2 : ((c : Int) == 2) = true := by rw [h2]; rfl
                        replace h2 : Hid (c = 2) := h2
                        obtain rfl : U = 0 := by have h := RUh.out; simpa [h2.out] using h
                        go_wp2_with fail
                        refine (HH.out _ HS3.out.t).mono ?_
                        rintro e wh ⟨rfl, hb⟩
                        have BBh : Hid (Below w.heap.size w wh) := bcons HS3.out.bel hb
                        clear hb
                        go_wp2
                        go_ret
                        exact ⟨rfl, BBh.out⟩
                      · have b2 : ((c : Int) == 2) = false := eqf (by omega)
                        obtain rfl : U = 22 := by have h := RUh.out; simpa [h1, h6, h2] using h
                        go_wp2_with fail
                        refine (HH.out _ HS3.out.t).mono ?_
                        rintro e wh ⟨rfl, hb⟩
                        have BBh : Hid (Below w.heap.size w wh) := bcons HS3.out.bel hb
                        clear hb
                        go_wp2
                        go_ret
                        exact ⟨rfl, BBh.out⟩
        · obtain rfl : G = 22 := by have h := RB.out; simpa using h
          go_wp2_with fail
          refine (HH.out _ HS.out.t).mono ?_
          rintro e wh ⟨rfl, hb⟩
          have BBh : Hid (Below w.heap.size w wh) := bcons HS.out.bel hb
          clear hb
          go_wp2
          go_ret
          exact ⟨rfl, BBh.out⟩
end Go.Proofs.YtodinademhibjaaDoor
