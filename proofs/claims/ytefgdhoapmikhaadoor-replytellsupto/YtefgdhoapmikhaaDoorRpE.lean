import Derived.Test.YtefgdhoapmikhaaDoorRpB
import Derived.Test.YtefgdhoapmikhaaDoorRpD
namespace Go.Proofs.YtefgdhoapmikhaaDoor
open Go.RowKit
set_option linter.unusedVariables false
set_option linter.unusedSimpArgs false
set_option maxRecDepth 100000
set_option maxHeartbeats 2000000 in
theorem fits_code (ix : Int) (st ex : Bool) (co : Option Addr) (cn cc : Nat) (fl ty ck off len : Nat) (d : Value) (cd : Nat) (pl : Bool) (at_ : Nat) (po : Option Addr) (pc : Nat) (P : List Pc) (lo : Option Addr) (lc : Nat) (L : List Ls) (w : World)
    (hcn : cn ≤ 1048576) (hty : ty < 65536) (hP : PRow w po P) (hL : LRow w lo L) (h1 : off < 18446744073709551616) (h2 : len < 18446744073709551616) (h3 : at_ < 18446744073709551616) (h4 : cd < 4294967296) (hc : cd ≠ 0) :
    Calls Tryd.prog 32 #[.agg #[.int .i64 ix, .bool st, .bool ex, .slice co cn cc], .agg #[.int .u16 (fl : Int), .int .u16 (ty : Int), .int .u64 (ck : Int), .int .u64 (off : Int), .int .u64 (len : Int), d], .agg #[.int .u32 (cd : Int), .bool pl, .int .u64 (at_ : Int), .slice po P.length pc, .slice lo L.length lc]] w fun e w' => e = .returned (.bool (fitB12 st ex cn ty off len cd pl at_ P L)) ∧ Below w.heap.size w w' := by
  have hp0 : P.length ≤ 1048576 := hP.len
  have hl0 : L.length ≤ 1048576 := hL.len
  have HT : Hid (∀ W, Calls Tryd.prog 65 #[.agg #[.int .u32 (cd : Int), .bool pl, .int .u64 (at_ : Int), .slice po P.length pc, .slice lo L.length lc]] W fun e w' => e = .returned (.bool (decide (P.length = 0) && decide (L.length = 0))) ∧ Below W.heap.size W w') := fun W => tells_any cd pl at_ po _ pc lo _ lc W hp0 hl0
  have HPl : Hid (∀ W, Calls Tryd.prog 66 #[.agg #[.int .u16 (fl : Int), .int .u16 (ty : Int), .int .u64 (ck : Int), .int .u64 (off : Int), .int .u64 (len : Int), d], .agg #[.int .u32 (cd : Int), .bool pl, .int .u64 (at_ : Int), .slice po P.length pc, .slice lo L.length lc]] W fun e w' => e = .returned (.bool (if pl = true then decide (off ≤ at_) && decide (at_ < off + len) else decide (at_ = 0))) ∧ Below W.heap.size W w') := fun W => placeFits_any fl ty ck off len d cd pl at_ _ _ W h1 h2 h3
  have HC : Hid (cd ≠ 0) := hc
  have f1 : ((cd : Int) != 0) = true := by rw [bne_iff_ne]; omega
  clear hc
  clear hP hL
  generalize hF : fitB12 st ex cn ty off len cd pl at_ P L = F
  have HFd : Hid (F = fitB12 st ex cn ty off len cd pl at_ P L) := hF.symm
  clear hF
  go_enter Tryd.func32, Tryd.ntmps32
  go_wp2_with fail
  have hx := mkb3 w #[.int .i64 ix, .bool st, .bool ex, .slice co cn cc] #[.int .u16 (fl : Int), .int .u16 (ty : Int), .int .u64 (ck : Int), .int .u64 (off : Int), .int .u64 (len : Int), d] #[.int .u32 (cd : Int), .bool pl, .int .u64 (at_ : Int), .slice po P.length pc, .slice lo L.length lc] 24 29 34
  generalize (((w.alloc (Obj.cells #[.int .i64 ix, .bool st, .bool ex, .slice co cn cc] 24)).alloc (Obj.cells #[.int .u16 (fl : Int), .int .u16 (ty : Int), .int .u64 (ck : Int), .int .u64 (off : Int), .int .u64 (len : Int), d] 29)).alloc (Obj.cells #[.int .u32 (cd : Int), .bool pl, .int .u64 (at_ : Int), .slice po P.length pc, .slice lo L.length lc] 34)) = W0 at *
  refine (HT.out _).mono ?_
  rintro e W1 ⟨rfl, hbe⟩
  have hy := hx.later hbe
  have r0 : W1.cell? ⟨w.heap.size + 1, 0, none⟩ = some (.int .u16 (fl : Int)) := by rw [blk_at hy.b]; rfl
  have r1 : W1.cell? ⟨w.heap.size + 1, 1, none⟩ = some (.int .u16 (ty : Int)) := by rw [blk_at hy.b]; rfl
  have r2 : W1.cell? ⟨w.heap.size + 1, 2, none⟩ = some (.int .u64 (ck : Int)) := by rw [blk_at hy.b]; rfl
  have r3 : W1.cell? ⟨w.heap.size + 1, 3, none⟩ = some (.int .u64 (off : Int)) := by rw [blk_at hy.b]; rfl
  have r4 : W1.cell? ⟨w.heap.size + 1, 4, none⟩ = some (.int .u64 (len : Int)) := by rw [blk_at hy.b]; rfl
  have r5 : W1.cell? ⟨w.heap.size + 1, 5, none⟩ = some (d) := by rw [blk_at hy.b]; rfl
  have o0 : W1.cell? ⟨w.heap.size + 1 + 1, 0, none⟩ = some (.int .u32 (cd : Int)) := by rw [blk_at hy.c]; rfl
  have o1 : W1.cell? ⟨w.heap.size + 1 + 1, 1, none⟩ = some (.bool pl) := by rw [blk_at hy.c]; rfl
  have o2 : W1.cell? ⟨w.heap.size + 1 + 1, 2, none⟩ = some (.int .u64 (at_ : Int)) := by rw [blk_at hy.c]; rfl
  have o3 : W1.cell? ⟨w.heap.size + 1 + 1, 3, none⟩ = some (.slice po P.length pc) := by rw [blk_at hy.c]; rfl
  have o4 : W1.cell? ⟨w.heap.size + 1 + 1, 4, none⟩ = some (.slice lo L.length lc) := by rw [blk_at hy.c]; rfl
  have HB : Hid (Bx3 w W1 #[.int .i64 ix, .bool st, .bool ex, .slice co cn cc] #[.int .u16 (fl : Int), .int .u16 (ty : Int), .int .u64 (ck : Int), .int .u64 (off : Int), .int .u64 (len : Int), d] #[.int .u32 (cd : Int), .bool pl, .int .u64 (at_ : Int), .slice po P.length pc, .slice lo L.length lc] 24 29 34) := hy
  clear hbe hx hy HT
  generalize hA : (decide (P.length = 0) && decide (L.length = 0)) = A
  have HA : Hid ((decide (P.length = 0) && decide (L.length = 0)) = A) := hA
  clear hA
  rcases A with _ | _
  · go_wp2
    go_ret
    refine ⟨ret_bool ?_, HB.out.bel⟩
    rw [HFd.out]
    have := HA.out
    unfold fitB12
    rw [if_pos HC.out, ← Bool.and_assoc, this]; rfl
  · generalize hR : (if pl = true then decide (off ≤ at_) && decide (at_ < off + len) else decide (at_ = 0)) = R at HPl
    have HR : Hid ((if pl = true then decide (off ≤ at_) && decide (at_ < off + len) else decide (at_ = 0)) = R) := hR
    clear hR
    go_wp2_with fail
    refine (HPl.out _).mono ?_
    rintro e W2 ⟨rfl, hbe⟩
    have HB2 : Hid (Below w.heap.size w W2) := (HB.out.later hbe).bel
    clear hbe HPl
    go_wp2
    go_ret
    refine ⟨ret_bool ?_, HB2.out⟩
    rw [HFd.out]
    have := HA.out
    unfold fitB12
    rw [if_pos HC.out, ← Bool.and_assoc, this, HR.out]; rfl
set_option maxHeartbeats 2000000 in
theorem fits_place (ix : Int) (st ex : Bool) (co : Option Addr) (cn cc : Nat) (fl ty ck off len : Nat) (d : Value) (cd : Nat) (pl : Bool) (at_ : Nat) (po : Option Addr) (pc : Nat) (P : List Pc) (lo : Option Addr) (lc : Nat) (L : List Ls) (w : World)
    (hcn : cn ≤ 1048576) (hty : ty < 65536) (hP : PRow w po P) (hL : LRow w lo L) (h1 : off < 18446744073709551616) (h2 : len < 18446744073709551616) (h3 : at_ < 18446744073709551616) (h4 : cd < 4294967296) (hc : cd = 0) (hq : pl = true ∨ at_ ≠ 0) :
    Calls Tryd.prog 32 #[.agg #[.int .i64 ix, .bool st, .bool ex, .slice co cn cc], .agg #[.int .u16 (fl : Int), .int .u16 (ty : Int), .int .u64 (ck : Int), .int .u64 (off : Int), .int .u64 (len : Int), d], .agg #[.int .u32 (cd : Int), .bool pl, .int .u64 (at_ : Int), .slice po P.length pc, .slice lo L.length lc]] w fun e w' => e = .returned (.bool (fitB12 st ex cn ty off len cd pl at_ P L)) ∧ Below w.heap.size w w' := by
  have hp0 : P.length ≤ 1048576 := hP.len
  have hl0 : L.length ≤ 1048576 := hL.len
  have HC : Hid (cd = 0 ∧ (pl = true ∨ at_ ≠ 0)) := ⟨hc, hq⟩
  have f1 : ((cd : Int) != 0) = false := by rw [bne_eq_false_iff_eq]; omega
  clear hc
  clear hP hL
  generalize hF : fitB12 st ex cn ty off len cd pl at_ P L = F
  have HFd : Hid (F = fitB12 st ex cn ty off len cd pl at_ P L) := hF.symm
  clear hF
  go_enter Tryd.func32, Tryd.ntmps32
  rcases pl with _ | _
  · have f2 : ((at_ : Int) != 0) = true := by rw [bne_iff_ne]; rcases hq with h | h; · cases h
                                              · omega
    clear hq
    go_wp2
    go_ret
    refine ⟨ret_bool ?_, (mkb3 w _ _ _ _ _ _).bel⟩
    rw [HFd.out]
    unfold fitB12
    rw [if_neg (by simp [HC.out.1]), if_pos HC.out.2]
  · clear hq
    go_wp2
    go_ret
    refine ⟨ret_bool ?_, (mkb3 w _ _ _ _ _ _).bel⟩
    rw [HFd.out]
    unfold fitB12
    rw [if_neg (by simp [HC.out.1]), if_pos (Or.inl rfl)]
set_option maxHeartbeats 2000000 in
theorem fits_read (ix : Int) (st ex : Bool) (co : Option Addr) (cn cc : Nat) (fl ty ck off len : Nat) (d : Value) (cd : Nat) (pl : Bool) (at_ : Nat) (po : Option Addr) (pc : Nat) (P : List Pc) (lo : Option Addr) (lc : Nat) (L : List Ls) (w : World)
    (hcn : cn ≤ 1048576) (hty : ty < 65536) (hP : PRow w po P) (hL : LRow w lo L) (h1 : off < 18446744073709551616) (h2 : len < 18446744073709551616) (h3 : at_ < 18446744073709551616) (h4 : cd < 4294967296) (hc : cd = 0) (hp : pl = false) (ha : at_ = 0) (hq : ty = 0) :
    Calls Tryd.prog 32 #[.agg #[.int .i64 ix, .bool st, .bool ex, .slice co cn cc], .agg #[.int .u16 (fl : Int), .int .u16 (ty : Int), .int .u64 (ck : Int), .int .u64 (off : Int), .int .u64 (len : Int), d], .agg #[.int .u32 (cd : Int), .bool pl, .int .u64 (at_ : Int), .slice po P.length pc, .slice lo L.length lc]] w fun e w' => e = .returned (.bool (fitB12 st ex cn ty off len cd pl at_ P L)) ∧ Below w.heap.size w w' := by
  have hp0 : P.length ≤ 1048576 := hP.len
  have hl0 : L.length ≤ 1048576 := hL.len
  have HPi : Hid (∀ W, Below w.heap.size w W → Calls Tryd.prog 67 #[.agg #[.int .u16 (fl : Int), .int .u16 (ty : Int), .int .u64 (ck : Int), .int .u64 (off : Int), .int .u64 (len : Int), d], .slice po P.length pc] W fun e w' => e = .returned (.bool (pieB off len 0 P)) ∧ Below W.heap.size W w') := fun W hb => piecesFit_any fl ty ck off len d po pc P W (hP.later hb) h1 h2
  have HC : Hid (cd = 0 ∧ pl = false ∧ at_ = 0 ∧ ty = 0) := ⟨hc, hp, ha, hq⟩
  have f1 : ((cd : Int) != 0) = false := by rw [bne_eq_false_iff_eq]; omega
  have f2 : ((at_ : Int) != 0) = false := by rw [bne_eq_false_iff_eq]; omega
  have f3 : ((ty : Int) == 0) = true := by rw [beq_iff_eq]; omega
  clear hc ha hq
  clear hP hL
  generalize hF : fitB12 st ex cn ty off len cd pl at_ P L = F
  have HFd : Hid (F = fitB12 st ex cn ty off len cd pl at_ P L) := hF.symm
  clear hF
  go_enter Tryd.func32, Tryd.ntmps32
  subst hp
  by_cases hl : L.length = 0
  · have f4 : ((L.length : Int) == 0) = true := by rw [beq_iff_eq]; omega
    have HL0 : Hid (L.length = 0) := hl
    clear hl
    go_wp2_with fail
    have hx := mkb3 w #[.int .i64 ix, .bool st, .bool ex, .slice co cn cc] #[.int .u16 (fl : Int), .int .u16 (ty : Int), .int .u64 (ck : Int), .int .u64 (off : Int), .int .u64 (len : Int), d] #[.int .u32 (cd : Int), .bool false, .int .u64 (at_ : Int), .slice po P.length pc, .slice lo L.length lc] 24 29 34
    generalize (((w.alloc (Obj.cells #[.int .i64 ix, .bool st, .bool ex, .slice co cn cc] 24)).alloc (Obj.cells #[.int .u16 (fl : Int), .int .u16 (ty : Int), .int .u64 (ck : Int), .int .u64 (off : Int), .int .u64 (len : Int), d] 29)).alloc (Obj.cells #[.int .u32 (cd : Int), .bool false, .int .u64 (at_ : Int), .slice po P.length pc, .slice lo L.length lc] 34)) = W0 at *
    refine (HPi.out _ hx.bel).mono ?_
    rintro e W1 ⟨rfl, hbe⟩
    have HB : Hid (Below w.heap.size w W1) := (hx.later hbe).bel
    clear hbe hx HPi
    go_wp2
    go_ret
    refine ⟨ret_bool ?_, HB.out⟩
    rw [HFd.out]
    unfold fitB12
    rw [if_neg (by simp [HC.out.1]), if_neg (by simp [HC.out.2.1, HC.out.2.2.1]), if_pos HC.out.2.2.2, decide_eq_true HL0.out]; rfl
  · have f4 : ((L.length : Int) == 0) = false := by rw [beq_eq_false_iff_ne]; omega
    have HL0 : Hid (L.length ≠ 0) := hl
    clear hl
    go_wp2
    go_ret
    refine ⟨ret_bool ?_, (mkb3 w _ _ _ _ _ _).bel⟩
    rw [HFd.out]
    unfold fitB12
    rw [if_neg (by simp [HC.out.1]), if_neg (by simp [HC.out.2.1, HC.out.2.2.1]), if_pos HC.out.2.2.2, decide_eq_false HL0.out]; rfl
set_option maxHeartbeats 2000000 in
theorem fits_status (ix : Int) (st ex : Bool) (co : Option Addr) (cn cc : Nat) (fl ty ck off len : Nat) (d : Value) (cd : Nat) (pl : Bool) (at_ : Nat) (po : Option Addr) (pc : Nat) (P : List Pc) (lo : Option Addr) (lc : Nat) (L : List Ls) (w : World)
    (hcn : cn ≤ 1048576) (hty : ty < 65536) (hP : PRow w po P) (hL : LRow w lo L) (h1 : off < 18446744073709551616) (h2 : len < 18446744073709551616) (h3 : at_ < 18446744073709551616) (h4 : cd < 4294967296) (hc : cd = 0) (hp : pl = false) (ha : at_ = 0) (hq : ty = 7) :
    Calls Tryd.prog 32 #[.agg #[.int .i64 ix, .bool st, .bool ex, .slice co cn cc], .agg #[.int .u16 (fl : Int), .int .u16 (ty : Int), .int .u64 (ck : Int), .int .u64 (off : Int), .int .u64 (len : Int), d], .agg #[.int .u32 (cd : Int), .bool pl, .int .u64 (at_ : Int), .slice po P.length pc, .slice lo L.length lc]] w fun e w' => e = .returned (.bool (fitB12 st ex cn ty off len cd pl at_ P L)) ∧ Below w.heap.size w w' := by
  have hp0 : P.length ≤ 1048576 := hP.len
  have hl0 : L.length ≤ 1048576 := hL.len
  have HC : Hid (cd = 0 ∧ pl = false ∧ at_ = 0 ∧ ty = 7) := ⟨hc, hp, ha, hq⟩
  have f1 : ((cd : Int) != 0) = false := by rw [bne_eq_false_iff_eq]; omega
  have f2 : ((at_ : Int) != 0) = false := by rw [bne_eq_false_iff_eq]; omega
  have HSt : Hid (∀ W, Below w.heap.size w W → Calls Tryd.prog 68 #[.agg #[.int .i64 ix, .bool st, .bool ex, .slice co cn cc], .agg #[.int .u16 (fl : Int), .int .u16 (ty : Int), .int .u64 (ck : Int), .int .u64 (off : Int), .int .u64 (len : Int), d], .slice lo L.length lc] W fun e w' => e = .returned (.bool ((st || ex) && (decide (cn ≠ 0) && (decide (L.length = cn) && listsB len ex L)))) ∧ Below W.heap.size W w') := fun W hb => statusFits_any ix st ex co cn cc fl ty ck off len d lo lc L W HC.out.2.2.2 hcn (hL.later hb) h2
  have f3 : ((ty : Int) == 0) = false := by rw [beq_eq_false_iff_ne]; omega
  have f5 : ((ty : Int) == 7) = true := by rw [beq_iff_eq]; omega
  clear hc ha hq
  clear hP hL
  generalize hF : fitB12 st ex cn ty off len cd pl at_ P L = F
  have HFd : Hid (F = fitB12 st ex cn ty off len cd pl at_ P L) := hF.symm
  clear hF
  go_enter Tryd.func32, Tryd.ntmps32
  subst hp
  generalize hA : ((st || ex) && (decide (cn ≠ 0) && (decide (L.length = cn) && listsB len ex L))) = A at HSt
  have HA : Hid (((st || ex) && (decide (cn ≠ 0) && (decide (L.length = cn) && listsB len ex L))) = A) := hA
  clear hA
  by_cases hl : P.length = 0
  · have f4 : ((P.length : Int) == 0) = true := by rw [beq_iff_eq]; omega
    have HL0 : Hid (P.length = 0) := hl
    clear hl
    go_wp2_with fail
    have hx := mkb3 w #[.int .i64 ix, .bool st, .bool ex, .slice co cn cc] #[.int .u16 (fl : Int), .int .u16 (ty : Int), .int .u64 (ck : Int), .int .u64 (off : Int), .int .u64 (len : Int), d] #[.int .u32 (cd : Int), .bool false, .int .u64 (at_ : Int), .slice po P.length pc, .slice lo L.length lc] 24 29 34
    generalize (((w.alloc (Obj.cells #[.int .i64 ix, .bool st, .bool ex, .slice co cn cc] 24)).alloc (Obj.cells #[.int .u16 (fl : Int), .int .u16 (ty : Int), .int .u64 (ck : Int), .int .u64 (off : Int), .int .u64 (len : Int), d] 29)).alloc (Obj.cells #[.int .u32 (cd : Int), .bool false, .int .u64 (at_ : Int), .slice po P.length pc, .slice lo L.length lc] 34)) = W0 at *
    refine (HSt.out _ hx.bel).mono ?_
    rintro e W1 ⟨rfl, hbe⟩
    have HB : Hid (Below w.heap.size w W1) := (hx.later hbe).bel
    clear hbe hx HSt
    go_wp2
    go_ret
    refine ⟨ret_bool ?_, HB.out⟩
    rw [HFd.out]
    unfold fitB12
    rw [if_neg (by simp [HC.out.1]), if_neg (by simp [HC.out.2.1, HC.out.2.2.1]), if_neg (by rw [HC.out.2.2.2]; decide), if_pos HC.out.2.2.2, decide_eq_true HL0.out, HA.out]; rfl
  · have f4 : ((P.length : Int) == 0) = false := by rw [beq_eq_false_iff_ne]; omega
    have HL0 : Hid (P.length ≠ 0) := hl
    clear hl
    go_wp2
    go_ret
    refine ⟨ret_bool ?_, (mkb3 w _ _ _ _ _ _).bel⟩
    rw [HFd.out]
    unfold fitB12
    rw [if_neg (by simp [HC.out.1]), if_neg (by simp [HC.out.2.1, HC.out.2.2.1]), if_neg (by rw [HC.out.2.2.2]; decide), if_pos HC.out.2.2.2, decide_eq_false HL0.out]; rfl
set_option maxHeartbeats 2000000 in
theorem fits_other (ix : Int) (st ex : Bool) (co : Option Addr) (cn cc : Nat) (fl ty ck off len : Nat) (d : Value) (cd : Nat) (pl : Bool) (at_ : Nat) (po : Option Addr) (pc : Nat) (P : List Pc) (lo : Option Addr) (lc : Nat) (L : List Ls) (w : World)
    (hcn : cn ≤ 1048576) (hty : ty < 65536) (hP : PRow w po P) (hL : LRow w lo L) (h1 : off < 18446744073709551616) (h2 : len < 18446744073709551616) (h3 : at_ < 18446744073709551616) (h4 : cd < 4294967296) (hc : cd = 0) (hp : pl = false) (ha : at_ = 0) (hq : ty ≠ 0 ∧ ty ≠ 7) :
    Calls Tryd.prog 32 #[.agg #[.int .i64 ix, .bool st, .bool ex, .slice co cn cc], .agg #[.int .u16 (fl : Int), .int .u16 (ty : Int), .int .u64 (ck : Int), .int .u64 (off : Int), .int .u64 (len : Int), d], .agg #[.int .u32 (cd : Int), .bool pl, .int .u64 (at_ : Int), .slice po P.length pc, .slice lo L.length lc]] w fun e w' => e = .returned (.bool (fitB12 st ex cn ty off len cd pl at_ P L)) ∧ Below w.heap.size w w' := by
  have hp0 : P.length ≤ 1048576 := hP.len
  have hl0 : L.length ≤ 1048576 := hL.len
  have HT : Hid (∀ W, Calls Tryd.prog 65 #[.agg #[.int .u32 (cd : Int), .bool pl, .int .u64 (at_ : Int), .slice po P.length pc, .slice lo L.length lc]] W fun e w' => e = .returned (.bool (decide (P.length = 0) && decide (L.length = 0))) ∧ Below W.heap.size W w') := fun W => tells_any cd pl at_ po _ pc lo _ lc W hp0 hl0
  have HC : Hid (cd = 0 ∧ pl = false ∧ at_ = 0 ∧ (ty ≠ 0 ∧ ty ≠ 7)) := ⟨hc, hp, ha, hq⟩
  have f1 : ((cd : Int) != 0) = false := by rw [bne_eq_false_iff_eq]; omega
  have f2 : ((at_ : Int) != 0) = false := by rw [bne_eq_false_iff_eq]; omega
  have f3 : ((ty : Int) == 0) = false := by rw [beq_eq_false_iff_ne]; omega
  have f5 : ((ty : Int) == 7) = false := by rw [beq_eq_false_iff_ne]; omega
  clear hc ha hq
  clear hP hL
  generalize hF : fitB12 st ex cn ty off len cd pl at_ P L = F
  have HFd : Hid (F = fitB12 st ex cn ty off len cd pl at_ P L) := hF.symm
  clear hF
  go_enter Tryd.func32, Tryd.ntmps32
  subst hp
  generalize hA : (decide (P.length = 0) && decide (L.length = 0)) = A at HT
  have HA : Hid ((decide (P.length = 0) && decide (L.length = 0)) = A) := hA
  clear hA
  go_wp2_with fail
  have hx := mkb3 w #[.int .i64 ix, .bool st, .bool ex, .slice co cn cc] #[.int .u16 (fl : Int), .int .u16 (ty : Int), .int .u64 (ck : Int), .int .u64 (off : Int), .int .u64 (len : Int), d] #[.int .u32 (cd : Int), .bool false, .int .u64 (at_ : Int), .slice po P.length pc, .slice lo L.length lc] 24 29 34
  generalize (((w.alloc (Obj.cells #[.int .i64 ix, .bool st, .bool ex, .slice co cn cc] 24)).alloc (Obj.cells #[.int .u16 (fl : Int), .int .u16 (ty : Int), .int .u64 (ck : Int), .int .u64 (off : Int), .int .u64 (len : Int), d] 29)).alloc (Obj.cells #[.int .u32 (cd : Int), .bool false, .int .u64 (at_ : Int), .slice po P.length pc, .slice lo L.length lc] 34)) = W0 at *
  refine (HT.out _).mono ?_
  rintro e W1 ⟨rfl, hbe⟩
  have HB : Hid (Below w.heap.size w W1) := (hx.later hbe).bel
  clear hbe hx HT
  go_wp2
  go_ret
  refine ⟨ret_bool ?_, HB.out⟩
  rw [HFd.out]
  unfold fitB12
  rw [if_neg (by simp [HC.out.1]), if_neg (by simp [HC.out.2.1, HC.out.2.2.1]), if_neg HC.out.2.2.2.1, if_neg HC.out.2.2.2.2, HA.out]
theorem fits_any (ix : Int) (st ex : Bool) (co : Option Addr) (cn cc : Nat) (fl ty ck off len : Nat) (d : Value) (cd : Nat) (pl : Bool) (at_ : Nat) (po : Option Addr) (pc : Nat) (P : List Pc) (lo : Option Addr) (lc : Nat) (L : List Ls) (w : World)
    (hcn : cn ≤ 1048576) (hty : ty < 65536) (hP : PRow w po P) (hL : LRow w lo L) (h1 : off < 18446744073709551616) (h2 : len < 18446744073709551616) (h3 : at_ < 18446744073709551616) (h4 : cd < 4294967296) :
    Calls Tryd.prog 32 #[.agg #[.int .i64 ix, .bool st, .bool ex, .slice co cn cc], .agg #[.int .u16 (fl : Int), .int .u16 (ty : Int), .int .u64 (ck : Int), .int .u64 (off : Int), .int .u64 (len : Int), d], .agg #[.int .u32 (cd : Int), .bool pl, .int .u64 (at_ : Int), .slice po P.length pc, .slice lo L.length lc]] w fun e w' => e = .returned (.bool (fitB12 st ex cn ty off len cd pl at_ P L)) ∧ Below w.heap.size w w' := by
  by_cases hc : cd = 0
  · by_cases hq : pl = true ∨ at_ ≠ 0
    · exact fits_place ix st ex co cn cc fl ty ck off len d cd pl at_ po pc P lo lc L w hcn hty hP hL h1 h2 h3 h4 hc hq
    · have hp : pl = false := by cases pl; · rfl
                                 · exact absurd (Or.inl rfl) hq
      have ha : at_ = 0 := by by_cases h : at_ = 0; · exact h
                              · exact absurd (Or.inr h) hq
      by_cases h0 : ty = 0
      · exact fits_read ix st ex co cn cc fl ty ck off len d cd pl at_ po pc P lo lc L w hcn hty hP hL h1 h2 h3 h4 hc hp ha h0
      · by_cases h7 : ty = 7
        · exact fits_status ix st ex co cn cc fl ty ck off len d cd pl at_ po pc P lo lc L w hcn hty hP hL h1 h2 h3 h4 hc hp ha h7
        · exact fits_other ix st ex co cn cc fl ty ck off len d cd pl at_ po pc P lo lc L w hcn hty hP hL h1 h2 h3 h4 hc hp ha ⟨h0, h7⟩
  · exact fits_code ix st ex co cn cc fl ty ck off len d cd pl at_ po pc P lo lc L w hcn hty hP hL h1 h2 h3 h4 hc
/-- P12.1, the program's answer -/
def eFit (b : Bool) : Int := if b = true then 0 else 120
set_option maxHeartbeats 1000000 in
theorem Fits_any (ix : Int) (st ex : Bool) (co : Option Addr) (cn cc : Nat) (fl ty ck off len : Nat) (d : Value) (cd : Nat) (pl : Bool) (at_ : Nat) (po : Option Addr) (pc : Nat) (P : List Pc) (lo : Option Addr) (lc : Nat) (L : List Ls) (w : World)
    (hcn : cn ≤ 1048576) (hty : ty < 65536) (hP : PRow w po P) (hL : LRow w lo L) (h1 : off < 18446744073709551616) (h2 : len < 18446744073709551616) (h3 : at_ < 18446744073709551616) (h4 : cd < 4294967296) :
    Calls Tryd.prog 10 #[.agg #[.int .i64 ix, .bool st, .bool ex, .slice co cn cc], .agg #[.int .u16 (fl : Int), .int .u16 (ty : Int), .int .u64 (ck : Int), .int .u64 (off : Int), .int .u64 (len : Int), d], .agg #[.int .u32 (cd : Int), .bool pl, .int .u64 (at_ : Int), .slice po P.length pc, .slice lo L.length lc]] w fun e w' => e = .returned (.int .i64 (eFit (fitB12 st ex cn ty off len cd pl at_ P L))) ∧ Below w.heap.size w w' := by
  have HF : Hid (∀ W, Below w.heap.size w W → Calls Tryd.prog 32 #[.agg #[.int .i64 ix, .bool st, .bool ex, .slice co cn cc], .agg #[.int .u16 (fl : Int), .int .u16 (ty : Int), .int .u64 (ck : Int), .int .u64 (off : Int), .int .u64 (len : Int), d], .agg #[.int .u32 (cd : Int), .bool pl, .int .u64 (at_ : Int), .slice po P.length pc, .slice lo L.length lc]] W fun e w' => e = .returned (.bool (fitB12 st ex cn ty off len cd pl at_ P L)) ∧ Below W.heap.size W w') := fun W hb => fits_any ix st ex co cn cc fl ty ck off len d cd pl at_ po pc P lo lc L W hcn hty (hP.later hb) (hL.later hb) h1 h2 h3 h4
  clear hP hL
  generalize fitB12 st ex cn ty off len cd pl at_ P L = F at *
  generalize P.length = pn at *
  generalize L.length = ln at *
  go_enter Tryd.func10, Tryd.ntmps10
  go_wp2_with fail
  have hx := mkb3 w #[.int .i64 ix, .bool st, .bool ex, .slice co cn cc] #[.int .u16 (fl : Int), .int .u16 (ty : Int), .int .u64 (ck : Int), .int .u64 (off : Int), .int .u64 (len : Int), d] #[.int .u32 (cd : Int), .bool pl, .int .u64 (at_ : Int), .slice po pn pc, .slice lo ln lc] 24 29 34
  generalize (((w.alloc (Obj.cells #[.int .i64 ix, .bool st, .bool ex, .slice co cn cc] 24)).alloc (Obj.cells #[.int .u16 (fl : Int), .int .u16 (ty : Int), .int .u64 (ck : Int), .int .u64 (off : Int), .int .u64 (len : Int), d] 29)).alloc (Obj.cells #[.int .u32 (cd : Int), .bool pl, .int .u64 (at_ : Int), .slice po pn pc, .slice lo ln lc] 34)) = W0 at *
  refine (HF.out _ hx.bel).mono ?_
  rintro e W1 ⟨rfl, hbe⟩
  have HB : Hid (Below w.heap.size w W1) := (hx.later hbe).bel
  clear hbe HF hx
  rcases F with _ | _
  · go_wp2
    go_ret
    exact ⟨rfl, HB.out⟩
  · go_wp2
    go_ret
    exact ⟨rfl, HB.out⟩
end Go.Proofs.YtefgdhoapmikhaaDoor
