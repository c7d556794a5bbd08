import Derived.Test.YtefgdhoapmikhaaDoorRpF
import Derived.Test.YtefgdhoapmikhaaDoorRpG
namespace Go.Proofs.YtefgdhoapmikhaaDoor
open Go.RowKit
set_option linter.unusedVariables false
set_option linter.unusedSimpArgs false
set_option maxRecDepth 100000
theorem eF {F : Bool} (h : ¬ F = true) : Ending.returned (.int .i64 120) = .returned (.int .i64 (eFit F)) := by rw [Bool.eq_false_iff.2 h]; rfl
theorem eT {F : Bool} (h : F = true) : Ending.returned (.int .i64 0) = .returned (.int .i64 (eFit F)) := by rw [h]; rfl
set_option maxHeartbeats 2000000 in
theorem rfits_code (ix : Int) (st ex : Bool) (co : Option Addr) (cn cc : Nat) (fl ty ck off len : Nat) (d : Value) (cd : Nat) (pl : Bool) (at_ : Nat) (po : Option Addr) (pc : Nat) (P : List Pc) (lo : Option Addr) (lc : Nat) (L : List Ls) (w : World)
    (hcn : cn ≤ 1048576) (hty : ty < 65536) (hP : PRow w po P) (hL : LRow w lo L) (h1 : off < 18446744073709551616) (h2 : len < 18446744073709551616) (h3 : at_ < 18446744073709551616) (h4 : cd < 4294967296) (hc : cd ≠ 0) :
    Calls Tryd.prog 11 #[.agg #[.int .i64 ix, .bool st, .bool ex, .slice co cn cc], .agg #[.int .u16 (fl : Int), .int .u16 (ty : Int), .int .u64 (ck : Int), .int .u64 (off : Int), .int .u64 (len : Int), d], .agg #[.int .u32 (cd : Int), .bool pl, .int .u64 (at_ : Int), .slice po P.length pc, .slice lo L.length lc]] w fun e w' => e = .returned (.int .i64 (eFit (fitB12 st ex cn ty off len cd pl at_ P L))) ∧ Below w.heap.size w w' := by
  have hp0 : P.length ≤ 1048576 := hP.len
  have hl0 : L.length ≤ 1048576 := hL.len
  have HPl : Hid (∀ W, Calls Tryd.prog 33 #[.agg #[.int .u16 (fl : Int), .int .u16 (ty : Int), .int .u64 (ck : Int), .int .u64 (off : Int), .int .u64 (len : Int), d], .int .u64 (at_ : Int)] W fun e w' => e = .returned (.bool (decide (off ≤ at_) && decide (at_ < off + len))) ∧ Below W.heap.size W w') := fun W => rplaced_any fl ty ck off len d at_ W h1 h2 h3
  have HC : Hid (cd ≠ 0) := hc
  have f1 : ((cd : Int) != 0) = true := by rw [bne_iff_ne]; omega
  clear hc
  generalize hF : fitB12 st ex cn ty off len cd pl at_ P L = F
  have HFd : Hid (F = fitB12 st ex cn ty off len cd pl at_ P L) := hF.symm
  clear hF hP
  have hS : F = true ↔ P.length = 0 ∧ L.length = 0 ∧ (pl = true → off ≤ at_ ∧ at_ < off + len) ∧ (pl = false → at_ = 0) := by
    rw [HFd.out]; unfold fitB12; rw [if_pos HC.out]; cases pl <;> simp
  have HS : Hid (F = true ↔ P.length = 0 ∧ L.length = 0 ∧ (pl = true → off ≤ at_ ∧ at_ < off + len) ∧ (pl = false → at_ = 0)) := hS
  clear HFd hS hL
  generalize P.length = pn at *
  generalize L.length = ln at *
  generalize hA : (decide (off ≤ at_) && decide (at_ < off + len)) = A at HPl
  have hA' : A = true ↔ off ≤ at_ ∧ at_ < off + len := by rw [← hA]; simp
  have HA : Hid (A = true ↔ off ≤ at_ ∧ at_ < off + len) := hA'
  clear hA hA'
  go_enter Tryd.func11, Tryd.ntmps11
  rcases pl with _ | _
  · rcases pn with _ | pn
    · rcases ln with _ | ln
      · go_wp2
        all_goals
          go_ret
          refine ⟨?_, (mkb3 w _ _ _ _ _ _).bel⟩
          have hs := HS.out
          first
            | (refine eF ?_; rw [hs]; simp; done)
            | (refine eF ?_; rw [hs]; simp; omega)
            | (refine eF ?_; rw [hs]; rename_i ha; have hb := bne_iff_ne.1 ha; clear hs; simp; omega)
            | (refine eT ?_; rw [hs]; simp; done)
            | (refine eT ?_; rw [hs]; simp; omega)
            | (refine eT ?_; rw [hs]; rename_i ha; have hb := bne_eq_false_iff_eq.1 ha; clear hs; simp; omega)
      · go_wp2
        all_goals
          go_ret
          refine ⟨?_, (mkb3 w _ _ _ _ _ _).bel⟩
          have hs := HS.out
          first
            | (refine eF ?_; rw [hs]; simp; done)
            | (refine eF ?_; rw [hs]; simp; omega)
            | (refine eF ?_; rw [hs]; rename_i ha; have hb := bne_iff_ne.1 ha; clear hs; simp; omega)
            | (refine eT ?_; rw [hs]; simp; done)
            | (refine eT ?_; rw [hs]; simp; omega)
            | (refine eT ?_; rw [hs]; rename_i ha; have hb := bne_eq_false_iff_eq.1 ha; clear hs; simp; omega)
    · go_wp2
      all_goals
        go_ret
        refine ⟨?_, (mkb3 w _ _ _ _ _ _).bel⟩
        have hs := HS.out
        first
          | (refine eF ?_; rw [hs]; simp; done)
          | (refine eF ?_; rw [hs]; simp; omega)
          | (refine eF ?_; rw [hs]; rename_i ha; have hb := bne_iff_ne.1 ha; clear hs; simp; omega)
          | (refine eT ?_; rw [hs]; simp; done)
          | (refine eT ?_; rw [hs]; simp; omega)
          | (refine eT ?_; rw [hs]; rename_i ha; have hb := bne_eq_false_iff_eq.1 ha; clear hs; simp; omega)
  · rcases pn with _ | pn
    · rcases ln with _ | ln
      · go_wp2_with fail
        have hx := mkb3 w #[.int .i64 ix, .bool st, .bool ex, .slice co cn cc] #[.int .u16 (fl : Int), .int .u16 (ty : Int), .int .u64 (ck : Int), .int .u64 (off : Int), .int .u64 (len : Int), d] #[.int .u32 (cd : Int), .bool true, .int .u64 (at_ : Int), .slice po 0 pc, .slice lo 0 lc] 24 29 34
        generalize (((w.alloc (Obj.cells #[.int .i64 ix, .bool st, .bool ex, .slice co cn cc] 24)).alloc (Obj.cells #[.int .u16 (fl : Int), .int .u16 (ty : Int), .int .u64 (ck : Int), .int .u64 (off : Int), .int .u64 (len : Int), d] 29)).alloc (Obj.cells #[.int .u32 (cd : Int), .bool true, .int .u64 (at_ : Int), .slice po 0 pc, .slice lo 0 lc] 34)) = W0 at *
        refine (HPl.out _).mono ?_
        rintro e W1 ⟨rfl, hbe⟩
        have HB : Hid (Below w.heap.size w W1) := (hx.later hbe).bel
        have o1 : W1.cell? ⟨w.heap.size + 1 + 1, 1, none⟩ = some (.bool true) := by rw [blk_at (hx.later hbe).c]; rfl
        have o2 : W1.cell? ⟨w.heap.size + 1 + 1, 2, none⟩ = some (.int .u64 (at_ : Int)) := by rw [blk_at (hx.later hbe).c]; rfl
        clear hbe hx HPl
        rcases A with _ | _
        · go_wp2
          go_ret
          exact ⟨eF (by have hs := HS.out; have ha := HA.out; rw [hs]; intro hh; exact absurd (ha.2 (hh.2.2.1 trivial)) (by simp)), HB.out⟩
        · go_wp2
          go_ret
          exact ⟨eT (by have hs := HS.out; have ha := HA.out; rw [hs]; exact ⟨trivial, trivial, fun _ => ha.1 (by trivial), fun h => by cases h⟩), HB.out⟩
      · go_wp2
        all_goals
          go_ret
          refine ⟨?_, (mkb3 w _ _ _ _ _ _).bel⟩
          have hs := HS.out
          first
            | (refine eF ?_; rw [hs]; simp; done)
            | (refine eF ?_; rw [hs]; simp; omega)
            | (refine eF ?_; rw [hs]; rename_i ha; have hb := bne_iff_ne.1 ha; clear hs; simp; omega)
            | (refine eT ?_; rw [hs]; simp; done)
            | (refine eT ?_; rw [hs]; simp; omega)
            | (refine eT ?_; rw [hs]; rename_i ha; have hb := bne_eq_false_iff_eq.1 ha; clear hs; simp; omega)
    · go_wp2
      all_goals
        go_ret
        refine ⟨?_, (mkb3 w _ _ _ _ _ _).bel⟩
        have hs := HS.out
        first
          | (refine eF ?_; rw [hs]; simp; done)
          | (refine eF ?_; rw [hs]; simp; omega)
          | (refine eF ?_; rw [hs]; rename_i ha; have hb := bne_iff_ne.1 ha; clear hs; simp; omega)
          | (refine eT ?_; rw [hs]; simp; done)
          | (refine eT ?_; rw [hs]; simp; omega)
          | (refine eT ?_; rw [hs]; rename_i ha; have hb := bne_eq_false_iff_eq.1 ha; clear hs; simp; omega)
set_option maxHeartbeats 2000000 in
theorem rfits_place (ix : Int) (st ex : Bool) (co : Option Addr) (cn cc : Nat) (fl ty ck off len : Nat) (d : Value) (cd : Nat) (pl : Bool) (at_ : Nat) (po : Option Addr) (pc : Nat) (P : List Pc) (lo : Option Addr) (lc : Nat) (L : List Ls) (w : World)
    (hcn : cn ≤ 1048576) (hty : ty < 65536) (hP : PRow w po P) (hL : LRow w lo L) (h1 : off < 18446744073709551616) (h2 : len < 18446744073709551616) (h3 : at_ < 18446744073709551616) (h4 : cd < 4294967296) (hc : cd = 0) (hq : pl = true ∨ at_ ≠ 0) :
    Calls Tryd.prog 11 #[.agg #[.int .i64 ix, .bool st, .bool ex, .slice co cn cc], .agg #[.int .u16 (fl : Int), .int .u16 (ty : Int), .int .u64 (ck : Int), .int .u64 (off : Int), .int .u64 (len : Int), d], .agg #[.int .u32 (cd : Int), .bool pl, .int .u64 (at_ : Int), .slice po P.length pc, .slice lo L.length lc]] w fun e w' => e = .returned (.int .i64 (eFit (fitB12 st ex cn ty off len cd pl at_ P L))) ∧ Below w.heap.size w w' := by
  have hp0 : P.length ≤ 1048576 := hP.len
  have hl0 : L.length ≤ 1048576 := hL.len
  have HC : Hid (cd = 0 ∧ (pl = true ∨ at_ ≠ 0)) := ⟨hc, hq⟩
  have f1 : ((cd : Int) != 0) = false := by rw [bne_eq_false_iff_eq]; omega
  clear hc
  generalize hF : fitB12 st ex cn ty off len cd pl at_ P L = F
  have HFd : Hid (F = fitB12 st ex cn ty off len cd pl at_ P L) := hF.symm
  clear hF hP
  have HS : Hid (¬ F = true) := by
    show ¬ F = true
    rw [HFd.out]; unfold fitB12; rw [if_neg (by simp [HC.out.1]), if_pos HC.out.2]; simp
  clear HFd hL
  generalize P.length = pn at *
  generalize L.length = ln at *
  go_enter Tryd.func11, Tryd.ntmps11
  rcases pl with _ | _
  · have f2 : ((at_ : Int) != 0) = true := by
      rw [bne_iff_ne]
      rcases hq with h | h
      · cases h
      · omega
    clear hq
    go_wp2
    go_ret
    exact ⟨eF HS.out, (mkb3 w _ _ _ _ _ _).bel⟩
  · clear hq
    go_wp2
    go_ret
    exact ⟨eF HS.out, (mkb3 w _ _ _ _ _ _).bel⟩
set_option maxHeartbeats 2000000 in
theorem rfits_read (ix : Int) (st ex : Bool) (co : Option Addr) (cn cc : Nat) (fl ty ck off len : Nat) (d : Value) (cd : Nat) (pl : Bool) (at_ : Nat) (po : Option Addr) (pc : Nat) (P : List Pc) (lo : Option Addr) (lc : Nat) (L : List Ls) (w : World)
    (hcn : cn ≤ 1048576) (hty : ty < 65536) (hP : PRow w po P) (hL : LRow w lo L) (h1 : off < 18446744073709551616) (h2 : len < 18446744073709551616) (h3 : at_ < 18446744073709551616) (h4 : cd < 4294967296) (hc : cd = 0) (hp : pl = false) (ha : at_ = 0) (hq : ty = 0) :
    Calls Tryd.prog 11 #[.agg #[.int .i64 ix, .bool st, .bool ex, .slice co cn cc], .agg #[.int .u16 (fl : Int), .int .u16 (ty : Int), .int .u64 (ck : Int), .int .u64 (off : Int), .int .u64 (len : Int), d], .agg #[.int .u32 (cd : Int), .bool pl, .int .u64 (at_ : Int), .slice po P.length pc, .slice lo L.length lc]] w fun e w' => e = .returned (.int .i64 (eFit (fitB12 st ex cn ty off len cd pl at_ P L))) ∧ Below w.heap.size w w' := by
  have hp0 : P.length ≤ 1048576 := hP.len
  have hl0 : L.length ≤ 1048576 := hL.len
  have HPi : Hid (∀ W, Below w.heap.size w W → Calls Tryd.prog 34 #[.agg #[.int .u16 (fl : Int), .int .u16 (ty : Int), .int .u64 (ck : Int), .int .u64 (off : Int), .int .u64 (len : Int), d], .slice po P.length pc] W fun e w' => e = .returned (.bool (pieB off len 0 P)) ∧ Below W.heap.size W w') := fun W hb => whole_any fl ty ck off len d po pc P W (hP.later hb) h1 h2
  have HC : Hid (cd = 0 ∧ pl = false ∧ at_ = 0 ∧ ty = 0) := ⟨hc, hp, ha, hq⟩
  have f1 : ((cd : Int) != 0) = false := by rw [bne_eq_false_iff_eq]; omega
  have f2 : ((at_ : Int) != 0) = false := by rw [bne_eq_false_iff_eq]; omega
  have f3 : ((ty : Int) == 0) = true := by rw [beq_iff_eq]; omega
  generalize hF : fitB12 st ex cn ty off len cd pl at_ P L = F
  have HFd : Hid (F = fitB12 st ex cn ty off len cd pl at_ P L) := hF.symm
  clear hF hP
  have hS : F = true ↔ L.length = 0 ∧ pieB off len 0 P = true := by
    rw [HFd.out]; unfold fitB12; rw [if_neg (by simp [HC.out.1]), if_neg (by simp [HC.out.2.1, HC.out.2.2.1]), if_pos HC.out.2.2.2]; simp
  have HS : Hid (F = true ↔ L.length = 0 ∧ pieB off len 0 P = true) := hS
  subst hp
  clear HFd hS hL hc ha hq
  generalize pieB off len 0 P = A at *
  generalize P.length = pn at *
  generalize L.length = ln at *
  go_enter Tryd.func11, Tryd.ntmps11
  rcases ln with _ | ln
  · go_wp2_with fail
    have hx := mkb3 w #[.int .i64 ix, .bool st, .bool ex, .slice co cn cc] #[.int .u16 (fl : Int), .int .u16 (ty : Int), .int .u64 (ck : Int), .int .u64 (off : Int), .int .u64 (len : Int), d] #[.int .u32 (cd : Int), .bool false, .int .u64 (at_ : Int), .slice po pn pc, .slice lo 0 lc] 24 29 34
    generalize (((w.alloc (Obj.cells #[.int .i64 ix, .bool st, .bool ex, .slice co cn cc] 24)).alloc (Obj.cells #[.int .u16 (fl : Int), .int .u16 (ty : Int), .int .u64 (ck : Int), .int .u64 (off : Int), .int .u64 (len : Int), d] 29)).alloc (Obj.cells #[.int .u32 (cd : Int), .bool false, .int .u64 (at_ : Int), .slice po pn pc, .slice lo 0 lc] 34)) = W0 at *
    refine (HPi.out _ hx.bel).mono ?_
    rintro e W1 ⟨rfl, hbe⟩
    have HB : Hid (Below w.heap.size w W1) := (hx.later hbe).bel
    clear hbe hx HPi
    rcases A with _ | _
    · go_wp2
      go_ret
      exact ⟨eF (by rw [HS.out]; simp), HB.out⟩
    · go_wp2
      go_ret
      exact ⟨eT (by rw [HS.out]; simp), HB.out⟩
  · go_wp2
    all_goals
      go_ret
      refine ⟨?_, (mkb3 w _ _ _ _ _ _).bel⟩
      have hs := HS.out
      first
        | (refine eF ?_; rw [hs]; simp; done)
        | (refine eF ?_; rw [hs]; simp; omega)
        | (refine eF ?_; rw [hs]; rename_i ha; have hb := bne_iff_ne.1 ha; clear hs; simp; omega)
        | (refine eT ?_; rw [hs]; simp; done)
        | (refine eT ?_; rw [hs]; simp; omega)
        | (refine eT ?_; rw [hs]; rename_i ha; have hb := bne_eq_false_iff_eq.1 ha; clear hs; simp; omega)
set_option maxHeartbeats 2000000 in
theorem rfits_other (ix : Int) (st ex : Bool) (co : Option Addr) (cn cc : Nat) (fl ty ck off len : Nat) (d : Value) (cd : Nat) (pl : Bool) (at_ : Nat) (po : Option Addr) (pc : Nat) (P : List Pc) (lo : Option Addr) (lc : Nat) (L : List Ls) (w : World)
    (hcn : cn ≤ 1048576) (hty : ty < 65536) (hP : PRow w po P) (hL : LRow w lo L) (h1 : off < 18446744073709551616) (h2 : len < 18446744073709551616) (h3 : at_ < 18446744073709551616) (h4 : cd < 4294967296) (hc : cd = 0) (hp : pl = false) (ha : at_ = 0) (hq : ty ≠ 0 ∧ ty ≠ 7) :
    Calls Tryd.prog 11 #[.agg #[.int .i64 ix, .bool st, .bool ex, .slice co cn cc], .agg #[.int .u16 (fl : Int), .int .u16 (ty : Int), .int .u64 (ck : Int), .int .u64 (off : Int), .int .u64 (len : Int), d], .agg #[.int .u32 (cd : Int), .bool pl, .int .u64 (at_ : Int), .slice po P.length pc, .slice lo L.length lc]] w fun e w' => e = .returned (.int .i64 (eFit (fitB12 st ex cn ty off len cd pl at_ P L))) ∧ Below w.heap.size w w' := by
  have hp0 : P.length ≤ 1048576 := hP.len
  have hl0 : L.length ≤ 1048576 := hL.len
  have HC : Hid (cd = 0 ∧ pl = false ∧ at_ = 0 ∧ (ty ≠ 0 ∧ ty ≠ 7)) := ⟨hc, hp, ha, hq⟩
  have f1 : ((cd : Int) != 0) = false := by rw [bne_eq_false_iff_eq]; omega
  have f2 : ((at_ : Int) != 0) = false := by rw [bne_eq_false_iff_eq]; omega
  have f3 : ((ty : Int) == 0) = false := by rw [beq_eq_false_iff_ne]; omega
  have f5 : ((ty : Int) == 7) = false := by rw [beq_eq_false_iff_ne]; omega
  generalize hF : fitB12 st ex cn ty off len cd pl at_ P L = F
  have HFd : Hid (F = fitB12 st ex cn ty off len cd pl at_ P L) := hF.symm
  clear hF hP
  have hS : F = true ↔ P.length = 0 ∧ L.length = 0 := by
    rw [HFd.out]; unfold fitB12; rw [if_neg (by simp [HC.out.1]), if_neg (by simp [HC.out.2.1, HC.out.2.2.1]), if_neg HC.out.2.2.2.1, if_neg HC.out.2.2.2.2]; simp
  have HS : Hid (F = true ↔ P.length = 0 ∧ L.length = 0) := hS
  subst hp
  clear HFd hS hL hc ha hq
  generalize P.length = pn at *
  generalize L.length = ln at *
  go_enter Tryd.func11, Tryd.ntmps11
  rcases pn with _ | pn
  · rcases ln with _ | ln
    · go_wp2
      all_goals
        go_ret
        refine ⟨?_, (mkb3 w _ _ _ _ _ _).bel⟩
        have hs := HS.out
        first
          | (refine eF ?_; rw [hs]; simp; done)
          | (refine eF ?_; rw [hs]; simp; omega)
          | (refine eF ?_; rw [hs]; rename_i ha; have hb := bne_iff_ne.1 ha; clear hs; simp; omega)
          | (refine eT ?_; rw [hs]; simp; done)
          | (refine eT ?_; rw [hs]; simp; omega)
          | (refine eT ?_; rw [hs]; rename_i ha; have hb := bne_eq_false_iff_eq.1 ha; clear hs; simp; omega)
    · go_wp2
      all_goals
        go_ret
        refine ⟨?_, (mkb3 w _ _ _ _ _ _).bel⟩
        have hs := HS.out
        first
          | (refine eF ?_; rw [hs]; simp; done)
          | (refine eF ?_; rw [hs]; simp; omega)
          | (refine eF ?_; rw [hs]; rename_i ha; have hb := bne_iff_ne.1 ha; clear hs; simp; omega)
          | (refine eT ?_; rw [hs]; simp; done)
          | (refine eT ?_; rw [hs]; simp; omega)
          | (refine eT ?_; rw [hs]; rename_i ha; have hb := bne_eq_false_iff_eq.1 ha; clear hs; simp; omega)
  · go_wp2
    all_goals
      go_ret
      refine ⟨?_, (mkb3 w _ _ _ _ _ _).bel⟩
      have hs := HS.out
      first
        | (refine eF ?_; rw [hs]; simp; done)
        | (refine eF ?_; rw [hs]; simp; omega)
        | (refine eF ?_; rw [hs]; rename_i ha; have hb := bne_iff_ne.1 ha; clear hs; simp; omega)
        | (refine eT ?_; rw [hs]; simp; done)
        | (refine eT ?_; rw [hs]; simp; omega)
        | (refine eT ?_; rw [hs]; rename_i ha; have hb := bne_eq_false_iff_eq.1 ha; clear hs; simp; omega)
set_option maxHeartbeats 2000000 in
theorem rfits_status_no (ix : Int) (st ex : Bool) (co : Option Addr) (cn cc : Nat) (fl ty ck off len : Nat) (d : Value) (cd : Nat) (pl : Bool) (at_ : Nat) (po : Option Addr) (pc : Nat) (P : List Pc) (lo : Option Addr) (lc : Nat) (L : List Ls) (w : World)
    (hcn : cn ≤ 1048576) (hty : ty < 65536) (hP : PRow w po P) (hL : LRow w lo L) (h1 : off < 18446744073709551616) (h2 : len < 18446744073709551616) (h3 : at_ < 18446744073709551616) (h4 : cd < 4294967296) (hc : cd = 0) (hp : pl = false) (ha : at_ = 0) (hq : ty = 7) (hno : ¬ (P.length = 0 ∧ (st || ex) = true ∧ cn ≠ 0 ∧ L.length = cn)) :
    Calls Tryd.prog 11 #[.agg #[.int .i64 ix, .bool st, .bool ex, .slice co cn cc], .agg #[.int .u16 (fl : Int), .int .u16 (ty : Int), .int .u64 (ck : Int), .int .u64 (off : Int), .int .u64 (len : Int), d], .agg #[.int .u32 (cd : Int), .bool pl, .int .u64 (at_ : Int), .slice po P.length pc, .slice lo L.length lc]] w fun e w' => e = .returned (.int .i64 (eFit (fitB12 st ex cn ty off len cd pl at_ P L))) ∧ Below w.heap.size w w' := by
  have hp0 : P.length ≤ 1048576 := hP.len
  have hl0 : L.length ≤ 1048576 := hL.len
  have HC : Hid (cd = 0 ∧ pl = false ∧ at_ = 0 ∧ ty = 7) := ⟨hc, hp, ha, hq⟩
  have f1 : ((cd : Int) != 0) = false := by rw [bne_eq_false_iff_eq]; omega
  have f2 : ((at_ : Int) != 0) = false := by rw [bne_eq_false_iff_eq]; omega
  have f3 : ((ty : Int) == 0) = false := by rw [beq_eq_false_iff_ne]; omega
  have f5 : ((ty : Int) == 7) = true := by rw [beq_iff_eq]; omega
  generalize hF : fitB12 st ex cn ty off len cd pl at_ P L = F
  have HFd : Hid (F = fitB12 st ex cn ty off len cd pl at_ P L) := hF.symm
  clear hF hP
  have HS : Hid (¬ F = true) := by
    show ¬ F = true
    rw [HFd.out]; unfold fitB12; rw [if_neg (by simp [HC.out.1]), if_neg (by simp [HC.out.2.1, HC.out.2.2.1]), if_neg (by rw [HC.out.2.2.2]; decide), if_pos HC.out.2.2.2]
    intro hh
    simp only [Bool.and_eq_true, decide_eq_true_eq] at hh
    exact hno ⟨hh.1, hh.2.1, hh.2.2.1, hh.2.2.2.1⟩
  subst hp
  clear HFd hL hc ha hq
  generalize P.length = pn at *
  generalize L.length = ln at *
  go_enter Tryd.func11, Tryd.ntmps11
  rcases pn with _ | pn
  · rcases st with _ | _
    · rcases ex with _ | _
      · go_wp2
        all_goals
          go_ret
          exact ⟨eF HS.out, (mkb3 w _ _ _ _ _ _).bel⟩
      · by_cases h0 : cn = 0
        · go_wp2
          all_goals
            go_ret
            exact ⟨eF HS.out, (mkb3 w _ _ _ _ _ _).bel⟩
        · have h9 : ((ln : Int) != (cn : Int)) = true := by rw [bne_iff_ne]; intro h; exact hno ⟨rfl, rfl, h0, by omega⟩
          clear hno
          go_wp2
          all_goals
            go_ret
            exact ⟨eF HS.out, (mkb3 w _ _ _ _ _ _).bel⟩
    · by_cases h0 : cn = 0
      · go_wp2
        all_goals
          go_ret
          exact ⟨eF HS.out, (mkb3 w _ _ _ _ _ _).bel⟩
      · have h9 : ((ln : Int) != (cn : Int)) = true := by rw [bne_iff_ne]; intro h; exact hno ⟨rfl, rfl, h0, by omega⟩
        clear hno
        go_wp2
        all_goals
          go_ret
          exact ⟨eF HS.out, (mkb3 w _ _ _ _ _ _).bel⟩
  · go_wp2
    all_goals
      go_ret
      exact ⟨eF HS.out, (mkb3 w _ _ _ _ _ _).bel⟩
end Go.Proofs.YtefgdhoapmikhaaDoor
