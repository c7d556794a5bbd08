import Derived.Test.YtefgdhoapmikhaaDoorRpH
namespace Go.Proofs.YtefgdhoapmikhaaDoor
open Go.RowKit
set_option linter.unusedVariables false
set_option linter.unusedSimpArgs false
set_option maxRecDepth 100000
set_option maxHeartbeats 2000000 in
theorem rfits_status_yes (ix : Int) (st ex : Bool) (co : Option Addr) (cn cc : Nat) (fl ty ck off len : Nat) (d : Value) (cd : Nat) (pl : Bool) (at_ : Nat) (po : Option Addr) (pc : Nat) (P : List Pc) (b lo : Nat) (lc : Nat) (L : List Ls) (w : World)
    (hcn : cn ≤ 1048576) (hty : ty < 65536) (hP : PRow w po P) (hL : LRow w (some ⟨b, lo, none⟩) L) (h1 : off < 18446744073709551616) (h2 : len < 18446744073709551616) (h3 : at_ < 18446744073709551616) (h4 : cd < 4294967296) (hc : cd = 0) (hp : pl = false) (ha : at_ = 0) (hq : ty = 7) (hP0 : P.length = 0) (hse : (st || ex) = true) (hc0 : cn ≠ 0) (hlc : L.length = cn) :
    Calls Tryd.prog 11 #[.agg #[.int .i64 ix, .bool st, .bool ex, .slice co cn cc], .agg #[.int .u16 (fl : Int), .int .u16 (ty : Int), .int .u64 (ck : Int), .int .u64 (off : Int), .int .u64 (len : Int), d], .agg #[.int .u32 (cd : Int), .bool pl, .int .u64 (at_ : Int), .slice po P.length pc, .slice (some ⟨b, lo, none⟩) L.length lc]] w fun e w' => e = .returned (.int .i64 (eFit (fitB12 st ex cn ty off len cd pl at_ P L))) ∧ Below w.heap.size w w' := by
  have hp0 : P.length ≤ 1048576 := hP.len
  have hl0 : L.length ≤ 1048576 := hL.len
  have HC : Hid (cd = 0 ∧ pl = false ∧ at_ = 0 ∧ ty = 7) := ⟨hc, hp, ha, hq⟩
  have f1 : ((cd : Int) != 0) = false := by rw [bne_eq_false_iff_eq]; omega
  have f2 : ((at_ : Int) != 0) = false := by rw [bne_eq_false_iff_eq]; omega
  have f3 : ((ty : Int) == 0) = false := by rw [beq_eq_false_iff_ne]; omega
  have f5 : ((ty : Int) == 7) = true := by rw [beq_iff_eq]; omega
  have HR : Hid (LRow w (some ⟨b, lo, none⟩) L) := hL
  generalize hF : fitB12 st ex cn ty off len cd pl at_ P L = F
  have HFd : Hid (F = fitB12 st ex cn ty off len cd pl at_ P L) := hF.symm
  have HS : Hid (F = listsB len ex L) := by
    show F = listsB len ex L
    rw [HFd.out]; unfold fitB12; rw [if_neg (by simp [HC.out.1]), if_neg (by simp [HC.out.2.1, HC.out.2.2.1]), if_neg (by rw [HC.out.2.2.2]; decide), if_pos HC.out.2.2.2]
    rw [hse]; simp [hP0, hc0, hlc]
  clear hF hP hL HFd
  subst hp
  rw [hP0]
  generalize hn : L.length = n at *
  have HN : Hid (L.length = n) := hn
  clear hn hP0 hp0 hc ha hq
  subst hlc
  have hz : ((n : Int) == 0) = false := by rw [beq_eq_false_iff_ne]; omega
  have hz2 : ((n : Int) != (n : Int)) = false := by simp
  have hw : st = true ∨ st = false ∧ ex = true := by revert hse; cases st <;> cases ex <;> simp
  clear hse hc0
  go_enter Tryd.func11, Tryd.ntmps11
  rcases hw with rfl | ⟨rfl, rfl⟩
  · go_wp2
    have hx : Bx3 w (((w.alloc (Obj.cells #[.int .i64 ix, .bool true, .bool ex, .slice co n cc] 24)).alloc (Obj.cells #[.int .u16 (fl : Int), .int .u16 (ty : Int), .int .u64 (ck : Int), .int .u64 (off : Int), .int .u64 (len : Int), d] 29)).alloc (Obj.cells #[.int .u32 (cd : Int), .bool false, .int .u64 (at_ : Int), .slice po 0 pc, .slice (some ⟨b, lo, none⟩) n lc] 34)) #[.int .i64 ix, .bool true, .bool ex, .slice co n cc] #[.int .u16 (fl : Int), .int .u16 (ty : Int), .int .u64 (ck : Int), .int .u64 (off : Int), .int .u64 (len : Int), d] #[.int .u32 (cd : Int), .bool false, .int .u64 (at_ : Int), .slice po 0 pc, .slice (some ⟨b, lo, none⟩) n lc] 24 29 34 := mkb3 w _ _ _ _ _ _
    generalize (((w.alloc (Obj.cells #[.int .i64 ix, .bool true, .bool ex, .slice co n cc] 24)).alloc (Obj.cells #[.int .u16 (fl : Int), .int .u16 (ty : Int), .int .u64 (ck : Int), .int .u64 (off : Int), .int .u64 (len : Int), d] 29)).alloc (Obj.cells #[.int .u32 (cd : Int), .bool false, .int .u64 (at_ : Int), .slice po 0 pc, .slice (some ⟨b, lo, none⟩) n lc] 34)) = W0 at *
    have HX : Hid (Bx3 w W0 #[.int .i64 ix, .bool true, .bool ex, .slice co n cc] #[.int .u16 (fl : Int), .int .u16 (ty : Int), .int .u64 (ck : Int), .int .u64 (off : Int), .int .u64 (len : Int), d] #[.int .u32 (cd : Int), .bool false, .int .u64 (at_ : Int), .slice po 0 pc, .slice (some ⟨b, lo, none⟩) n lc] 24 29 34) := hx
    clear hx
    go_loopw [7] (fun i wr => ∃ k : Nat, k ≤ n ∧ i = .int .i64 (k : Int) ∧ Bx3 w wr #[.int .i64 ix, .bool true, .bool ex, .slice co n cc] #[.int .u16 (fl : Int), .int .u16 (ty : Int), .int .u64 (ck : Int), .int .u64 (off : Int), .int .u64 (len : Int), d] #[.int .u32 (cd : Int), .bool false, .int .u64 (at_ : Int), .slice po 0 pc, .slice (some ⟨b, lo, none⟩) n lc] 24 29 34 ∧ listsB len ex L = listsB len ex (L.drop k)) (fun i _ => n - (intOf i).toNat)
    case atStart => exact ⟨0, Nat.zero_le _, rfl, HX.out, rfl⟩
    case round =>
      obtain ⟨k, hk, rfl, hbw, he⟩ := hrel
      have HE : Hid (listsB len ex L = listsB len ex (L.drop k)) := he
      have HB : Hid (Bx3 w wr #[.int .i64 ix, .bool true, .bool ex, .slice co n cc] #[.int .u16 (fl : Int), .int .u16 (ty : Int), .int .u64 (ck : Int), .int .u64 (off : Int), .int .u64 (len : Int), d] #[.int .u32 (cd : Int), .bool false, .int .u64 (at_ : Int), .slice po 0 pc, .slice (some ⟨b, lo, none⟩) n lc] 24 29 34) := hbw
      have o4 : wr.cell? ⟨w.heap.size + 1 + 1, 4, none⟩ = some (.slice (some ⟨b, lo, none⟩) n lc) := by rw [blk_at hbw.c]; rfl
      clear he HX
      by_cases hlt : k < n
      · have hkl : k < L.length := by rw [HN.out]; exact hlt
        have hrow : LRow wr (some ⟨b, lo, none⟩) L := HR.out.later hbw.bel
        have g0 := hrow.cell b lo rfl k hkl
        have hst := lists_step len ex L k hkl
        have hro := (hrow.row _ (List.getElem_mem hkl)).1
        have r4 : wr.cell? ⟨w.heap.size + 1, 4, none⟩ = some (.int .u64 (len : Int)) := by rw [blk_at hbw.b]; rfl
        have r2 : wr.cell? ⟨w.heap.size, 2, none⟩ = some (.bool ex) := by rw [blk_at hbw.a]; rfl
        rw [hst] at HE
        generalize L[k] = p at *
        obtain ⟨ao, cap, l⟩ := p
        have HF : Hid (∀ q, Calls Tryd.prog 35 #[.slice ao l.length cap, .int .u64 (len : Int), .bool ex] (wr.drewN q) fun e w' => e = .returned (.bool (runsB len ex l)) ∧ w' = wr.drewN q) := fun q => covers_any ao cap len ex l _ (hro.later (below_drewN wr q)) h2
        have hl0 : l.length ≤ 1048576 := hro.len
        simp only at g0 HE
        clear hst hrow hbw hro
        generalize runsB len ex l = R at *
        generalize l.length = m at *
        rcases R with _ | _
        · go_wp2
          go_quiet (first | (go_at_call 35; exact Calls.quiet_of_same (HF.out _)) | fail)
          go_wp2
          go_ret
          exact ⟨eF (by rw [HS.out, HE.out]; simp), HB.out.bel.trans ⟨rfl, rfl, rfl, Nat.le_refl _, fun _ _ => rfl⟩⟩
        · go_wp2
          go_quiet (first | (go_at_call 35; exact Calls.quiet_of_same (HF.out _)) | fail)
          go_wp2
          go_roundw
          case rel => exact ⟨k + 1, by omega, by go_num, HB.out.drewN _, by rw [HE.out]; rfl⟩
          case measure => simp [intOf]; omega
      · have HZ : Hid (L.drop k = []) := List.drop_eq_nil_of_le (by rw [HN.out]; omega)
        go_wp2
        go_ret
        exact ⟨eT (by rw [HS.out, HE.out, HZ.out]; rfl), HB.out.bel⟩
  · go_wp2
    have hx : Bx3 w (((w.alloc (Obj.cells #[.int .i64 ix, .bool false, .bool true, .slice co n cc] 24)).alloc (Obj.cells #[.int .u16 (fl : Int), .int .u16 (ty : Int), .int .u64 (ck : Int), .int .u64 (off : Int), .int .u64 (len : Int), d] 29)).alloc (Obj.cells #[.int .u32 (cd : Int), .bool false, .int .u64 (at_ : Int), .slice po 0 pc, .slice (some ⟨b, lo, none⟩) n lc] 34)) #[.int .i64 ix, .bool false, .bool true, .slice co n cc] #[.int .u16 (fl : Int), .int .u16 (ty : Int), .int .u64 (ck : Int), .int .u64 (off : Int), .int .u64 (len : Int), d] #[.int .u32 (cd : Int), .bool false, .int .u64 (at_ : Int), .slice po 0 pc, .slice (some ⟨b, lo, none⟩) n lc] 24 29 34 := mkb3 w _ _ _ _ _ _
    generalize (((w.alloc (Obj.cells #[.int .i64 ix, .bool false, .bool true, .slice co n cc] 24)).alloc (Obj.cells #[.int .u16 (fl : Int), .int .u16 (ty : Int), .int .u64 (ck : Int), .int .u64 (off : Int), .int .u64 (len : Int), d] 29)).alloc (Obj.cells #[.int .u32 (cd : Int), .bool false, .int .u64 (at_ : Int), .slice po 0 pc, .slice (some ⟨b, lo, none⟩) n lc] 34)) = W0 at *
    have HX : Hid (Bx3 w W0 #[.int .i64 ix, .bool false, .bool true, .slice co n cc] #[.int .u16 (fl : Int), .int .u16 (ty : Int), .int .u64 (ck : Int), .int .u64 (off : Int), .int .u64 (len : Int), d] #[.int .u32 (cd : Int), .bool false, .int .u64 (at_ : Int), .slice po 0 pc, .slice (some ⟨b, lo, none⟩) n lc] 24 29 34) := hx
    clear hx
    go_loopw [7] (fun i wr => ∃ k : Nat, k ≤ n ∧ i = .int .i64 (k : Int) ∧ Bx3 w wr #[.int .i64 ix, .bool false, .bool true, .slice co n cc] #[.int .u16 (fl : Int), .int .u16 (ty : Int), .int .u64 (ck : Int), .int .u64 (off : Int), .int .u64 (len : Int), d] #[.int .u32 (cd : Int), .bool false, .int .u64 (at_ : Int), .slice po 0 pc, .slice (some ⟨b, lo, none⟩) n lc] 24 29 34 ∧ listsB len true L = listsB len true (L.drop k)) (fun i _ => n - (intOf i).toNat)
    case atStart => exact ⟨0, Nat.zero_le _, rfl, HX.out, rfl⟩
    case round =>
      obtain ⟨k, hk, rfl, hbw, he⟩ := hrel
      have HE : Hid (listsB len true L = listsB len true (L.drop k)) := he
      have HB : Hid (Bx3 w wr #[.int .i64 ix, .bool false, .bool true, .slice co n cc] #[.int .u16 (fl : Int), .int .u16 (ty : Int), .int .u64 (ck : Int), .int .u64 (off : Int), .int .u64 (len : Int), d] #[.int .u32 (cd : Int), .bool false, .int .u64 (at_ : Int), .slice po 0 pc, .slice (some ⟨b, lo, none⟩) n lc] 24 29 34) := hbw
      have o4 : wr.cell? ⟨w.heap.size + 1 + 1, 4, none⟩ = some (.slice (some ⟨b, lo, none⟩) n lc) := by rw [blk_at hbw.c]; rfl
      clear he HX
      by_cases hlt : k < n
      · have hkl : k < L.length := by rw [HN.out]; exact hlt
        have hrow : LRow wr (some ⟨b, lo, none⟩) L := HR.out.later hbw.bel
        have g0 := hrow.cell b lo rfl k hkl
        have hst := lists_step len true L k hkl
        have hro := (hrow.row _ (List.getElem_mem hkl)).1
        have r4 : wr.cell? ⟨w.heap.size + 1, 4, none⟩ = some (.int .u64 (len : Int)) := by rw [blk_at hbw.b]; rfl
        have r2 : wr.cell? ⟨w.heap.size, 2, none⟩ = some (.bool true) := by rw [blk_at hbw.a]; rfl
        rw [hst] at HE
        generalize L[k] = p at *
        obtain ⟨ao, cap, l⟩ := p
        have HF : Hid (∀ q, Calls Tryd.prog 35 #[.slice ao l.length cap, .int .u64 (len : Int), .bool true] (wr.drewN q) fun e w' => e = .returned (.bool (runsB len true l)) ∧ w' = wr.drewN q) := fun q => covers_any ao cap len true l _ (hro.later (below_drewN wr q)) h2
        have hl0 : l.length ≤ 1048576 := hro.len
        simp only at g0 HE
        clear hst hrow hbw hro
        generalize runsB len true l = R at *
        generalize l.length = m at *
        rcases R with _ | _
        · go_wp2
          go_quiet (first | (go_at_call 35; exact Calls.quiet_of_same (HF.out _)) | fail)
          go_wp2
          go_ret
          exact ⟨eF (by rw [HS.out, HE.out]; simp), HB.out.bel.trans ⟨rfl, rfl, rfl, Nat.le_refl _, fun _ _ => rfl⟩⟩
        · go_wp2
          go_quiet (first | (go_at_call 35; exact Calls.quiet_of_same (HF.out _)) | fail)
          go_wp2
          go_roundw
          case rel => exact ⟨k + 1, by omega, by go_num, HB.out.drewN _, by rw [HE.out]; rfl⟩
          case measure => simp [intOf]; omega
      · have HZ : Hid (L.drop k = []) := List.drop_eq_nil_of_le (by rw [HN.out]; omega)
        go_wp2
        go_ret
        exact ⟨eT (by rw [HS.out, HE.out, HZ.out]; rfl), HB.out.bel⟩
theorem rFits_any (ix : Int) (st ex : Bool) (co : Option Addr) (cn cc : Nat) (fl ty ck off len : Nat) (d : Value) (cd : Nat) (pl : Bool) (at_ : Nat) (po : Option Addr) (pc : Nat) (P : List Pc) (lo : Option Addr) (lc : Nat) (L : List Ls) (w : World)
    (hcn : cn ≤ 1048576) (hty : ty < 65536) (hP : PRow w po P) (hL : LRow w lo L) (h1 : off < 18446744073709551616) (h2 : len < 18446744073709551616) (h3 : at_ < 18446744073709551616) (h4 : cd < 4294967296) :
    Calls Tryd.prog 11 #[.agg #[.int .i64 ix, .bool st, .bool ex, .slice co cn cc], .agg #[.int .u16 (fl : Int), .int .u16 (ty : Int), .int .u64 (ck : Int), .int .u64 (off : Int), .int .u64 (len : Int), d], .agg #[.int .u32 (cd : Int), .bool pl, .int .u64 (at_ : Int), .slice po P.length pc, .slice lo L.length lc]] w fun e w' => e = .returned (.int .i64 (eFit (fitB12 st ex cn ty off len cd pl at_ P L))) ∧ Below w.heap.size w w' := by
  by_cases hc : cd = 0
  · by_cases hq : pl = true ∨ at_ ≠ 0
    · exact rfits_place ix st ex co cn cc fl ty ck off len d cd pl at_ po pc P lo lc L w hcn hty hP hL h1 h2 h3 h4 hc hq
    · have hp : pl = false := by
        cases pl
        · rfl
        · exact absurd (Or.inl rfl) hq
      have ha : at_ = 0 := by
        by_cases h : at_ = 0
        · exact h
        · exact absurd (Or.inr h) hq
      by_cases h0 : ty = 0
      · exact rfits_read ix st ex co cn cc fl ty ck off len d cd pl at_ po pc P lo lc L w hcn hty hP hL h1 h2 h3 h4 hc hp ha h0
      · by_cases h7 : ty = 7
        · by_cases hy : P.length = 0 ∧ (st || ex) = true ∧ cn ≠ 0 ∧ L.length = cn
          · obtain ⟨y1, y2, y3, y4⟩ := hy
            obtain ⟨b, o, rfl, _⟩ := hL.at_ (by intro h0; rw [h0] at y4; simp at y4; omega)
            exact rfits_status_yes ix st ex co cn cc fl ty ck off len d cd pl at_ po pc P b o lc L w hcn hty hP hL h1 h2 h3 h4 hc hp ha h7 y1 y2 y3 y4
          · exact rfits_status_no ix st ex co cn cc fl ty ck off len d cd pl at_ po pc P lo lc L w hcn hty hP hL h1 h2 h3 h4 hc hp ha h7 hy
        · exact rfits_other ix st ex co cn cc fl ty ck off len d cd pl at_ po pc P lo lc L w hcn hty hP hL h1 h2 h3 h4 hc hp ha ⟨h0, h7⟩
  · exact rfits_code ix st ex co cn cc fl ty ck off len d cd pl at_ po pc P lo lc L w hcn hty hP hL h1 h2 h3 h4 hc
end Go.Proofs.YtefgdhoapmikhaaDoor
