import Derived.Test.YtjikibhhhchgeaaDoorY32
namespace Go.Proofs.YtjikibhhhchgeaaDoor
open Go.RowKit
set_option linter.unusedVariables false
set_option linter.unusedSimpArgs false
set_option maxRecDepth 100000
def emB (s : ByteArray) : Bool := decide (s.size = 0)
theorem em_eq (s : ByteArray) : s.toList.isEmpty = emB s := by
  rw [Lib.toList_data]
  have h : s.data.toList.length = s.size := by simp
  unfold emB
  cases hl : s.data.toList with
  | nil =>
    have h' : s.size = 0 := by rw [← h, hl]; rfl
    simp [h']
  | cons a t =>
    have h' : s.size ≠ 0 := by rw [← h, hl]; simp
    simp [h']
def exB (sz fl : Nat) : Bool := decide (sz = 0) && decide (fl = 0)
def blB (mn pf mx : Nat) : Bool := decide (mn = 0) && (decide (pf = 0) && decide (mx = 0))
/-- what an information of each kind may have -/
def ifB (k sz fl : Nat) (s : ByteArray) (mn pf mx n : Nat) : Bool :=
  if k = 0 then emB s && (blB mn pf mx && decide (n = 0))
  else if k = 1 ∨ k = 2 then exB sz fl && (tx s && (blB mn pf mx && decide (n = 0)))
  else if k = 3 then exB sz fl && (emB s && decide (n = 0))
  else exB sz fl && (emB s && blB mn pf mx)
set_option maxHeartbeats 4000000 in
theorem infoFits_any (k sz fl : Nat) (s : ByteArray) (mn pf mx : Nat) (da : Option Addr) (n dc : Nat) (w : World) (hs : s.size ≤ 9223372036854775807) (hT : Tabs w) :
    Calls Tryd.prog 89 #[.agg #[.int .u16 (k : Int), .int .u64 (sz : Int), .int .u16 (fl : Int), .string s, .int .u32 (mn : Int), .int .u32 (pf : Int), .int .u32 (mx : Int), .slice da n dc]] w fun e w' => e = .returned (.bool (ifB k sz fl s mn pf mx n)) ∧ Below w.heap.size w w' := by
  obtain ⟨bx, hbx⟩ : ∃ b, exB sz fl = b := ⟨_, rfl⟩
  obtain ⟨bt, hbt⟩ : ∃ b, emB s = b := ⟨_, rfl⟩
  obtain ⟨bb, hbb⟩ : ∃ b, blB mn pf mx = b := ⟨_, rfl⟩
  obtain ⟨bq, hbq⟩ : ∃ b, tx s = b := ⟨_, rfl⟩
  obtain ⟨bd, hbd⟩ : ∃ b, decide (n = 0) = b := ⟨_, rfl⟩
  have HX : Hid (∀ W, Below w.heap.size w W → Calls Tryd.prog 90 #[.string s] W fun e w' => e = .returned (.bool bq) ∧ Below W.heap.size W w') := fun W hb => by have h := isText_any s W hs (hT.later hb); rw [hbq] at h; exact h
  have HBX : Hid (exB sz fl = bx) := hbx
  have HBT : Hid (emB s = bt) := hbt
  have HBB : Hid (blB mn pf mx = bb) := hbb
  have HBQ : Hid (tx s = bq) := hbq
  have HBD : Hid (decide (n = 0) = bd) := hbd
  have e7 : ((n : Int) == 0) = bd := by rw [← hbd]; by_cases h : n = 0 <;> simp [h] <;> omega
  have e3 : s.toList.isEmpty = bt := by rw [em_eq, hbt]
  have hx := mkb1 w #[.int .u16 (k : Int), .int .u64 (sz : Int), .int .u16 (fl : Int), .string s, .int .u32 (mn : Int), .int .u32 (pf : Int), .int .u32 (mx : Int), .slice da n dc] 27
  clear hT hbx hbt hbb hbq hbd
  go_enter Tryd.func89, Tryd.ntmps89
  go_upto_region 1 with fail
  generalize w.alloc (Obj.cells #[.int .u16 (k : Int), .int .u64 (sz : Int), .int .u16 (fl : Int), .string s, .int .u32 (mn : Int), .int .u32 (pf : Int), .int .u32 (mx : Int), .slice da n dc] 27) = W1 at *
  have HY : Hid (Bx1 w W1 #[.int .u16 (k : Int), .int .u64 (sz : Int), .int .u16 (fl : Int), .string s, .int .u32 (mn : Int), .int .u32 (pf : Int), .int .u32 (mx : Int), .slice da n dc] 27) := hx
  clear hx
  have q0 := blk_at HY.out.a 0
  have q1 := blk_at HY.out.a 1
  have q2 := blk_at HY.out.a 2
  have q3 := blk_at HY.out.a 3
  have q4 := blk_at HY.out.a 4
  have q5 := blk_at HY.out.a 5
  have q6 := blk_at HY.out.a 6
  have q7 := blk_at HY.out.a 7
  simp at q0 q1 q2 q3 q4 q5 q6 q7
  go_cut [3] from 7 to 14 (fun v wc => v = .bool bx ∧ wc = W1)
  case first =>
    by_cases h1 : sz = 0
    · have e1 : ((sz : Int) == 0) = true := by simp [h1]
      have H1 : Hid (sz = 0) := h1
      clear h1
      have e2 : ((fl : Int) == 0) = decide (fl = 0) := by by_cases h : fl = 0 <;> simp [h] <;> omega
      go_wp2
      go_meet
      exact ⟨by rw [← HBX.out]; simp [exB, H1.out], rfl⟩
    · have e1 : ((sz : Int) == 0) = false := by rw [beq_eq_false_iff_ne]; omega
      have H1 : Hid (¬ sz = 0) := h1
      clear h1
      go_wp2
      go_meet
      exact ⟨by rw [← HBX.out]; simp [exB, H1.out], rfl⟩
  case rest =>
  obtain ⟨rfl, rfl⟩ := hcut
  go_upto_region 3 with fail
  go_cut [5] from 18 to 30 (fun v w' => v = .bool bb ∧ w' = wc)
  case first =>
    by_cases h1 : mn = 0
    · have e1 : ((mn : Int) == 0) = true := by simp [h1]
      have H1 : Hid (mn = 0) := h1
      clear h1
      by_cases h2 : pf = 0
      · have e2 : ((pf : Int) == 0) = true := by simp [h2]
        have H2 : Hid (pf = 0) := h2
        clear h2
        have e4 : ((mx : Int) == 0) = decide (mx = 0) := by by_cases h : mx = 0 <;> simp [h] <;> omega
        go_wp2
        go_meet
        exact ⟨by rw [← HBB.out]; simp [blB, H1.out, H2.out], rfl⟩
      · have e2 : ((pf : Int) == 0) = false := by rw [beq_eq_false_iff_ne]; omega
        have H2 : Hid (¬ pf = 0) := h2
        clear h2
        go_wp2
        go_meet
        exact ⟨by rw [← HBB.out]; simp [blB, H1.out, H2.out], rfl⟩
    · have e1 : ((mn : Int) == 0) = false := by rw [beq_eq_false_iff_ne]; omega
      have H1 : Hid (¬ mn = 0) := h1
      clear h1
      go_wp2
      go_meet
      exact ⟨by rw [← HBB.out]; simp [blB, H1.out], rfl⟩
  case rest =>
  obtain ⟨rfl, rfl⟩ := hcut
  by_cases h0 : k = 0
  · have hk := h0
    clear h0
    have t0 : ((k : Int) == 0) = true := by simp [hk]
    have t1 : ((k : Int) == 1) = false := by rw [beq_eq_false_iff_ne]; omega
    have t2 : ((k : Int) == 2) = false := by rw [beq_eq_false_iff_ne]; omega
    have t3 : ((k : Int) == 3) = false := by rw [beq_eq_false_iff_ne]; omega
    have HK : Hid (k = 0) := hk
    clear hk
    have HV : Hid (ifB k sz fl s mn pf mx n = (bt && (bb && bd))) := by show _ = _; simp [ifB, HK.out, HBT.out, HBB.out, HBD.out]
    clear HBX HBT HBB HBQ HBD HK
    cases bt <;> cases bb <;> (go_wp2; go_ret; exact ⟨by rw [HV.out]; simp, HY.out.bel⟩)
  by_cases h1 : k = 1
  · have hk := h1
    clear h1 h0
    have t0 : ((k : Int) == 0) = false := by rw [beq_eq_false_iff_ne]; omega
    have t1 : ((k : Int) == 1) = true := by simp [hk]
    have t2 : ((k : Int) == 2) = false := by rw [beq_eq_false_iff_ne]; omega
    have t3 : ((k : Int) == 3) = false := by rw [beq_eq_false_iff_ne]; omega
    have HK : Hid (k = 1) := hk
    clear hk
    go_wp2_with fail
    refine (HX.out _ HY.out.bel).mono ?_
    rintro e W5 ⟨rfl, hb5⟩
    have HB5 : Hid (Below w.heap.size w W5) := HY.out.bel.trans (hb5.mono HY.out.bel.size)
    clear hb5 HX
    have HV : Hid (ifB k sz fl s mn pf mx n = (bx && (bq && (bb && bd)))) := by show _ = _; simp [ifB, HK.out, HBX.out, HBB.out, HBQ.out, HBD.out]
    clear HBX HBT HBB HBQ HBD HK
    cases bx <;> cases bq <;> cases bb <;> (go_wp2; go_ret; exact ⟨by rw [HV.out]; simp, HB5.out⟩)
  by_cases h2 : k = 2
  · have hk := h2
    clear h2 h1 h0
    have t0 : ((k : Int) == 0) = false := by rw [beq_eq_false_iff_ne]; omega
    have t1 : ((k : Int) == 1) = false := by rw [beq_eq_false_iff_ne]; omega
    have t2 : ((k : Int) == 2) = true := by simp [hk]
    have t3 : ((k : Int) == 3) = false := by rw [beq_eq_false_iff_ne]; omega
    have HK : Hid (k = 2) := hk
    clear hk
    go_wp2_with fail
    refine (HX.out _ HY.out.bel).mono ?_
    rintro e W5 ⟨rfl, hb5⟩
    have HB5 : Hid (Below w.heap.size w W5) := HY.out.bel.trans (hb5.mono HY.out.bel.size)
    clear hb5 HX
    have HV : Hid (ifB k sz fl s mn pf mx n = (bx && (bq && (bb && bd)))) := by show _ = _; simp [ifB, HK.out, HBX.out, HBB.out, HBQ.out, HBD.out]
    clear HBX HBT HBB HBQ HBD HK
    cases bx <;> cases bq <;> cases bb <;> (go_wp2; go_ret; exact ⟨by rw [HV.out]; simp, HB5.out⟩)
  by_cases h3 : k = 3
  · have hk := h3
    clear h3 h2 h1 h0
    have t0 : ((k : Int) == 0) = false := by rw [beq_eq_false_iff_ne]; omega
    have t1 : ((k : Int) == 1) = false := by rw [beq_eq_false_iff_ne]; omega
    have t2 : ((k : Int) == 2) = false := by rw [beq_eq_false_iff_ne]; omega
    have t3 : ((k : Int) == 3) = true := by simp [hk]
    have HK : Hid (k = 3) := hk
    clear hk
    have HV : Hid (ifB k sz fl s mn pf mx n = (bx && (bt && bd))) := by show _ = _; simp [ifB, HK.out, HBX.out, HBT.out, HBD.out]
    clear HBX HBT HBB HBQ HBD HK
    cases bx <;> cases bt <;> (go_wp2; go_ret; exact ⟨by rw [HV.out]; simp, HY.out.bel⟩)
  have hk : ¬ k = 0 ∧ ¬ k = 1 ∧ ¬ k = 2 ∧ ¬ k = 3 := ⟨h0, h1, h2, h3⟩
  clear h3 h2 h1 h0
  have t0 : ((k : Int) == 0) = false := by rw [beq_eq_false_iff_ne]; omega
  have t1 : ((k : Int) == 1) = false := by rw [beq_eq_false_iff_ne]; omega
  have t2 : ((k : Int) == 2) = false := by rw [beq_eq_false_iff_ne]; omega
  have t3 : ((k : Int) == 3) = false := by rw [beq_eq_false_iff_ne]; omega
  have HK : Hid (¬ k = 0 ∧ ¬ k = 1 ∧ ¬ k = 2 ∧ ¬ k = 3) := hk
  clear hk
  have HV : Hid (ifB k sz fl s mn pf mx n = (bx && (bt && bb))) := by show _ = _; simp [ifB, HK.out.1, HK.out.2.1, HK.out.2.2.1, HK.out.2.2.2, HBX.out, HBT.out, HBB.out]
  clear HBX HBT HBB HBQ HBD HK
  cases bx <;> cases bt <;> cases bb <;> (go_wp2; go_ret; exact ⟨by rw [HV.out]; simp, HY.out.bel⟩)
end Go.Proofs.YtjikibhhhchgeaaDoor
