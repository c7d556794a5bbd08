import Derived.Test.YtjikibhhhchgeaaDoorPPn
import Derived.Deep.RegionHeld3
namespace Go.Proofs.YtjikibhhhchgeaaDoor
open Go.RowKit
set_option linter.unusedVariables false
set_option linter.unusedSimpArgs false
set_option maxRecDepth 100000
set_option maxHeartbeats 80000000 in
theorem rMetaReq_no (s : ByteArray) (qa : Option Addr) (k qc : Nat) (qs : List ByteArray) (w : World) (hq : Strs w qa qs) (hks : qs.length = k) (hk : k ≤ 1048576) (htx : txs qs = false) (ht : tx s = true) :
    Calls Tryd.prog 40 #[.agg #[.string s, .slice qa k qc]] w fun e w' => Pk w [] 81 e w' := by
  obtain ⟨i0, hi, hz0, hz1, hz2⟩ := info_parts Tryd.info5
  obtain ⟨hs4, _⟩ := tx_true ht
  have HI : Hid (∀ W, Calls Tryd.prog 96 #[.string s] W fun e w' => e = .returned (.bool true) ∧ Below W.heap.size W w') := fun W => by have h := rText_any s W (by omega); rw [ht] at h; exact h
  have hws : IntKind.u64.wrap ((s.size : Nat) : Int) = ((s.size : Nat) : Int) := by rw [IntKind.wrap_u64]; omega
  have hwk : IntKind.u64.wrap (k : Int) = (k : Int) := by rw [IntKind.wrap_u64]; omega
  have HQ : Hid (Strs w qa qs) := hq
  have HKs : Hid (qs.length = k) := hks
  have HTX : Hid (txs qs = false) := htx
  
  clear hq hks htx ht
  have hx := mkb1 w #[.string s, .slice qa k qc] 33
  go_enter Tryd.func40, Tryd.ntmps40
  go_wp2_with fail
  generalize w.alloc (Obj.cells #[.string s, .slice qa k qc] 33) = W0 at *
  refine (HI.out _).mono ?_
  rintro e W1 ⟨rfl, hb⟩
  have HY : Hid (Bx1 w W1 #[.string s, .slice qa k qc] 33) := hx.later hb
  clear hx hb HI
  go_wp2
  go_loopw [4] (fun iv wr => ∃ j : Nat, j ≤ k ∧ iv = .int .i64 (j : Nat) ∧ Hid (Below W1.heap.size W1 wr ∧ txs (qs.take j) = true)) (fun iv _ => k - (intOf iv).toNat)
  case atStart => exact ⟨0, Nat.zero_le _, rfl, Below.refl _ _, by simp [txs]⟩
  case round =>
    obtain ⟨j, hj, rfl, HE⟩ := hrel
    have hbox := box_later HY.out.a HE.out.1
    have q1 := blk_at hbox 1
    have q0 := blk_at hbox 0
    simp at q0 q1
    have HBX : Hid (wr.heap[w.heap.size]? = some (.cells #[.string s, .slice qa k qc] 33 (0, 0))) := hbox
    have HBw : Hid (Below w.heap.size w wr) := HY.out.bel.trans (HE.out.1.mono HY.out.bel.size)
    clear hbox
    by_cases hlt : j < k
    · have hne : qs ≠ [] := by rintro rfl; have := HKs.out; simp at this; omega
      obtain ⟨b, off, rfl, hrow⟩ := (HQ.out.later HBw.out).at_ hne
      have hjl : j < qs.length := by rw [HKs.out]; exact hlt
      have hcell := hrow j hjl
      have hsz := HQ.out.sz qs[j] (List.getElem_mem hjl)
      have HT1 : Hid (tx qs[j] = true → txs (qs.take (j + 1)) = true) := txs_take HE.out.2 hjl
      have HT0 : Hid (tx qs[j] = false → txs qs = false) := txs_bad hjl
      have HX : Hid (∀ W, Calls Tryd.prog 96 #[.string qs[j]] W fun e w' => e = .returned (.bool (tx qs[j])) ∧ Below W.heap.size W w') := fun W => rText_any qs[j] W hsz
      generalize qs[j] = q at *
      clear hrow hne hsz
      cases htq : tx q with
      | true =>
        rw [htq] at HX
        have HB1 := HT1.out htq
        clear htq HT1 HT0
        go_wp2_with fail
        refine (HX.out _).mono ?_
        rintro e W2 ⟨rfl, hb⟩
        have HN1 : Hid (Below W1.heap.size W1 W2 ∧ txs (qs.take (j + 1)) = true) := ⟨HE.out.1.trans (hb.mono HE.out.1.size), HB1⟩
        clear hb HX hcell
        go_wp2
        go_roundw
        case rel => exact ⟨j + 1, by omega, by go_num, HN1⟩
        case measure => simp [intOf]; omega
      | false =>
        rw [htq] at HX
        clear htq HT1 HT0
        go_wp2_with fail
        refine (HX.out _).mono ?_
        rintro e W2 ⟨rfl, hb⟩
        have HN1 : Hid (Below w.heap.size w W2) := HBw.out.trans (hb.mono HBw.out.size)
        clear hb HX hcell
        go_wp2
        go_ret2
        exact pk_none HN1.out
    · exfalso
      have e1 : qs.take j = qs := List.take_of_length_le (by rw [HKs.out]; omega)
      have h2 := HE.out.2
      rw [e1, HTX.out] at h2
      cases h2
set_option maxHeartbeats 80000000 in
theorem rMetaReq_many (s : ByteArray) (qa : Option Addr) (k qc : Nat) (qs : List ByteArray) (w : World) (hq : Strs w qa qs) (hks : qs.length = k) (hk : k ≤ 1048576) (hk2 : 16 < k) (htx : txs qs = true) (ht : tx s = true) :
    Calls Tryd.prog 40 #[.agg #[.string s, .slice qa k qc]] w fun e w' => Pk w [] 170 e w' := by
  obtain ⟨i0, hi, hz0, hz1, hz2⟩ := info_parts Tryd.info5
  obtain ⟨hs4, _⟩ := tx_true ht
  have HI : Hid (∀ W, Calls Tryd.prog 96 #[.string s] W fun e w' => e = .returned (.bool true) ∧ Below W.heap.size W w') := fun W => by have h := rText_any s W (by omega); rw [ht] at h; exact h
  have hws : IntKind.u64.wrap ((s.size : Nat) : Int) = ((s.size : Nat) : Int) := by rw [IntKind.wrap_u64]; omega
  have hwk : IntKind.u64.wrap (k : Int) = (k : Int) := by rw [IntKind.wrap_u64]; omega
  have HQ : Hid (Strs w qa qs) := hq
  have HKs : Hid (qs.length = k) := hks
  have HTX : Hid (txs qs = true) := htx
  have f16 : decide ((16 : Int) < (k : Int)) = true := by simp; omega
  clear hq hks htx ht
  have hx := mkb1 w #[.string s, .slice qa k qc] 33
  go_enter Tryd.func40, Tryd.ntmps40
  go_wp2_with fail
  generalize w.alloc (Obj.cells #[.string s, .slice qa k qc] 33) = W0 at *
  refine (HI.out _).mono ?_
  rintro e W1 ⟨rfl, hb⟩
  have HY : Hid (Bx1 w W1 #[.string s, .slice qa k qc] 33) := hx.later hb
  clear hx hb HI
  go_wp2
  go_loopw [4] (fun iv wr => ∃ j : Nat, j ≤ k ∧ iv = .int .i64 (j : Nat) ∧ Hid (Below W1.heap.size W1 wr ∧ txs (qs.take j) = true)) (fun iv _ => k - (intOf iv).toNat)
  case atStart => exact ⟨0, Nat.zero_le _, rfl, Below.refl _ _, by simp [txs]⟩
  case round =>
    obtain ⟨j, hj, rfl, HE⟩ := hrel
    have hbox := box_later HY.out.a HE.out.1
    have q1 := blk_at hbox 1
    have q0 := blk_at hbox 0
    simp at q0 q1
    have HBX : Hid (wr.heap[w.heap.size]? = some (.cells #[.string s, .slice qa k qc] 33 (0, 0))) := hbox
    have HBw : Hid (Below w.heap.size w wr) := HY.out.bel.trans (HE.out.1.mono HY.out.bel.size)
    clear hbox
    by_cases hlt : j < k
    · have hne : qs ≠ [] := by rintro rfl; have := HKs.out; simp at this; omega
      obtain ⟨b, off, rfl, hrow⟩ := (HQ.out.later HBw.out).at_ hne
      have hjl : j < qs.length := by rw [HKs.out]; exact hlt
      have hcell := hrow j hjl
      have hsz := HQ.out.sz qs[j] (List.getElem_mem hjl)
      have HT1 : Hid (tx qs[j] = true → txs (qs.take (j + 1)) = true) := txs_take HE.out.2 hjl
      have HT0 : Hid (tx qs[j] = false → txs qs = false) := txs_bad hjl
      have HX : Hid (∀ W, Calls Tryd.prog 96 #[.string qs[j]] W fun e w' => e = .returned (.bool (tx qs[j])) ∧ Below W.heap.size W w') := fun W => rText_any qs[j] W hsz
      generalize qs[j] = q at *
      clear hrow hne hsz
      cases htq : tx q with
      | true =>
        rw [htq] at HX
        have HB1 := HT1.out htq
        clear htq HT1 HT0
        go_wp2_with fail
        refine (HX.out _).mono ?_
        rintro e W2 ⟨rfl, hb⟩
        have HN1 : Hid (Below W1.heap.size W1 W2 ∧ txs (qs.take (j + 1)) = true) := ⟨HE.out.1.trans (hb.mono HE.out.1.size), HB1⟩
        clear hb HX hcell
        go_wp2
        go_roundw
        case rel => exact ⟨j + 1, by omega, by go_num, HN1⟩
        case measure => simp [intOf]; omega
      | false =>
        exfalso
        have h1 := HT0.out htq
        rw [HTX.out] at h1
        cases h1
    · have n6 : decide ((j : Int) < (k : Int)) = false := by simp; omega
      go_wp2
      go_ret2
      exact pk_none HBw.out
set_option maxHeartbeats 80000000 in
theorem rMetaReq_ok (s : ByteArray) (qa : Option Addr) (k qc : Nat) (qs : List ByteArray) (w : World) (hq : Strs w qa qs) (hks : qs.length = k) (hk : k ≤ 16) (htx : txs qs = true) (ht : tx s = true) :
    Calls Tryd.prog 40 #[.agg #[.string s, .slice qa k qc]] w fun e w' => Pk w (mqL s qs) 0 e w' := by
  obtain ⟨i0, hi, hz0, hz1, hz2⟩ := info_parts Tryd.info5
  obtain ⟨hs4, _⟩ := tx_true ht
  have HI : Hid (∀ W, Calls Tryd.prog 96 #[.string s] W fun e w' => e = .returned (.bool true) ∧ Below W.heap.size W w') := fun W => by have h := rText_any s W (by omega); rw [ht] at h; exact h
  have hws : IntKind.u64.wrap ((s.size : Nat) : Int) = ((s.size : Nat) : Int) := by rw [IntKind.wrap_u64]; omega
  have hwk : IntKind.u64.wrap (k : Int) = (k : Int) := by rw [IntKind.wrap_u64]; omega
  have HQ : Hid (Strs w qa qs) := hq
  have HKs : Hid (qs.length = k) := hks
  have HTX : Hid (txs qs = true) := htx
  have f16 : decide ((16 : Int) < (k : Int)) = false := by simp; omega
  clear hq hks htx ht
  have hx := mkb1 w #[.string s, .slice qa k qc] 33
  go_enter Tryd.func40, Tryd.ntmps40
  go_wp2_with fail
  generalize w.alloc (Obj.cells #[.string s, .slice qa k qc] 33) = W0 at *
  refine (HI.out _).mono ?_
  rintro e W1 ⟨rfl, hb⟩
  have HY : Hid (Bx1 w W1 #[.string s, .slice qa k qc] 33) := hx.later hb
  clear hx hb HI
  go_wp2
  go_loopw [4] (fun iv wr => ∃ j : Nat, j ≤ k ∧ iv = .int .i64 (j : Nat) ∧ Hid (Below W1.heap.size W1 wr ∧ txs (qs.take j) = true)) (fun iv _ => k - (intOf iv).toNat)
  case atStart => exact ⟨0, Nat.zero_le _, rfl, Below.refl _ _, by simp [txs]⟩
  case round =>
    obtain ⟨j, hj, rfl, HE⟩ := hrel
    have hbox := box_later HY.out.a HE.out.1
    have q1 := blk_at hbox 1
    have q0 := blk_at hbox 0
    simp at q0 q1
    have HBX : Hid (wr.heap[w.heap.size]? = some (.cells #[.string s, .slice qa k qc] 33 (0, 0))) := hbox
    have HBw : Hid (Below w.heap.size w wr) := HY.out.bel.trans (HE.out.1.mono HY.out.bel.size)
    clear hbox
    by_cases hlt : j < k
    · have hne : qs ≠ [] := by rintro rfl; have := HKs.out; simp at this; omega
      obtain ⟨b, off, rfl, hrow⟩ := (HQ.out.later HBw.out).at_ hne
      have hjl : j < qs.length := by rw [HKs.out]; exact hlt
      have hcell := hrow j hjl
      have hsz := HQ.out.sz qs[j] (List.getElem_mem hjl)
      have HT1 : Hid (tx qs[j] = true → txs (qs.take (j + 1)) = true) := txs_take HE.out.2 hjl
      have HT0 : Hid (tx qs[j] = false → txs qs = false) := txs_bad hjl
      have HX : Hid (∀ W, Calls Tryd.prog 96 #[.string qs[j]] W fun e w' => e = .returned (.bool (tx qs[j])) ∧ Below W.heap.size W w') := fun W => rText_any qs[j] W hsz
      generalize qs[j] = q at *
      clear hrow hne hsz
      cases htq : tx q with
      | true =>
        rw [htq] at HX
        have HB1 := HT1.out htq
        clear htq HT1 HT0
        go_wp2_with fail
        refine (HX.out _).mono ?_
        rintro e W2 ⟨rfl, hb⟩
        have HN1 : Hid (Below W1.heap.size W1 W2 ∧ txs (qs.take (j + 1)) = true) := ⟨HE.out.1.trans (hb.mono HE.out.1.size), HB1⟩
        clear hb HX hcell
        go_wp2
        go_roundw
        case rel => exact ⟨j + 1, by omega, by go_num, HN1⟩
        case measure => simp [intOf]; omega
      | false =>
        exfalso
        have h1 := HT0.out htq
        rw [HTX.out] at h1
        cases h1
    · have n6 : decide ((j : Int) < (k : Int)) = false := by simp; omega
      generalize wr = W3 at *
      obtain ⟨Wc, cp, hcv, hbc, hrc⟩ := conv_any s (W3.alloc (.cells #[.int .u64 (s.size : Int), .int .i64 4] TFd)) hs4
      rw [size1] at hcv hrc
      have HC : Hid (Below (W3.alloc (.cells #[.int .u64 (s.size : Int), .int .i64 4] TFd)).heap.size (W3.alloc (.cells #[.int .u64 (s.size : Int), .int .i64 4] TFd)) Wc ∧ BRow Wc (some ⟨W3.heap.size + 1, 0, none⟩) cp (sbytes s)) := ⟨hbc, hrc⟩
      have p0 := cell_later (below1 W3 (.cells #[.int .u64 (s.size : Int), .int .i64 4] TFd)) q0
      clear hbc hrc
      go_wp2_with fail
      clear q0 q1 p0 hcv n6
      refine (layR (w := w) [(s.size, 4)] 1 _ rfl HBw.out rfl (by simp; omega) (by decide) HC.out.1 _ cp s.size (sbytes s) HC.out.2 (sbytes_length s) (by omega) (bigTo s.size 4 4 ++ sbytes s) (by simp [layF])).mono ?_
      rintro e Wz ⟨az, cz, mz, rfl, hmz, hrz, hbz⟩
      have hmz2 : mz ≤ 5000 := by rw [← hmz]; simp [bigTo_length, sbytes_length]; omega
      have HR : Hid (Rn w Wz az cz mz (bigTo s.size 4 4 ++ sbytes s)) := hrz.rn hmz
      have HYz : Hid (Wz.heap[w.heap.size]? = some (.cells #[.string s, .slice qa k qc] 33 (0, 0))) := box_later HBX.out hbz
      clear hrz hmz hbz HC
      have k1 := blk_at HYz.out 1
      simp at k1
      go_wp2_with fail
      refine (rbig_any k 4 Wz (by omega) (by decide)).mono ?_
      rintro e Wyb ⟨rfl, hob, hbb⟩
      have HBB : Hid (Below Wz.heap.size Wz Wyb ∧ BRow Wyb (some ⟨Wz.heap.size, 0, none⟩) 4 (bigTo k 4 4)) := ⟨hbb, bigRow (by decide) hob⟩
      have HRb : Hid (Rn w Wyb az cz mz (bigTo s.size 4 4 ++ sbytes s)) := HR.out.later hbb
      clear hob hbb
      go_wp2_with (at_builtin; refine wpList_append_two _ rfl (.tmp 39) (.tmp 44) 25 rfl w.heap.size 5 i0 (.int .u8 0) 1 Tryd.underlying25 hi hz0 hz1 hz2 rfl (.slice az mz cz) mz ((bigTo s.size 4 4 ++ sbytes s).map bv) rfl HRb.out.own (some ⟨Wz.heap.size, 0, none⟩) 4 4 ((bigTo k 4 4).map bv) rfl HBB.out.2.nil' (by simp [bigTo_length]) HBB.out.2.news (bv_one _) (by unfold maxLen; omega) (by omega) HRb.out.bel.size ?_)
      intro v' Wy ho hg hf
      obtain ⟨aWy, cWy, rfl⟩ := owns_form ho
      have HWy : Hid (Rn w Wy aWy cWy (mz + 4) ((bigTo s.size 4 4 ++ sbytes s) ++ bigTo k 4 4)) := HRb.out.appended ho hg (bigTo_lt _ _ _) (bigTo_length _ _ _)
      have HYWy : Hid (Wy.heap[w.heap.size]? = some (.cells #[.string s, .slice qa k qc] 33 (0, 0))) := HRb.out.box hg (box_later HYz.out HBB.out.1) (by decide)
      clear ho hg hf HBB HRb
      clear k1
      go_wp2
      go_loopw [5, 6] (fun bvv iv wr => ∃ (j a5 c5 m5 : _), j ≤ k ∧ iv = .int .i64 (j : Nat) ∧ bvv = .slice a5 m5 c5 ∧ m5 ≤ 5004 + 4100 * j ∧ Hid (Rn w wr a5 c5 m5 ((bigTo s.size 4 4 ++ sbytes s) ++ bigTo k 4 4 ++ strL (qs.take j)) ∧ wr.heap[w.heap.size]? = some (.cells #[.string s, .slice qa k qc] 33 (0, 0)))) (fun _ iv _ => k - (intOf iv).toNat)
      case atStart => exact ⟨0, aWy, cWy, mz + 4, Nat.zero_le _, rfl, rfl, by omega, by simpa [strL] using HWy.out, HYWy.out⟩
      case round =>
        obtain ⟨j, a5, c5, m5, hj, rfl, rfl, hm5, HI5⟩ := hrel
        have q1 := blk_at HI5.out.2 1
        simp at q1
        by_cases hlt2 : j < k
        · have hne : qs ≠ [] := by rintro rfl; have := HKs.out; simp at this; omega
          obtain ⟨b, off, rfl, hrow⟩ := (HQ.out.later HI5.out.1.bel).at_ hne
          have hjl : j < qs.length := by rw [HKs.out]; exact hlt2
          have hcell := hrow j hjl
          have hxt := txs_mem HTX.out j hjl
          have HT9 : Hid (strL (qs.take (j + 1)) = strL (qs.take j) ++ (bigTo qs[j].size 4 4 ++ sbytes qs[j])) := by show _ = _; rw [List.take_add_one, List.getElem?_eq_getElem hjl]; exact strL_snoc _ _
          obtain ⟨x, hxx⟩ : ∃ x, qs[j] = x := ⟨_, rfl⟩
          rw [hxx] at hcell hxt HT9
          obtain ⟨hx4, _⟩ := tx_true hxt
          have hwx : IntKind.u64.wrap ((x.size : Nat) : Int) = ((x.size : Nat) : Int) := by rw [IntKind.wrap_u64]; omega
          have hjk : (j : Int) < (k : Int) := by omega
          have hj0 : (0 : Int) ≤ (j : Int) := by omega
          clear hrow hxx hne hjl hxt
          go_upto_region 15 with fail
          have HRj : Hid (Rn w wr a5 c5 m5 ((bigTo s.size 4 4 ++ sbytes s) ++ bigTo k 4 4 ++ strL (qs.take j))) := HI5.out.1
          obtain ⟨LL, hLL⟩ : ∃ LL, (bigTo s.size 4 4 ++ sbytes s) ++ bigTo k 4 4 ++ strL (qs.take j) = LL := ⟨_, rfl⟩
          rw [hLL] at HRj
          have HLL : Hid ((bigTo s.size 4 4 ++ sbytes s) ++ bigTo k 4 4 ++ strL (qs.take j) = LL) := hLL
          have HS2 : Hid (∀ W', Below wr.heap.size wr W' → W'.cell? ⟨w.heap.size, 1, none⟩ = some (.slice (some ⟨b, off, none⟩) k qc) ∧ W'.cell? ⟨b, off + j, none⟩ = some (.string x)) := fun W' hb => ⟨cell_later hb q1, cell_later hb hcell⟩
          have HBw2 : Hid (Below w.heap.size w wr) := HI5.out.1.bel
          clear hLL
          obtain ⟨Wc, cp2, hcv, hbc, hrc⟩ := conv_any x (wr.alloc (.cells #[.int .u64 (x.size : Int), .int .i64 4] TFd)).drew hx4
          have hz1' : (wr.alloc (.cells #[.int .u64 (x.size : Int), .int .i64 4] TFd)).drew.heap.size = wr.heap.size + 1 := size1 _ _
          rw [hz1'] at hcv hrc
          have HC2 : Hid (Below (wr.alloc (.cells #[.int .u64 (x.size : Int), .int .i64 4] TFd)).heap.size (wr.alloc (.cells #[.int .u64 (x.size : Int), .int .i64 4] TFd)) Wc ∧ BRow Wc (some ⟨wr.heap.size + 1, 0, none⟩) cp2 (sbytes x)) := ⟨⟨hbc.os, hbc.tape, hbc.output, hbc.size, hbc.block⟩, hrc⟩
          clear hbc hrc hz1'
          obtain ⟨Wd, cp3, hcv2, hbd, hrd⟩ := conv_any x wr.drew hx4
          have HD2 : Hid (Below wr.heap.size wr Wd ∧ BRow Wd (some ⟨wr.heap.size, 0, none⟩) cp3 (sbytes x)) := ⟨⟨hbd.os, hbd.tape, hbd.output, hbd.size, hbd.block⟩, hrd⟩
          have hcv3 : (convert 9 25 (.string x)).run Tryd.prog wr.drew = .ok (.slice (some ⟨wr.heap.size, 0, none⟩) x.size cp3) Wd := hcv2
          clear hbd hrd hcv2
          have HQ1 : Hid (Below wr.heap.size wr Wc) := (below1 wr _).trans (HC2.out.1.mono (below1 wr _).size)
          have HQ3 : Hid (Below wr.heap.size wr (Wd.alloc (.cells #[.int .u64 (x.size : Int), .int .i64 4] TFd))) := HD2.out.1.alloc HD2.out.1.size _
          obtain ⟨xc0, xc1⟩ := HS2.out _ HQ1.out
          obtain ⟨xd0, xd1⟩ := HS2.out _ HD2.out.1
          obtain ⟨xe0, xe1⟩ := HS2.out _ HQ3.out
          obtain ⟨xf0, xf1⟩ := HS2.out _ (below1 wr (.cells #[.int .u64 (x.size : Int), .int .i64 4] TFd))
          have HL1 : Hid (Calls Tryd.prog 88 #[.slice (some ⟨wr.heap.size, 0, none⟩) 1 1, .slice (some ⟨wr.heap.size + 1, 0, none⟩) x.size cp2] Wc fun e w' => ∃ ao' cap' m, e = .returned (.slice ao' m cap') ∧ (bigTo x.size 4 4 ++ sbytes x).length = m ∧ Row w w' ao' cap' (bigTo x.size 4 4 ++ sbytes x) ∧ Below wr.heap.size wr w') := layR (w := w) [(x.size, 4)] 1 #[.int .u64 (x.size : Int), .int .i64 4] rfl HBw2.out rfl (by simp; omega) (by decide) HC2.out.1 _ cp2 x.size (sbytes x) HC2.out.2 (sbytes_length x) (by omega) (bigTo x.size 4 4 ++ sbytes x) (by simp [layF])
          have HL2 : Hid (Calls Tryd.prog 88 #[.slice (some ⟨Wd.heap.size, 0, none⟩) 1 1, .slice (some ⟨wr.heap.size, 0, none⟩) x.size cp3] (Wd.alloc (.cells #[.int .u64 (x.size : Int), .int .i64 4] TFd)) fun e w' => ∃ ao' cap' m, e = .returned (.slice ao' m cap') ∧ (bigTo x.size 4 4 ++ sbytes x).length = m ∧ Row w w' ao' cap' (bigTo x.size 4 4 ++ sbytes x) ∧ Below wr.heap.size wr w') := (layR (w := w) [(x.size, 4)] 1 #[.int .u64 (x.size : Int), .int .i64 4] rfl (HBw2.out.trans (HD2.out.1.mono HBw2.out.size)) rfl (by simp; omega) (by decide) (Below.refl _ _) _ cp3 x.size (sbytes x) (HD2.out.2.later (below1 Wd _)) (sbytes_length x) (by omega) (bigTo x.size 4 4 ++ sbytes x) (by simp [layF])).mono fun e w' ⟨a2, c2, m2, h1, h2, h3, h4⟩ => ⟨a2, c2, m2, h1, h2, h3, HD2.out.1.trans (h4.mono HD2.out.1.size)⟩
          go_region_law (first | (go_simp; go_at_call 88; (with_reducible refine HL1.out.mono ?_); rintro e Wz ⟨az, cz, mz, rfl, hmz, hrz, hbz⟩; have hmz2 : mz ≤ 4100 := (by rw [← hmz]; simp [bigTo_length, sbytes_length]; omega); have HRb : Hid (Rn w Wz a5 c5 m5 LL) := HRj.out.later hbz; have HMr : Hid (BRow Wz az cz (bigTo x.size 4 4 ++ sbytes x)) := hrz.brow (by rw [hmz]; omega); have HMl : Hid ((bigTo x.size 4 4 ++ sbytes x).length = mz) := hmz; have HBz : Hid (Wz.heap[w.heap.size]? = some (.cells #[.string s, .slice (some ⟨b, off, none⟩) k qc] 33 (0, 0))) := box_later HI5.out.2 hbz; obtain ⟨yz1, yz2⟩ := HS2.out _ hbz; obtain ⟨gz, hgz⟩ : ∃ gz, az = some gz := (by cases az with | none => (have h := (HMr.out.nil rfl).1; simp at h; have h2 := congrArg List.length h.1; simp [bigTo_length] at h2) | some gz => exact ⟨gz, rfl⟩); subst hgz; clear hrz hmz hbz; dsimp only) | (go_simp; go_at_call 88; (with_reducible refine HL2.out.mono ?_); rintro e Wz ⟨az, cz, mz, rfl, hmz, hrz, hbz⟩; have hmz2 : mz ≤ 4100 := (by rw [← hmz]; simp [bigTo_length, sbytes_length]; omega); have HRb : Hid (Rn w Wz a5 c5 m5 LL) := HRj.out.later hbz; have HMr : Hid (BRow Wz az cz (bigTo x.size 4 4 ++ sbytes x)) := hrz.brow (by rw [hmz]; omega); have HMl : Hid ((bigTo x.size 4 4 ++ sbytes x).length = mz) := hmz; have HBz : Hid (Wz.heap[w.heap.size]? = some (.cells #[.string s, .slice (some ⟨b, off, none⟩) k qc] 33 (0, 0))) := box_later HI5.out.2 hbz; obtain ⟨yz1, yz2⟩ := HS2.out _ hbz; obtain ⟨gz, hgz⟩ : ∃ gz, az = some gz := (by cases az with | none => (have h := (HMr.out.nil rfl).1; simp at h; have h2 := congrArg List.length h.1; simp [bigTo_length] at h2) | some gz => exact ⟨gz, rfl⟩); subst hgz; clear hrz hmz hbz; dsimp only) | (refine step_append_two rfl (.tmp 53) (.tmp 69) 25 rfl w.heap.size 5 i0 (.int .u8 0) 1 Tryd.underlying25 hi hz0 hz1 hz2 rfl (.slice a5 m5 c5) m5 (LL.map bv) (by first | (simp [Act.eval]; done) | simp [Act.eval, Act.put]) HRb.out.own gz mz cz ((bigTo x.size 4 4 ++ sbytes x).map bv) (by first | (simp [Act.eval]; done) | simp [Act.eval, Act.put]) (by rw [List.length_map]; exact HMl.out) (HMr.out.news gz rfl) (bv_one _) (by unfold maxLen; omega) (by omega) HRb.out.bel.size ?_; intro a6 c6 W6 ho6 hg6 hf6; have HR6 : Hid (Rn w W6 a6 c6 (m5 + mz) (LL ++ (bigTo x.size 4 4 ++ sbytes x)) ∧ W6.heap[w.heap.size]? = some (.cells #[.string s, .slice (some ⟨b, off, none⟩) k qc] 33 (0, 0))) := ⟨HRb.out.appended ho6 hg6 HMr.out.lt HMl.out, HRb.out.box hg6 HBz.out (by decide)⟩; clear ho6 hg6 hf6))
          all_goals
            have HN6 : Hid (Rn w W6 a6 c6 (m5 + mz) ((bigTo s.size 4 4 ++ sbytes s) ++ bigTo k 4 4 ++ strL (qs.take (j + 1))) ∧ W6.heap[w.heap.size]? = some (.cells #[.string s, .slice (some ⟨b, off, none⟩) k qc] 33 (0, 0))) := by
              have h := HR6.out
              rw [← HLL.out, List.append_assoc, ← HT9.out] at h
              exact h
            go_wp2
            go_roundw
            case rel => exact ⟨j + 1, a6, c6, m5 + mz, by omega, by go_num, rfl, by omega, HN6.out⟩
            case measure => simp [intOf]; omega
        · have e9 : (bigTo s.size 4 4 ++ sbytes s) ++ bigTo k 4 4 ++ strL (qs.take j) = mqL s qs := by
            have e1 : qs.take j = qs := List.take_of_length_le (by rw [HKs.out]; omega)
            rw [e1]; simp [mqL, HKs.out]
          have h9 := HI5.out.1
          rw [e9] at h9
          have H9 : Hid (Rn w wr a5 c5 m5 (mqL s qs)) := h9
          clear h9 e9
          go_wp2
          go_ret2
          exact ⟨_, _, _, rfl, H9.out.len, H9.out.row⟩
set_option maxHeartbeats 2000000 in
theorem rMetaReq_bad (s : ByteArray) (qa : Option Addr) (k qc : Nat) (w : World) (hs : s.size ≤ 9223372036854775807) (ht : tx s = false) :
    Calls Tryd.prog 40 #[.agg #[.string s, .slice qa k qc]] w fun e w' => Pk w [] 81 e w' := by
  have HI : Hid (∀ W, Calls Tryd.prog 96 #[.string s] W fun e w' => e = .returned (.bool false) ∧ Below W.heap.size W w') := fun W => by have h := rText_any s W hs; rw [ht] at h; exact h
  clear ht
  have hx := mkb1 w #[.string s, .slice qa k qc] 33
  go_enter Tryd.func40, Tryd.ntmps40
  go_wp2_with fail
  generalize w.alloc (Obj.cells #[.string s, .slice qa k qc] 33) = W0 at *
  refine (HI.out _).mono ?_
  rintro e W1 ⟨rfl, hb⟩
  have HY : Hid (Bx1 w W1 #[.string s, .slice qa k qc] 33) := hx.later hb
  clear hx hb HI
  go_wp2
  go_ret2
  exact pk_none HY.out.bel
end Go.Proofs.YtjikibhhhchgeaaDoor
