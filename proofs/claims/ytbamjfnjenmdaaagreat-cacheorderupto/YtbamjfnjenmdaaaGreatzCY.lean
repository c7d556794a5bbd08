import Derived.Test.YtbamjfnjenmdaaaGreatG38
namespace Go.Proofs.YtbamjfnjenmdaaaGreat.C
open Go.RowKit Go.Maps Go.Shelf Go.Proofs.YtbamjfnjenmdaaaGreat
attribute [local go_sem] Oper.semAt_some
set_option linter.unusedVariables false
set_option linter.unusedSimpArgs false
set_option maxRecDepth 100000

theorem fs_nil : K.FsOk [] := ⟨(fun f hf => by cases hf), (by decide)⟩
abbrev BL (fill : Nat) : K.Bl := K.bytesL fill 512
theorem bytes_c {w : World} {P : Loc} {S : K.Dk} {C : Ch} (h : RC w P S C) (fill : Nat) (hf : fill < 256) :
    Calls Tryz.prog 10 #[.int .u8 fill, .int .i64 0] w fun r w1 => ∃ g cap, r = .returned (.slice (some ⟨g, 0, none⟩) 512 cap) ∧ Below w.heap.size w w1 ∧ Src w1 (P.fp C.L) (some ⟨g, 0, none⟩) (BL fill) ∧ BRow w1 (some ⟨g, 0, none⟩) cap (BL fill) := by
  have hby := K.bytes_any w fill 0 hf
  rw [show K.blen 0 = 512 from rfl] at hby
  refine hby.mono ?_
  rintro r w1 ⟨v, rfl, ho, hb⟩
  obtain ⟨a, c, rfl, hbr⟩ := K.own_brow ho (K.bytesL_len _ _) (K.bytesL_lt _ _) (by decide)
  obtain ⟨g, c', cur, e, hg, hk, hcc⟩ := K.own_form ho (by decide)
  cases e
  refine ⟨g, c, rfl, hb, ⟨g, 0, rfl, (h.later hb).farB ho g rfl, (Array.getElem?_eq_some_iff.1 hk).1, fun j v hv => ?_⟩, hbr⟩
  have c1 := ho.cells (g := g) rfl j v hv
  rw [add_plain] at c1
  exact c1
theorem eq_cp (w : World) (a : Addr) : (binOp .eql 29 (.pointer (some a)) (.pointer none)).run Tryz.prog w = .ok (.bool false) w := by rfl
set_option maxHeartbeats 16000000 in
theorem heads_c (w : World) : Calls Tryz.prog 4 #[] w fun r w' => r = .returned (.bool true) ∧ Below w.heap.size w w' := by
  have hnew := K.new_any w 8 (by decide) (by decide)
  have e1 := eq_cp
  go_enter Tryz.func4, Tryz.ntmps4
  go_wp2_with fail
  refine hnew.mono ?_
  clear hnew
  rintro e w1 ⟨b, rfl, ms, ml, hrk, hb1, hf1⟩
  have HN : Hid (Calls Tryz.prog 21 #[.pointer (some ⟨b, 0, none⟩), .int .i64 2, .slice (some ⟨w1.heap.size, 0, none⟩) 1 1] (w1.alloc (.cells #[.int .i64 0, .int .i64 1] TSp)) fun r w3 => ∃ P, r = .returned (.tuple #[.pointer (some ⟨P.bc, 0, none⟩), .int .i64 0]) ∧ P.bd = b ∧ Hc w w3 P (K.newDk 8) (newCh 2 [(0, 1)])) := by
    have hb2 : Below w1.heap.size w1 (w1.alloc (.cells #[.int .i64 0, .int .i64 1] TSp)) := (Below.refl _ w1).alloc (Nat.le_refl _) _
    have hblk : (w1.alloc (.cells #[.int .i64 0, .int .i64 1] TSp)).heap[w1.heap.size]? = some (.cells #[.int .i64 0, .int .i64 1] TSp (0, 0)) := heap_alloc_new w1 _
    have hlt := hrk.lt
    refine (new_c (hrk.later hb2) (most := 2) (by decide) (by decide) (ao := some ⟨w1.heap.size, 0, none⟩) (cap := 1) (l := [(0, 1)]) ?_ (by decide) (by decide) ?_ (by simp) (fun a e => by cases e; exact ⟨_, _, rfl⟩) (fun b' off e hm => by cases e; have := hlt _ hm; omega)).mono ?_
    · intro k p hk
      have hk0 : k = 0 := by have := (List.getElem?_eq_some_iff.1 hk).1; simp at this; exact this
      subst hk0
      simp at hk
      subst hk
      exact ⟨w1.heap.size, 0, rfl, by simp, (K.cell_of hblk).trans rfl, (K.cell_of hblk).trans rfl⟩
    · exact ⟨fun p hp => by simp at hp; subst hp; exact ⟨by decide, by decide, by show (0 : Int) + 1 ≤ ((8 : Nat) : Int); decide⟩, List.pairwise_singleton _ _⟩
    · rintro r w3 ⟨P, rfl, hM⟩
      obtain ⟨d1, d2, d3, d4, d5⟩ := hM.bd
      have s2 := hb2.size
      have hb02 : Below w.heap.size w (w1.alloc (.cells #[.int .i64 0, .int .i64 1] TSp)) := hb1.trans (hb2.mono hb1.size)
      refine ⟨P, rfl, d1, hM.rc, hb02.trans (hM.kp.below hf1 hb02.size), fun i hi => ?_⟩
      simp only [Loc.fp, List.mem_append] at hi
      rcases hi with hi | hi | hi
      · rw [Loc.dfp, d1, d2, d3, d4, d5] at hi
        exact hf1 i hi
      · exact Nat.le_trans hb02.size (hM.new i (.inl hi))
      · exact Nat.le_trans hb02.size (hM.new i (.inr hi))
  clear hrk hb1 hf1
  go_wp2_with fail
  refine HN.out.mono ?_
  clear HN
  rintro e w2 ⟨P, rfl, hbd, hc⟩
  subst hbd
  have H2 : Hid (Hc w w2 P (K.newDk 8) (newCh 2 [(0, 1)])) := hc
  clear hc
  have hby := bytes_c H2.out.rc 1 (by decide)
  go_wp2_with fail
  refine Calls.mono hby ?_
  clear hby
  rintro e w3 ⟨g3, c3, rfl, hb3, hs3, _⟩
  have HW3 : Hid (Calls Tryz.prog 9 #[.pointer (some ⟨P.bc, 0, none⟩), .int .i64 0, .slice (some ⟨g3, 0, none⟩) 512 c3] w3 fun r w' => r = .returned (.int .i64 0) ∧ ∃ P' b1 C1, P'.bc = P.bc ∧ P'.bd = P.bd ∧ Hc w w' P' (K.newDk 8) C1 ∧ C1.most = 2 ∧ C1.notes = [(0, 1)] ∧ C1.L = [⟨0, b1, BL 1, true, true⟩]) := by
    have h3 := H2.out.later hb3
    refine (write_c h3.rc fs_nil (by decide) 0 (K.bytesL_lt 1 512) (K.bytesL_len 1 512).symm (by decide) (fun _ => hs3)).mono ?_
    rintro r w' ⟨b1, rfl, P', ha⟩
    have hw := write_room (S := K.newDk 8) (C := newCh 2 [(0, 1)]) (s := 0) (bs := BL 1) b1 (by decide) (K.bytesL_len 1 512) rfl (by decide)
    have hw' : writeR (K.newDk 8) (newCh 2 [(0, 1)]) 0 (BL 1) b1 = _ := hw
    rw [hw'] at ha ⊢
    exact ⟨rfl, P', b1, _, ha.bc, ha.bd, h3.step ha, rfl, rfl, rfl⟩
  clear hb3 hs3 H2
  go_wp2_with fail
  refine Calls.mono HW3.out ?_
  clear HW3
  rintro e w4 ⟨rfl, P4, b1, C4, hbc, hbd, hc, m4, n4, L4⟩
  have H4 : Hid (Hc w w4 P4 (K.newDk 8) C4) := hc
  rw [← hbc, ← hbd]
  clear hc hbc hbd
  have hby := bytes_c H4.out.rc 2 (by decide)
  go_wp2_with fail
  refine Calls.mono hby ?_
  clear hby
  rintro e w5 ⟨g5, c5, rfl, hb5, hs5, _⟩
  have HW5 : Hid (Calls Tryz.prog 9 #[.pointer (some ⟨P4.bc, 0, none⟩), .int .i64 3, .slice (some ⟨g5, 0, none⟩) 512 c5] w5 fun r w' => r = .returned (.int .i64 0) ∧ ∃ P' b2 C1, P'.bc = P4.bc ∧ P'.bd = P4.bd ∧ Hc w w' P' (K.newDk 8) C1 ∧ C1.most = 2 ∧ C1.notes = [(0, 1)] ∧ C1.L = [⟨0, b1, BL 1, true, true⟩, ⟨3, b2, BL 2, true, false⟩]) := by
    have h5 := H4.out.later hb5
    refine (write_c h5.rc fs_nil (by rw [L4]; simp [K.newDk, dirtyN]) 3 (K.bytesL_lt 2 512) (K.bytesL_len 2 512).symm (by decide) (fun _ => hs5)).mono ?_
    rintro r w' ⟨b2, rfl, P', ha⟩
    have hw' : writeR (K.newDk 8) C4 3 (BL 2) b2 = _ := write_room (S := K.newDk 8) (C := C4) (s := 3) (bs := BL 2) b2 (by decide) (K.bytesL_len 2 512) (by rw [L4]; simp [lineAt]) (by rw [L4, m4]; simp)
    rw [hw'] at ha ⊢
    refine ⟨rfl, P', b2, _, ha.bc, ha.bd, h5.step ha, m4, n4, ?_⟩
    simp only [missC, L4, n4]
    rfl
  clear hb5 hs5 H4 m4 n4 L4
  go_wp2_with fail
  refine Calls.mono HW5.out ?_
  clear HW5
  rintro e w6 ⟨rfl, P6, b2, C6, hbc, hbd, hc, m6, n6, L6⟩
  have H6 : Hid (Hc w w6 P6 (K.newDk 8) C6) := hc
  rw [← hbc, ← hbd]
  clear hc hbc hbd
  have hby := bytes_c H6.out.rc 3 (by decide)
  go_wp2_with fail
  refine Calls.mono hby ?_
  clear hby
  rintro e w7 ⟨g7, c7, rfl, hb7, hs7, _⟩
  have HW7 : Hid (Calls Tryz.prog 9 #[.pointer (some ⟨P6.bc, 0, none⟩), .int .i64 4, .slice (some ⟨g7, 0, none⟩) 512 c7] w7 fun r w' => r = .returned (.int .i64 0) ∧ ∃ P' b3 C1, P'.bc = P6.bc ∧ P'.bd = P6.bd ∧ Hc w w' P' (K.wrote (K.newDk 8) 3 (BL 2)) C1 ∧ C1.most = 2 ∧ C1.notes = [(0, 1)] ∧ C1.L = hL b1 b3 (BL 1) (BL 3) true) := by
    have h7 := H6.out.later hb7
    refine (write_c h7.rc fs_nil (by rw [L6]; simp [K.newDk, dirtyN]) 4 (K.bytesL_lt 3 512) (K.bytesL_len 3 512).symm (by decide) (fun _ => hs7)).mono ?_
    rintro r w' ⟨b3, rfl, P', ha⟩
    obtain ⟨st, hw⟩ := write_full (S := K.newDk 8) (C := C6) (s := 4) (bs := BL 3) b3 rfl (by decide) (K.bytesL_len 3 512) (by rw [L6]; simp [lineAt]) (by rw [L6, m6]; simp) (l := ⟨3, b2, BL 2, true, false⟩) (by rw [L6]; simp [mayGo]) rfl (by show 3 < 8; omega) (K.bytesL_len 2 512)
    have hw' : writeR (K.newDk 8) C6 4 (BL 3) b3 = _ := hw
    rw [hw'] at ha ⊢
    refine ⟨rfl, P', b3, _, ha.bc, ha.bd, h7.step ha, m6, n6, ?_⟩
    simp only [L6, n6]
    rfl
  clear hb7 hs7 H6 m6 n6 L6
  go_wp2_with fail
  refine Calls.mono HW7.out ?_
  clear HW7
  rintro e w8 ⟨rfl, P8, b3, C8, hbc, hbd, hc, m8, n8, L8⟩
  have H8 : Hid (Hc w w8 P8 (K.wrote (K.newDk 8) 3 (BL 2)) C8) := hc
  rw [← hbc, ← hbd]
  clear hc hbc hbd
  have HQ : Hid (Calls Tryz.prog 22 #[.pointer (some ⟨P8.bd, 0, none⟩)] w8 fun r w' => ∃ g c, r = .returned (.slice (some ⟨g, 0, none⟩) 1 c) ∧ w'.cell? ⟨g, 0, none⟩ = some (.int .i64 3) ∧ Hc w w' P8 (K.wrote (K.newDk 8) 3 (BL 2)) C8) := by
    refine (K.queue_any H8.out.rc.rk (by decide)).mono ?_
    rintro r w' ⟨v, ps, rfl, ht, hps, hda⟩
    have hq : (K.wrote (K.newDk 8) 3 (BL 2)).q = [(3, BL 2)] := rfl
    rw [hq] at hps
    obtain ⟨p, rfl⟩ : ∃ p, ps = [p] := List.length_eq_one_iff.1 (by have := congrArg List.length hps; simpa using this)
    have hp : p.1 = 3 := by simp [K.bare] at hps; exact hps.1
    have hrow := ht.row
    obtain ⟨g, c, rfl, _, _⟩ := hrow.form (by simp)
    refine ⟨g, c, rfl, ?_, H8.out.step (H8.out.rc.dsame hda)⟩
    have c1 := hrow.cells (g := g) rfl 0 (.int .i64 p.1) (by simp [K.qcells, K.qcell])
    rw [add_plain, hp] at c1
    exact c1
  go_wp2_with fail
  refine Calls.mono HQ.out ?_
  clear HQ H8
  rintro e w9 ⟨gq, cq, rfl, kq, hc⟩
  have H9 : Hid (Hc w w9 P8 (K.wrote (K.newDk 8) 3 (BL 2)) C8) := hc
  clear hc
  obtain ⟨S9, C9, hfl, sf, sn, sq, s0, s3, s4, L9, m9, n9⟩ := heads_flush (S := K.wrote (K.newDk 8) 3 (BL 2)) (C := C8) (b1 := b1) (b3 := b3) (B1 := BL 1) (B2 := BL 2) (B3 := BL 3) rfl rfl rfl rfl L8 (K.bytesL_len 1 512) (K.bytesL_len 3 512)
  have HF : Hid (Calls Tryz.prog 13 #[.pointer (some ⟨P8.bc, 0, none⟩)] w9 fun r w' => r = .returned (.int .i64 0) ∧ ∃ P', P'.bc = P8.bc ∧ P'.bd = P8.bd ∧ Hc w w' P' S9 C9) := by
    have hfc := flush_c H9.out.rc fs_nil (by rw [L8]; simp [K.wrote, K.newDk, dirtyN, hL])
    rw [hfl] at hfc
    refine hfc.mono ?_
    rintro r w' ⟨rfl, P', ha⟩
    exact ⟨rfl, P', ha.bc, ha.bd, H9.out.step ha⟩
  clear hfl
  go_wp2_with fail
  refine Calls.mono HF.out ?_
  clear HF H9 kq
  rintro e w10 ⟨rfl, P10, hbc, hbd, hc⟩
  have H10 : Hid (Hc w w10 P10 S9 C9) := hc
  rw [← hbc, ← hbd]
  clear hc hbc hbd
  have HR : Hid (Calls Tryz.prog 12 #[.pointer (some ⟨P10.bc, 0, none⟩), .int .i64 3] w10 fun r w' => ∃ ao c, r = .returned (.tuple #[.slice ao 512 c, .int .i64 0]) ∧ w'.ownsRow 0 TB8 1 (.slice ao 512 c) 512 ((BL 2).map bv) ∧ ∃ P' C1, P'.bc = P10.bc ∧ P'.bd = P10.bd ∧ Hc w w' P' (K.readS S9) C1) := by
    refine (read_c H10.out.rc (by rw [sf]; exact fs_nil) (by rw [sq, L9]; simp [hL, dirtyN]) 3).mono ?_
    rintro r w' ⟨b, v, rfl, ho, P', ha⟩
    obtain ⟨r1, r2, r3⟩ := read_full (S := S9) (C := C9) (s := 3) b sf (by rw [sn]; decide) (by rw [L9]; simp [hL, lineAt]) (by rw [L9, m9, m8]; simp [hL]) (l := ⟨0, b1, BL 1, false, true⟩) (by rw [L9]; simp [hL, mayGo]) rfl
    have r1' : (readR S9 C9 3 b).1 = 0 := r1
    have r2' : (readR S9 C9 3 b).2.1 = K.look S9 3 := r2
    have r3' : (readR S9 C9 3 b).2.2.1 = K.readS S9 := r3
    have hlk : K.look S9 3 = BL 2 := by unfold K.look; rw [sq, s3]; rfl
    rw [r2', hlk] at ho
    rw [r3'] at ha
    obtain ⟨a, c, rfl, hbr⟩ := K.own_brow ho rfl (K.bytesL_lt _ _) (by rw [K.bytesL_len]; decide)
    rw [r1', K.bytesL_len]
    rw [K.bytesL_len] at ho
    exact ⟨a, c, rfl, owns_mono ho (Nat.zero_le _), P', _, ha.bc, ha.bd, H10.out.step ha⟩
  go_wp2_with fail
  refine Calls.mono HR.out ?_
  clear HR H10
  rintro e w11 ⟨a11, c11, rfl, hbr, P11, C11, hbc, hbd, hc⟩
  have H11 : Hid (Hc w w11 P11 (K.readS S9) C11) := hc
  have HB11 : Hid (w11.ownsRow 0 TB8 1 (.slice a11 512 c11) 512 ((BL 2).map bv)) := hbr
  rw [← hbd]
  clear hc hbc hbd hbr
  have HIm : Hid (Calls Tryz.prog 17 #[.pointer (some ⟨P11.bd, 0, none⟩)] w11 fun r w' => ∃ g c, r = .returned (.slice (some ⟨g, 0, none⟩) 4096 c) ∧ (w'.cell? ⟨g, 0, none⟩ = some (.int .u8 1) ∧ w'.cell? ⟨g, 1536, none⟩ = some (.int .u8 2) ∧ w'.cell? ⟨g, 2048, none⟩ = some (.int .u8 3)) ∧ w'.ownsRow 0 TB8 1 (.slice a11 512 c11) 512 ((BL 2).map bv) ∧ ∃ P', Hc w w' P' (K.readS S9) C11) := by
    refine (K.image_any H11.out.rc.rk).mono ?_
    rintro r w' ⟨v, rfl, ho, hda⟩
    have hn : (K.readS S9).n = 8 := sn
    rw [hn] at ho
    obtain ⟨g, c, cur, rfl, _, hk, hcc⟩ := K.own_form ho (by decide)
    have hsl : ∀ s, s < 8 → ((K.readS S9).safe s).length = 512 := fun s hs => by
      obtain ⟨D, _, hso⟩ := H11.out.rc.rk.sm
      exact (hso.ok s (by rw [hn]; exact hs)).len
    have h0 : (K.imgL 8 (K.readS S9).safe)[0]? = some 1 := by
      have := K.imgL_get (s := 0) (j := 0) hsl (by decide) (by decide)
      rw [show (0 : Nat) * 512 + 0 = 0 from rfl] at this
      rw [this]
      show (S9.safe 0)[0]? = some 1
      rw [s0]; rfl
    have h3 : (K.imgL 8 (K.readS S9).safe)[1536]? = some 2 := by
      have := K.imgL_get (s := 3) (j := 0) hsl (by decide) (by decide)
      rw [show (3 : Nat) * 512 + 0 = 1536 from rfl] at this
      rw [this]
      show (S9.safe 3)[0]? = some 2
      rw [s3]; rfl
    have h4 : (K.imgL 8 (K.readS S9).safe)[2048]? = some 3 := by
      have := K.imgL_get (s := 4) (j := 0) hsl (by decide) (by decide)
      rw [show (4 : Nat) * 512 + 0 = 2048 from rfl] at this
      rw [this]
      show (S9.safe 4)[0]? = some 3
      rw [s4]; rfl
    refine ⟨g, c, rfl, ⟨(K.cell_of hk).trans (hcc 0 1 h0), (K.cell_of hk).trans (hcc 1536 2 h3), (K.cell_of hk).trans (hcc 2048 3 h4)⟩, (H11.out.rc.dsame hda).row H11.out.rc HB11.out, P11, H11.out.step (H11.out.rc.dsame hda)⟩
  go_wp2_with fail
  refine Calls.mono HIm.out ?_
  clear HIm H11 HB11
  rintro e w12 ⟨gi, ci, rfl, ⟨k0, k3, k4⟩, hbr, P12, hc⟩
  have H12 : Hid (Hc w w12 P12 (K.readS S9) C11) := hc
  have HB12 : Hid (BRow w12 a11 c11 (BL 2)) := by
    obtain ⟨a, c, e, h1⟩ := K.own_brow hbr (K.bytesL_len _ _) (K.bytesL_lt _ _) (by decide)
    cases e
    exact h1
  clear hc hbr sf sn sq s0 s3 s4 L9 m9 n9 L8 m8 n8
  have hby := bytes_c H12.out.rc 2 (by decide)
  go_wp2_with fail
  refine Calls.mono hby ?_
  clear hby
  rintro e w13 ⟨g13, c13, rfl, hb13, _, hbr13⟩
  have HSm : Hid (Calls Tryz.prog 23 #[.slice a11 512 c11, .slice (some ⟨g13, 0, none⟩) 512 c13] w13 fun e w' => e = .returned (.bool true) ∧ ∃ q, w' = w13.drewN q) := by
    have h1 := same_any a11 (some ⟨g13, 0, none⟩) c11 c13 (BL 2) (BL 2) w13 (HB12.out.later hb13) hbr13
    rw [K.bytesL_len, decide_eq_true rfl] at h1
    exact h1
  have HBF : Hid (Below w.heap.size w w13) := (H12.out.later hb13).bel
  have k0' := cell_later hb13 k0
  have k3' := cell_later hb13 k3
  have k4' := cell_later hb13 k4
  clear hb13 hbr13 HB12 H12 k0 k3 k4
  go_wp2_with fail
  refine Calls.mono HSm.out ?_
  clear HSm
  rintro e w14 ⟨rfl, q14, rfl⟩
  go_wp2
  go_ret
  exact ⟨rfl, ⟨HBF.out.os, HBF.out.tape, HBF.out.output, HBF.out.size, HBF.out.block⟩⟩
end Go.Proofs.YtbamjfnjenmdaaaGreat.C
