import Derived.Test.YtlacligofhinmaaGreatV22
import Derived.Deep.RegionHeld3
import Derived.Deep.RegionLaw
import Derived.Deep.AppendLies
import Derived.Deep.DrawnRows
namespace Go.Proofs.YtlacligofhinmaaGreat.K
open Go.RowKit Go.Maps Go.Proofs.YtlacligofhinmaaGreat
attribute [local go_sem] Oper.semAt_some
set_option linter.unusedVariables false
set_option linter.unusedSimpArgs false
set_option maxRecDepth 100000

section
variable {w : World} {p : Nat} {dv qv av : Value} {D Q : List Pv} {S : Dk}
set_option maxHeartbeats 4000000 in
theorem rWrite_ok (h : RR w p dv qv av D Q S) (hf : FsOk S.fs) (hq : Q.length < 1048576) {t : Nat} (ht : t < S.n) (hh : hitF S.fs 2 t = false) {l : Bl} (hl : OkB l) {ad : Addr} {cap : Nat} (hb : BRow w (some ad) cap l) (hap : ad.block ∉ fr p dv qv av (D ++ Q)) :
    Calls Tryz.prog 113 #[.pointer (some ⟨p, 0, none⟩), .int .i64 t, .slice (some ad) 512 cap] w fun r w' => r = .returned (.int .i64 0) ∧ ∃ qv' av' Q', RAct w w' p dv qv av D Q dv qv' av' D Q' (wrote (failS S 2 t) t l) := by
  have hha := rHas_any h t
  rw [show inD S.n t = true from decide_eq_true (by omega)] at hha
  have hfa := rfails_any h hf 2 t
  rw [hh] at hfa
  obtain ⟨ao, qc, rfl⟩ := own_slice h.qr
  obtain ⟨m, hm⟩ : ∃ m, m = Q.length := ⟨_, rfl⟩
  have HM : Hid (Q.length = m) := hm.symm
  have HBR : Hid (∀ W, Kp w W (fr p dv (.slice ao Q.length qc) av (D ++ Q)) → BRow W (some ad) cap l) := fun W hW => by
    refine ⟨hb.lt, hb.len, hb.nil, fun hn => ?_⟩
    obtain ⟨b, off, e, hc⟩ := hb.at_ hn
    refine ⟨b, off, e, fun k hk => ?_⟩
    have h1 := hc k hk
    have hlt : b < w.heap.size := cell_lt h1
    cases e
    exact (World.cell?_of_block (a := ⟨b, off + k, none⟩) (hW.block b hlt hap)).trans h1
  have HTn : Hid (t < (failS S 2 t).n) := by show _ < _; rw [failS_n]; exact ht
  have HL : Hid (OkB l) := hl
  obtain ⟨S1, hS1⟩ : ∃ S1, S1 = failS S 2 t := ⟨_, rfl⟩
  rw [← hS1] at hfa HTn ⊢
  rw [← hm] at hfa hq HBR ⊢
  obtain ⟨i0, hi0, hz0, hz1, hz2⟩ := info_parts infoPt
  generalize landF S.fs 2 t = ld at hfa
  clear h hf ht hh hb hap hl hS1 hm
  go_enter Tryz.func113, Tryz.ntmps113
  go_wp2_with (first | (go_at_call 47; refine hha.mono ?_; rintro e w9 ⟨rfl, hw9⟩; rw [hw9]; clear hw9 hha) | (go_at_call 102; refine hfa.mono ?_; rintro e w2 ⟨rfl, av', ha⟩; have HA2 : Hid (RAct w w2 p dv (.slice ao m qc) av D Q dv (.slice ao m qc) av' D Q S1) := ha; clear hfa ha))
  have HAd : Hid (RAct w w2.drew p dv (.slice ao m qc) av D Q dv (.slice ao m qc) av' D Q S1) := HA2.out.later (below_drew w2)
  have c3 : w2.cell? ⟨p, 3, none⟩ = some (.slice ao m qc) := HA2.out.rk.c 3
  have c3d : w2.drew.cell? ⟨p, 3, none⟩ = some (.slice ao m qc) := HAd.out.rk.c 3
  have hby := rbytes_some ad cap l w2.drew (HBR.out w2.drew HAd.out.kp)
  rw [HL.out.len] at hby
  have HBy : Hid (Calls Tryz.prog 50 #[.slice (some ad) 512 cap] w2.drew fun e w' => ∃ v, e = .returned v ∧ w'.ownsRow w2.drew.heap.size 5 1 v 512 (l.map bv) ∧ Below w2.drew.heap.size w2.drew w') := hby
  clear hby HBR HA2
  go_region_law
    (first
      | (go_simp; go_at_call 50; refine HBy.out.mono ?_; rintro r w5 ⟨v, rfl, ho5, hb5⟩; obtain ⟨gd, cd, cur5, rfl, hgd, hkd, hcd⟩ := own_form ho5 (by decide); have HO5 : Hid (w5.ownsRow w2.drew.heap.size 5 1 (.slice (some ⟨gd, 0, none⟩) 512 cd) 512 (l.map bv)) := ho5; have HB5 : Hid (Below w2.drew.heap.size w2.drew w5) := hb5; have hone := fun W => run_onep W t (.slice (some ⟨gd, 0, none⟩) 512 cd) rfl; have c35 : w5.cell? ⟨p, 3, none⟩ = some (.slice ao m qc) := cell_later hb5 c3d; have c35a : (w5.alloc (.cells #[.int .i64 t, .slice (some ⟨gd, 0, none⟩) 512 cd] TPt)).cell? ⟨p, 3, none⟩ = some (.slice ao m qc) := cell_later ((Below.refl _ w5).alloc (Nat.le_refl _) _) c35; clear hb5 ho5 hkd hcd; dsimp only)
      | (refine step_append_lies _ (by rfl) _ _ TPts (by rfl) 0 TPt i0 _ 2 32 Tryz.underlying71 hi0 hz0 hz1 hz2 (by rfl) (by decide) (.slice ao m qc) m (qcells Q) (by rfl) ((by have h1 := (HAd.out.rk.later HB5.out).qr; rw [HM.out] at h1; exact h1 : w5.ownsRow 0 TPt 2 (.slice ao m qc) m (qcells Q)).alloc _) ⟨w5.heap.size, 0, none⟩ 1 1 (qcell (t, .slice (some ⟨gd, 0, none⟩) 512 cd, l)) (by rfl) (by rfl) (World.news_of_block (heap_alloc_new w5 _)) (fun u hu => by simp [qcell] at hu; rcases hu with rfl | rfl <;> rfl) (by decide) (by unfold maxLen; omega) (by omega) (Nat.zero_le _) (w5.heap.size + 1) (by rw [World.size_alloc]) ?_; intro g' cap' w6 hown' hgrow hat hlt'; have hfin := HAd.out.rk.newQ (x := (t, .slice (some ⟨gd, 0, none⟩) 512 cd, l)) (HB5.out.trans (((Below.refl _ w5).alloc (Nat.le_refl _) _).mono HB5.out.size)) hgrow ((owns_mono HO5.out (Nat.zero_le _)).alloc _) (fun g e => (HO5.out.lt g e).1) HTn.out HL.out (by rw [HM.out]; exact hown') (hat.imp id (fun e => by have := HB5.out.size; omega)) hlt'; have c46 : w6.cell? ⟨p, 3, none⟩ = some (.slice ao m qc) := (World.cell?_of_block (a := ⟨p, 3, none⟩) hfin.1).trans (HAd.out.rk.c 3); have f46 : w6.frozen? ⟨p, 3, none⟩ = false := frozen_of (hfin.1.trans HAd.out.rk.blk); have HA6 : Hid (RAct w (w6.setCell ⟨p, 3, none⟩ (.slice (some ⟨g', 0, none⟩) (m + 1) cap')) p dv (.slice ao m qc) av D Q dv (.slice (some ⟨g', 0, none⟩) (m + 1) cap') av' D (Q ++ [(t, .slice (some ⟨gd, 0, none⟩) 512 cd, l)]) (pushS S1 t l)) := HAd.out.trans hfin.2; have c66 : (w6.setCell ⟨p, 3, none⟩ (.slice (some ⟨g', 0, none⟩) (m + 1) cap')).cell? ⟨p, 6, none⟩ = some (.int .u64 S1.st.writes) := HA6.out.rk.c 6; have f66 := HA6.out.rk.fz 6; clear hfin hown' hgrow hat hlt'))
  all_goals go_wp2
  all_goals exact bodyPost_ret (results_tmp rfl _ _ _) rfl ⟨rfl, _, av', _, HA6.out.put 6 _ { S1.st with writes := inc S1.st.writes } rfl⟩
set_option maxHeartbeats 4000000 in
theorem rWrite_land (h : RR w p dv qv av D Q S) (hf : FsOk S.fs) (hq : Q.length < 1048576) {t : Nat} (ht : t < S.n) (hh : hitF S.fs 2 t = true) (hld : landF S.fs 2 t = true) {l : Bl} (hl : OkB l) {ad : Addr} {cap : Nat} (hb : BRow w (some ad) cap l) (hap : ad.block ∉ fr p dv qv av (D ++ Q)) :
    Calls Tryz.prog 113 #[.pointer (some ⟨p, 0, none⟩), .int .i64 t, .slice (some ad) 512 cap] w fun r w' => r = .returned (.int .i64 33) ∧ ∃ qv' av' Q', RAct w w' p dv qv av D Q dv qv' av' D Q' (pushS (failS S 2 t) t l) := by
  have hha := rHas_any h t
  rw [show inD S.n t = true from decide_eq_true (by omega)] at hha
  have hfa := rfails_any h hf 2 t
  rw [hh, hld] at hfa
  obtain ⟨ao, qc, rfl⟩ := own_slice h.qr
  obtain ⟨m, hm⟩ : ∃ m, m = Q.length := ⟨_, rfl⟩
  have HM : Hid (Q.length = m) := hm.symm
  have HBR : Hid (∀ W, Kp w W (fr p dv (.slice ao Q.length qc) av (D ++ Q)) → BRow W (some ad) cap l) := fun W hW => by
    refine ⟨hb.lt, hb.len, hb.nil, fun hn => ?_⟩
    obtain ⟨b, off, e, hc⟩ := hb.at_ hn
    refine ⟨b, off, e, fun k hk => ?_⟩
    have h1 := hc k hk
    have hlt : b < w.heap.size := cell_lt h1
    cases e
    exact (World.cell?_of_block (a := ⟨b, off + k, none⟩) (hW.block b hlt hap)).trans h1
  have HTn : Hid (t < (failS S 2 t).n) := by show _ < _; rw [failS_n]; exact ht
  have HL : Hid (OkB l) := hl
  obtain ⟨S1, hS1⟩ : ∃ S1, S1 = failS S 2 t := ⟨_, rfl⟩
  rw [← hS1] at hfa HTn ⊢
  rw [← hm] at hfa hq HBR ⊢
  obtain ⟨i0, hi0, hz0, hz1, hz2⟩ := info_parts infoPt
  
  clear h hf ht hh hb hap hl hS1 hm hld
  go_enter Tryz.func113, Tryz.ntmps113
  go_wp2_with (first | (go_at_call 47; refine hha.mono ?_; rintro e w9 ⟨rfl, hw9⟩; rw [hw9]; clear hw9 hha) | (go_at_call 102; refine hfa.mono ?_; rintro e w2 ⟨rfl, av', ha⟩; have HA2 : Hid (RAct w w2 p dv (.slice ao m qc) av D Q dv (.slice ao m qc) av' D Q S1) := ha; clear hfa ha))
  have HAd : Hid (RAct w w2.drew p dv (.slice ao m qc) av D Q dv (.slice ao m qc) av' D Q S1) := HA2.out.later (below_drew w2)
  have c3 : w2.cell? ⟨p, 3, none⟩ = some (.slice ao m qc) := HA2.out.rk.c 3
  have c3d : w2.drew.cell? ⟨p, 3, none⟩ = some (.slice ao m qc) := HAd.out.rk.c 3
  have hby := rbytes_some ad cap l w2.drew (HBR.out w2.drew HAd.out.kp)
  rw [HL.out.len] at hby
  have HBy : Hid (Calls Tryz.prog 50 #[.slice (some ad) 512 cap] w2.drew fun e w' => ∃ v, e = .returned v ∧ w'.ownsRow w2.drew.heap.size 5 1 v 512 (l.map bv) ∧ Below w2.drew.heap.size w2.drew w') := hby
  clear hby HBR HA2
  go_region_law
    (first
      | (go_simp; go_at_call 50; refine HBy.out.mono ?_; rintro r w5 ⟨v, rfl, ho5, hb5⟩; obtain ⟨gd, cd, cur5, rfl, hgd, hkd, hcd⟩ := own_form ho5 (by decide); have HO5 : Hid (w5.ownsRow w2.drew.heap.size 5 1 (.slice (some ⟨gd, 0, none⟩) 512 cd) 512 (l.map bv)) := ho5; have HB5 : Hid (Below w2.drew.heap.size w2.drew w5) := hb5; have hone := fun W => run_onep W t (.slice (some ⟨gd, 0, none⟩) 512 cd) rfl; have c35 : w5.cell? ⟨p, 3, none⟩ = some (.slice ao m qc) := cell_later hb5 c3d; have c35a : (w5.alloc (.cells #[.int .i64 t, .slice (some ⟨gd, 0, none⟩) 512 cd] TPt)).cell? ⟨p, 3, none⟩ = some (.slice ao m qc) := cell_later ((Below.refl _ w5).alloc (Nat.le_refl _) _) c35; clear hb5 ho5 hkd hcd; dsimp only)
      | (refine step_append_lies _ (by rfl) _ _ TPts (by rfl) 0 TPt i0 _ 2 32 Tryz.underlying71 hi0 hz0 hz1 hz2 (by rfl) (by decide) (.slice ao m qc) m (qcells Q) (by rfl) ((by have h1 := (HAd.out.rk.later HB5.out).qr; rw [HM.out] at h1; exact h1 : w5.ownsRow 0 TPt 2 (.slice ao m qc) m (qcells Q)).alloc _) ⟨w5.heap.size, 0, none⟩ 1 1 (qcell (t, .slice (some ⟨gd, 0, none⟩) 512 cd, l)) (by rfl) (by rfl) (World.news_of_block (heap_alloc_new w5 _)) (fun u hu => by simp [qcell] at hu; rcases hu with rfl | rfl <;> rfl) (by decide) (by unfold maxLen; omega) (by omega) (Nat.zero_le _) (w5.heap.size + 1) (by rw [World.size_alloc]) ?_; intro g' cap' w6 hown' hgrow hat hlt'; have hfin := HAd.out.rk.newQ (x := (t, .slice (some ⟨gd, 0, none⟩) 512 cd, l)) (HB5.out.trans (((Below.refl _ w5).alloc (Nat.le_refl _) _).mono HB5.out.size)) hgrow ((owns_mono HO5.out (Nat.zero_le _)).alloc _) (fun g e => (HO5.out.lt g e).1) HTn.out HL.out (by rw [HM.out]; exact hown') (hat.imp id (fun e => by have := HB5.out.size; omega)) hlt'; have c46 : w6.cell? ⟨p, 3, none⟩ = some (.slice ao m qc) := (World.cell?_of_block (a := ⟨p, 3, none⟩) hfin.1).trans (HAd.out.rk.c 3); have f46 : w6.frozen? ⟨p, 3, none⟩ = false := frozen_of (hfin.1.trans HAd.out.rk.blk); have HA6 : Hid (RAct w (w6.setCell ⟨p, 3, none⟩ (.slice (some ⟨g', 0, none⟩) (m + 1) cap')) p dv (.slice ao m qc) av D Q dv (.slice (some ⟨g', 0, none⟩) (m + 1) cap') av' D (Q ++ [(t, .slice (some ⟨gd, 0, none⟩) 512 cd, l)]) (pushS S1 t l)) := HAd.out.trans hfin.2; have c66 : (w6.setCell ⟨p, 3, none⟩ (.slice (some ⟨g', 0, none⟩) (m + 1) cap')).cell? ⟨p, 6, none⟩ = some (.int .u64 S1.st.writes) := HA6.out.rk.c 6; have f66 := HA6.out.rk.fz 6; clear hfin hown' hgrow hat hlt'))
  all_goals go_wp2
  all_goals exact bodyPost_ret (results_tmp rfl _ _ _) rfl ⟨rfl, _, av', _, HA6.out⟩
set_option maxHeartbeats 4000000 in
theorem rWrite_lost (h : RR w p dv qv av D Q S) (hf : FsOk S.fs) {t : Nat} (ht : t < S.n) (hh : hitF S.fs 2 t = true) (hld : landF S.fs 2 t = false) (ao : Option Addr) (cap : Nat) :
    Calls Tryz.prog 113 #[.pointer (some ⟨p, 0, none⟩), .int .i64 t, .slice ao 512 cap] w fun r w' => r = .returned (.int .i64 33) ∧ ∃ av', RAct w w' p dv qv av D Q dv qv av' D Q (failS S 2 t) := by
  have hha := rHas_any h t
  rw [show inD S.n t = true from decide_eq_true (by omega)] at hha
  have hfa := rfails_any h hf 2 t
  rw [hh, hld] at hfa
  obtain ⟨S1, hS1⟩ : ∃ S1, S1 = failS S 2 t := ⟨_, rfl⟩
  rw [← hS1] at hfa ⊢
  clear h hf ht hh hld hS1
  go_enter Tryz.func113, Tryz.ntmps113
  go_wp2_with (first | (go_at_call 47; refine hha.mono ?_; rintro e w9 ⟨rfl, hw9⟩; rw [hw9]; clear hw9 hha) | (go_at_call 102; refine hfa.mono ?_; rintro e w2 ⟨rfl, av', ha⟩; have HA2 : Hid (RAct w w2 p dv qv av D Q dv qv av' D Q S1) := ha; clear hfa ha))
  exact bodyPost_ret (results_tmp rfl _ _ _) rfl ⟨rfl, av', HA2.out⟩
set_option maxHeartbeats 4000000 in
theorem rWrite_len (h : RR w p dv qv av D Q S) {t : Nat} (ht : t < S.n) {m : Nat} (hm : m ≠ 512) (hm1 : m ≤ 140737488351232) (ao : Option Addr) (cap : Nat) :
    Calls Tryz.prog 113 #[.pointer (some ⟨p, 0, none⟩), .int .i64 t, .slice ao m cap] w fun r w' => r = .returned (.int .i64 32) ∧ w' = w := by
  have hha := rHas_any h t
  rw [show inD S.n t = true from decide_eq_true (by omega)] at hha
  have hmi : ¬ ((m : Int) = 512) := by omega
  clear h ht hm
  go_enter Tryz.func113, Tryz.ntmps113
  go_wp2_with (first | (go_at_call 47; refine hha.mono ?_; rintro e w9 ⟨rfl, hw9⟩; rw [hw9]; clear hw9 hha))
  exact bodyPost_ret (results_tmp rfl _ _ _) rfl ⟨rfl, rfl⟩
set_option maxHeartbeats 4000000 in
theorem rWrite_out (h : RR w p dv qv av D Q S) {s : Int} (hs : inD S.n s = false) (ao : Option Addr) (m cap : Nat) :
    Calls Tryz.prog 113 #[.pointer (some ⟨p, 0, none⟩), .int .i64 s, .slice ao m cap] w fun r w' => r = .returned (.int .i64 31) ∧ w' = w := by
  have hha := rHas_any h s
  rw [hs] at hha
  clear h hs
  go_enter Tryz.func113, Tryz.ntmps113
  go_wp2_with (first | (go_at_call 47; refine hha.mono ?_; rintro e w9 ⟨rfl, hw9⟩; rw [hw9]; clear hw9 hha))
  exact bodyPost_ret (results_tmp rfl _ _ _) rfl ⟨rfl, rfl⟩
theorem rWrite_any (h : RR w p dv qv av D Q S) (hf : FsOk S.fs) (hq : Q.length < 1048576) (s : Int) {l : List Nat} {m : Nat} (hm : l.length = m) {ad : Addr} {cap : Nat} (hb : BRow w (some ad) cap l) (hap : ad.block ∉ fr p dv qv av (D ++ Q)) :
    Calls Tryz.prog 113 #[.pointer (some ⟨p, 0, none⟩), .int .i64 s, .slice (some ad) m cap] w fun r w' => r = .returned (.int .i64 (wrE S s l)) ∧ ∃ qv' av' Q', RAct w w' p dv qv av D Q dv qv' av' D Q' (wrS S s l) := by
  unfold wrE wrS
  by_cases hr : 0 ≤ s ∧ s < S.n
  · have hi : inD S.n s = true := decide_eq_true hr
    rw [if_pos hi, if_pos hi]
    obtain ⟨t, rfl⟩ : ∃ t : Nat, s = t := ⟨s.toNat, by omega⟩
    have ht : t < S.n := by omega
    by_cases hl : l.length = 512
    · rw [if_pos hl, if_pos hl]
      have hok : OkB l := ⟨hl, hb.lt⟩
      obtain rfl : m = 512 := by omega
      rw [Int.toNat_natCast]
      by_cases hh : hitF S.fs 2 t = true
      · rw [if_pos hh, if_pos hh]
        by_cases hd : landF S.fs 2 t = true
        · rw [if_pos hd]
          exact rWrite_land h hf hq ht hh hd hok hb hap
        · rw [if_neg hd]
          refine (rWrite_lost h hf ht hh (by simpa using hd) _ _).mono ?_
          rintro r w' ⟨rfl, av', ha⟩
          exact ⟨rfl, _, _, _, ha⟩
      · rw [if_neg hh, if_neg hh]
        exact rWrite_ok h hf hq ht (by simpa using hh) hok hb hap
    · rw [if_neg hl, if_neg hl]
      refine (rWrite_len h ht (by omega) (by have := hb.len; omega) _ _).mono ?_
      rintro r w' ⟨rfl, rfl⟩
      exact ⟨rfl, _, _, _, RAct.refl h⟩
  · have hi : ¬ inD S.n s = true := by unfold inD; simpa using hr
    rw [if_neg hi, if_neg hi]
    refine (rWrite_out h (by simpa using hi) _ _ _).mono ?_
    rintro r w' ⟨rfl, rfl⟩
    exact ⟨rfl, _, _, _, RAct.refl h⟩
end
end Go.Proofs.YtlacligofhinmaaGreat.K
