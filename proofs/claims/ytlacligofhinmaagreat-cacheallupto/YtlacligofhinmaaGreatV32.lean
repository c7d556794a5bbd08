import Derived.Test.YtlacligofhinmaaGreatV31
import Derived.Deep.RegionHeld3
namespace Go.Proofs.YtlacligofhinmaaGreat.C
open Go.RowKit Go.Maps Go.Shelf Go.Proofs.YtlacligofhinmaaGreat
attribute [local go_sem] Oper.semAt_some
set_option linter.unusedVariables false
set_option linter.unusedSimpArgs false
set_option maxRecDepth 100000

section
variable {w w' : World} {A : Qa} {S S' : K.Dk} {C C' : Ch}
theorem RQ.drew (h : RQ w A S C) : RQ w.drew A S C := h.later (K.below_drew w)
theorem QAct.drew {A' : Qa} {N : Nat} (h : QAct w.drew w' A A' C S' C' N) : QAct w w' A A' C S' C' N := ⟨h.rq, ⟨h.kp.os, h.kp.tape, h.kp.output, h.kp.size, h.kp.block⟩, h.sub, h.q, h.p, h.pot⟩
theorem RQ.ql (h : RQ w A S C) : A.Q.length = S.q.length := by have := congrArg List.length h.rr.q; simpa using this
set_option maxHeartbeats 8000000 in
theorem rback_at (h : RQ w A S C) (hq : A.D.length + A.Q.length < 1048576) {i : Nat} {l : Ln} (hi : C.L[i]? = some l) (hd : l.dirty = true) :
    Calls Tryz.prog 74 #[.pointer (some ⟨A.q, 0, none⟩), .int .i64 i] w fun r w' => r = .returned (.int .i64 (wbE S C l.sec)) ∧ ∃ A', QAct w w' A A' C (wbS S C l.sec) (wbC S C l.sec) (if wbE S C l.sec = 0 then 0 else 1) := by
  obtain ⟨ao, cap, hv⟩ := h.form
  obtain ⟨x, hx, e1, e2, e3⟩ := h.sim.get' hi
  obtain ⟨g, rfl, hg, k0, k1, k2, kf⟩ := h.at_ hv hx
  have hxm := List.mem_of_getElem? hx
  have hlm := List.mem_of_getElem? hi
  have hok := h.ok l hlm
  have hlt := (List.getElem?_eq_some_iff.1 hx).1
  have hx1 := h.x1024
  have hin : (i : Int) < (A.X.length : Int) := by omega
  obtain ⟨_, _, xg, xc, hxv⟩ := h.xone hxm
  obtain ⟨a1, c1, exv, hbr⟩ := K.own_brow (h.drew.xd x hxm) (by rw [e2]; exact hok.2.len) (by rw [e2]; exact hok.2.lt) (by decide)
  rw [hxv] at exv
  simp only [Value.slice.injEq] at exv
  obtain ⟨rfl, _, rfl⟩ := exv
  have hat := at_line h.sd hlm
  have hwr := K.rWrite_any h.drew.rr h.fs (by omega) l.sec (l := x.dat) (m := 512) (by rw [e2]; exact hok.2.len) hbr (h.xf x hxm xg (by rw [hxv]; rfl))
  rw [e2] at hwr
  have hwn := wrS_n S l.sec l.dat
  have hwf := K.wrS_ok h.fs l.sec l.dat
  have hwq := K.wrS_q S l.sec l.dat
  have hql := h.ql
  have c0 : w.cell? ⟨A.q, 0, none⟩ = some (.pointer (some ⟨A.p, 0, none⟩)) := h.c 0
  have c3 : w.cell? ⟨A.q, 3, none⟩ = some (.slice (some ⟨g, 0, none⟩) A.X.length cap) := by rw [← hv]; exact h.c 3
  rw [hxv] at k1
  rw [← e1] at hwr ⊢
  have HCell : Hid (∀ w1 dv' rq' av' D' Q' S1 N, QAct w w1 A { A with dv := dv', rq := rq', av := av', D := D', Q := Q' } C S1 C N → w1.cell? ⟨A.q, 0, none⟩ = some (.pointer (some ⟨A.p, 0, none⟩)) ∧ w1.cell? ⟨A.q, 3, none⟩ = some (.slice (some ⟨g, 0, none⟩) A.X.length cap) ∧ w1.cell? ⟨g, i * 3, none⟩ = some (.int .i64 x.sec) ∧ w1.cell? ⟨g, i * 3 + 1, none⟩ = some (.slice (some ⟨xg, 0, none⟩) 512 xc)) := fun w1 dv' rq' av' D' Q' S1 N ha => by
    obtain ⟨g', e, _, d0, d1, d2, df⟩ := ha.rq.at_ hv hx
    cases e
    rw [hxv] at d1
    exact ⟨ha.rq.c 0, by rw [← hv]; exact ha.rq.c 3, d0, d1⟩
  have HW : Hid (Calls Tryz.prog 113 #[.pointer (some ⟨A.p, 0, none⟩), .int .i64 x.sec, .slice (some ⟨xg, 0, none⟩) 512 xc] w.drew fun r w' => r = .returned (.int .i64 (K.wrE S x.sec l.dat)) ∧ ∃ dv' rq' av' D' Q', QAct w w' A { A with dv := dv', rq := rq', av := av', D := D', Q := Q' } C (K.wrS S x.sec l.dat) C 1) := by
    refine hwr.mono ?_
    rintro r w' ⟨rfl, qv', av', Q', ha⟩
    rw [← e1] at hwn hwf hwq
    have hQ : Q'.length = (K.wrS S x.sec l.dat).q.length := by have := congrArg List.length ha.rk.q; simpa using this
    exact ⟨rfl, _, _, _, _, _, (h.drew.disk hwn hwf ha (N := 1) (by omega)).drew⟩
  have HFin : Hid (∀ (w1 : World) dv' rq' av' D' Q' S1, QAct w w1 A { A with dv := dv', rq := rq', av := av', D := D', Q := Q' } C S1 C 1 → w1.frozen? ⟨g, i * 3 + 2, none⟩ = false ∧ w1.cell? ⟨g, i * 3 + 2, none⟩ = some (.bool x.dirty) ∧ (w1.setCell ⟨g, i * 3 + 2, none⟩ (.bool false)).cell? ⟨A.q, 7, none⟩ = some (.int .u64 C.st.written) ∧ (w1.setCell ⟨g, i * 3 + 2, none⟩ (.bool false)).frozen? ⟨A.q, 7, none⟩ = false ∧ ∃ A', QAct w ((w1.setCell ⟨g, i * 3 + 2, none⟩ (.bool false)).setCell ⟨A.q, 7, none⟩ (.int .u64 (K.inc C.st.written))) A A' C S1 { C with L := cleanL C.L x.sec, st := { C.st with written := K.inc C.st.written } } 0) := fun w1 dv' rq' av' D' Q' S1 ha => by
    obtain ⟨g', e, hg', d0, d1, d2, df⟩ := ha.rq.at_ hv hx
    cases e
    have a2 := ha.rq.clean hi hx hg'
    have a3 := a2.rq.stat 7 (.int .u64 (K.inc C.st.written)) { C.st with written := K.inc C.st.written } rfl
    have a4 := (ha.trans a2).trans a3
    rw [show cleanL C.L (x.sec : Int) = cleanL C.L l.sec by rw [e1]]
    refine ⟨df _, d2, a2.rq.c 7, a2.rq.fz 7, _, ⟨a4.rq, a4.kp, a4.sub, a4.q, a4.p, ?_⟩⟩
    have hp1 := ha.pot
    have hcl := dirtyN_cleaned h.sd hi
    rw [dirtyN_one hd] at hcl
    simp only [Qa.pot] at hp1 ⊢
    omega
  have h2 := wrE_two hok.1 hok.2
  have HE : Hid (wbE S C x.sec = (if K.wrE S x.sec l.dat = 0 then 0 else 33) ∧ wbS S C x.sec = K.wrS S x.sec l.dat ∧ wbC S C x.sec = (if K.wrE S x.sec l.dat = 0 then { C with L := cleanL C.L x.sec, st := { C.st with written := K.inc C.st.written } } else C)) := by
    rw [e1]
    unfold wbE wbS wbC
    rw [hat]
    exact ⟨rfl, rfl, rfl⟩
  rw [← e1] at h2
  obtain ⟨E1, E2, E3⟩ := HE.out
  rw [E1, E2, E3]
  generalize A.X.length = xl at *
  clear h hwr hat hi hx hlm hxm hok hwn hwf hwq hql hbr hv hlt E1 E2 E3 HE e1 e2 e3 kf
  rcases h2 with he | he
  · simp only [he, if_true] at HW ⊢
    go_enter Tryz.func74, Tryz.ntmps74
    go_wp2
    go_region_held3 (fun w' => w'.cell? ⟨A.q, 0, none⟩ = some (.pointer (some ⟨A.p, 0, none⟩)) ∧ w'.cell? ⟨A.q, 3, none⟩ = some (.slice (some ⟨g, 0, none⟩) xl cap) ∧ w'.cell? ⟨g, i * 3, none⟩ = some (.int .i64 x.sec) ∧ w'.cell? ⟨g, i * 3 + 1, none⟩ = some (.slice (some ⟨xg, 0, none⟩) 512 xc)) (first | exact ⟨c0, c3, k0, k1⟩ | exact hS1 | go_keep) (first | (go_at_call 113; refine HW.out.mono ?_; rintro r w1 ⟨rfl, dv', rq', av', D', Q', ha⟩; obtain ⟨f1, k5, k6, f2, hfin⟩ := HFin.out w1 _ _ _ _ _ _ ha; have hS1 := HCell.out w1 _ _ _ _ _ _ _ ha; have HF : Hid _ := hfin; clear hfin HFin ha HCell))
    obtain ⟨q0, q3, _, _⟩ := hS1
    go_wp2
    go_ret
    exact ⟨rfl, HF.out⟩
  · simp only [he, show ((33 : Int) = 0) = False by simp, if_false] at HW ⊢
    go_enter Tryz.func74, Tryz.ntmps74
    go_wp2
    go_region_held3 (fun w' => w'.cell? ⟨A.q, 0, none⟩ = some (.pointer (some ⟨A.p, 0, none⟩)) ∧ w'.cell? ⟨A.q, 3, none⟩ = some (.slice (some ⟨g, 0, none⟩) xl cap) ∧ w'.cell? ⟨g, i * 3, none⟩ = some (.int .i64 x.sec) ∧ w'.cell? ⟨g, i * 3 + 1, none⟩ = some (.slice (some ⟨xg, 0, none⟩) 512 xc)) (first | exact ⟨c0, c3, k0, k1⟩ | exact hS1 | go_keep) (first | (go_at_call 113; refine HW.out.mono ?_; rintro r w1 ⟨rfl, dv', rq', av', D', Q', ha⟩; have hS1 := HCell.out w1 _ _ _ _ _ _ _ ha; have HF : Hid _ := ha; clear ha HCell HFin))
    go_wp2
    go_ret
    exact ⟨rfl, _, HF.out⟩
end
end Go.Proofs.YtlacligofhinmaaGreat.C
