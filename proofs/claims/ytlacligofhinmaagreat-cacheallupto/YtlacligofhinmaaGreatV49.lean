import Derived.Test.YtlacligofhinmaaGreatV47
namespace Go.Proofs.YtlacligofhinmaaGreat.C
open Go.RowKit Go.Maps Go.Shelf Go.Proofs.YtlacligofhinmaaGreat
attribute [local go_sem] Oper.semAt_some
set_option linter.unusedVariables false
set_option linter.unusedSimpArgs false
set_option maxRecDepth 100000


set_option maxHeartbeats 8000000 in
theorem ch_flush {n0 x : Nat} {W : World} {P : Loc} {A : Qa} {S : K.Dk} {C : Ch} (h : Pq n0 W x P A S C S C) (hN : A.pot C + 2 < 1048576) (m k : Int) (v : Value) (osec : Int) (ofill : Nat) (omore : Int) (olo : Option Addr) (oln olc : Nat) (fk fsec fa ft : Int) (fl : Bool) (oko : Option Addr) (okn okc : Nat) :
    Calls Tryz.prog 11 #[.pointer (some ⟨x, 0, none⟩), .agg #[.int .i64 m, .int .i64 k, v], .agg #[.int .i64 3, .int .i64 osec, .int .u8 ofill, .int .i64 omore, .slice olo oln olc, .int .i64 fk, .int .i64 fsec, .int .i64 fa, .int .i64 ft, .bool fl, .slice oko okn okc]] W (ChP n0 W x S.n (A.pot C + 2)) := by
  obtain ⟨W0, hW0⟩ : ∃ W0, W0 = (W.alloc (.cells #[.int .i64 m, .int .i64 k, v] TSe)).alloc (.cells #[.int .i64 3, .int .i64 osec, .int .u8 ofill, .int .i64 omore, .slice olo oln olc, .int .i64 fk, .int .i64 fsec, .int .i64 fa, .int .i64 ft, .bool fl, .slice oko okn okc] TOp) := ⟨_, rfl⟩
  have HF0 : Hid (Pf n0 W W0 x #[.int .i64 m, .int .i64 k, v] #[.int .i64 3, .int .i64 osec, .int .u8 ofill, .int .i64 omore, .slice olo oln olc, .int .i64 fk, .int .i64 fsec, .int .i64 fa, .int .i64 ft, .bool fl, .slice oko okn okc] P A S C S C) := by rw [hW0]; exact Pf.new h _ _
  have HW0 : Hid (W0 = (W.alloc (.cells #[.int .i64 m, .int .i64 k, v] TSe)).alloc (.cells #[.int .i64 3, .int .i64 osec, .int .u8 ofill, .int .i64 omore, .slice olo oln olc, .int .i64 fk, .int .i64 fsec, .int .i64 fa, .int .i64 ft, .bool fl, .slice oko okn okc] TOp)) := hW0
  have HQ : Hid (S.q.length + dirtyN C.L ≤ A.pot C) := h.rq.qlen
  have HFs : Hid (K.FsOk S.fs) := h.rq.fs
  clear h hW0
  go_enter Tryz.func11, Tryz.ntmps11
  go_wp2_with fail
  rw [← HW0.out]
  have HFd : Hid (Pf n0 W W0.drew x #[.int .i64 m, .int .i64 k, v] #[.int .i64 3, .int .i64 osec, .int .u8 ofill, .int .i64 omore, .slice olo oln olc, .int .i64 fk, .int .i64 fsec, .int .i64 fa, .int .i64 ft, .bool fl, .slice oko okn okc] P A S C S C) := HF0.out.later (K.below_drew W0)
  have z0 : W0.cell? ⟨x, 1, none⟩ = some (.pointer (some ⟨P.bc, 0, none⟩)) ∧ W0.cell? ⟨x, 3, none⟩ = some (.pointer (some ⟨A.q, 0, none⟩)) := ⟨HF0.out.c1, HF0.out.c3⟩
  have zd : W0.drew.cell? ⟨x, 1, none⟩ = some (.pointer (some ⟨P.bc, 0, none⟩)) ∧ W0.drew.cell? ⟨x, 3, none⟩ = some (.pointer (some ⟨A.q, 0, none⟩)) := ⟨HFd.out.c1, HFd.out.c3⟩
  have hfD := flush_c HFd.out.pq.rc HFs.out (by have := HQ.out; omega)
  go_region_held3 (fun w' => w'.cell? ⟨x, 1, none⟩ = some (.pointer (some ⟨P.bc, 0, none⟩)) ∧ w'.cell? ⟨x, 3, none⟩ = some (.pointer (some ⟨A.q, 0, none⟩))) (first | exact z0 | exact zd | exact HZ1.out | exact HZ2.out | go_keep) (first | (go_at_call 24; refine hfD.mono ?_; rintro r W1 ⟨rfl, P1, ha1⟩; have HF1 : Hid (Pf n0 W W1 x #[.int .i64 m, .int .i64 k, v] #[.int .i64 3, .int .i64 osec, .int .u8 ofill, .int .i64 omore, .slice olo oln olc, .int .i64 fk, .int .i64 fsec, .int .i64 fa, .int .i64 ft, .bool fl, .slice oko okn okc] P1 A (flushR S C).2.1 (flushR S C).2.2 S C) := HFd.out.actC ha1; have HZ1 : Hid (W1.cell? ⟨x, 1, none⟩ = some (.pointer (some ⟨P.bc, 0, none⟩)) ∧ W1.cell? ⟨x, 3, none⟩ = some (.pointer (some ⟨A.q, 0, none⟩))) := ⟨by rw [← ha1.bc]; exact HF1.out.c1, HF1.out.c3⟩; have HB1 : Hid (P1.bc = P.bc) := ha1.bc; have hfR := rflush_any HF1.out.pq.rq (by omega); clear ha1 hfD) | (go_at_call 28; refine hfR.mono ?_; rintro r W2 ⟨rfl, A2, hq2⟩; have HF2 : Hid (Pf n0 W W2 x #[.int .i64 m, .int .i64 k, v] #[.int .i64 3, .int .i64 osec, .int .u8 ofill, .int .i64 omore, .slice olo oln olc, .int .i64 fk, .int .i64 fsec, .int .i64 fa, .int .i64 ft, .bool fl, .slice oko okn okc] P1 A2 (flushR S C).2.1 (flushR S C).2.2 (flushR S C).2.1 (flushR S C).2.2) := HF1.out.actQ hq2; have HZ2 : Hid (W2.cell? ⟨x, 1, none⟩ = some (.pointer (some ⟨P.bc, 0, none⟩)) ∧ W2.cell? ⟨x, 3, none⟩ = some (.pointer (some ⟨A.q, 0, none⟩))) := ⟨by rw [← HB1.out]; exact HF2.out.c1, by rw [← hq2.q]; exact HF2.out.c3⟩; have HPt : Hid (A2.pot (flushR S C).2.2 ≤ A.pot C + 2) := Nat.le_trans hq2.pot (by split <;> omega); clear hq2 hfR))
  go_wp2
  go_ret
  exact ⟨by simp, P1, A2, _, _, HF2.out.pq, HF2.out.bl, flush_n S C, HPt.out⟩
set_option maxHeartbeats 8000000 in
theorem ch_back {n0 x : Nat} {W : World} {P : Loc} {A : Qa} {S : K.Dk} {C : Ch} (h : Pq n0 W x P A S C S C) (hN : A.pot C + 2 < 1048576) (m k : Int) (v : Value) (osec : Int) (ofill : Nat) (omore : Int) (olo : Option Addr) (oln olc : Nat) (fk fsec fa ft : Int) (fl : Bool) (oko : Option Addr) (okn okc : Nat) :
    Calls Tryz.prog 11 #[.pointer (some ⟨x, 0, none⟩), .agg #[.int .i64 m, .int .i64 k, v], .agg #[.int .i64 5, .int .i64 osec, .int .u8 ofill, .int .i64 omore, .slice olo oln olc, .int .i64 fk, .int .i64 fsec, .int .i64 fa, .int .i64 ft, .bool fl, .slice oko okn okc]] W (ChP n0 W x S.n (A.pot C + 2)) := by
  obtain ⟨W0, hW0⟩ : ∃ W0, W0 = (W.alloc (.cells #[.int .i64 m, .int .i64 k, v] TSe)).alloc (.cells #[.int .i64 5, .int .i64 osec, .int .u8 ofill, .int .i64 omore, .slice olo oln olc, .int .i64 fk, .int .i64 fsec, .int .i64 fa, .int .i64 ft, .bool fl, .slice oko okn okc] TOp) := ⟨_, rfl⟩
  have HF0 : Hid (Pf n0 W W0 x #[.int .i64 m, .int .i64 k, v] #[.int .i64 5, .int .i64 osec, .int .u8 ofill, .int .i64 omore, .slice olo oln olc, .int .i64 fk, .int .i64 fsec, .int .i64 fa, .int .i64 ft, .bool fl, .slice oko okn okc] P A S C S C) := by rw [hW0]; exact Pf.new h _ _
  have HW0 : Hid (W0 = (W.alloc (.cells #[.int .i64 m, .int .i64 k, v] TSe)).alloc (.cells #[.int .i64 5, .int .i64 osec, .int .u8 ofill, .int .i64 omore, .slice olo oln olc, .int .i64 fk, .int .i64 fsec, .int .i64 fa, .int .i64 ft, .bool fl, .slice oko okn okc] TOp)) := hW0
  have HQ : Hid (S.q.length + dirtyN C.L ≤ A.pot C) := h.rq.qlen
  have HFs : Hid (K.FsOk S.fs) := h.rq.fs
  have z1 : ((W.alloc (.cells #[.int .i64 m, .int .i64 k, v] TSe)).alloc (.cells #[.int .i64 5, .int .i64 osec, .int .u8 ofill, .int .i64 omore, .slice olo oln olc, .int .i64 fk, .int .i64 fsec, .int .i64 fa, .int .i64 ft, .bool fl, .slice oko okn okc] TOp)).cell? ⟨x, 1, none⟩ = some (.pointer (some ⟨P.bc, 0, none⟩)) := by rw [← hW0]; exact HF0.out.c1
  clear h hW0
  go_enter Tryz.func11, Tryz.ntmps11
  go_wp2_with fail
  rw [← HW0.out]
  clear z1
  have hfD := back_c HF0.out.pq.rc HFs.out (by have := HQ.out; omega)
  refine hfD.mono ?_
  rintro r W1 ⟨rfl, P1, ha1⟩
  have HF1 : Hid (Pf n0 W W1 x #[.int .i64 m, .int .i64 k, v] #[.int .i64 5, .int .i64 osec, .int .u8 ofill, .int .i64 omore, .slice olo oln olc, .int .i64 fk, .int .i64 fsec, .int .i64 fa, .int .i64 ft, .bool fl, .slice oko okn okc] P1 A (backR S C).2.2.1 (backR S C).2.2.2 S C) := HF0.out.actC ha1
  have hfR := rBack_any HF1.out.pq.rq (by omega)
  have z3 := HF1.out.c3
  clear ha1 hfD
  go_wp2_with fail
  refine hfR.mono ?_
  rintro r W2 ⟨rfl, A2, hq2⟩
  have HF2 : Hid (Pf n0 W W2 x #[.int .i64 m, .int .i64 k, v] #[.int .i64 5, .int .i64 osec, .int .u8 ofill, .int .i64 omore, .slice olo oln olc, .int .i64 fk, .int .i64 fsec, .int .i64 fa, .int .i64 ft, .bool fl, .slice oko okn okc] P1 A2 (backR S C).2.2.1 (backR S C).2.2.2 (backR S C).2.2.1 (backR S C).2.2.2) := HF1.out.actQ hq2
  have HPt : Hid (A2.pot (backR S C).2.2.2 ≤ A.pot C + 2) := Nat.le_trans hq2.pot (by omega)
  clear hq2 hfR z3
  go_wp2
  go_ret
  exact ⟨by simp, P1, A2, _, _, HF2.out.pq, HF2.out.bl, back_n S C, HPt.out⟩
end Go.Proofs.YtlacligofhinmaaGreat.C

namespace Go.Proofs.YtlacligofhinmaaGreat.C
open Go.RowKit Go.Maps Go.Shelf Go.Proofs.YtlacligofhinmaaGreat
attribute [local go_sem] Oper.semAt_some
set_option linter.unusedVariables false
set_option linter.unusedSimpArgs false
set_option maxRecDepth 100000

set_option maxHeartbeats 8000000 in
theorem ch_read {n0 x : Nat} {W : World} {P : Loc} {A : Qa} {S : K.Dk} {C : Ch} (h : Pq n0 W x P A S C S C) (hN : A.pot C + 2 < 1048576) (m k : Int) (v : Value) (osec : Int) (ofill : Nat) (omore : Int) (olo : Option Addr) (oln olc : Nat) (fk fsec fa ft : Int) (fl : Bool) (oko : Option Addr) (okn okc : Nat) :
    Calls Tryz.prog 11 #[.pointer (some ⟨x, 0, none⟩), .agg #[.int .i64 m, .int .i64 k, v], .agg #[.int .i64 1, .int .i64 osec, .int .u8 ofill, .int .i64 omore, .slice olo oln olc, .int .i64 fk, .int .i64 fsec, .int .i64 fa, .int .i64 ft, .bool fl, .slice oko okn okc]] W (ChP n0 W x S.n (A.pot C + 2)) := by
  obtain ⟨W0, hW0⟩ : ∃ W0, W0 = (W.alloc (.cells #[.int .i64 m, .int .i64 k, v] TSe)).alloc (.cells #[.int .i64 1, .int .i64 osec, .int .u8 ofill, .int .i64 omore, .slice olo oln olc, .int .i64 fk, .int .i64 fsec, .int .i64 fa, .int .i64 ft, .bool fl, .slice oko okn okc] TOp) := ⟨_, rfl⟩
  have HF0 : Hid (Pf n0 W W0 x #[.int .i64 m, .int .i64 k, v] #[.int .i64 1, .int .i64 osec, .int .u8 ofill, .int .i64 omore, .slice olo oln olc, .int .i64 fk, .int .i64 fsec, .int .i64 fa, .int .i64 ft, .bool fl, .slice oko okn okc] P A S C S C) := by rw [hW0]; exact Pf.new h _ _
  have HW0 : Hid (W0 = (W.alloc (.cells #[.int .i64 m, .int .i64 k, v] TSe)).alloc (.cells #[.int .i64 1, .int .i64 osec, .int .u8 ofill, .int .i64 omore, .slice olo oln olc, .int .i64 fk, .int .i64 fsec, .int .i64 fa, .int .i64 ft, .bool fl, .slice oko okn okc] TOp)) := hW0
  have HQ : Hid (S.q.length + dirtyN C.L ≤ A.pot C) := h.rq.qlen
  have HFs : Hid (K.FsOk S.fs) := h.rq.fs
  clear h hW0
  go_enter Tryz.func11, Tryz.ntmps11
  go_wp2_with fail
  rw [← HW0.out]
  have HFd : Hid (Pf n0 W W0.drew x #[.int .i64 m, .int .i64 k, v] #[.int .i64 1, .int .i64 osec, .int .u8 ofill, .int .i64 omore, .slice olo oln olc, .int .i64 fk, .int .i64 fsec, .int .i64 fa, .int .i64 ft, .bool fl, .slice oko okn okc] P A S C S C) := HF0.out.later (K.below_drew W0)
  have z0 : W0.cell? ⟨x, 1, none⟩ = some (.pointer (some ⟨P.bc, 0, none⟩)) ∧ W0.cell? ⟨W.heap.size + 1, 1, none⟩ = some (.int .i64 osec) := ⟨HF0.out.c1, (HF0.out.ocell 1).trans rfl⟩
  have zd : W0.drew.cell? ⟨x, 1, none⟩ = some (.pointer (some ⟨P.bc, 0, none⟩)) ∧ W0.drew.cell? ⟨W.heap.size + 1, 1, none⟩ = some (.int .i64 osec) := ⟨HFd.out.c1, (HFd.out.ocell 1).trans rfl⟩
  have hfD := read_c HFd.out.pq.rc HFs.out (by have := HQ.out; omega) osec
  go_region_held3 (fun w' => w'.cell? ⟨x, 1, none⟩ = some (.pointer (some ⟨P.bc, 0, none⟩)) ∧ w'.cell? ⟨W.heap.size + 1, 1, none⟩ = some (.int .i64 osec)) (first | exact z0 | exact zd | exact HZ1.out | go_keep) (first | (go_at_call 14; refine hfD.mono ?_; rintro r W1 ⟨b, v1, rfl, ho1, P1, ha1⟩; have HF1 : Hid (Pf n0 W W1 x #[.int .i64 m, .int .i64 k, v] #[.int .i64 1, .int .i64 osec, .int .u8 ofill, .int .i64 omore, .slice olo oln olc, .int .i64 fk, .int .i64 fsec, .int .i64 fa, .int .i64 ft, .bool fl, .slice oko okn okc] P1 A (readR S C osec b).2.2.1 (readR S C osec b).2.2.2 S C) := HFd.out.actC ha1; have HZ1 : Hid (W1.cell? ⟨x, 1, none⟩ = some (.pointer (some ⟨P.bc, 0, none⟩)) ∧ W1.cell? ⟨W.heap.size + 1, 1, none⟩ = some (.int .i64 osec)) := ⟨by rw [← ha1.bc]; exact HF1.out.c1, (HF1.out.ocell 1).trans rfl⟩; have HL : Hid ((∀ y ∈ (readR S C osec b).2.1, y < 256) ∧ (readR S C osec b).2.1.length ≤ 512) := readR_bytes (fun l hl => (HF1.out.pq.rc.ok l hl).2); obtain ⟨a1, c1, e1, hb1⟩ := BRow.own ho1 HL.out.1 (by have := HL.out.2; omega); subst e1; have HO1 : Hid (W1.ownsRow W0.heap.size 5 1 (.slice a1 (readR S C osec b).2.1.length c1) (readR S C osec b).2.1.length ((readR S C osec b).2.1.map bv)) := ho1; have HAl : Hid (∀ i ∈ A.fp, i < W0.heap.size) := HF0.out.pq.rq.lt; have H01 : Hid (W0.heap.size ≤ W1.heap.size) := ha1.kp.size; clear ha1 hfD ho1 hb1))
  clear z0 zd
  have HFe : Hid (Pf n0 W W1.drew x #[.int .i64 m, .int .i64 k, v] #[.int .i64 1, .int .i64 osec, .int .u8 ofill, .int .i64 omore, .slice olo oln olc, .int .i64 fk, .int .i64 fsec, .int .i64 fa, .int .i64 ft, .bool fl, .slice oko okn okc] P1 A (readR S C osec b).2.2.1 (readR S C osec b).2.2.2 S C) := HF1.out.later (K.below_drew W1)
  have z0 : W1.cell? ⟨x, 3, none⟩ = some (.pointer (some ⟨A.q, 0, none⟩)) ∧ W1.cell? ⟨W.heap.size + 1, 1, none⟩ = some (.int .i64 osec) := ⟨HF1.out.c3, (HF1.out.ocell 1).trans rfl⟩
  have zd : W1.drew.cell? ⟨x, 3, none⟩ = some (.pointer (some ⟨A.q, 0, none⟩)) ∧ W1.drew.cell? ⟨W.heap.size + 1, 1, none⟩ = some (.int .i64 osec) := ⟨HFe.out.c3, (HFe.out.ocell 1).trans rfl⟩
  have hfR := rread_any HFe.out.pq.rq (by omega) osec b
  clear HZ1
  go_wp2_with fail
  go_region_held3 (fun w' => w'.cell? ⟨x, 3, none⟩ = some (.pointer (some ⟨A.q, 0, none⟩)) ∧ w'.cell? ⟨W.heap.size + 1, 1, none⟩ = some (.int .i64 osec)) (first | exact z0 | exact zd | exact HZ2.out | go_keep) (first | (go_at_call 15; refine hfR.mono ?_; rintro r W2 ⟨v2, rfl, ho2, A2, hq2⟩; have HF2 : Hid (Pf n0 W W2 x #[.int .i64 m, .int .i64 k, v] #[.int .i64 1, .int .i64 osec, .int .u8 ofill, .int .i64 omore, .slice olo oln olc, .int .i64 fk, .int .i64 fsec, .int .i64 fa, .int .i64 ft, .bool fl, .slice oko okn okc] P1 A2 (readR S C osec b).2.2.1 (readR S C osec b).2.2.2 (readR S C osec b).2.2.1 (readR S C osec b).2.2.2) := HFe.out.actQ hq2; have HZ2 : Hid (W2.cell? ⟨x, 3, none⟩ = some (.pointer (some ⟨A.q, 0, none⟩)) ∧ W2.cell? ⟨W.heap.size + 1, 1, none⟩ = some (.int .i64 osec)) := ⟨by rw [← hq2.q]; exact HF2.out.c3, (HF2.out.ocell 1).trans rfl⟩; obtain ⟨a2, c2, e2, hb2⟩ := BRow.own ho2 HL.out.1 (by have := HL.out.2; omega); subst e2; have HB2 : Hid (BRow W2 a2 c2 (readR S C osec b).2.1) := hb2; have HO2 : Hid (W2.ownsRow W0.heap.size 5 1 (.slice a1 (readR S C osec b).2.1.length c1) (readR S C osec b).2.1.length ((readR S C osec b).2.1.map bv)) := K.ownsRow_block HO1.out (fun g e => hq2.kp.block g (K.row_lt HO1.out g e).1 (fun hm => by have h1 := HAl.out g hm; have h2 := row_base HO1.out e; omega)); have HPt : Hid (A2.pot (readR S C osec b).2.2.2 ≤ A.pot C + 2) := Nat.le_trans hq2.pot (by omega); have HA2 : Hid (∀ i ∈ A2.fp, i < W0.heap.size ∨ W1.heap.size ≤ i) := fun i hi => (hq2.sub i hi).imp (HAl.out i) id; clear hq2 hfR ho2 hb2))
  clear z0 zd HZ2
  obtain ⟨a1', c1', e1', hb1⟩ := BRow.own HO2.out HL.out.1 (by have := HL.out.2; omega)
  simp only [Value.slice.injEq, true_and] at e1'
  obtain ⟨rfl, rfl⟩ := e1'
  have hsm := same_any a1 a2 c1 c2 (readR S C osec b).2.1 (readR S C osec b).2.1 W2 hb1 HB2.out
  rw [decide_eq_true rfl] at hsm
  have HG : Hid (∃ g1, 0 < (readR S C osec b).2.1.length → a1 = some ⟨g1, 0, none⟩ ∧ W0.heap.size ≤ g1 ∧ g1 ∉ P1.fp (readR S C osec b).2.2.2.L ∧ g1 ∉ A2.fp ∧ ∃ cur, W2.heap[g1]? = some (.cells cur 5) ∧ (readR S C osec b).2.1.length ≤ cur.size ∧ ∀ t, t < (readR S C osec b).2.1.length → ∃ z : Int, cur[t]? = some (.int .u8 z)) := by
    have hrow := HO2.out
    rcases hrow.2 with ⟨e, h0⟩ | ⟨g, cap, cur, e, hgb, hg, h5, h6, h7, h8⟩
    · exact ⟨0, fun h => by omega⟩
    · refine ⟨g, fun h => ?_⟩
      simp only [Value.slice.injEq, true_and] at e
      obtain ⟨rfl, rfl⟩ := e
      have hg1 := (K.row_lt HO1.out g rfl).1
      refine ⟨rfl, hgb, HF2.out.pq.rc.notbyte hg, fun hm => ?_, cur, hg, by omega, fun t ht => ?_⟩
      · rcases HA2.out g hm with h9 | h9 <;> omega
      · have h9 := hrow.cellAt t (by omega)
        rw [K.cell_of hg, List.getElem?_map, List.getElem?_eq_getElem ht] at h9
        exact ⟨_, h9⟩
  clear hb1 HB2 HO1 HO2
  generalize (readR S C osec b).2.1.length = ln at *
  go_wp2_with fail
  refine hsm.mono ?_
  clear hsm
  rintro r W3 ⟨rfl, hq3⟩
  have HB3 : Hid (Below W2.heap.size W2 W3) := by obtain ⟨q, rfl⟩ := hq3; exact K.below_drewN W2 q
  have HF3 : Hid (Pf n0 W W3 x #[.int .i64 m, .int .i64 k, v] #[.int .i64 1, .int .i64 osec, .int .u8 ofill, .int .i64 omore, .slice olo oln olc, .int .i64 fk, .int .i64 fsec, .int .i64 fa, .int .i64 ft, .bool fl, .slice oko okn okc] P1 A2 (readR S C osec b).2.2.1 (readR S C osec b).2.2.2 (readR S C osec b).2.2.1 (readR S C osec b).2.2.2) := HF2.out.later HB3.out
  obtain ⟨g1, hg1⟩ := HG.out
  have HG1 : Hid (0 < ln → a1 = some ⟨g1, 0, none⟩ ∧ W.heap.size + 1 < g1 ∧ g1 ∉ P1.fp (readR S C osec b).2.2.2.L ∧ g1 ∉ A2.fp) := fun h => by
    obtain ⟨h1, h2, h3, h4, _⟩ := hg1 h
    have h5 := HF0.out.lt
    exact ⟨h1, by omega, h3, h4⟩
  have HC1 : Hid (0 < ln → ∃ cur, W3.heap[g1]? = some (.cells cur 5) ∧ ln ≤ cur.size ∧ ∀ t, t < ln → ∃ z : Int, cur[t]? = some (.int .u8 z)) := fun h => by
    obtain ⟨h1, h2, h3, h4, cur, h5, h6, h7⟩ := hg1 h
    exact ⟨cur, (HB3.out.block g1 (Array.getElem?_eq_some_iff.1 h5).1).trans h5, h6, h7⟩
  have hl : ln ≤ 512 := HL.out.2
  clear hq3 hg1 HG HF1 HF2 HFe HFd HF0
  go_wp2
  go_loopw [12] (fun i wr => ∃ (j : Nat), j ≤ ln ∧ i = .int .i64 j ∧ Hid (Pf n0 W wr x #[.int .i64 m, .int .i64 k, v] #[.int .i64 1, .int .i64 osec, .int .u8 ofill, .int .i64 omore, .slice olo oln olc, .int .i64 fk, .int .i64 fsec, .int .i64 fa, .int .i64 ft, .bool fl, .slice oko okn okc] P1 A2 (readR S C osec b).2.2.1 (readR S C osec b).2.2.2 (readR S C osec b).2.2.1 (readR S C osec b).2.2.2) ∧ Hid (0 < ln → ∃ cur, wr.heap[g1]? = some (.cells cur 5) ∧ ln ≤ cur.size ∧ ∀ t, t < ln → ∃ z : Int, cur[t]? = some (.int .u8 z))) (fun i _ => ln - (intOf i).toNat)
  case atStart => exact ⟨0, Nat.zero_le _, rfl, HF3, HC1⟩
  case round =>
    obtain ⟨j, hj, rfl, HFj, HCj⟩ := hrel
    by_cases hlj : j < ln
    · have hjz : (j : Int) < (ln : Int) := by omega
      obtain ⟨hae, h2, h3, h4⟩ := HG1.out (by omega)
      obtain ⟨cur, hg, hcs, hcz⟩ := HCj.out (by omega)
      obtain ⟨z, hz⟩ := hcz j hlj
      have y0 : wr.cell? ⟨g1, j, none⟩ = some (.int .u8 z) := (K.cell_of hg).trans hz
      have q0 : wr.frozen? ⟨g1, j, none⟩ = false := K.frozen_of hg
      have HP2 : Hid (∀ u, Pf n0 W (wr.setCell ⟨g1, j, none⟩ u) x #[.int .i64 m, .int .i64 k, v] #[.int .i64 1, .int .i64 osec, .int .u8 ofill, .int .i64 omore, .slice olo oln olc, .int .i64 fk, .int .i64 fsec, .int .i64 fa, .int .i64 ft, .bool fl, .slice oko okn okc] P1 A2 (readR S C osec b).2.2.1 (readR S C osec b).2.2.2 (readR S C osec b).2.2.1 (readR S C osec b).2.2.2) := fun u => HFj.out.poke h3 h4 h2
      have HC2 : Hid (∀ y : Int, 0 < ln → ∃ cur, (wr.setCell ⟨g1, j, none⟩ (.int .u8 y)).heap[g1]? = some (.cells cur 5) ∧ ln ≤ cur.size ∧ ∀ t, t < ln → ∃ z : Int, cur[t]? = some (.int .u8 z)) := fun y _ => by
        refine ⟨_, K.blk_set hg j _, by simpa using hcs, fun t ht => ?_⟩
        rw [Array.getElem?_setIfInBounds]
        split
        · rename_i e
          rw [if_pos (by omega)]
          exact ⟨y, rfl⟩
        · exact hcz t ht
      subst hae
      clear hg hcs hcz hz h2 h3 h4 HFj HCj HG1 HC1 HF3
      go_wp2
      go_roundw
      case rel => exact ⟨j + 1, by omega, by go_num, HP2.out _, HC2.out _⟩
      case measure => simp [intOf]; omega
    · have hjz : ¬ (j : Int) < (ln : Int) := by omega
      clear HG1 HC1 HF3 HCj
      go_wp2
      go_ret
      exact ⟨by simp, P1, A2, _, _, HFj.out.pq, HFj.out.bl, read_n S C osec b, HPt.out⟩
end Go.Proofs.YtlacligofhinmaaGreat.C

namespace Go.Proofs.YtlacligofhinmaaGreat.C
open Go.RowKit Go.Maps Go.Shelf Go.Proofs.YtlacligofhinmaaGreat
attribute [local go_sem] Oper.semAt_some
set_option linter.unusedVariables false
set_option linter.unusedSimpArgs false
set_option maxRecDepth 100000

set_option maxHeartbeats 8000000 in
theorem as_peek {n0 x : Nat} {W : World} {P : Loc} {A : Qa} {S : K.Dk} {C : Ch} (h : Pq n0 W x P A S C S C) (hN : A.pot C + 2 < 1048576) (osec : Int) (ofill : Nat) (omore : Int) (olo : Option Addr) (oln olc : Nat) (fk fsec fa ft : Int) (fl : Bool) (oko : Option Addr) (okn okc : Nat) :
    Calls Tryz.prog 37 #[.pointer (some ⟨x, 0, none⟩), .agg #[.int .i64 6, .int .i64 osec, .int .u8 ofill, .int .i64 omore, .slice olo oln olc, .int .i64 fk, .int .i64 fsec, .int .i64 fa, .int .i64 ft, .bool fl, .slice oko okn okc]] W (AsP n0 W x P A S C) := by
  obtain ⟨W0, hW0⟩ : ∃ W0, W0 = W.alloc (.cells #[.int .i64 6, .int .i64 osec, .int .u8 ofill, .int .i64 omore, .slice olo oln olc, .int .i64 fk, .int .i64 fsec, .int .i64 fa, .int .i64 ft, .bool fl, .slice oko okn okc] TOp) := ⟨_, rfl⟩
  have HF0 : Hid (Pg n0 W W0 x #[.int .i64 6, .int .i64 osec, .int .u8 ofill, .int .i64 omore, .slice olo oln olc, .int .i64 fk, .int .i64 fsec, .int .i64 fa, .int .i64 ft, .bool fl, .slice oko okn okc] P A S C) := by rw [hW0]; exact Pg.new h _
  have HW0 : Hid (W0 = W.alloc (.cells #[.int .i64 6, .int .i64 osec, .int .u8 ofill, .int .i64 omore, .slice olo oln olc, .int .i64 fk, .int .i64 fsec, .int .i64 fa, .int .i64 ft, .bool fl, .slice oko okn okc] TOp)) := hW0
  have HQ : Hid (S.q.length + dirtyN C.L ≤ A.pot C) := h.rq.qlen
  clear h hW0
  go_enter Tryz.func37, Tryz.ntmps37
  go_wp2_with fail
  rw [← HW0.out]
  have HFd : Hid (Pg n0 W W0.drew x #[.int .i64 6, .int .i64 osec, .int .u8 ofill, .int .i64 omore, .slice olo oln olc, .int .i64 fk, .int .i64 fsec, .int .i64 fa, .int .i64 ft, .bool fl, .slice oko okn okc] P A S C) := HF0.out.later (K.below_drew W0)
  have z0 : W0.cell? ⟨x, 1, none⟩ = some (.pointer (some ⟨P.bc, 0, none⟩)) ∧ W0.cell? ⟨W.heap.size, 1, none⟩ = some (.int .i64 osec) := ⟨HF0.out.c1, (HF0.out.ocell 1).trans rfl⟩
  have zd : W0.drew.cell? ⟨x, 1, none⟩ = some (.pointer (some ⟨P.bc, 0, none⟩)) ∧ W0.drew.cell? ⟨W.heap.size, 1, none⟩ = some (.int .i64 osec) := ⟨HFd.out.c1, (HFd.out.ocell 1).trans rfl⟩
  have HL : Hid ((∀ y ∈ (peekL S C osec), y < 256) ∧ (peekL S C osec).length ≤ 512) := peek_bytes HF0.out.pq.rc osec
  obtain ⟨ev, hev⟩ : ∃ ev : Int, ev = (if K.inD S.n osec = true then 0 else 31) := ⟨_, rfl⟩
  have hfD := peek_c HFd.out.pq.rc (by have := HQ.out; omega) osec
  rw [← hev] at hfD
  have HRf : Hid (∀ W1, Pg n0 W W1 x #[.int .i64 6, .int .i64 osec, .int .u8 ofill, .int .i64 omore, .slice olo oln olc, .int .i64 fk, .int .i64 fsec, .int .i64 fa, .int .i64 ft, .bool fl, .slice oko okn okc] P A S C → Calls Tryz.prog 82 #[.pointer (some ⟨A.q, 0, none⟩), .int .i64 osec] W1 fun r w' => ∃ v, r = .returned (.tuple #[v, .int .i64 ev]) ∧ w'.ownsRow W1.heap.size 5 1 v (peekL S C osec).length ((peekL S C osec).map bv) ∧ Below W1.heap.size W1 w') := fun W1 h1 => by rw [hev]; exact rPeek_any h1.pq.rq (by omega) osec
  clear hev
  go_region_held3 (fun w' => w'.cell? ⟨x, 1, none⟩ = some (.pointer (some ⟨P.bc, 0, none⟩)) ∧ w'.cell? ⟨W.heap.size, 1, none⟩ = some (.int .i64 osec)) (first | exact z0 | exact zd | exact HZ1.out | go_keep) (first | (go_at_call 81; refine hfD.mono ?_; rintro r W1 ⟨v1, rfl, ho1, ha1⟩; have HF1 : Hid (Pg n0 W W1 x #[.int .i64 6, .int .i64 osec, .int .u8 ofill, .int .i64 omore, .slice olo oln olc, .int .i64 fk, .int .i64 fsec, .int .i64 fa, .int .i64 ft, .bool fl, .slice oko okn okc] P A S C) := HFd.out.act ha1; have HZ1 : Hid (W1.cell? ⟨x, 1, none⟩ = some (.pointer (some ⟨P.bc, 0, none⟩)) ∧ W1.cell? ⟨W.heap.size, 1, none⟩ = some (.int .i64 osec)) := ⟨HF1.out.c1, (HF1.out.ocell 1).trans rfl⟩; obtain ⟨a1, c1, e1, hb1⟩ := BRow.own ho1 HL.out.1 (by have := HL.out.2; omega); subst e1; have HO1 : Hid (W1.ownsRow W0.heap.size 5 1 (.slice a1 (peekL S C osec).length c1) (peekL S C osec).length ((peekL S C osec).map bv)) := ho1; clear ha1 hfD ho1 hb1))
  clear z0 zd HZ1
  have HFe : Hid (Pg n0 W W1.drew x #[.int .i64 6, .int .i64 osec, .int .u8 ofill, .int .i64 omore, .slice olo oln olc, .int .i64 fk, .int .i64 fsec, .int .i64 fa, .int .i64 ft, .bool fl, .slice oko okn okc] P A S C) := HF1.out.later (K.below_drew W1)
  have z0 : W1.cell? ⟨x, 3, none⟩ = some (.pointer (some ⟨A.q, 0, none⟩)) ∧ W1.cell? ⟨W.heap.size, 1, none⟩ = some (.int .i64 osec) := ⟨HF1.out.c3, (HF1.out.ocell 1).trans rfl⟩
  have zd : W1.drew.cell? ⟨x, 3, none⟩ = some (.pointer (some ⟨A.q, 0, none⟩)) ∧ W1.drew.cell? ⟨W.heap.size, 1, none⟩ = some (.int .i64 osec) := ⟨HFe.out.c3, (HFe.out.ocell 1).trans rfl⟩
  have hfR := HRf.out _ HFe.out
  clear HRf
  go_wp2_with fail
  go_region_held3 (fun w' => w'.cell? ⟨x, 3, none⟩ = some (.pointer (some ⟨A.q, 0, none⟩)) ∧ w'.cell? ⟨W.heap.size, 1, none⟩ = some (.int .i64 osec)) (first | exact z0 | exact zd | exact HZ2.out | go_keep) (first | (go_at_call 82; refine hfR.mono ?_; rintro r W2 ⟨v2, rfl, ho2, hb2⟩; have HF2 : Hid (Pg n0 W W2 x #[.int .i64 6, .int .i64 osec, .int .u8 ofill, .int .i64 omore, .slice olo oln olc, .int .i64 fk, .int .i64 fsec, .int .i64 fa, .int .i64 ft, .bool fl, .slice oko okn okc] P A S C) := HFe.out.later hb2; have HZ2 : Hid (W2.cell? ⟨x, 3, none⟩ = some (.pointer (some ⟨A.q, 0, none⟩)) ∧ W2.cell? ⟨W.heap.size, 1, none⟩ = some (.int .i64 osec)) := ⟨HF2.out.c3, (HF2.out.ocell 1).trans rfl⟩; obtain ⟨a2, c2, e2, hr2⟩ := BRow.own ho2 HL.out.1 (by have := HL.out.2; omega); subst e2; have HB2 : Hid (BRow W2 a2 c2 (peekL S C osec)) := hr2; have HO2 : Hid (W2.ownsRow W0.heap.size 5 1 (.slice a1 (peekL S C osec).length c1) (peekL S C osec).length ((peekL S C osec).map bv)) := K.ownsRow_block HO1.out (fun g e => hb2.block g (K.row_lt HO1.out g e).1); clear hb2 hfR ho2 hr2))
  clear z0 zd HZ2
  obtain ⟨a1', c1', e1', hb1⟩ := BRow.own HO2.out HL.out.1 (by have := HL.out.2; omega)
  simp only [Value.slice.injEq, true_and] at e1'
  obtain ⟨rfl, rfl⟩ := e1'
  have hsm := same_any a1 a2 c1 c2 (peekL S C osec) (peekL S C osec) W2 hb1 HB2.out
  rw [decide_eq_true rfl] at hsm
  have HG : Hid (∃ g1, 0 < (peekL S C osec).length → a1 = some ⟨g1, 0, none⟩ ∧ W0.heap.size ≤ g1 ∧ ∃ cur, W2.heap[g1]? = some (.cells cur 5) ∧ (peekL S C osec).length ≤ cur.size ∧ ∀ t, t < (peekL S C osec).length → ∃ z : Int, cur[t]? = some (.int .u8 z)) := by
    have hrow := HO2.out
    rcases hrow.2 with ⟨e, h0⟩ | ⟨g, cap, cur, e, hgb, hg, h5, h6, h7, h8⟩
    · exact ⟨0, fun h => by omega⟩
    · refine ⟨g, fun h => ?_⟩
      simp only [Value.slice.injEq, true_and] at e
      obtain ⟨rfl, rfl⟩ := e
      refine ⟨rfl, hgb, cur, hg, by omega, fun t ht => ?_⟩
      have h9 := hrow.cellAt t (by omega)
      rw [K.cell_of hg, List.getElem?_map, List.getElem?_eq_getElem ht] at h9
      exact ⟨_, h9⟩
  clear hb1 HB2 HO1 HO2
  generalize (peekL S C osec).length = ln at *
  go_wp2_with fail
  refine hsm.mono ?_
  clear hsm
  rintro r W3 ⟨rfl, hq3⟩
  have HB3 : Hid (Below W2.heap.size W2 W3) := by obtain ⟨q, rfl⟩ := hq3; exact K.below_drewN W2 q
  have HF3 : Hid (Pg n0 W W3 x #[.int .i64 6, .int .i64 osec, .int .u8 ofill, .int .i64 omore, .slice olo oln olc, .int .i64 fk, .int .i64 fsec, .int .i64 fa, .int .i64 ft, .bool fl, .slice oko okn okc] P A S C) := HF2.out.later HB3.out
  obtain ⟨g1, hg1⟩ := HG.out
  have HG1 : Hid (0 < ln → a1 = some ⟨g1, 0, none⟩ ∧ W.heap.size < g1) := fun h => by
    obtain ⟨h1, h2, _⟩ := hg1 h
    have h5 := HF0.out.lt
    exact ⟨h1, by omega⟩
  have HC1 : Hid (0 < ln → ∃ cur, W3.heap[g1]? = some (.cells cur 5) ∧ ln ≤ cur.size ∧ ∀ t, t < ln → ∃ z : Int, cur[t]? = some (.int .u8 z)) := fun h => by
    obtain ⟨h1, h2, cur, h5, h6, h7⟩ := hg1 h
    exact ⟨cur, (HB3.out.block g1 (Array.getElem?_eq_some_iff.1 h5).1).trans h5, h6, h7⟩
  have hl : ln ≤ 512 := HL.out.2
  clear hq3 hg1 HG HF1 HF2 HFe HFd HF0
  go_wp2
  go_loopw [10] (fun i wr => ∃ (j : Nat), j ≤ ln ∧ i = .int .i64 j ∧ Hid (Pg n0 W wr x #[.int .i64 6, .int .i64 osec, .int .u8 ofill, .int .i64 omore, .slice olo oln olc, .int .i64 fk, .int .i64 fsec, .int .i64 fa, .int .i64 ft, .bool fl, .slice oko okn okc] P A S C) ∧ Hid (0 < ln → ∃ cur, wr.heap[g1]? = some (.cells cur 5) ∧ ln ≤ cur.size ∧ ∀ t, t < ln → ∃ z : Int, cur[t]? = some (.int .u8 z))) (fun i _ => ln - (intOf i).toNat)
  case atStart => exact ⟨0, Nat.zero_le _, rfl, HF3, HC1⟩
  case round =>
    obtain ⟨j, hj, rfl, HFj, HCj⟩ := hrel
    by_cases hlj : j < ln
    · have hjz : (j : Int) < (ln : Int) := by omega
      obtain ⟨hae, h2⟩ := HG1.out (by omega)
      obtain ⟨cur, hg, hcs, hcz⟩ := HCj.out (by omega)
      obtain ⟨z, hz⟩ := hcz j hlj
      have y0 : wr.cell? ⟨g1, j, none⟩ = some (.int .u8 z) := (K.cell_of hg).trans hz
      have q0 : wr.frozen? ⟨g1, j, none⟩ = false := K.frozen_of hg
      have HP2 : Hid (∀ u, Pg n0 W (wr.setCell ⟨g1, j, none⟩ u) x #[.int .i64 6, .int .i64 osec, .int .u8 ofill, .int .i64 omore, .slice olo oln olc, .int .i64 fk, .int .i64 fsec, .int .i64 fa, .int .i64 ft, .bool fl, .slice oko okn okc] P A S C) := fun u => HFj.out.poke h2
      have HC2 : Hid (∀ y : Int, 0 < ln → ∃ cur, (wr.setCell ⟨g1, j, none⟩ (.int .u8 y)).heap[g1]? = some (.cells cur 5) ∧ ln ≤ cur.size ∧ ∀ t, t < ln → ∃ z : Int, cur[t]? = some (.int .u8 z)) := fun y _ => by
        refine ⟨_, K.blk_set hg j _, by simpa using hcs, fun t ht => ?_⟩
        rw [Array.getElem?_setIfInBounds]
        split
        · rename_i e
          rw [if_pos (by omega)]
          exact ⟨y, rfl⟩
        · exact hcz t ht
      subst hae
      clear hg hcs hcz hz h2 HFj HCj HG1 HC1 HF3
      go_wp2
      go_roundw
      case rel => exact ⟨j + 1, by omega, by go_num, HP2.out _, HC2.out _⟩
      case measure => simp [intOf]; omega
    · have hjz : ¬ (j : Int) < (ln : Int) := by omega
      clear HG1 HC1 HF3 HCj
      go_wp2
      go_ret
      exact ⟨by simp, HFj.out.pq, HFj.out.bl⟩
set_option maxHeartbeats 8000000 in
theorem as_dirty {n0 x : Nat} {W : World} {P : Loc} {A : Qa} {S : K.Dk} {C : Ch} (h : Pq n0 W x P A S C S C) (hN : A.pot C + 2 < 1048576) (osec : Int) (ofill : Nat) (omore : Int) (olo : Option Addr) (oln olc : Nat) (fk fsec fa ft : Int) (fl : Bool) (oko : Option Addr) (okn okc : Nat) (hs : I.wfK osec) :
    Calls Tryz.prog 37 #[.pointer (some ⟨x, 0, none⟩), .agg #[.int .i64 7, .int .i64 osec, .int .u8 ofill, .int .i64 omore, .slice olo oln olc, .int .i64 fk, .int .i64 fsec, .int .i64 fa, .int .i64 ft, .bool fl, .slice oko okn okc]] W (AsP n0 W x P A S C) := by
  obtain ⟨W0, hW0⟩ : ∃ W0, W0 = W.alloc (.cells #[.int .i64 7, .int .i64 osec, .int .u8 ofill, .int .i64 omore, .slice olo oln olc, .int .i64 fk, .int .i64 fsec, .int .i64 fa, .int .i64 ft, .bool fl, .slice oko okn okc] TOp) := ⟨_, rfl⟩
  have HF0 : Hid (Pg n0 W W0 x #[.int .i64 7, .int .i64 osec, .int .u8 ofill, .int .i64 omore, .slice olo oln olc, .int .i64 fk, .int .i64 fsec, .int .i64 fa, .int .i64 ft, .bool fl, .slice oko okn okc] P A S C) := by rw [hW0]; exact Pg.new h _
  have HW0 : Hid (W0 = W.alloc (.cells #[.int .i64 7, .int .i64 osec, .int .u8 ofill, .int .i64 omore, .slice olo oln olc, .int .i64 fk, .int .i64 fsec, .int .i64 fa, .int .i64 ft, .bool fl, .slice oko okn okc] TOp)) := hW0
  have HQ : Hid (S.q.length + dirtyN C.L ≤ A.pot C) := h.rq.qlen
  have HS : Hid (I.wfK osec) := hs
  clear hs
  clear h hW0
  go_enter Tryz.func37, Tryz.ntmps37
  go_wp2_with fail
  rw [← HW0.out]
  have HFd : Hid (Pg n0 W W0.drew x #[.int .i64 7, .int .i64 osec, .int .u8 ofill, .int .i64 omore, .slice olo oln olc, .int .i64 fk, .int .i64 fsec, .int .i64 fa, .int .i64 ft, .bool fl, .slice oko okn okc] P A S C) := HF0.out.later (K.below_drew W0)
  have z0 : W0.cell? ⟨x, 1, none⟩ = some (.pointer (some ⟨P.bc, 0, none⟩)) ∧ W0.cell? ⟨x, 3, none⟩ = some (.pointer (some ⟨A.q, 0, none⟩)) ∧ W0.cell? ⟨W.heap.size, 1, none⟩ = some (.int .i64 osec) := ⟨HF0.out.c1, HF0.out.c3, (HF0.out.ocell 1).trans rfl⟩
  have zd : W0.drew.cell? ⟨x, 1, none⟩ = some (.pointer (some ⟨P.bc, 0, none⟩)) ∧ W0.drew.cell? ⟨x, 3, none⟩ = some (.pointer (some ⟨A.q, 0, none⟩)) ∧ W0.drew.cell? ⟨W.heap.size, 1, none⟩ = some (.int .i64 osec) := ⟨HFd.out.c1, HFd.out.c3, (HFd.out.ocell 1).trans rfl⟩
  have hfD := dirty_c HFd.out.pq.rc HS.out
  go_region_held3 (fun w' => w'.cell? ⟨x, 1, none⟩ = some (.pointer (some ⟨P.bc, 0, none⟩)) ∧ w'.cell? ⟨x, 3, none⟩ = some (.pointer (some ⟨A.q, 0, none⟩)) ∧ w'.cell? ⟨W.heap.size, 1, none⟩ = some (.int .i64 osec)) (first | exact z0 | exact zd | exact HZ1.out | exact HZ2.out | go_keep) (first | (go_at_call 83; refine hfD.mono ?_; rintro r W1 ⟨rfl, hw1⟩; have HF1 : Hid (Pg n0 W W1 x #[.int .i64 7, .int .i64 osec, .int .u8 ofill, .int .i64 omore, .slice olo oln olc, .int .i64 fk, .int .i64 fsec, .int .i64 fa, .int .i64 ft, .bool fl, .slice oko okn okc] P A S C) := (by rw [hw1]; exact HFd); have HZ1 : Hid (W1.cell? ⟨x, 1, none⟩ = some (.pointer (some ⟨P.bc, 0, none⟩)) ∧ W1.cell? ⟨x, 3, none⟩ = some (.pointer (some ⟨A.q, 0, none⟩)) ∧ W1.cell? ⟨W.heap.size, 1, none⟩ = some (.int .i64 osec)) := ⟨HF1.out.c1, HF1.out.c3, (HF1.out.ocell 1).trans rfl⟩; have hfR := rDirty_any HF1.out.pq.rq osec; clear hw1 hfD) | (go_at_call 84; refine hfR.mono ?_; rintro r W2 ⟨rfl, hw2⟩; have HF2 : Hid (Pg n0 W W2 x #[.int .i64 7, .int .i64 osec, .int .u8 ofill, .int .i64 omore, .slice olo oln olc, .int .i64 fk, .int .i64 fsec, .int .i64 fa, .int .i64 ft, .bool fl, .slice oko okn okc] P A S C) := (by rw [hw2]; exact HF1); have HZ2 : Hid (W2.cell? ⟨x, 1, none⟩ = some (.pointer (some ⟨P.bc, 0, none⟩)) ∧ W2.cell? ⟨x, 3, none⟩ = some (.pointer (some ⟨A.q, 0, none⟩)) ∧ W2.cell? ⟨W.heap.size, 1, none⟩ = some (.int .i64 osec)) := ⟨HF2.out.c1, HF2.out.c3, (HF2.out.ocell 1).trans rfl⟩; clear hw2 hfR))
  go_wp2
  go_ret
  exact ⟨by simp, HF2.out.pq, HF2.out.bl⟩
set_option maxHeartbeats 8000000 in
theorem as_safe {n0 x : Nat} {W : World} {P : Loc} {A : Qa} {S : K.Dk} {C : Ch} (h : Pq n0 W x P A S C S C) (hN : A.pot C + 2 < 1048576) (osec : Int) (ofill : Nat) (omore : Int) (olo : Option Addr) (oln olc : Nat) (fk fsec fa ft : Int) (fl : Bool) (oko : Option Addr) (okn okc : Nat) (hs : I.wfK osec) :
    Calls Tryz.prog 37 #[.pointer (some ⟨x, 0, none⟩), .agg #[.int .i64 8, .int .i64 osec, .int .u8 ofill, .int .i64 omore, .slice olo oln olc, .int .i64 fk, .int .i64 fsec, .int .i64 fa, .int .i64 ft, .bool fl, .slice oko okn okc]] W (AsP n0 W x P A S C) := by
  obtain ⟨W0, hW0⟩ : ∃ W0, W0 = W.alloc (.cells #[.int .i64 8, .int .i64 osec, .int .u8 ofill, .int .i64 omore, .slice olo oln olc, .int .i64 fk, .int .i64 fsec, .int .i64 fa, .int .i64 ft, .bool fl, .slice oko okn okc] TOp) := ⟨_, rfl⟩
  have HF0 : Hid (Pg n0 W W0 x #[.int .i64 8, .int .i64 osec, .int .u8 ofill, .int .i64 omore, .slice olo oln olc, .int .i64 fk, .int .i64 fsec, .int .i64 fa, .int .i64 ft, .bool fl, .slice oko okn okc] P A S C) := by rw [hW0]; exact Pg.new h _
  have HW0 : Hid (W0 = W.alloc (.cells #[.int .i64 8, .int .i64 osec, .int .u8 ofill, .int .i64 omore, .slice olo oln olc, .int .i64 fk, .int .i64 fsec, .int .i64 fa, .int .i64 ft, .bool fl, .slice oko okn okc] TOp)) := hW0
  have HQ : Hid (S.q.length + dirtyN C.L ≤ A.pot C) := h.rq.qlen
  have HS : Hid (I.wfK osec) := hs
  clear hs
  clear h hW0
  go_enter Tryz.func37, Tryz.ntmps37
  go_wp2_with fail
  rw [← HW0.out]
  have HFd : Hid (Pg n0 W W0.drew x #[.int .i64 8, .int .i64 osec, .int .u8 ofill, .int .i64 omore, .slice olo oln olc, .int .i64 fk, .int .i64 fsec, .int .i64 fa, .int .i64 ft, .bool fl, .slice oko okn okc] P A S C) := HF0.out.later (K.below_drew W0)
  have z0 : W0.cell? ⟨x, 1, none⟩ = some (.pointer (some ⟨P.bc, 0, none⟩)) ∧ W0.cell? ⟨x, 3, none⟩ = some (.pointer (some ⟨A.q, 0, none⟩)) ∧ W0.cell? ⟨W.heap.size, 1, none⟩ = some (.int .i64 osec) := ⟨HF0.out.c1, HF0.out.c3, (HF0.out.ocell 1).trans rfl⟩
  have zd : W0.drew.cell? ⟨x, 1, none⟩ = some (.pointer (some ⟨P.bc, 0, none⟩)) ∧ W0.drew.cell? ⟨x, 3, none⟩ = some (.pointer (some ⟨A.q, 0, none⟩)) ∧ W0.drew.cell? ⟨W.heap.size, 1, none⟩ = some (.int .i64 osec) := ⟨HFd.out.c1, HFd.out.c3, (HFd.out.ocell 1).trans rfl⟩
  have hfD := safe_c HFd.out.pq.rc HS.out
  go_region_held3 (fun w' => w'.cell? ⟨x, 1, none⟩ = some (.pointer (some ⟨P.bc, 0, none⟩)) ∧ w'.cell? ⟨x, 3, none⟩ = some (.pointer (some ⟨A.q, 0, none⟩)) ∧ w'.cell? ⟨W.heap.size, 1, none⟩ = some (.int .i64 osec)) (first | exact z0 | exact zd | exact HZ1.out | exact HZ2.out | go_keep) (first | (go_at_call 85; refine hfD.mono ?_; rintro r W1 ⟨rfl, ha1⟩; have HF1 : Hid (Pg n0 W W1 x #[.int .i64 8, .int .i64 osec, .int .u8 ofill, .int .i64 omore, .slice olo oln olc, .int .i64 fk, .int .i64 fsec, .int .i64 fa, .int .i64 ft, .bool fl, .slice oko okn okc] P A S C) := HFd.out.act ha1; have HZ1 : Hid (W1.cell? ⟨x, 1, none⟩ = some (.pointer (some ⟨P.bc, 0, none⟩)) ∧ W1.cell? ⟨x, 3, none⟩ = some (.pointer (some ⟨A.q, 0, none⟩)) ∧ W1.cell? ⟨W.heap.size, 1, none⟩ = some (.int .i64 osec)) := ⟨HF1.out.c1, HF1.out.c3, (HF1.out.ocell 1).trans rfl⟩; have hfR := rSafe5_any HF1.out.pq.rq (by omega) osec; clear ha1 hfD) | (go_at_call 86; refine hfR.mono ?_; rintro r W2 ⟨rfl, hb2⟩; have HF2 : Hid (Pg n0 W W2 x #[.int .i64 8, .int .i64 osec, .int .u8 ofill, .int .i64 omore, .slice olo oln olc, .int .i64 fk, .int .i64 fsec, .int .i64 fa, .int .i64 ft, .bool fl, .slice oko okn okc] P A S C) := HF1.out.later hb2; have HZ2 : Hid (W2.cell? ⟨x, 1, none⟩ = some (.pointer (some ⟨P.bc, 0, none⟩)) ∧ W2.cell? ⟨x, 3, none⟩ = some (.pointer (some ⟨A.q, 0, none⟩)) ∧ W2.cell? ⟨W.heap.size, 1, none⟩ = some (.int .i64 osec)) := ⟨HF2.out.c1, HF2.out.c3, (HF2.out.ocell 1).trans rfl⟩; clear hb2 hfR))
  go_wp2
  go_ret
  exact ⟨by simp, HF2.out.pq, HF2.out.bl⟩
end Go.Proofs.YtlacligofhinmaaGreat.C
