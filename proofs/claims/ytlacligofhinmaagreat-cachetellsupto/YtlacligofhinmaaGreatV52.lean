import Derived.Test.YtlacligofhinmaaGreatV50
namespace Go.Proofs.YtlacligofhinmaaGreat.C
open Go.RowKit Go.Maps Go.Shelf Go.Proofs.YtlacligofhinmaaGreat
attribute [local go_sem] Oper.semAt_some
set_option linter.unusedVariables false
set_option linter.unusedSimpArgs false
set_option maxRecDepth 100000

set_option maxHeartbeats 8000000 in
theorem as_lines {n0 x : Nat} {W : World} {P : Loc} {A : Qa} {S : K.Dk} {C : Ch} (h : Pq n0 W x P A S C S C) (hN : A.pot C + 2 < 1048576) (osec : Int) (ofill : Nat) (omore : Int) (olo : Option Addr) (oln olc : Nat) (fk fsec fa ft : Int) (fl : Bool) (oko : Option Addr) (okn okc : Nat) :
    Calls Tryz.prog 37 #[.pointer (some ⟨x, 0, none⟩), .agg #[.int .i64 9, .int .i64 osec, .int .u8 ofill, .int .i64 omore, .slice olo oln olc, .int .i64 fk, .int .i64 fsec, .int .i64 fa, .int .i64 ft, .bool fl, .slice oko okn okc]] W (AsP n0 W x P A S C) := by
  obtain ⟨W0, hW0⟩ : ∃ W0, W0 = W.alloc (.cells #[.int .i64 9, .int .i64 osec, .int .u8 ofill, .int .i64 omore, .slice olo oln olc, .int .i64 fk, .int .i64 fsec, .int .i64 fa, .int .i64 ft, .bool fl, .slice oko okn okc] TOp) := ⟨_, rfl⟩
  have HF0 : Hid (Pg n0 W W0 x #[.int .i64 9, .int .i64 osec, .int .u8 ofill, .int .i64 omore, .slice olo oln olc, .int .i64 fk, .int .i64 fsec, .int .i64 fa, .int .i64 ft, .bool fl, .slice oko okn okc] P A S C) := by rw [hW0]; exact Pg.new h _
  have HW0 : Hid (W0 = W.alloc (.cells #[.int .i64 9, .int .i64 osec, .int .u8 ofill, .int .i64 omore, .slice olo oln olc, .int .i64 fk, .int .i64 fsec, .int .i64 fa, .int .i64 ft, .bool fl, .slice oko okn okc] TOp)) := hW0
  have HQ : Hid (S.q.length + dirtyN C.L ≤ A.pot C) := h.rq.qlen
  have HLl : Hid (C.L.length ≤ 1024) := by have := h.rc.lim; show C.L.length ≤ 1024; omega
  clear h hW0
  go_enter Tryz.func37, Tryz.ntmps37
  go_wp2_with fail
  rw [← HW0.out]
  have HFd : Hid (Pg n0 W W0.drew x #[.int .i64 9, .int .i64 osec, .int .u8 ofill, .int .i64 omore, .slice olo oln olc, .int .i64 fk, .int .i64 fsec, .int .i64 fa, .int .i64 ft, .bool fl, .slice oko okn okc] P A S C) := HF0.out.later (K.below_drew W0)
  have z0 : W0.cell? ⟨x, 1, none⟩ = some (.pointer (some ⟨P.bc, 0, none⟩)) ∧ W0.cell? ⟨x, 3, none⟩ = some (.pointer (some ⟨A.q, 0, none⟩)) := ⟨HF0.out.c1, HF0.out.c3⟩
  have zd : W0.drew.cell? ⟨x, 1, none⟩ = some (.pointer (some ⟨P.bc, 0, none⟩)) ∧ W0.drew.cell? ⟨x, 3, none⟩ = some (.pointer (some ⟨A.q, 0, none⟩)) := ⟨HFd.out.c1, HFd.out.c3⟩
  have hfD := lines_any (w := W0.drew) (bc := P.bc) C.L HLl.out (fun X hb => told_any (HFd.out.pq.rc.later hb))
  go_region_held3 (fun w' => w'.cell? ⟨x, 1, none⟩ = some (.pointer (some ⟨P.bc, 0, none⟩)) ∧ w'.cell? ⟨x, 3, none⟩ = some (.pointer (some ⟨A.q, 0, none⟩))) (first | exact z0 | exact zd | exact HZ1.out | exact HZ2.out | exact HZ3.out | go_keep) (first | (go_at_call 87; refine hfD.mono ?_; rintro r W1 ⟨v1, rfl, ho1, hb1⟩; have HF1 : Hid (Pg n0 W W1 x #[.int .i64 9, .int .i64 osec, .int .u8 ofill, .int .i64 omore, .slice olo oln olc, .int .i64 fk, .int .i64 fsec, .int .i64 fa, .int .i64 ft, .bool fl, .slice oko okn okc] P A S C) := HFd.out.later hb1; have HZ1 : Hid (W1.cell? ⟨x, 1, none⟩ = some (.pointer (some ⟨P.bc, 0, none⟩)) ∧ W1.cell? ⟨x, 3, none⟩ = some (.pointer (some ⟨A.q, 0, none⟩))) := ⟨HF1.out.c1, HF1.out.c3⟩; have HO1 : Hid (W1.ownsRow W0.heap.size TLq 3 v1 C.L.length (lcellsT C.L)) := ho1; have hfR := rLines_any HF1.out.pq.rq; clear hb1 hfD ho1) | (go_at_call 12; refine hfR.mono ?_; rintro r W2 ⟨v2, rfl, ho2, hb2⟩; have HF2 : Hid (Pg n0 W W2 x #[.int .i64 9, .int .i64 osec, .int .u8 ofill, .int .i64 omore, .slice olo oln olc, .int .i64 fk, .int .i64 fsec, .int .i64 fa, .int .i64 ft, .bool fl, .slice oko okn okc] P A S C) := HF1.out.later hb2; have HZ2 : Hid (W2.cell? ⟨x, 1, none⟩ = some (.pointer (some ⟨P.bc, 0, none⟩)) ∧ W2.cell? ⟨x, 3, none⟩ = some (.pointer (some ⟨A.q, 0, none⟩))) := ⟨HF2.out.c1, HF2.out.c3⟩; have hfS := same_lines (K.ownsRow_block HO1.out (fun g e => hb2.block g (K.row_lt HO1.out g e).1)) ho2 HLl.out; clear hb2 hfR ho2) | (go_at_call 16; refine hfS.mono ?_; rintro r W3 ⟨rfl, hb3⟩; have HF3 : Hid (Pg n0 W W3 x #[.int .i64 9, .int .i64 osec, .int .u8 ofill, .int .i64 omore, .slice olo oln olc, .int .i64 fk, .int .i64 fsec, .int .i64 fa, .int .i64 ft, .bool fl, .slice oko okn okc] P A S C) := HF2.out.later hb3; have HZ3 : Hid (W3.cell? ⟨x, 1, none⟩ = some (.pointer (some ⟨P.bc, 0, none⟩)) ∧ W3.cell? ⟨x, 3, none⟩ = some (.pointer (some ⟨A.q, 0, none⟩))) := ⟨HF3.out.c1, HF3.out.c3⟩; clear hb3 hfS))
  go_wp2
  go_ret
  exact ⟨by simp, HF3.out.pq, HF3.out.bl⟩
set_option maxHeartbeats 8000000 in
theorem as_stats {n0 x : Nat} {W : World} {P : Loc} {A : Qa} {S : K.Dk} {C : Ch} (h : Pq n0 W x P A S C S C) (hN : A.pot C + 2 < 1048576) (osec : Int) (ofill : Nat) (omore : Int) (olo : Option Addr) (oln olc : Nat) (fk fsec fa ft : Int) (fl : Bool) (oko : Option Addr) (okn okc : Nat) :
    Calls Tryz.prog 37 #[.pointer (some ⟨x, 0, none⟩), .agg #[.int .i64 10, .int .i64 osec, .int .u8 ofill, .int .i64 omore, .slice olo oln olc, .int .i64 fk, .int .i64 fsec, .int .i64 fa, .int .i64 ft, .bool fl, .slice oko okn okc]] W (AsP n0 W x P A S C) := by
  obtain ⟨W0, hW0⟩ : ∃ W0, W0 = W.alloc (.cells #[.int .i64 10, .int .i64 osec, .int .u8 ofill, .int .i64 omore, .slice olo oln olc, .int .i64 fk, .int .i64 fsec, .int .i64 fa, .int .i64 ft, .bool fl, .slice oko okn okc] TOp) := ⟨_, rfl⟩
  have HF0 : Hid (Pg n0 W W0 x #[.int .i64 10, .int .i64 osec, .int .u8 ofill, .int .i64 omore, .slice olo oln olc, .int .i64 fk, .int .i64 fsec, .int .i64 fa, .int .i64 ft, .bool fl, .slice oko okn okc] P A S C) := by rw [hW0]; exact Pg.new h _
  have HW0 : Hid (W0 = W.alloc (.cells #[.int .i64 10, .int .i64 osec, .int .u8 ofill, .int .i64 omore, .slice olo oln olc, .int .i64 fk, .int .i64 fsec, .int .i64 fa, .int .i64 ft, .bool fl, .slice oko okn okc] TOp)) := hW0
  have HQ : Hid (S.q.length + dirtyN C.L ≤ A.pot C) := h.rq.qlen
  clear h hW0
  go_enter Tryz.func37, Tryz.ntmps37
  go_wp2_with fail
  rw [← HW0.out]
  have HZ : Hid (∀ w', Pg n0 W w' x #[.int .i64 10, .int .i64 osec, .int .u8 ofill, .int .i64 omore, .slice olo oln olc, .int .i64 fk, .int .i64 fsec, .int .i64 fa, .int .i64 ft, .bool fl, .slice oko okn okc] P A S C → w'.cell? ⟨x, 0, none⟩ = some (.pointer (some ⟨P.bd, 0, none⟩)) ∧ w'.cell? ⟨x, 1, none⟩ = some (.pointer (some ⟨P.bc, 0, none⟩)) ∧ w'.cell? ⟨x, 2, none⟩ = some (.pointer (some ⟨A.p, 0, none⟩)) ∧ w'.cell? ⟨x, 3, none⟩ = some (.pointer (some ⟨A.q, 0, none⟩)) ∧ w'.cell? ⟨A.q, 4, none⟩ = some (.int .u64 C.st.hits) ∧ w'.cell? ⟨A.q, 5, none⟩ = some (.int .u64 C.st.misses) ∧ w'.cell? ⟨A.q, 6, none⟩ = some (.int .u64 C.st.evicted) ∧ w'.cell? ⟨A.q, 7, none⟩ = some (.int .u64 C.st.written) ∧ w'.cell? ⟨A.p, 5, none⟩ = some (.int .u64 S.st.reads) ∧ w'.cell? ⟨A.p, 6, none⟩ = some (.int .u64 S.st.writes) ∧ w'.cell? ⟨A.p, 7, none⟩ = some (.int .u64 S.st.bars) ∧ w'.cell? ⟨A.p, 8, none⟩ = some (.int .u64 S.st.failed) ∧ w'.cell? ⟨A.p, 9, none⟩ = some (.int .u64 S.st.crashes)) := fun w' hg => ⟨hg.c0, hg.c1, hg.c2, hg.c3, (hg.pq.rq.c 4).trans rfl, (hg.pq.rq.c 5).trans rfl, (hg.pq.rq.c 6).trans rfl, (hg.pq.rq.c 7).trans rfl, (hg.pq.rq.rr.c 5).trans rfl, (hg.pq.rq.rr.c 6).trans rfl, (hg.pq.rq.rr.c 7).trans rfl, (hg.pq.rq.rr.c 8).trans rfl, (hg.pq.rq.rr.c 9).trans rfl⟩
  have HFd : Hid (Pg n0 W W0.drew x #[.int .i64 10, .int .i64 osec, .int .u8 ofill, .int .i64 omore, .slice olo oln olc, .int .i64 fk, .int .i64 fsec, .int .i64 fa, .int .i64 ft, .bool fl, .slice oko okn okc] P A S C) := HF0.out.later (K.below_drew W0)
  have hfD := stats_c HFd.out.pq.rc
  go_region_held3 (fun w' => w'.cell? ⟨x, 0, none⟩ = some (.pointer (some ⟨P.bd, 0, none⟩)) ∧ w'.cell? ⟨x, 1, none⟩ = some (.pointer (some ⟨P.bc, 0, none⟩)) ∧ w'.cell? ⟨x, 2, none⟩ = some (.pointer (some ⟨A.p, 0, none⟩)) ∧ w'.cell? ⟨x, 3, none⟩ = some (.pointer (some ⟨A.q, 0, none⟩)) ∧ w'.cell? ⟨A.q, 4, none⟩ = some (.int .u64 C.st.hits) ∧ w'.cell? ⟨A.q, 5, none⟩ = some (.int .u64 C.st.misses) ∧ w'.cell? ⟨A.q, 6, none⟩ = some (.int .u64 C.st.evicted) ∧ w'.cell? ⟨A.q, 7, none⟩ = some (.int .u64 C.st.written) ∧ w'.cell? ⟨A.p, 5, none⟩ = some (.int .u64 S.st.reads) ∧ w'.cell? ⟨A.p, 6, none⟩ = some (.int .u64 S.st.writes) ∧ w'.cell? ⟨A.p, 7, none⟩ = some (.int .u64 S.st.bars) ∧ w'.cell? ⟨A.p, 8, none⟩ = some (.int .u64 S.st.failed) ∧ w'.cell? ⟨A.p, 9, none⟩ = some (.int .u64 S.st.crashes)) (first | exact HZ.out _ HF0.out | exact HZ.out _ HFd.out | exact HZ.out _ HF1.out | exact HZ.out _ HF2.out | go_keep) (first | (go_at_call 88; refine hfD.mono ?_; rintro r W1 ⟨rfl, hb1⟩; have HF1 : Hid (Pg n0 W W1 x #[.int .i64 10, .int .i64 osec, .int .u8 ofill, .int .i64 omore, .slice olo oln olc, .int .i64 fk, .int .i64 fsec, .int .i64 fa, .int .i64 ft, .bool fl, .slice oko okn okc] P A S C) := HFd.out.later hb1; have hfR := K.stats_any HF1.out.pq.rc.rk; clear hb1 hfD) | (go_at_call 89; refine hfR.mono ?_; rintro r W2 ⟨rfl, hd2⟩; have HF2 : Hid (Pg n0 W W2 x #[.int .i64 10, .int .i64 osec, .int .u8 ofill, .int .i64 omore, .slice olo oln olc, .int .i64 fk, .int .i64 fsec, .int .i64 fa, .int .i64 ft, .bool fl, .slice oko okn okc] P A S C) := HF1.out.act (HF1.out.pq.rc.disk rfl hd2); clear hd2 hfR))
  go_wp2
  go_ret
  exact ⟨by simp, HF2.out.pq, HF2.out.bl⟩
set_option maxHeartbeats 8000000 in
theorem as_none {n0 x : Nat} {W : World} {P : Loc} {A : Qa} {S : K.Dk} {C : Ch} (h : Pq n0 W x P A S C S C) (hN : A.pot C + 2 < 1048576) (osec : Int) (ofill : Nat) (omore : Int) (olo : Option Addr) (oln olc : Nat) (fk fsec fa ft : Int) (fl : Bool) (oko : Option Addr) (okn okc : Nat) (ok : Int) (h6 : ¬ ok = 6) (h7 : ¬ ok = 7) (h8 : ¬ ok = 8) (h9 : ¬ ok = 9) (h10 : ¬ ok = 10) (h11 : ¬ ok = 11) :
    Calls Tryz.prog 37 #[.pointer (some ⟨x, 0, none⟩), .agg #[.int .i64 ok, .int .i64 osec, .int .u8 ofill, .int .i64 omore, .slice olo oln olc, .int .i64 fk, .int .i64 fsec, .int .i64 fa, .int .i64 ft, .bool fl, .slice oko okn okc]] W (AsP n0 W x P A S C) := by
  obtain ⟨W0, hW0⟩ : ∃ W0, W0 = W.alloc (.cells #[.int .i64 ok, .int .i64 osec, .int .u8 ofill, .int .i64 omore, .slice olo oln olc, .int .i64 fk, .int .i64 fsec, .int .i64 fa, .int .i64 ft, .bool fl, .slice oko okn okc] TOp) := ⟨_, rfl⟩
  have HF0 : Hid (Pg n0 W W0 x #[.int .i64 ok, .int .i64 osec, .int .u8 ofill, .int .i64 omore, .slice olo oln olc, .int .i64 fk, .int .i64 fsec, .int .i64 fa, .int .i64 ft, .bool fl, .slice oko okn okc] P A S C) := by rw [hW0]; exact Pg.new h _
  have HW0 : Hid (W0 = W.alloc (.cells #[.int .i64 ok, .int .i64 osec, .int .u8 ofill, .int .i64 omore, .slice olo oln olc, .int .i64 fk, .int .i64 fsec, .int .i64 fa, .int .i64 ft, .bool fl, .slice oko okn okc] TOp)) := hW0
  have HQ : Hid (S.q.length + dirtyN C.L ≤ A.pot C) := h.rq.qlen
  clear h hW0
  go_enter Tryz.func37, Tryz.ntmps37
  go_wp2_with fail
  rw [← HW0.out]
  go_wp2
  go_ret
  exact ⟨by simp, HF0.out.pq, HF0.out.bl⟩
end Go.Proofs.YtlacligofhinmaaGreat.C
