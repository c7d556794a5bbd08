import Derived.Test.YtlacligofhinmaaGreatV47
import Derived.Test.YtlacligofhinmaaGreatV39
import Derived.Test.YtlacligofhinmaaGreatV50
namespace Go.Proofs.YtlacligofhinmaaGreat.K
open Go.RowKit Go.Maps Go.Proofs.YtlacligofhinmaaGreat
set_option linter.unusedVariables false
theorem news_two (W : World) (v u : Value) : ∀ j x, [v, u][j]? = some x → (W.alloc (.cells #[v, u] 5)).cell? ((⟨W.heap.size, 0, none⟩ : Addr).add j) = some x := by
  intro j x hx
  rw [add_plain, Nat.zero_add, cell_of (heap_alloc_new W _)]
  simpa using hx
/-- the bytes with two marks behind them -/
structure Full (W w' : World) (g c m : Nat) (l : List Nat) : Prop where
  new : W.heap.size ≤ g
  blk : ∃ cur, w'.heap[g]? = some (.cells cur 5) ∧ ∀ (j x : Nat), (l ++ [90, 91])[j]? = some x → cur[j]? = some (bv x)
  cp : m + 2 ≤ c
theorem Full.brow {W w' : World} {g c m : Nat} {l : List Nat} (h : Full W w' g c m l) (hlt : ∀ x ∈ l, x < 256) (hlen : l.length ≤ 140737488351232) : BRow w' (some ⟨g, 0, none⟩) c l := by
  obtain ⟨cur, hb, hc⟩ := h.blk
  refine ⟨hlt, hlen, (fun e => by cases e), fun _ => ⟨g, 0, rfl, fun k hk => ?_⟩⟩
  rw [Nat.zero_add, cell_of hb]
  exact hc k _ (by rw [List.getElem?_append_left hk, List.getElem?_eq_getElem hk])
theorem Full.marks {W w' : World} {g c m : Nat} {l : List Nat} (h : Full W w' g c m l) (hm : l.length = m) : w'.cell? ⟨g, m, none⟩ = some (.int .u8 90) ∧ w'.cell? ⟨g, m + 1, none⟩ = some (.int .u8 91) := by
  obtain ⟨cur, hb, hc⟩ := h.blk
  subst hm
  exact ⟨(cell_of hb).trans (hc _ 90 (by simp)), (cell_of hb).trans (hc _ 91 (by simp))⟩
theorem full_of {W w' : World} {v : Value} {m : Nat} {l : List Nat} (hm : l.length = m) (ho : w'.ownsRow W.heap.size 5 1 v (m + 2) (l.map bv ++ [.int .u8 90, .int .u8 91])) : ∃ g c, v = .slice (some ⟨g, 0, none⟩) (m + 2) c ∧ Full W w' g c m l := by
  have e : l.map bv ++ [.int .u8 90, .int .u8 91] = (l ++ [90, 91]).map bv := by simp [bv]
  rw [e] at ho
  obtain ⟨g, c, cur, hv, hg, hk, hc⟩ := own_form ho (by omega)
  refine ⟨g, c, hv, hg, ⟨cur, hk, hc⟩, ?_⟩
  rcases ho.2 with ⟨_, h0'⟩ | ⟨g', cap', cur', hv', _, _, h3⟩
  · omega
  · rw [hv] at hv'; cases hv'; exact h3.1

end Go.Proofs.YtlacligofhinmaaGreat.K
namespace Go.Proofs.YtlacligofhinmaaGreat.C
open Go.RowKit Go.Maps Go.Shelf Go.Proofs.YtlacligofhinmaaGreat
attribute [local go_sem] Oper.semAt_some
set_option linter.unusedVariables false
set_option linter.unusedSimpArgs false
set_option maxRecDepth 100000

set_option maxHeartbeats 8000000 in
theorem ch_write {n0 x : Nat} {W : World} {P : Loc} {A : Qa} {S : K.Dk} {C : Ch} (h : Pq n0 W x P A S C S C) (hN : A.pot C + 2 < 1048576) (m k : Int) (v : Value) (osec : Int) (ofill : Nat) (omore : Int) (olo : Option Addr) (oln olc : Nat) (fk fsec fa ft : Int) (fl : Bool) (oko : Option Addr) (okn okc : Nat) (hfill : ofill < 256) :
    Calls Tryz.prog 11 #[.pointer (some ⟨x, 0, none⟩), .agg #[.int .i64 m, .int .i64 k, v], .agg #[.int .i64 2, .int .i64 osec, .int .u8 ofill, .int .i64 omore, .slice olo oln olc, .int .i64 fk, .int .i64 fsec, .int .i64 fa, .int .i64 ft, .bool fl, .slice oko okn okc]] W (ChP n0 W x S.n (A.pot C + 2)) := by
  obtain ⟨W0, hW0⟩ : ∃ W0, W0 = (W.alloc (.cells #[.int .i64 m, .int .i64 k, v] TSe)).alloc (.cells #[.int .i64 2, .int .i64 osec, .int .u8 ofill, .int .i64 omore, .slice olo oln olc, .int .i64 fk, .int .i64 fsec, .int .i64 fa, .int .i64 ft, .bool fl, .slice oko okn okc] TOp) := ⟨_, rfl⟩
  have HF0 : Hid (Pf n0 W W0 x #[.int .i64 m, .int .i64 k, v] #[.int .i64 2, .int .i64 osec, .int .u8 ofill, .int .i64 omore, .slice olo oln olc, .int .i64 fk, .int .i64 fsec, .int .i64 fa, .int .i64 ft, .bool fl, .slice oko okn okc] P A S C S C) := by rw [hW0]; exact Pf.new h _ _
  have HW0 : Hid (W0 = (W.alloc (.cells #[.int .i64 m, .int .i64 k, v] TSe)).alloc (.cells #[.int .i64 2, .int .i64 osec, .int .u8 ofill, .int .i64 omore, .slice olo oln olc, .int .i64 fk, .int .i64 fsec, .int .i64 fa, .int .i64 ft, .bool fl, .slice oko okn okc] TOp)) := hW0
  have HQ : Hid (S.q.length + dirtyN C.L ≤ A.pot C) := h.rq.qlen
  have HFs : Hid (K.FsOk S.fs) := h.rq.fs
  have hbl0 : 0 < K.blen omore ∧ K.blen omore ≤ 1023 := by unfold K.blen; split <;> omega
  obtain ⟨M, hm⟩ : ∃ M, M = K.blen omore := ⟨_, rfl⟩
  obtain ⟨bl, hbl⟩ : ∃ bl, bl = K.bytesL ofill M := ⟨_, rfl⟩
  have HBL : Hid (bl.length = M ∧ ∀ y ∈ bl, y < 256) := by rw [hbl]; exact ⟨K.bytesL_len _ _, K.bytesL_lt _ _⟩
  have hm0 : 0 < M := by rw [hm]; exact hbl0.1
  have hm1 : M ≤ 1023 := by rw [hm]; exact hbl0.2
  have hby := fun X : World => K.bytes_any X ofill omore hfill
  rw [← hm, ← hbl] at hby
  have HBy : Hid (∀ X : World, Calls Tryz.prog 22 #[.int .u8 ofill, .int .i64 omore] X fun r w' => ∃ v, r = .returned v ∧ w'.ownsRow X.heap.size 5 1 v M (bl.map bv) ∧ Below X.heap.size X w') := hby
  have HAl : Hid (∀ i ∈ A.fp, i < W0.heap.size) := HF0.out.pq.rq.lt
  have HPl : Hid (∀ i ∈ P.fp C.L, i < W0.heap.size) := HF0.out.pq.rc.lt
  have HWl : Hid (W.heap.size + 1 < W0.heap.size) := HF0.out.lt
  clear hm hbl hbl0 hby hfill
  clear h hW0
  go_enter Tryz.func11, Tryz.ntmps11
  go_wp2_with fail
  rw [← HW0.out]
  refine (HBy.out W0).mono ?_
  rintro r W1 ⟨v1, rfl, ho1, hb1⟩
  have HB1 : Hid (Below W0.heap.size W0 W1) := hb1
  have HF1 : Hid (Pf n0 W W1 x #[.int .i64 m, .int .i64 k, v] #[.int .i64 2, .int .i64 osec, .int .u8 ofill, .int .i64 omore, .slice olo oln olc, .int .i64 fk, .int .i64 fsec, .int .i64 fa, .int .i64 ft, .bool fl, .slice oko okn okc] P A S C S C) := HF0.out.later hb1
  obtain ⟨g1, c1, cur1, e1, hg1, hk1, hc1⟩ := K.own_form ho1 hm0
  subst e1
  have HO1 : Hid (W1.ownsRow W0.heap.size 5 1 (.slice (some ⟨g1, 0, none⟩) M c1) M (bl.map bv) ∧ W0.heap.size ≤ g1 ∧ g1 < W1.heap.size) := ⟨ho1, hg1, (K.row_lt ho1 g1 rfl).1⟩
  have y21 : W1.cell? ⟨W.heap.size + 1, 2, none⟩ = some (.int .u8 ofill) := (HF1.out.ocell 2).trans rfl
  have y31 : W1.cell? ⟨W.heap.size + 1, 3, none⟩ = some (.int .i64 omore) := (HF1.out.ocell 3).trans rfl
  clear ho1 hb1 hg1 hk1 hc1
  obtain ⟨i0, hi0, hz0, hz1, hz2⟩ := info_parts K.info5x
  go_wp2_with fail
  refine (HBy.out W1).mono ?_
  rintro r W2 ⟨v2, rfl, ho2, hb2⟩
  have HB2 : Hid (Below W1.heap.size W1 W2) := hb2
  have HO2 : Hid (W2.ownsRow W1.heap.size 5 1 v2 M (bl.map bv)) := ho2
  obtain ⟨g2, c2, cur2, e2, hg2, _, _⟩ := K.own_form ho2 hm0
  subst e2
  have HG2 : Hid (W1.heap.size ≤ g2) := hg2
  clear ho2 hb2 hg2
  go_wp2_with (first | (at_builtin; refine wpList_append_own _ rfl _ _ 52 rfl W1.heap.size 5 i0 (.int .u8 0) 1 1 Tryz.underlying52 hi0 hz0 hz1 hz2 rfl (by decide) (.slice (some ⟨g2, 0, none⟩) M c2) M (bl.map bv) rfl (HO2.out.alloc _) ⟨W2.heap.size, 0, none⟩ 2 2 [.int .u8 90, .int .u8 91] rfl rfl (K.news_two W2 _ _) (fun u hu => by simp at hu; rcases hu with rfl | rfl <;> rfl) (by unfold maxLen; omega) (by omega) (by rw [World.size_alloc]; have := HB2.out.size; omega) ?_))
  intro v3 W3 ho3 hgr3 _
  obtain ⟨g3, c3, e3, hfull⟩ := K.full_of (W := W1) HBL.out.1 ho3
  subst e3
  have hB3 : Below W1.heap.size W1 W3 := (HB2.out.alloc (by have := HB2.out.size; omega) _).grown hgr3 (by rw [World.size_alloc]; have := HB2.out.size; omega) (fun k e => by simp [Value.ownBlock] at e; have := HG2.out; omega)
  have HB3 : Hid (Below W1.heap.size W1 W3) := hB3
  have HFu : Hid (K.Full W1 W3 g3 c3 M bl) := hfull
  have HF3 : Hid (Pf n0 W W3 x #[.int .i64 m, .int .i64 k, v] #[.int .i64 2, .int .i64 osec, .int .u8 ofill, .int .i64 omore, .slice olo oln olc, .int .i64 fk, .int .i64 fsec, .int .i64 fa, .int .i64 ft, .bool fl, .slice oko okn okc] P A S C S C) := HF1.out.later hB3
  have HFd : Hid (Pf n0 W W3.drew x #[.int .i64 m, .int .i64 k, v] #[.int .i64 2, .int .i64 osec, .int .u8 ofill, .int .i64 omore, .slice olo oln olc, .int .i64 fk, .int .i64 fsec, .int .i64 fa, .int .i64 ft, .bool fl, .slice oko okn okc] P A S C S C) := HF3.out.later (K.below_drew W3)
  have hcp := hfull.cp
  have HG3 : Hid (W1.heap.size ≤ g3 ∧ g3 < W3.heap.size ∧ W0.heap.size ≤ g3) := by
    obtain ⟨cur, hcu, _⟩ := hfull.blk
    have h1 := hfull.new
    have h2 := HB1.out.size
    exact ⟨h1, (Array.getElem?_eq_some_iff.1 hcu).1, by omega⟩
  have hwD := write_c HFd.out.pq.rc HFs.out (by have := HQ.out; omega) osec (bs := bl) HBL.out.2 (ao := some ⟨g3, 0, none⟩) (m := M) (cap := c3) HBL.out.1.symm (by omega) (fun _ => ⟨g3, 0, rfl, fun hm => by have h1 := HPl.out _ hm; have h2 := HG3.out.2.2; omega, HG3.out.2.1, fun j v hv => by
    obtain ⟨cur, hcu, hcc⟩ := HFu.out.blk
    rw [List.getElem?_map] at hv
    obtain ⟨y, hy, rfl⟩ := Option.map_eq_some_iff.1 hv
    rw [Nat.zero_add]
    show W3.cell? _ = _
    rw [K.cell_of hcu]
    exact hcc j y (by rw [List.getElem?_append_left (List.getElem?_eq_some_iff.1 hy).1]; exact hy)⟩)
  have k1 : (M : Int) ≤ (c3 : Int) := by omega
  have k2 : ¬ (c3 = 0) := by omega
  have HWD : Hid (Calls Tryz.prog 21 #[.pointer (some ⟨P.bc, 0, none⟩), .int .i64 osec, .slice (some ⟨g3, 0, none⟩) M c3] W3.drew fun r w' => ∃ b, r = .returned (.int .i64 (writeR S C osec bl b).1) ∧ ∃ P', CAct W3.drew w' P P' C (writeR S C osec bl b).2.1 (writeR S C osec bl b).2.2) := hwD
  have z0 : W3.cell? ⟨x, 1, none⟩ = some (.pointer (some ⟨P.bc, 0, none⟩)) ∧ W3.cell? ⟨W.heap.size + 1, 1, none⟩ = some (.int .i64 osec) := ⟨HF3.out.c1, (HF3.out.ocell 1).trans rfl⟩
  have zd : W3.drew.cell? ⟨x, 1, none⟩ = some (.pointer (some ⟨P.bc, 0, none⟩)) ∧ W3.drew.cell? ⟨W.heap.size + 1, 1, none⟩ = some (.int .i64 osec) := ⟨HFd.out.c1, (HFd.out.ocell 1).trans rfl⟩
  clear ho3 hgr3 hfull hB3 y21 y31 hwD
  go_wp2
  go_region_held3 (fun w' => w'.cell? ⟨x, 1, none⟩ = some (.pointer (some ⟨P.bc, 0, none⟩)) ∧ w'.cell? ⟨W.heap.size + 1, 1, none⟩ = some (.int .i64 osec)) (first | exact z0 | exact zd | exact HZ4.out | go_keep) (first | (go_at_call 21; refine HWD.out.mono ?_; rintro r W4 ⟨b, rfl, P4, ha4⟩; have HF4 : Hid (Pf n0 W W4 x #[.int .i64 m, .int .i64 k, v] #[.int .i64 2, .int .i64 osec, .int .u8 ofill, .int .i64 omore, .slice olo oln olc, .int .i64 fk, .int .i64 fsec, .int .i64 fa, .int .i64 ft, .bool fl, .slice oko okn okc] P4 A (writeR S C osec bl b).2.1 (writeR S C osec bl b).2.2 S C) := HFd.out.actC ha4; have HZ4 : Hid (W4.cell? ⟨x, 1, none⟩ = some (.pointer (some ⟨P.bc, 0, none⟩)) ∧ W4.cell? ⟨W.heap.size + 1, 1, none⟩ = some (.int .i64 osec)) := ⟨by rw [← ha4.bc]; exact HF4.out.c1, (HF4.out.ocell 1).trans rfl⟩; have HK4 : Hid (K.Kp W3 W4 (P.fp C.L)) := ⟨ha4.kp.os, ha4.kp.tape, ha4.kp.output, ha4.kp.size, ha4.kp.block⟩; have HS4 : Hid (∀ i ∈ P4.fp (writeR S C osec bl b).2.2.L, i ∈ P.fp C.L ∨ W3.heap.size ≤ i) := ha4.sub; clear ha4))
  clear z0 zd HWD HZ4
  have ho14 : W4.ownsRow W0.heap.size 5 1 (.slice (some ⟨g1, 0, none⟩) M c1) M (bl.map bv) := K.ownsRow_block HO1.out.1 (fun g e => by
    simp [Value.ownBlock] at e
    subst e
    exact (HK4.out.block g1 (Nat.lt_of_lt_of_le HO1.out.2.2 HB3.out.size) (fun hm => by have h1 := HPl.out _ hm; have h2 := HO1.out.2.1; omega)).trans (HB3.out.block g1 HO1.out.2.2))
  have HO14 : Hid (W4.ownsRow W0.heap.size 5 1 (.slice (some ⟨g1, 0, none⟩) M c1) M (bl.map bv)) := ho14
  have HFe : Hid (Pf n0 W W4.drew x #[.int .i64 m, .int .i64 k, v] #[.int .i64 2, .int .i64 osec, .int .u8 ofill, .int .i64 omore, .slice olo oln olc, .int .i64 fk, .int .i64 fsec, .int .i64 fa, .int .i64 ft, .bool fl, .slice oko okn okc] P4 A (writeR S C osec bl b).2.1 (writeR S C osec bl b).2.2 S C) := HF4.out.later (K.below_drew W4)
  have hwR := rwrite_any HFe.out.pq.rq (by omega) osec b (ao := some ⟨g1, 0, none⟩) (m := M) (cap := c1) (bs := bl) HBL.out.1.symm (by omega) HBL.out.2 (owns_mono ho14 (Nat.zero_le _)) (fun g e hm => by
    simp [Value.ownBlock] at e
    subst e
    have h1 := HAl.out _ hm
    have h2 := HO1.out.2.1
    omega)
  have z0 : W4.cell? ⟨x, 3, none⟩ = some (.pointer (some ⟨A.q, 0, none⟩)) ∧ W4.cell? ⟨W.heap.size + 1, 1, none⟩ = some (.int .i64 osec) := ⟨HF4.out.c3, (HF4.out.ocell 1).trans rfl⟩
  have zd : W4.drew.cell? ⟨x, 3, none⟩ = some (.pointer (some ⟨A.q, 0, none⟩)) ∧ W4.drew.cell? ⟨W.heap.size + 1, 1, none⟩ = some (.int .i64 osec) := ⟨HFe.out.c3, (HFe.out.ocell 1).trans rfl⟩
  clear ho14
  go_wp2_with fail
  go_region_held3 (fun w' => w'.cell? ⟨x, 3, none⟩ = some (.pointer (some ⟨A.q, 0, none⟩)) ∧ w'.cell? ⟨W.heap.size + 1, 1, none⟩ = some (.int .i64 osec)) (first | exact z0 | exact zd | exact HZ5.out | go_keep) (first | (go_at_call 27; refine hwR.mono ?_; rintro r W5 ⟨rfl, A5, hq5⟩; have HF5 : Hid (Pf n0 W W5 x #[.int .i64 m, .int .i64 k, v] #[.int .i64 2, .int .i64 osec, .int .u8 ofill, .int .i64 omore, .slice olo oln olc, .int .i64 fk, .int .i64 fsec, .int .i64 fa, .int .i64 ft, .bool fl, .slice oko okn okc] P4 A5 (writeR S C osec bl b).2.1 (writeR S C osec bl b).2.2 (writeR S C osec bl b).2.1 (writeR S C osec bl b).2.2) := HFe.out.actQ hq5; have HZ5 : Hid (W5.cell? ⟨x, 3, none⟩ = some (.pointer (some ⟨A.q, 0, none⟩)) ∧ W5.cell? ⟨W.heap.size + 1, 1, none⟩ = some (.int .i64 osec)) := ⟨by rw [← hq5.q]; exact HF5.out.c3, (HF5.out.ocell 1).trans rfl⟩; have HK5 : Hid (K.Kp W4 W5 A.fp) := ⟨hq5.kp.os, hq5.kp.tape, hq5.kp.output, hq5.kp.size, hq5.kp.block⟩; have HS5 : Hid (∀ i ∈ A5.fp, i ∈ A.fp ∨ W4.heap.size ≤ i) := hq5.sub; have HPt : Hid (A5.pot (writeR S C osec bl b).2.2 ≤ A.pot C + 2) := hq5.pot; clear hq5))
  clear z0 zd hwR HZ5
  have HO5 : Hid (g3 ∉ P4.fp (writeR S C osec bl b).2.2.L ∧ g3 ∉ A5.fp ∧ W.heap.size + 1 < g3) := by
    have h1 := HG3.out
    have h2 := HK4.out.size
    have h3 := HWl.out
    refine ⟨fun hm => ?_, fun hm => ?_, by omega⟩
    · rcases HS4.out _ hm with h4 | h4
      · have := HPl.out _ h4; omega
      · omega
    · rcases HS5.out _ hm with h4 | h4
      · have := HAl.out _ h4; omega
      · omega
  have hF5 : K.Full W1 W5 g3 c3 M bl := by
    obtain ⟨cur, hcu, hcc⟩ := HFu.out.blk
    have h1 := HG3.out
    have h2 := HK4.out.size
    exact ⟨HFu.out.new, ⟨cur, (HK5.out.block g3 (by omega) (fun hm => by have := HAl.out _ hm; omega)).trans ((HK4.out.block g3 h1.2.1 (fun hm => by have := HPl.out _ hm; omega)).trans hcu), hcc⟩, HFu.out.cp⟩
  have HFu5 : Hid (K.Full W1 W5 g3 c3 M bl) := hF5
  have hbr1 : BRow W5 (some ⟨g1, 0, none⟩) c1 bl := by
    have h1 := K.ownsRow_block HO14.out (w' := W5) (fun g e => by
      simp [Value.ownBlock] at e
      subst e
      exact HK5.out.block g1 (K.row_lt HO14.out g1 rfl).1 (fun hm => by have h1 := HAl.out _ hm; have h2 := HO1.out.2.1; omega))
    obtain ⟨ao, cc, e, hb⟩ := K.own_brow h1 HBL.out.1 HBL.out.2 (by omega)
    simp at e
    obtain ⟨rfl, rfl⟩ := e
    exact hb
  have hsm := same_any _ _ _ _ bl bl W5 (hF5.brow HBL.out.2 (by rw [HBL.out.1]; omega)) hbr1
  rw [HBL.out.1, decide_eq_true rfl] at hsm
  clear hF5 hbr1
  go_wp2_with fail
  refine hsm.mono ?_
  clear hsm
  rintro r W6 ⟨rfl, hq6⟩
  have HB6 : Hid (Below W5.heap.size W5 W6) := by obtain ⟨q, rfl⟩ := hq6; exact K.below_drewN W5 q
  have HFu6 : Hid (K.Full W1 W6 g3 c3 M bl) := by
    obtain ⟨cur, hcu, hcc⟩ := HFu5.out.blk
    exact ⟨HFu5.out.new, ⟨cur, (HB6.out.block g3 (Array.getElem?_eq_some_iff.1 hcu).1).trans hcu, hcc⟩, HFu5.out.cp⟩
  have HF6 : Hid (Pf n0 W W6 x #[.int .i64 m, .int .i64 k, v] #[.int .i64 2, .int .i64 osec, .int .u8 ofill, .int .i64 omore, .slice olo oln olc, .int .i64 fk, .int .i64 fsec, .int .i64 fa, .int .i64 ft, .bool fl, .slice oko okn okc] P4 A5 (writeR S C osec bl b).2.1 (writeR S C osec bl b).2.2 (writeR S C osec bl b).2.1 (writeR S C osec bl b).2.2) := HF5.out.later HB6.out
  obtain ⟨f90, f91⟩ := HFu6.out.marks HBL.out.1
  have k3 : (M : Int) < ((M + 2 : Nat) : Int) := by omega
  have k4 : (M : Int) + 1 < ((M + 2 : Nat) : Int) := by omega
  have k5 : IntKind.i64.wrap ((M : Int) + 1) = (M : Int) + 1 := K.wrap_id (by omega) (by omega)
  have k6 : ((M : Int) + 1).toNat = M + 1 := by omega
  have k7 : (0 : Int) ≤ (M : Int) + 1 := by omega
  have k8 : (M : Int) + 1 < (M : Int) + 2 := by omega
  clear hq6 HF0 HF1 HF3 HFd HFe HF4 HF5
  go_wp2
  have HC0 : Hid (∃ cur, W6.heap[g3]? = some (.cells cur 5 (0, 0)) ∧ M + 2 ≤ cur.size) := by
    obtain ⟨cur, hcu, hcc⟩ := HFu6.out.blk
    refine ⟨cur, hcu, ?_⟩
    have h1 := hcc (M + 1) 91 (by rw [List.getElem?_append_right (by rw [HBL.out.1]; omega), HBL.out.1]; simp)
    have := (Array.getElem?_eq_some_iff.1 h1).1
    omega
  go_loopw [19] (fun c19 wr => ∃ i : Nat, i ≤ M + 2 ∧ c19 = .int .i64 i ∧ Hid (Pf n0 W wr x #[.int .i64 m, .int .i64 k, v] #[.int .i64 2, .int .i64 osec, .int .u8 ofill, .int .i64 omore, .slice olo oln olc, .int .i64 fk, .int .i64 fsec, .int .i64 fa, .int .i64 ft, .bool fl, .slice oko okn okc] P4 A5 (writeR S C osec bl b).2.1 (writeR S C osec bl b).2.2 (writeR S C osec bl b).2.1 (writeR S C osec bl b).2.2) ∧ Hid (∃ cur, wr.heap[g3]? = some (.cells cur 5 (0, 0)) ∧ M + 2 ≤ cur.size)) (fun c19 _ => M + 2 - (intOf c19).toNat)
  case atStart => exact ⟨0, Nat.zero_le _, rfl, HF6, HC0⟩
  case round =>
    obtain ⟨i, hi, rfl, HFi, HCi⟩ := hrel
    by_cases hlt : i < M + 2
    · obtain ⟨cur, hcu, hsz⟩ := HCi.out
      have hil : (i : Int) < ((M + 2 : Nat) : Int) := by omega
      have hil2 : (i : Int) < (M : Int) + 2 := by omega
      obtain ⟨old, hold⟩ : ∃ old, wr.cell? ⟨g3, i, none⟩ = some old := ⟨_, (K.cell_of hcu).trans (Array.getElem?_eq_getElem (by omega))⟩
      have hfz : wr.frozen? ⟨g3, i, none⟩ = false := K.frozen_of hcu
      have HNx : Hid (Pf n0 W (wr.setCell ⟨g3, i, none⟩ (.int .u8 99)) x #[.int .i64 m, .int .i64 k, v] #[.int .i64 2, .int .i64 osec, .int .u8 ofill, .int .i64 omore, .slice olo oln olc, .int .i64 fk, .int .i64 fsec, .int .i64 fa, .int .i64 ft, .bool fl, .slice oko okn okc] P4 A5 (writeR S C osec bl b).2.1 (writeR S C osec bl b).2.2 (writeR S C osec bl b).2.1 (writeR S C osec bl b).2.2) := HFi.out.poke HO5.out.1 HO5.out.2.1 HO5.out.2.2
      have HCx : Hid (∃ cur, (wr.setCell ⟨g3, i, none⟩ (.int .u8 99)).heap[g3]? = some (.cells cur 5 (0, 0)) ∧ M + 2 ≤ cur.size) := ⟨_, K.blk_set hcu i _, by simpa using hsz⟩
      clear hcu
      go_wp2
      go_roundw
      case rel => exact ⟨i + 1, by omega, by go_num, HNx, HCx⟩
      case measure => simp [intOf]; omega
    · have hil : ¬ (i : Int) < ((M + 2 : Nat) : Int) := by omega
      have hil2 : ¬ (i : Int) < (M : Int) + 2 := by omega
      go_wp2
      go_ret
      exact ⟨by simp, P4, A5, _, _, HFi.out.pq, HFi.out.bl, write_n S C osec bl b, HPt.out⟩
end Go.Proofs.YtlacligofhinmaaGreat.C

namespace Go.Proofs.YtlacligofhinmaaGreat.C
open Go.RowKit Go.Maps Go.Shelf Go.Proofs.YtlacligofhinmaaGreat
attribute [local go_sem] Oper.semAt_some
set_option linter.unusedVariables false
set_option linter.unusedSimpArgs false
set_option maxRecDepth 100000

theorem bare_ok : ∀ {X Y : List K.Pv}, X.map K.bare = Y.map K.bare → (∀ z ∈ Y, K.OkB z.2.2) → ∀ {y}, y ∈ X → K.OkB y.2.2 := fun {X Y} h hz {y} hy => by
  have h1 : K.bare y ∈ Y.map K.bare := by rw [← h]; exact List.mem_map.2 ⟨y, hy, rfl⟩
  obtain ⟨z, hzm, e⟩ := List.mem_map.1 h1
  have e2 : z.2.2 = y.2.2 := by show (K.bare z).2 = (K.bare y).2; rw [e]
  rw [← e2]
  exact hz z hzm
set_option maxHeartbeats 8000000 in
theorem as_disk {n0 x : Nat} {W : World} {P : Loc} {A : Qa} {S : K.Dk} {C : Ch} (h : Pq n0 W x P A S C S C) (hN : A.pot C + 2 < 1048576) (osec : Int) (ofill : Nat) (omore : Int) (olo : Option Addr) (oln olc : Nat) (fk fsec fa ft : Int) (fl : Bool) (oko : Option Addr) (okn okc : Nat) :
    Calls Tryz.prog 37 #[.pointer (some ⟨x, 0, none⟩), .agg #[.int .i64 11, .int .i64 osec, .int .u8 ofill, .int .i64 omore, .slice olo oln olc, .int .i64 fk, .int .i64 fsec, .int .i64 fa, .int .i64 ft, .bool fl, .slice oko okn okc]] W (AsP n0 W x P A S C) := by
  obtain ⟨W0, hW0⟩ : ∃ W0, W0 = W.alloc (.cells #[.int .i64 11, .int .i64 osec, .int .u8 ofill, .int .i64 omore, .slice olo oln olc, .int .i64 fk, .int .i64 fsec, .int .i64 fa, .int .i64 ft, .bool fl, .slice oko okn okc] TOp) := ⟨_, rfl⟩
  have HF0 : Hid (Pg n0 W W0 x #[.int .i64 11, .int .i64 osec, .int .u8 ofill, .int .i64 omore, .slice olo oln olc, .int .i64 fk, .int .i64 fsec, .int .i64 fa, .int .i64 ft, .bool fl, .slice oko okn okc] P A S C) := by rw [hW0]; exact Pg.new h _
  have HW0 : Hid (W0 = W.alloc (.cells #[.int .i64 11, .int .i64 osec, .int .u8 ofill, .int .i64 omore, .slice olo oln olc, .int .i64 fk, .int .i64 fsec, .int .i64 fa, .int .i64 ft, .bool fl, .slice oko okn okc] TOp)) := hW0
  have HQ : Hid (S.q.length + dirtyN C.L ≤ A.pot C) := h.rq.qlen
  obtain ⟨hn0, hn1, hsafe⟩ : 1 ≤ S.n ∧ S.n ≤ 65536 ∧ ∀ t, t < S.n → K.OkB (S.safe t) := by
    obtain ⟨D', _, hso⟩ := h.rc.rk.sm
    exact ⟨h.rc.rk.n0, h.rc.rk.n1, hso.ok⟩
  obtain ⟨il, hil⟩ : ∃ il, il = K.imgL S.n S.safe := ⟨_, rfl⟩
  obtain ⟨m, hm⟩ : ∃ m, m = S.n * 512 := ⟨_, rfl⟩
  have HIL : Hid (il.length = m ∧ ∀ x ∈ il, x < 256) := by
    refine ⟨by rw [hil, hm]; exact K.imgL_len (fun t ht => (hsafe t ht).len), fun x hx => ?_⟩
    rw [hil] at hx
    obtain ⟨t, ht, hx⟩ := List.mem_flatMap.1 hx
    exact (hsafe t (List.mem_range.1 ht)).lt x hx
  have hm1 : m ≤ 33554432 := by omega
  obtain ⟨ro, rc, hrq⟩ := K.own_slice h.rq.rr.qr
  have HDl : Hid (A.D.length ≤ 1048576 ∧ A.Q.length ≤ 1048576) := by
    have h1 : A.D.length + A.Q.length ≤ A.pot C := by simp only [Qa.pot]; omega
    exact ⟨by omega, by omega⟩
  have HD : Hid (∀ X, Pg n0 W X x #[.int .i64 11, .int .i64 osec, .int .u8 ofill, .int .i64 omore, .slice olo oln olc, .int .i64 fk, .int .i64 fsec, .int .i64 fa, .int .i64 ft, .bool fl, .slice oko okn okc] P A S C → Calls Tryz.prog 25 #[.pointer (some ⟨P.bd, 0, none⟩)] X fun r w' => ∃ v, r = .returned v ∧ w'.ownsRow X.heap.size 5 1 v m (il.map bv) ∧ Pg n0 W w' x #[.int .i64 11, .int .i64 osec, .int .u8 ofill, .int .i64 omore, .slice olo oln olc, .int .i64 fk, .int .i64 fsec, .int .i64 fa, .int .i64 ft, .bool fl, .slice oko okn okc] P A S C) := fun X hg => by
    have h1 := K.image_any hg.pq.rc.rk
    rw [← hm, ← hil] at h1
    refine h1.mono ?_
    rintro r w' ⟨v, rfl, ho, hd⟩
    exact ⟨v, rfl, ho, hg.act (hg.pq.rc.disk rfl hd)⟩
  have HRf : Hid (∀ X, Pg n0 W X x #[.int .i64 11, .int .i64 osec, .int .u8 ofill, .int .i64 omore, .slice olo oln olc, .int .i64 fk, .int .i64 fsec, .int .i64 fa, .int .i64 ft, .bool fl, .slice oko okn okc] P A S C → Calls Tryz.prog 91 #[.pointer (some ⟨A.p, 0, none⟩)] X fun r w' => ∃ v, r = .returned v ∧ w'.ownsRow X.heap.size 5 1 v m (il.map bv) ∧ Below X.heap.size X w') := fun X hg => by
    have h1 := K.rImage_any hg.pq.rq.rr HDl.out.1
    rw [← hm, ← hil] at h1
    exact h1
  have HZ : Hid (∀ w', Pg n0 W w' x #[.int .i64 11, .int .i64 osec, .int .u8 ofill, .int .i64 omore, .slice olo oln olc, .int .i64 fk, .int .i64 fsec, .int .i64 fa, .int .i64 ft, .bool fl, .slice oko okn okc] P A S C → w'.cell? ⟨x, 0, none⟩ = some (.pointer (some ⟨P.bd, 0, none⟩)) ∧ w'.cell? ⟨x, 2, none⟩ = some (.pointer (some ⟨A.p, 0, none⟩)) ∧ w'.cell? ⟨A.p, 3, none⟩ = some (.slice ro A.Q.length rc)) := fun w' hg => ⟨hg.c0, hg.c2, by rw [← hrq]; exact (hg.pq.rq.rr.c 3).trans rfl⟩
  have HRQ : Hid (A.rq = .slice ro A.Q.length rc) := hrq
  clear hil hm hsafe hn0 hn1 hrq
  clear h hW0
  go_enter Tryz.func37, Tryz.ntmps37
  go_wp2_with fail
  rw [← HW0.out]
  have HFd : Hid (Pg n0 W W0.drew x #[.int .i64 11, .int .i64 osec, .int .u8 ofill, .int .i64 omore, .slice olo oln olc, .int .i64 fk, .int .i64 fsec, .int .i64 fa, .int .i64 ft, .bool fl, .slice oko okn okc] P A S C) := HF0.out.later (K.below_drew W0)
  have hfD := K.queue_any HFd.out.pq.rc.rk (by have := HQ.out; omega)
  go_region_held3 (fun w' => w'.cell? ⟨x, 0, none⟩ = some (.pointer (some ⟨P.bd, 0, none⟩)) ∧ w'.cell? ⟨x, 2, none⟩ = some (.pointer (some ⟨A.p, 0, none⟩)) ∧ w'.cell? ⟨A.p, 3, none⟩ = some (.slice ro A.Q.length rc)) (first | exact HZ.out _ HF0.out | exact HZ.out _ HFd.out | exact HZ.out _ HF1.out | exact HZ.out _ HF2.out | go_keep) (first | (go_at_call 23; refine hfD.mono ?_; rintro r W1 ⟨v1, ps, rfl, ht1, hps, hd1⟩; have HF1 : Hid (Pg n0 W W1 x #[.int .i64 11, .int .i64 osec, .int .u8 ofill, .int .i64 omore, .slice olo oln olc, .int .i64 fk, .int .i64 fsec, .int .i64 fa, .int .i64 ft, .bool fl, .slice oko okn okc] P A S C) := HFd.out.act (HFd.out.pq.rc.disk rfl hd1); obtain ⟨a1, c1, e1⟩ := K.own_slice ht1.row; subst e1; have hrr := HF1.out.pq.rq.rr; have hpq : ps.map K.bare = A.Q.map K.bare := hps.trans hrr.q.symm; have hfS := K.SamePuts_yes (A := ps) (Q := A.Q) ht1.row (by have h9 := hrr.qr; rw [HRQ.out] at h9; exact h9) (fun y hy => owns_mono (ht1.dat y hy) (Nat.zero_le _)) (fun y hy => hrr.dat y (List.mem_append_right _ hy)) hpq (fun y hy => bare_ok hpq (fun z hz => (hrr.ok z (List.mem_append_right _ hz)).2) hy) (by have h9 : ps.length = A.Q.length := (by simpa using congrArg List.length hpq); rw [h9]; exact HDl.out.2); clear hd1 hfD ht1 hrr hps hpq) | (go_at_call 90; refine hfS.mono ?_; rintro r W2 ⟨rfl, hb2⟩; have HF2 : Hid (Pg n0 W W2 x #[.int .i64 11, .int .i64 osec, .int .u8 ofill, .int .i64 omore, .slice olo oln olc, .int .i64 fk, .int .i64 fsec, .int .i64 fa, .int .i64 ft, .bool fl, .slice oko okn okc] P A S C) := HF1.out.later hb2; clear hb2 hfS))
  have HFe : Hid (Pg n0 W W2.drew x #[.int .i64 11, .int .i64 osec, .int .u8 ofill, .int .i64 omore, .slice olo oln olc, .int .i64 fk, .int .i64 fsec, .int .i64 fa, .int .i64 ft, .bool fl, .slice oko okn okc] P A S C) := HF2.out.later (K.below_drew W2)
  have HY : Hid (∀ w', Pg n0 W w' x #[.int .i64 11, .int .i64 osec, .int .u8 ofill, .int .i64 omore, .slice olo oln olc, .int .i64 fk, .int .i64 fsec, .int .i64 fa, .int .i64 ft, .bool fl, .slice oko okn okc] P A S C → w'.cell? ⟨x, 0, none⟩ = some (.pointer (some ⟨P.bd, 0, none⟩)) ∧ w'.cell? ⟨x, 2, none⟩ = some (.pointer (some ⟨A.p, 0, none⟩))) := fun w' hg => ⟨hg.c0, hg.c2⟩
  have hiD := HD.out _ HFe.out
  clear HD HZ HFd HF0 HF1
  go_wp2_with fail
  go_region_held3 (fun w' => w'.cell? ⟨x, 0, none⟩ = some (.pointer (some ⟨P.bd, 0, none⟩)) ∧ w'.cell? ⟨x, 2, none⟩ = some (.pointer (some ⟨A.p, 0, none⟩))) (first | exact HY.out _ HF2.out | exact HY.out _ HFe.out | exact HY.out _ HF3.out | exact HY.out _ HF4.out | exact HY.out _ HF5.out | go_keep) (first | (go_at_call 25; refine hiD.mono ?_; rintro r W3 ⟨v3, rfl, ho3, hg3⟩; have HF3 : Hid (Pg n0 W W3 x #[.int .i64 11, .int .i64 osec, .int .u8 ofill, .int .i64 omore, .slice olo oln olc, .int .i64 fk, .int .i64 fsec, .int .i64 fa, .int .i64 ft, .bool fl, .slice oko okn okc] P A S C) := hg3; obtain ⟨a3, c3, e3, hb3⟩ := K.own_brow ho3 HIL.out.1 HIL.out.2 (by omega); subst e3; have HO3 : Hid (W3.ownsRow W2.heap.size 5 1 (.slice a3 m c3) m (il.map bv)) := ho3; have hiR := HRf.out _ HF3.out; clear hiD ho3 hg3 hb3) | (go_at_call 91; refine hiR.mono ?_; rintro r W4 ⟨v4, rfl, ho4, hb4⟩; have HF4 : Hid (Pg n0 W W4 x #[.int .i64 11, .int .i64 osec, .int .u8 ofill, .int .i64 omore, .slice olo oln olc, .int .i64 fk, .int .i64 fsec, .int .i64 fa, .int .i64 ft, .bool fl, .slice oko okn okc] P A S C) := HF3.out.later hb4; obtain ⟨a4, c4, e4, hr4⟩ := K.own_brow ho4 HIL.out.1 HIL.out.2 (by omega); subst e4; obtain ⟨a3', c3', e3', hr3⟩ := K.own_brow (K.ownsRow_block HO3.out (w' := W4) (fun g e => hb4.block g (K.row_lt HO3.out g e).1)) HIL.out.1 HIL.out.2 (by omega); simp only [Value.slice.injEq, true_and] at e3'; obtain ⟨rfl, rfl⟩ := e3'; have hsm := same_any a3 a4 c3 c4 il il W4 hr3 hr4; rw [HIL.out.1, decide_eq_true rfl] at hsm; clear hiR ho4 hr4 hr3 hb4) | (go_at_call 26; refine hsm.mono ?_; rintro r W5 ⟨rfl, hq5⟩; have HF5 : Hid (Pg n0 W W5 x #[.int .i64 11, .int .i64 osec, .int .u8 ofill, .int .i64 omore, .slice olo oln olc, .int .i64 fk, .int .i64 fsec, .int .i64 fa, .int .i64 ft, .bool fl, .slice oko okn okc] P A S C) := HF4.out.later (by obtain ⟨q, rfl⟩ := hq5; exact K.below_drewN W4 q); clear hsm hq5))
  go_wp2
  go_ret
  exact ⟨by simp, HF5.out.pq, HF5.out.bl⟩
end Go.Proofs.YtlacligofhinmaaGreat.C

namespace Go.Proofs.YtlacligofhinmaaGreat.C
open Go.RowKit Go.Maps Go.Shelf Go.Proofs.YtlacligofhinmaaGreat
attribute [local go_sem] Oper.semAt_some
set_option linter.unusedVariables false
set_option linter.unusedSimpArgs false
set_option maxRecDepth 100000

set_option maxHeartbeats 8000000 in
theorem ch_asks {n0 x : Nat} {W : World} {P : Loc} {A : Qa} {S : K.Dk} {C : Ch} (h : Pq n0 W x P A S C S C) (hN : A.pot C + 2 < 1048576) (m k : Int) (v : Value) (osec : Int) (ofill : Nat) (omore : Int) (olo : Option Addr) (oln olc : Nat) (fk fsec fa ft : Int) (fl : Bool) (oko : Option Addr) (okn okc : Nat) (ok : Int) (h1 : ¬ ok = 1) (h2 : ¬ ok = 2) (h3 : ¬ ok = 3) (h4 : ¬ ok = 4) (h5 : ¬ ok = 5) (h12 : ¬ ok = 12) (h13 : ¬ ok = 13) (has : ∀ X, Pq n0 X x P A S C S C → Calls Tryz.prog 37 #[.pointer (some ⟨x, 0, none⟩), .agg #[.int .i64 ok, .int .i64 osec, .int .u8 ofill, .int .i64 omore, .slice olo oln olc, .int .i64 fk, .int .i64 fsec, .int .i64 fa, .int .i64 ft, .bool fl, .slice oko okn okc]] X (AsP n0 X x P A S C)) :
    Calls Tryz.prog 11 #[.pointer (some ⟨x, 0, none⟩), .agg #[.int .i64 m, .int .i64 k, v], .agg #[.int .i64 ok, .int .i64 osec, .int .u8 ofill, .int .i64 omore, .slice olo oln olc, .int .i64 fk, .int .i64 fsec, .int .i64 fa, .int .i64 ft, .bool fl, .slice oko okn okc]] W (ChP n0 W x S.n (A.pot C + 2)) := by
  obtain ⟨W0, hW0⟩ : ∃ W0, W0 = (W.alloc (.cells #[.int .i64 m, .int .i64 k, v] TSe)).alloc (.cells #[.int .i64 ok, .int .i64 osec, .int .u8 ofill, .int .i64 omore, .slice olo oln olc, .int .i64 fk, .int .i64 fsec, .int .i64 fa, .int .i64 ft, .bool fl, .slice oko okn okc] TOp) := ⟨_, rfl⟩
  have HF0 : Hid (Pf n0 W W0 x #[.int .i64 m, .int .i64 k, v] #[.int .i64 ok, .int .i64 osec, .int .u8 ofill, .int .i64 omore, .slice olo oln olc, .int .i64 fk, .int .i64 fsec, .int .i64 fa, .int .i64 ft, .bool fl, .slice oko okn okc] P A S C S C) := by rw [hW0]; exact Pf.new h _ _
  have HW0 : Hid (W0 = (W.alloc (.cells #[.int .i64 m, .int .i64 k, v] TSe)).alloc (.cells #[.int .i64 ok, .int .i64 osec, .int .u8 ofill, .int .i64 omore, .slice olo oln olc, .int .i64 fk, .int .i64 fsec, .int .i64 fa, .int .i64 ft, .bool fl, .slice oko okn okc] TOp)) := hW0
  have HQ : Hid (S.q.length + dirtyN C.L ≤ A.pot C) := h.rq.qlen
  have HFs : Hid (K.FsOk S.fs) := h.rq.fs
  have HAs : Hid (∀ X, Pq n0 X x P A S C S C → Calls Tryz.prog 37 #[.pointer (some ⟨x, 0, none⟩), .agg #[.int .i64 ok, .int .i64 osec, .int .u8 ofill, .int .i64 omore, .slice olo oln olc, .int .i64 fk, .int .i64 fsec, .int .i64 fa, .int .i64 ft, .bool fl, .slice oko okn okc]] X (AsP n0 X x P A S C)) := has
  have o0 : ((W.alloc (.cells #[.int .i64 m, .int .i64 k, v] TSe)).alloc (.cells #[.int .i64 ok, .int .i64 osec, .int .u8 ofill, .int .i64 omore, .slice olo oln olc, .int .i64 fk, .int .i64 fsec, .int .i64 fa, .int .i64 ft, .bool fl, .slice oko okn okc] TOp)).cell? ⟨W.heap.size + 1, 0, none⟩ = some (.int .i64 ok) := by rw [← hW0]; exact (HF0.out.ocell 0).trans rfl
  have o1 : ((W.alloc (.cells #[.int .i64 m, .int .i64 k, v] TSe)).alloc (.cells #[.int .i64 ok, .int .i64 osec, .int .u8 ofill, .int .i64 omore, .slice olo oln olc, .int .i64 fk, .int .i64 fsec, .int .i64 fa, .int .i64 ft, .bool fl, .slice oko okn okc] TOp)).cell? ⟨W.heap.size + 1, 1, none⟩ = some (.int .i64 osec) := by rw [← hW0]; exact (HF0.out.ocell 1).trans rfl
  have o2 : ((W.alloc (.cells #[.int .i64 m, .int .i64 k, v] TSe)).alloc (.cells #[.int .i64 ok, .int .i64 osec, .int .u8 ofill, .int .i64 omore, .slice olo oln olc, .int .i64 fk, .int .i64 fsec, .int .i64 fa, .int .i64 ft, .bool fl, .slice oko okn okc] TOp)).cell? ⟨W.heap.size + 1, 2, none⟩ = some (.int .u8 ofill) := by rw [← hW0]; exact (HF0.out.ocell 2).trans rfl
  have o3 : ((W.alloc (.cells #[.int .i64 m, .int .i64 k, v] TSe)).alloc (.cells #[.int .i64 ok, .int .i64 osec, .int .u8 ofill, .int .i64 omore, .slice olo oln olc, .int .i64 fk, .int .i64 fsec, .int .i64 fa, .int .i64 ft, .bool fl, .slice oko okn okc] TOp)).cell? ⟨W.heap.size + 1, 3, none⟩ = some (.int .i64 omore) := by rw [← hW0]; exact (HF0.out.ocell 3).trans rfl
  have o4 : ((W.alloc (.cells #[.int .i64 m, .int .i64 k, v] TSe)).alloc (.cells #[.int .i64 ok, .int .i64 osec, .int .u8 ofill, .int .i64 omore, .slice olo oln olc, .int .i64 fk, .int .i64 fsec, .int .i64 fa, .int .i64 ft, .bool fl, .slice oko okn okc] TOp)).cell? ⟨W.heap.size + 1, 4, none⟩ = some (.slice olo oln olc) := by rw [← hW0]; exact (HF0.out.ocell 4).trans rfl
  have o5 : ((W.alloc (.cells #[.int .i64 m, .int .i64 k, v] TSe)).alloc (.cells #[.int .i64 ok, .int .i64 osec, .int .u8 ofill, .int .i64 omore, .slice olo oln olc, .int .i64 fk, .int .i64 fsec, .int .i64 fa, .int .i64 ft, .bool fl, .slice oko okn okc] TOp)).cell? ⟨W.heap.size + 1, 5, none⟩ = some (.int .i64 fk) := by rw [← hW0]; exact (HF0.out.ocell 5).trans rfl
  have o6 : ((W.alloc (.cells #[.int .i64 m, .int .i64 k, v] TSe)).alloc (.cells #[.int .i64 ok, .int .i64 osec, .int .u8 ofill, .int .i64 omore, .slice olo oln olc, .int .i64 fk, .int .i64 fsec, .int .i64 fa, .int .i64 ft, .bool fl, .slice oko okn okc] TOp)).cell? ⟨W.heap.size + 1, 6, none⟩ = some (.int .i64 fsec) := by rw [← hW0]; exact (HF0.out.ocell 6).trans rfl
  have o7 : ((W.alloc (.cells #[.int .i64 m, .int .i64 k, v] TSe)).alloc (.cells #[.int .i64 ok, .int .i64 osec, .int .u8 ofill, .int .i64 omore, .slice olo oln olc, .int .i64 fk, .int .i64 fsec, .int .i64 fa, .int .i64 ft, .bool fl, .slice oko okn okc] TOp)).cell? ⟨W.heap.size + 1, 7, none⟩ = some (.int .i64 fa) := by rw [← hW0]; exact (HF0.out.ocell 7).trans rfl
  have o8 : ((W.alloc (.cells #[.int .i64 m, .int .i64 k, v] TSe)).alloc (.cells #[.int .i64 ok, .int .i64 osec, .int .u8 ofill, .int .i64 omore, .slice olo oln olc, .int .i64 fk, .int .i64 fsec, .int .i64 fa, .int .i64 ft, .bool fl, .slice oko okn okc] TOp)).cell? ⟨W.heap.size + 1, 8, none⟩ = some (.int .i64 ft) := by rw [← hW0]; exact (HF0.out.ocell 8).trans rfl
  have o9 : ((W.alloc (.cells #[.int .i64 m, .int .i64 k, v] TSe)).alloc (.cells #[.int .i64 ok, .int .i64 osec, .int .u8 ofill, .int .i64 omore, .slice olo oln olc, .int .i64 fk, .int .i64 fsec, .int .i64 fa, .int .i64 ft, .bool fl, .slice oko okn okc] TOp)).cell? ⟨W.heap.size + 1, 9, none⟩ = some (.bool fl) := by rw [← hW0]; exact (HF0.out.ocell 9).trans rfl
  have o10 : ((W.alloc (.cells #[.int .i64 m, .int .i64 k, v] TSe)).alloc (.cells #[.int .i64 ok, .int .i64 osec, .int .u8 ofill, .int .i64 omore, .slice olo oln olc, .int .i64 fk, .int .i64 fsec, .int .i64 fa, .int .i64 ft, .bool fl, .slice oko okn okc] TOp)).cell? ⟨W.heap.size + 1, 10, none⟩ = some (.slice oko okn okc) := by rw [← hW0]; exact (HF0.out.ocell 10).trans rfl
  clear has
  clear h hW0
  go_enter Tryz.func11, Tryz.ntmps11
  go_wp2_with fail
  rw [← HW0.out]
  refine (HAs.out W0 HF0.out.pq).mono ?_
  rintro r W1 ⟨rfl, hpq, hb⟩
  have HR : Hid (Pq n0 W1 x P A S C S C ∧ Below n0 W W1) := ⟨hpq, HF0.out.bl.trans hb⟩
  clear hpq hb
  go_wp2
  go_ret
  exact ⟨rfl, P, A, S, C, HR.out.1, HR.out.2, rfl, by omega⟩
end Go.Proofs.YtlacligofhinmaaGreat.C
