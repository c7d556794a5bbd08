import Derived.Test.YtlacligofhinmaaGreatV35
import Derived.Deep.RegionLaw
import Derived.Deep.AppendLies
import Derived.Deep.DrawnRows
namespace Go.Proofs.YtlacligofhinmaaGreat.C
open Go.RowKit Go.Maps Go.Shelf Go.Proofs.YtlacligofhinmaaGreat
attribute [local go_sem] Oper.semAt_some
set_option linter.unusedVariables false
set_option linter.unusedSimpArgs false
set_option maxRecDepth 100000

section
variable {w w' : World} {A : Qa} {S S' : K.Dk} {C C' : Ch}
/-- a line more, behind the others -/
theorem RQ.push {w5 w6 : World} (h : RQ w A S C) (hb : Below w.heap.size w w5) {v' : Value} {dat : K.Bl} {t bk : Nat} {d : Bool} (ho5 : w5.ownsRow w.heap.size 5 1 v' 512 (dat.map bv)) (hdat : K.OkB dat) (ht : t < S.n) (hno : lineAt C.L t = none) (hroom : C.L.length < C.most)
    (hg : w5.grownBy w6 A.lv.ownBlock) {g' m cap' : Nat} (hrow : w6.ownsRow 0 TRl 3 (.slice (some ⟨g', 0, none⟩) m cap') (A.X.length + 1) (xcells A.X ++ xcell ⟨t, v', dat, d⟩)) (hat : A.lv.ownBlock = some g' ∨ w.heap.size ≤ g') :
    w6.cell? ⟨A.q, 3, none⟩ = some A.lv ∧ w6.frozen? ⟨A.q, 3, none⟩ = false ∧ ∃ A', QAct w (w6.setCell ⟨A.q, 3, none⟩ (.slice (some ⟨g', 0, none⟩) m cap')) A A' C S { C with L := C.L ++ [⟨t, bk, dat, d, isN C.notes t⟩] } (if d = true then 1 else 0) := by
  have hk : K.Kp w w6 A.lv.ownBlock.toList := K.Kp.grown (K.Kp.of_below hb _) hg (fun k e => .inl (by simp [e]))
  have ho6 : w6.ownsRow w.heap.size 5 1 v' 512 (dat.map bv) := K.ownsRow_block ho5 (fun g e => hg.block g (K.row_lt ho5 g e).1 (fun e2 => by
    have h1 := row_base ho5 e
    have h2 := (K.row_lt h.lr g e2.symm).1
    omega))
  have hq := h.lines hk (X' := A.X ++ [⟨t, v', dat, d⟩]) (L' := C.L ++ [⟨t, bk, dat, d, isN C.notes t⟩]) (by rw [xcells_append, List.length_append]; simpa [xcells] using hrow) (fun g e => by simp [Value.ownBlock] at e; subst e; exact hat) (fun x hx => by
    rcases List.mem_append.1 hx with hx | hx
    · exact .inl hx
    · simp at hx; subst hx; exact .inr ho6) (h.sim.app (Sim.one rfl)) (fun l hl => by
    rcases List.mem_append.1 hl with hl | hl
    · exact h.ok l hl
    · simp at hl; subst hl; exact ⟨ht, hdat⟩) (by
    show (List.map _ _).Nodup
    rw [List.map_append, List.nodup_append]
    refine ⟨h.sd, by simp, ?_⟩
    intro a ha b hb' e
    simp at hb'
    subst hb'
    subst e
    exact none_iff.1 hno ha) (by rw [List.length_append]; simp; omega) (fun l hl => by
    rcases List.mem_append.1 hl with hl | hl
    · exact h.nt l hl
    · simp at hl; subst hl; rfl)
  refine ⟨(World.cell?_of_block (a := ⟨A.q, 3, none⟩) hq.1).trans (h.c 3), (World.frozen?_of_block (a := ⟨A.q, 3, none⟩) hq.1).trans (h.fz 3), _, hq.2.more ?_⟩
  rw [dirtyN_app]
  cases d <;> simp [dirtyN]
/-- what the region that lays a new line needs, behind the world w3 -/
theorem QAct.pushes {w3 : World} {A2 : Qa} {S2 : K.Dk} {C1 : Ch} {N : Nat} (ha : QAct w w3 A A2 C S2 C1 N) {t bk : Nat} {dat : K.Bl} {d : Bool} (hdat : K.OkB dat) (ht : t < S2.n) (hno : lineAt C1.L t = none) (hroom : C1.L.length < C1.most) {ao : Option Addr} {cap n : Nat} (hv : A2.lv = .slice ao n cap) (hn : A2.X.length = n) :
    ∀ W5 w6 gd cd g' cap', Below w3.heap.size w3 W5 → W5.ownsRow w3.heap.size 5 1 (.slice (some ⟨gd, 0, none⟩) 512 cd) 512 (dat.map bv) → W5.grownBy w6 (Value.slice ao n cap).ownBlock → w6.ownsRow 0 TRl 3 (.slice (some ⟨g', 0, none⟩) (n + 1) cap') (n + 1) (xcells A2.X ++ xcell ⟨t, .slice (some ⟨gd, 0, none⟩) 512 cd, dat, d⟩) → ((Value.slice ao n cap).ownBlock = some g' ∨ g' = W5.heap.size) → w6.cell? ⟨A.q, 3, none⟩ = some (.slice ao n cap) ∧ w6.frozen? ⟨A.q, 3, none⟩ = false ∧ ∃ A', QAct w (w6.setCell ⟨A.q, 3, none⟩ (.slice (some ⟨g', 0, none⟩) (n + 1) cap')) A A' C S2 { C1 with L := C1.L ++ [⟨t, bk, dat, d, isN C1.notes t⟩] } (N + if d = true then 1 else 0) := fun W5 w6 gd cd g' cap' hb ho hg hr hat => by
  rw [← hv] at hg hat
  rw [← hn] at hr
  obtain ⟨f1, f2, A', ha'⟩ := ha.rq.push (bk := bk) hb ho hdat ht hno hroom hg (m := A2.X.length + 1) hr (hat.imp id (fun e => by have := hb.size; omega))
  rw [ha.q] at f1 f2 ha'
  rw [hv] at f1
  rw [hn] at ha'
  exact ⟨f1, f2, A', ha.trans ha'⟩
theorem look_okR {p : Nat} {dv qv av : Value} {D Q : List K.Pv} (h : K.RR w p dv qv av D Q S) {s : Nat} (hs : s < S.n) : K.OkB (K.look S s) := by
  have hm : ∀ (X : List K.Pv) l, (∀ x ∈ X, K.OkB x.2.2) → K.lastQ s (X.map K.bare) = some l → K.OkB l := fun X l hX hl => by
    obtain ⟨i, hi, _⟩ := K.lastQ_some hl
    rw [List.getElem?_map] at hi
    cases hx : X[i]? with
    | none => rw [hx] at hi; simp at hi
    | some x =>
      rw [hx] at hi
      simp [K.bare] at hi
      rw [← hi.2]
      exact hX x (List.mem_of_getElem? hx)
  unfold K.look
  cases hl : K.lastQ s S.q with
  | some l => rw [← h.q] at hl; exact hm Q l (fun x hx => (h.ok x (by simp [hx])).2) hl
  | none =>
    show K.OkB (S.safe s)
    rw [h.sf s hs]
    cases hd : K.lastQ s (D.map K.bare) with
    | none => exact K.okZ
    | some l => exact hm D l (fun x hx => (h.ok x (by simp [hx])).2) hd
theorem rdL_okR {t : Nat} (hi : K.inD S.n t = true) (he : K.rdE S t = 0) (hl : K.OkB (K.look S t)) : K.OkB (K.rdL S t) := by
  unfold K.rdE at he
  unfold K.rdL
  rw [if_pos hi] at he ⊢
  split
  · rename_i hh; rw [if_pos hh] at he; omega
  · exact hl
/-- what Read answers and leaves -/
def RdP (w : World) (A : Qa) (C : Ch) (R : Int × K.Bl × K.Dk × Ch) (r : Ending) (w' : World) : Prop :=
  ∃ v, r = .returned (.tuple #[v, .int .i64 R.1]) ∧ w'.ownsRow w.heap.size 5 1 v R.2.1.length (R.2.1.map bv) ∧ ∃ A', QAct w w' A A' C R.2.2.1 R.2.2.2 1
theorem room_two (S : K.Dk) {C : Ch} (hsd : (secs C.L).Nodup) (hl : C.L.length ≤ C.most) (h1 : 1 ≤ C.most) : (roomR S C).1 = 0 ∨ (roomR S C).1 = 33 := (room_ok (S := S) (C := C) hsd hl h1).2.2
set_option maxHeartbeats 16000000 in
theorem rread_any (h : RQ w A S C) (hq : A.pot C + 2 < 1048576) (s : Int) (b : Nat) :
    Calls Tryz.prog 15 #[.pointer (some ⟨A.q, 0, none⟩), .int .i64 s] w (RdP w A C (readR S C s b)) := by
  have c0 : w.cell? ⟨A.q, 0, none⟩ = some (.pointer (some ⟨A.p, 0, none⟩)) := h.c 0
  have hha := K.rHas_any h.rr s
  by_cases hi : K.inD S.n s = true
  · rw [hi] at hha
    obtain ⟨t, rfl, ht⟩ := inD_nat hi
    cases hl : lineAt C.L t with
    | some l =>
      obtain ⟨hlm, hls⟩ := lineAt_mem hl
      obtain ⟨i, hil⟩ := List.getElem?_of_mem hlm
      have hR : readR S C t b = (0, l.dat, S, useC C t) := by unfold readR; rw [if_pos hi, hl]
      have hU : useC C t = { hitC C with L := dropL C.L t ++ [l] } := by unfold useC; rw [hl]
      rw [hR, hU]
      have hfi := rfind_at h hil
      rw [hls] at hfi
      have a1 := h.stat 4 (.int .u64 (K.inc C.st.hits)) { C.st with hits := K.inc C.st.hits } rfl
      have hus := ruse_at a1.rq (i := i) (l := l) hil
      rw [hls] at hus
      have hok := h.ok l hlm
      have c4 : w.cell? ⟨A.q, 4, none⟩ = some (.int .u64 C.st.hits) := h.c 4
      have f4 := h.fz 4
      have HU : Hid (Calls Tryz.prog 49 #[.pointer (some ⟨A.q, 0, none⟩), .int .i64 i] (w.setCell ⟨A.q, 4, none⟩ (.int .u64 (K.inc C.st.hits))) fun r w' => r = .returned (.tuple #[]) ∧ ∃ (A' : Qa) (m n g cap xg xc : Nat), n = m + 1 ∧ QAct w w' A A' C S { hitC C with L := dropL C.L t ++ [l] } 0 ∧ w'.cell? ⟨A.q, 3, none⟩ = some (.slice (some ⟨g, 0, none⟩) n cap) ∧ w'.cell? ⟨g, m * 3 + 1, none⟩ = some (.slice (some ⟨xg, 0, none⟩) 512 xc) ∧ m ≤ 1024 ∧ ∀ W, Below w'.heap.size w' W → Calls Tryz.prog 50 #[.slice (some ⟨xg, 0, none⟩) 512 xc] W fun e w2 => ∃ v', e = .returned v' ∧ w2.ownsRow w.heap.size 5 1 v' 512 (l.dat.map bv) ∧ Below w'.heap.size w' w2) := by
        refine hus.mono ?_
        rintro r w' ⟨rfl, A', ha'⟩
        have ha := a1.trans ha'
        obtain ⟨ao, cap, hv⟩ := ha.rq.form
        have hml : A'.X.length = (dropL C.L t).length + 1 := by rw [ha.rq.ln]; simp
        obtain ⟨x, hx, e1, e2, e3⟩ := ha.rq.sim.get' (i := (dropL C.L t).length) (l := l) (by simp)
        obtain ⟨g, rfl, _, k0, k1, k2, _⟩ := ha.rq.at_ hv hx
        obtain ⟨_, _, xg, xc, hxv⟩ := ha.rq.xone (List.mem_of_getElem? hx)
        have hxd := ha.rq.xd x (List.mem_of_getElem? hx)
        rw [hxv] at k1 hxd
        rw [e2] at hxd
        have hx1 := ha.rq.x1024
        refine ⟨rfl, A', (dropL C.L t).length, _, g, cap, xg, xc, rfl, ha, ?_, k1, by omega, fun W hb => ?_⟩
        · have := ha.rq.c 3
          rw [ha.q] at this
          rw [this, ← hml]
          show some A'.lv = _
          rw [hv]
        · refine (K.rbytes_row (K.ownsRow_block hxd (fun g' e => hb.block g' (K.row_lt hxd g' e).1)) hok.2).mono ?_
          rintro e w2 ⟨v', rfl, ho, hb2⟩
          have hsz := ha.kp.size
          have hsz2 := hb.size
          exact ⟨v', rfl, owns_mono ho (by omega), hb.trans (hb2.mono hb.size)⟩
      clear h hq hl hlm hls hil hR hU a1 hus hok
      go_enter Tryz.func15, Tryz.ntmps15
      go_wp2_with fail
      refine Calls.mono hha ?_
      clear hha
      rintro r w1 ⟨rfl, hw1⟩
      rw [hw1]
      clear hw1
      go_wp2_with fail
      refine Calls.mono hfi ?_
      clear hfi
      rintro r w1 ⟨rfl, hw1⟩
      rw [hw1]
      clear hw1
      have hiz : (i : Int) ≥ 0 := by omega
      go_wp2_with fail
      refine Calls.mono HU.out ?_
      clear HU
      rintro r w2 ⟨rfl, A', m, n, g, cap, xg, xc, hnm, ha2, q3, q1, hm, hby⟩
      have HBy : Hid (Calls Tryz.prog 50 #[.slice (some ⟨xg, 0, none⟩) 512 xc] w2.drew fun e w3 => ∃ v', e = .returned v' ∧ w3.ownsRow w.heap.size 5 1 v' 512 (l.dat.map bv) ∧ Below w2.heap.size w2 w3) := hby _ (K.below_drew w2)
      have HA2 : Hid (QAct w w2 A A' C S { hitC C with L := dropL C.L t ++ [l] } 0) := ha2
      have HOk : Hid (l.dat.length = 512) := by
        show _ = _
        exact (ha2.rq.ok l (by simp)).2.len
      have hwr : IntKind.i64.wrap ((n : Int) - 1) = (n : Int) - 1 := by rw [IntKind.wrap_i64]; omega
      have hwt : ((n : Int) - 1).toNat = m := by omega
      have hlt0 : (0 : Int) ≤ (n : Int) - 1 := by omega
      have hlt1 : (n : Int) - 1 < (n : Int) := by omega
      have hlt2 : (1 : Int) ≤ (n : Int) := by omega
      have hlt3 : 0 < n := by omega
      have hlt4 : 1 ≤ n := by omega
      have hlt5 : ¬ n = 0 := by omega
      clear ha2 hby c0 c4 f4 hnm
      go_wp2
      go_region_held3 (fun w' => w'.cell? ⟨A.q, 3, none⟩ = some (.slice (some ⟨g, 0, none⟩) n cap) ∧ w'.cell? ⟨g, m * 3 + 1, none⟩ = some (.slice (some ⟨xg, 0, none⟩) 512 xc)) (first | exact ⟨q3, q1⟩ | exact hS3 | go_keep) (first | (go_at_call 50; refine HBy.out.mono ?_; rintro r w3 ⟨v', rfl, ho3, hb3⟩; have hS3 := And.intro (cell_later hb3 q3) (cell_later hb3 q1); have HB3 : Hid (Below w2.heap.size w2 w3) := hb3; clear hb3))
      go_wp2
      refine bodyPost_ret (results_tmp2 rfl _ _ _) rfl ?_
      exact ⟨v', rfl, by rw [HOk.out]; exact ho3, A', (HA2.out.later HB3.out).more (by omega)⟩
    | none =>
      have hfi := rfind_none h hl
      have a1 := h.stat 5 (.int .u64 (K.inc C.st.misses)) { C.st with misses := K.inc C.st.misses } rfl
      have c5 : w.cell? ⟨A.q, 5, none⟩ = some (.int .u64 C.st.misses) := h.c 5
      have f5 := h.fz 5
      have hro := rroom_any (C := missC C) a1.rq (by have := a1.pot; simp only [missC, Qa.pot] at *; omega)
      obtain ⟨hh, hroom, htwo⟩ := room_ok (S := S) (C := missC C) h.sd h.lim.1 h.lim.2.1
      have hno := hh.sub t hl
      have hfs := hh.fs h.fs
      have hnS := hh.n
      have hnt : (roomR S (missC C)).2.2.notes = C.notes := hh.notes
      have hmo : (roomR S (missC C)).2.2.most = C.most := hh.most
      have HPot : Hid (A.pot C + 2 < 1048576) := hq
      have HRo : Hid (Calls Tryz.prog 51 #[.pointer (some ⟨A.q, 0, none⟩)] (w.setCell ⟨A.q, 5, none⟩ (.int .u64 (K.inc C.st.misses))) fun r w' => r = .returned (.int .i64 (roomR S (missC C)).1) ∧ ∃ A', QAct w w' A A' C (roomR S (missC C)).2.1 (roomR S (missC C)).2.2 1) := by
        refine hro.mono ?_
        rintro r w' ⟨rfl, A', ha'⟩
        have := a1.trans ha'
        rw [Nat.zero_add] at this
        exact ⟨rfl, A', this⟩
      have hR : readR S C t b = if (roomR S (missC C)).1 = 0 then (if K.rdE (roomR S (missC C)).2.1 t = 0 then (0, K.rdL (roomR S (missC C)).2.1 t, K.rdS (roomR S (missC C)).2.1 t, { (roomR S (missC C)).2.2 with L := (roomR S (missC C)).2.2.L ++ [⟨(t : Int).toNat, b, K.rdL (roomR S (missC C)).2.1 t, false, isN C.notes t⟩] }) else (33, [], K.rdS (roomR S (missC C)).2.1 t, (roomR S (missC C)).2.2)) else ((roomR S (missC C)).1, [], (roomR S (missC C)).2.1, (roomR S (missC C)).2.2) := by
        unfold readR; rw [if_pos hi, hl]
      rw [hR]
      generalize roomR S (missC C) = R1 at *
      obtain ⟨e, S1, C1⟩ := R1
      simp only at *
      have hin1 : K.inD S1.n t = true := by rw [hnS]; exact hi
      have HRd : Hid (∀ W A1, QAct w W A A1 C S1 C1 1 → W.cell? ⟨A.q, 0, none⟩ = some (.pointer (some ⟨A.p, 0, none⟩)) ∧ Calls Tryz.prog 52 #[.pointer (some ⟨A.p, 0, none⟩), .int .i64 t] W fun r w' => ∃ v, r = .returned (.tuple #[v, .int .i64 (K.rdE S1 t)]) ∧ w'.ownsRow w.heap.size 5 1 v (K.rdL S1 t).length ((K.rdL S1 t).map bv) ∧ ∃ A', QAct w w' A A' C (K.rdS S1 t) C1 1) := fun W A1 ha => by
        have hp := ha.pot
        have hp0 := HPot.out
        simp only [Qa.pot] at hp hp0
        have c0' := ha.rq.c 0
        rw [ha.q] at c0'
        refine ⟨by rw [c0', ← ha.p]; rfl, ?_⟩
        have hrd := K.rRead_any ha.rq.rr hfs (by omega) (by omega) t
        rw [ha.p] at hrd
        refine hrd.mono ?_
        rintro r w' ⟨v, av', rfl, ho, hra⟩
        rw [← ha.p] at hra
        have hsz := ha.kp.size
        have h9 := ha.trans (ha.rq.disk (rdS_n S1 t) (K.rdS_ok hfs t) hra (N := 0) (by omega))
        exact ⟨v, rfl, owns_mono ho hsz, _, h9⟩
      rcases htwo with rfl | rfl
      · simp only [if_true] at HRo ⊢
        rcases rdE_two hin1 with hre | hre
        · simp only [hre, if_true] at HRd ⊢
          have HRA : Hid (∀ W A1, QAct w W A A1 C S1 C1 1 → K.OkB (K.rdL S1 t)) := fun W A1 ha => rdL_okR hin1 hre (look_okR ha.rq.rr (by rw [hnS]; exact ht))
          have HAp : Hid (K.OkB (K.rdL S1 t) → ∀ W A2 v, QAct w W A A2 C (K.rdS S1 t) C1 1 → W.ownsRow w.heap.size 5 1 v (K.rdL S1 t).length ((K.rdL S1 t).map bv) → ∃ ao cap n gv cv, v = .slice (some ⟨gv, 0, none⟩) 512 cv ∧ n ≤ 1024 ∧ W.cell? ⟨A.q, 3, none⟩ = some (.slice ao n cap) ∧ (∀ W', Below W.heap.size W W' → W'.ownsRow 0 TRl 3 (.slice ao n cap) n (xcells A2.X)) ∧ (∀ W', Below W.heap.size W W' → Calls Tryz.prog 50 #[.slice (some ⟨gv, 0, none⟩) 512 cv] W' fun e w' => ∃ v', e = .returned v' ∧ w'.ownsRow W.heap.size 5 1 v' 512 ((K.rdL S1 t).map bv) ∧ Below W.heap.size W w') ∧ ∀ W5 w6 gd cd g' cap', Below W.heap.size W W5 → W5.ownsRow W.heap.size 5 1 (.slice (some ⟨gd, 0, none⟩) 512 cd) 512 ((K.rdL S1 t).map bv) → W5.grownBy w6 (Value.slice ao n cap).ownBlock → w6.ownsRow 0 TRl 3 (.slice (some ⟨g', 0, none⟩) (n + 1) cap') (n + 1) (xcells A2.X ++ xcell ⟨t, .slice (some ⟨gd, 0, none⟩) 512 cd, K.rdL S1 t, false⟩) → ((Value.slice ao n cap).ownBlock = some g' ∨ g' = W5.heap.size) → w6.cell? ⟨A.q, 3, none⟩ = some (.slice ao n cap) ∧ w6.frozen? ⟨A.q, 3, none⟩ = false ∧ ((w6.setCell ⟨A.q, 3, none⟩ (.slice (some ⟨g', 0, none⟩) (n + 1) cap')).ownsRow w.heap.size 5 1 v (K.rdL S1 t).length ((K.rdL S1 t).map bv)) ∧ ∃ A', QAct w (w6.setCell ⟨A.q, 3, none⟩ (.slice (some ⟨g', 0, none⟩) (n + 1) cap')) A A' C (K.rdS S1 t) { C1 with L := C1.L ++ [⟨(t : Int).toNat, b, K.rdL S1 t, false, isN C.notes t⟩] } 1) := fun hokb W A2 v ha ho => by
            obtain ⟨ao, cap, hv⟩ := ha.rq.form
            have hx1 := ha.rq.x1024
            rw [hokb.len] at ho
            obtain ⟨gv, cv, cur, rfl, _⟩ := K.own_form ho (by decide)
            refine ⟨ao, cap, A2.X.length, gv, cv, rfl, hx1, ?_, fun W' hb => ?_, fun W' hb => ?_, fun W5 w6 gd cd g' cap' hb ho5 hg hr hat => ?_⟩
            · have := ha.rq.c 3
              rw [ha.q] at this
              rw [this, ← hv]; rfl
            · rw [← hv]; exact (ha.rq.later hb).lr
            · refine (K.rbytes_row (K.ownsRow_block ho (fun g' e => hb.block g' (K.row_lt ho g' e).1)) hokb).mono ?_
              rintro e w2 ⟨v', rfl, ho2, hb2⟩
              exact ⟨v', rfl, owns_mono ho2 hb.size, hb.trans (hb2.mono hb.size)⟩
            · obtain ⟨f1, f2, A', ha'⟩ := ha.pushes (bk := b) hokb (by rw [rdS_n, hnS]; exact ht) hno (by rw [hmo]; exact hroom rfl) hv rfl W5 w6 gd cd g' cap' hb ho5 hg hr hat
              rw [Int.toNat_natCast, ← hnt]
              refine ⟨f1, f2, ?_, A', ha'⟩
              rw [hokb.len]
              have hqb : (Value.slice (some ⟨gv, 0, none⟩) 512 cv).ownBlock = some gv := rfl
              refine K.ownsRow_block ho (fun j e => ?_)
              have hjl := (K.row_lt ho j e)
              have hj1 : W5.heap[j]? = W.heap[j]? := hb.block j hjl.1
              have hj2 : w6.heap[j]? = W5.heap[j]? := hg.block j (Nat.lt_of_lt_of_le hjl.1 hb.size) (fun e2 => by
                rw [← hv] at e2
                exact K.own_types ha.rq.lr ho (by decide) e2.symm e)
              have hjq : j ≠ A.q := fun e2 => by
                have hb0 := ha.rq.blk
                rw [ha.q] at hb0
                exact K.blk_types hb0 ho (by decide) (by rw [e, e2])
              exact (Below.heap_setCell _ _ _ _ hjq).trans (hj2.trans hj1)
          clear h hq hl a1 hro hh hroom hno hfs hnS hnt hmo hR hi hre hin1 ht
          go_enter Tryz.func15, Tryz.ntmps15
          go_wp2_with fail
          refine Calls.mono hha ?_
          clear hha
          rintro r w1 ⟨rfl, hw1⟩
          rw [hw1]
          clear hw1
          go_wp2_with fail
          refine Calls.mono hfi ?_
          clear hfi
          rintro r w1 ⟨rfl, hw1⟩
          rw [hw1]
          clear hw1
          go_wp2_with fail
          refine Calls.mono HRo.out ?_
          clear HRo
          rintro r w2 ⟨rfl, A2, ha2⟩
          obtain ⟨d0, hrd⟩ := HRd.out w2 A2 ha2
          have hokb := HRA.out w2 A2 ha2
          clear ha2 HRd c5 f5 c0 HRA
          go_wp2_with fail
          refine Calls.mono hrd ?_
          clear hrd
          rintro r w3 ⟨v, rfl, ho3, A3, ha3⟩
          obtain ⟨ao, cap, n, gv, cv, rfl, hn1, c3, hro3, hby3, hpu⟩ := HAp.out hokb w3 A3 v ha3 ho3
          have HBy : Hid (Calls Tryz.prog 50 #[.slice (some ⟨gv, 0, none⟩) 512 cv] w3.drew fun e w' => ∃ v', e = .returned v' ∧ w'.ownsRow w3.heap.size 5 1 v' 512 ((K.rdL S1 t).map bv) ∧ Below w3.heap.size w3 w') := hby3 _ (K.below_drew w3)
          have HPu : Hid _ := hpu
          have HRo3 : Hid (∀ W', Below w3.heap.size w3 W' → W'.ownsRow 0 TRl 3 (.slice ao n cap) n (xcells A3.X)) := hro3
          have c3d : w3.drew.cell? ⟨A.q, 3, none⟩ = some (.slice ao n cap) := c3
          obtain ⟨i0, hi0, hz0, hz1, hz2⟩ := info_parts infoRl
          clear ha3 ho3 hro3 hby3 hpu HAp d0 hokb
          go_wp2
          go_region_law
            (first
              | (go_simp; go_at_call 50; refine HBy.out.mono ?_; rintro r w5 ⟨v5, rfl, ho5, hb5⟩; obtain ⟨gd, cd, cur5, rfl, hgd, hkd, hcd⟩ := K.own_form ho5 (by decide); have HO5 : Hid (w5.ownsRow w3.heap.size 5 1 (.slice (some ⟨gd, 0, none⟩) 512 cd) 512 ((K.rdL S1 t).map bv)) := ho5; have HB5 : Hid (Below w3.heap.size w3 w5) := hb5; have hone := fun W => run_onex W t (.slice (some ⟨gd, 0, none⟩) 512 cd) false rfl; have c35 : w5.cell? ⟨A.q, 3, none⟩ = some (.slice ao n cap) := cell_later hb5 c3; have c35a : (w5.alloc (.cells #[.int .i64 t, .slice (some ⟨gd, 0, none⟩) 512 cd, .bool false] TRl)).cell? ⟨A.q, 3, none⟩ = some (.slice ao n cap) := cell_later (hb5.alloc hb5.size _) c3; clear hb5 ho5 hkd hcd; dsimp only)
              | (refine step_append_lies _ (by rfl) _ _ TRls (by rfl) 0 TRl i0 _ 3 40 Tryz.underlying90 hi0 hz0 hz1 hz2 (by rfl) (by decide) (.slice ao n cap) n (xcells A3.X) (by rfl) (HRo3.out _ (HB5.out.alloc HB5.out.size _)) ⟨w5.heap.size, 0, none⟩ 1 1 (xcell ⟨t, .slice (some ⟨gd, 0, none⟩) 512 cd, K.rdL S1 t, false⟩) (by rfl) (by rfl) (World.news_of_block (heap_alloc_new w5 _)) (fun u hu => by simp [xcell] at hu; rcases hu with rfl | rfl | rfl <;> rfl) (by decide) (by unfold maxLen; omega) (by omega) (Nat.zero_le _) (w5.heap.size + 1) (by rw [World.size_alloc]) ?_; intro g' cap' w6 hown' hgrow hat hlt'; obtain ⟨q3, f3, ho6, hfin⟩ := HPu.out _ w6 gd cd g' cap' (HB5.out.alloc HB5.out.size _) (HO5.out.alloc _) hgrow hown' (hat.imp id (fun e => by rw [e, World.size_alloc])); have HO6 : Hid _ := ho6; have HA6 : Hid _ := hfin; clear hown' hgrow hat hlt' ho6 hfin))
          all_goals go_wp2
          all_goals refine bodyPost_ret (results_tmp2 rfl _ _ _) rfl ?_
          all_goals exact ⟨_, rfl, HO6.out, HA6.out⟩
        · simp only [hre, show ((33 : Int) = 0) = False by simp, if_false] at HRd ⊢
          clear h hq hl a1 hro hh hroom hno hfs hnS hnt hmo hR hi hre hin1 ht
          go_enter Tryz.func15, Tryz.ntmps15
          go_wp2_with fail
          refine Calls.mono hha ?_
          clear hha
          rintro r w1 ⟨rfl, hw1⟩
          rw [hw1]
          clear hw1
          go_wp2_with fail
          refine Calls.mono hfi ?_
          clear hfi
          rintro r w1 ⟨rfl, hw1⟩
          rw [hw1]
          clear hw1
          go_wp2_with fail
          refine Calls.mono HRo.out ?_
          clear HRo
          rintro r w2 ⟨rfl, A2, ha2⟩
          obtain ⟨d0, hrd⟩ := HRd.out w2 A2 ha2
          clear ha2 HRd
          go_wp2_with fail
          refine Calls.mono hrd ?_
          clear hrd
          rintro r w3 ⟨v, rfl, ho3, A3, ha3⟩
          have HA3 : Hid (QAct w w3 A A3 C (K.rdS S1 t) C1 1) := ha3
          clear ha3 ho3
          go_wp2
          refine bodyPost_ret (results_tmp2 rfl _ _ _) rfl ?_
          exact ⟨_, rfl, World.ownsRow_nil _ _ _ _, A3, HA3.out⟩
      · simp only [show ((33 : Int) = 0) = False by simp, if_false] at HRo ⊢
        clear h hq hl a1 hro hh hroom hno hfs hnS hnt hmo hR hi hin1 ht HRd
        go_enter Tryz.func15, Tryz.ntmps15
        go_wp2_with fail
        refine Calls.mono hha ?_
        clear hha
        rintro r w1 ⟨rfl, hw1⟩
        rw [hw1]
        clear hw1
        go_wp2_with fail
        refine Calls.mono hfi ?_
        clear hfi
        rintro r w1 ⟨rfl, hw1⟩
        rw [hw1]
        clear hw1
        go_wp2_with fail
        refine Calls.mono HRo.out ?_
        clear HRo
        rintro r w2 ⟨rfl, A2, ha2⟩
        have HA2 : Hid (QAct w w2 A A2 C S1 C1 1) := ha2
        clear ha2
        go_wp2
        refine bodyPost_ret (results_tmp2 rfl _ _ _) rfl ?_
        exact ⟨_, rfl, World.ownsRow_nil _ _ _ _, A2, HA2.out⟩
  · have hi' : K.inD S.n s = false := by simpa using hi
    rw [hi'] at hha
    have hR : readR S C s b = (31, [], S, C) := by unfold readR; rw [if_neg hi]
    rw [hR]
    have H0 : Hid (QAct w w A A C S C 1) := (QAct.refl h).more (by omega)
    clear h hq hR hi hi'
    go_enter Tryz.func15, Tryz.ntmps15
    go_wp2_with fail
    refine Calls.mono hha ?_
    clear hha
    rintro r w1 ⟨rfl, hw1⟩
    rw [hw1]
    clear hw1
    go_wp2
    refine bodyPost_ret (results_tmp2 rfl _ _ _) rfl ?_
    exact ⟨_, rfl, World.ownsRow_nil _ _ _ _, A, H0.out⟩
end
end Go.Proofs.YtlacligofhinmaaGreat.C
