import Derived.Test.YtlacligofhinmaaGreatV36
namespace Go.Proofs.YtlacligofhinmaaGreat.C
open Go.RowKit Go.Maps Go.Shelf Go.Proofs.YtlacligofhinmaaGreat
attribute [local go_sem] Oper.semAt_some
set_option linter.unusedVariables false
set_option linter.unusedSimpArgs false
set_option maxRecDepth 100000

theorem xcells_setv {X : List Xl} {i : Nat} {x : Xl} (hx : X[i]? = some x) (v : Value) (d : K.Bl) : (xcells X).set (i * 3 + 1) v = xcells (X.set i { x with v := v, dat := d }) := by
  have hs := split_at hx
  have hi := (List.getElem?_eq_some_iff.1 hx).1
  have hl : (X.take i).length = i := by rw [List.length_take]; omega
  have hset : X.set i { x with v := v, dat := d } = X.take i ++ { x with v := v, dat := d } :: X.drop (i + 1) := by rw [List.set_eq_take_append_cons_drop, if_pos hi]
  rw [hset]
  conv => lhs; rw [hs]
  rw [xcells_append, xcells_append, List.set_append_right _ _ (by rw [xcells_len, hl]; omega), xcells_len, hl]
  rw [show i * 3 + 1 - i * 3 = 1 by omega]
  congr 1
section
variable {w w' : World} {A : Qa} {S S' : K.Dk} {C C' : Ch}
/-- the lines are others, where they stand -/
theorem RQ.inplace {w1 : World} (h : RQ w A S C) (hk : K.Kp w w1 A.lv.ownBlock.toList) {X' : List Xl} {L' : List Ln} (hrow : w1.ownsRow 0 TRl 3 A.lv X'.length (xcells X'))
    (hX : ∀ x ∈ X', x ∈ A.X ∨ (w1.ownsRow w.heap.size 5 1 x.v 512 (x.dat.map bv))) (hsim : Sim X' L') (hok : ∀ l ∈ L', l.sec < S.n ∧ K.OkB l.dat) (hsd : (secs L').Nodup) (hl : L'.length ≤ C.most) (hnt : ∀ l ∈ L', l.note = isN C.notes l.sec) :
    QAct w w1 A { A with X := X' } C S { C with L := L' } (dirtyN L' - dirtyN C.L) := by
  have ha := h.own
  have hap := h.apart
  have hb : ∀ i, i < w.heap.size → A.lv.ownBlock ≠ some i → w1.heap[i]? = w.heap[i]? := fun i h1 h2 => hk.block i h1 (by simpa using h2)
  have hq : A.q < w.heap.size := (Array.getElem?_eq_some_iff.1 h.blk).1
  have hnr : ∀ g, A.nv.ownBlock = some g → A.lv.ownBlock ≠ some g := fun g e e2 => (ha.2.2.2 g e2).1 e
  refine ⟨⟨(hb _ hq ha.2.1).trans h.blk, h.rr.same (fun i hi => hb i (h.rr.lt i hi) (fun e => hap i (mem_qcfp.2 (.inr (.inr (.inl e)))) hi)), K.ownsRow_block h.nr (fun g e => hb g (K.row_lt h.nr g e).1 (hnr g e)), hrow, ?_, ?_, hsim, hok, hsd, ⟨hl, h.lim.2⟩, h.nl, h.nok, h.fs, hnt⟩, ?_, ?_, rfl, rfl, ?_⟩
  · intro x hx
    rcases hX x hx with h1 | h1
    · exact K.ownsRow_block (h.xd x h1) (fun g e => hb g (K.row_lt (h.xd x h1) g e).1 (fun e2 => (ha.2.2.2 g e2).2 x h1 e))
    · exact owns_mono h1 (Nat.zero_le _)
  · intro x hx g e hm
    rcases hX x hx with h1 | h1
    · exact h.xf x h1 g e hm
    · have := row_base h1 e
      have := h.rr.lt g hm
      omega
  · exact hk.sub fun i hi => .inl (List.mem_append_right _ (mem_qcfp.2 (.inr (.inr (.inl (by simpa using hi))))))
  · intro i hi
    rcases List.mem_append.1 hi with hi | hi
    · exact .inl (List.mem_append_left _ hi)
    · rcases mem_qcfp.1 hi with hi | hi | hi | ⟨x, hx, hi⟩
      · exact .inl (List.mem_append_right _ (mem_qcfp.2 (.inl hi)))
      · exact .inl (List.mem_append_right _ (mem_qcfp.2 (.inr (.inl hi))))
      · exact .inl (List.mem_append_right _ (mem_qcfp.2 (.inr (.inr (.inl hi)))))
      · rcases hX x hx with h1 | h1
        · exact .inl (List.mem_append_right _ (mem_qcfp.2 (.inr (.inr (.inr ⟨x, h1, hi⟩)))))
        · exact .inr (row_base h1 hi)
  · simp only [Qa.pot]; omega
/-- what Write answers and leaves -/
def WrP (w : World) (A : Qa) (C : Ch) (R : Int × K.Dk × Ch) (r : Ending) (w' : World) : Prop :=
  r = .returned (.int .i64 R.1) ∧ ∃ A', QAct w w' A A' C R.2.1 R.2.2 2
set_option maxHeartbeats 16000000 in
theorem rwrite_any (h : RQ w A S C) (hq : A.pot C + 2 < 1048576) (s : Int) (b : Nat) {ao : Option Addr} {m cap : Nat} {bs : K.Bl} (hm : m = bs.length) (hml : m ≤ 140737488351232) (hlt : ∀ x ∈ bs, x < 256) (hrow : w.ownsRow 0 5 1 (.slice ao m cap) m (bs.map bv)) (hfar : ∀ g, (Value.slice ao m cap).ownBlock = some g → g ∉ A.fp) :
    Calls Tryz.prog 27 #[.pointer (some ⟨A.q, 0, none⟩), .int .i64 s, .slice ao m cap] w (WrP w A C (writeR S C s bs b)) := by
  have c0 : w.cell? ⟨A.q, 0, none⟩ = some (.pointer (some ⟨A.p, 0, none⟩)) := h.c 0
  have hha := K.rHas_any h.rr s
  by_cases hi : K.inD S.n s = true
  · rw [hi] at hha
    obtain ⟨t, rfl, ht⟩ := inD_nat hi
    by_cases h512 : bs.length = 512
    · obtain rfl : m = 512 := by omega
      have hbs : K.OkB bs := ⟨h512, hlt⟩
      obtain ⟨gb, cb, cur, eb, _⟩ := K.own_form hrow (by decide)
      simp only [Value.slice.injEq] at eb
      obtain ⟨rfl, _, rfl⟩ := eb
      have HBy : Hid (∀ W A1 S1 C1 N, QAct w W A A1 C S1 C1 N → ∀ W', Below W.heap.size W W' → Calls Tryz.prog 50 #[.slice (some ⟨gb, 0, none⟩) 512 cap] W' fun e w' => ∃ v', e = .returned v' ∧ w'.ownsRow W.heap.size 5 1 v' 512 (bs.map bv) ∧ Below W.heap.size W w') := fun W A1 S1 C1 N ha W' hb => by
        have ho1 : W.ownsRow 0 5 1 (.slice (some ⟨gb, 0, none⟩) 512 cap) 512 (bs.map bv) := K.ownsRow_block hrow (fun g e => ha.kp.block g (K.row_lt hrow g e).1 (hfar g e))
        refine (K.rbytes_row (K.ownsRow_block ho1 (fun g' e => hb.block g' (K.row_lt ho1 g' e).1)) hbs).mono ?_
        rintro e w2 ⟨v', rfl, ho2, hb2⟩
        exact ⟨v', rfl, owns_mono ho2 hb.size, hb.trans (hb2.mono hb.size)⟩
      cases hl : lineAt C.L t with
      | some l =>
        obtain ⟨hlm, hls⟩ := lineAt_mem hl
        obtain ⟨i, hil⟩ := List.getElem?_of_mem hlm
        have hR : writeR S C t bs b = (0, S, { hitC C with L := dropL C.L t ++ [{ l with dat := bs, dirty := true }] }) := by unfold writeR; rw [if_pos hi, if_pos h512, hl]
        rw [hR]
        have hfi := rfind_at h hil
        rw [hls] at hfi
        have a1 := h.stat 4 (.int .u64 (K.inc C.st.hits)) { C.st with hits := K.inc C.st.hits } rfl
        have hus := ruse_at a1.rq (i := i) (l := l) hil
        rw [hls] at hus
        have c4 : w.cell? ⟨A.q, 4, none⟩ = some (.int .u64 C.st.hits) := h.c 4
        have f4 := h.fz 4
        have hdm : dirtyN (dropL C.L t ++ [l]) = dirtyN C.L := by rw [← hls]; exact dirtyN_move h.sd hil
        have HU : Hid (Calls Tryz.prog 49 #[.pointer (some ⟨A.q, 0, none⟩), .int .i64 i] (w.setCell ⟨A.q, 4, none⟩ (.int .u64 (K.inc C.st.hits))) fun r w' => r = .returned (.tuple #[]) ∧ ∃ (m n g cap2 : Nat), n = m + 1 ∧ w'.cell? ⟨A.q, 3, none⟩ = some (.slice (some ⟨g, 0, none⟩) n cap2) ∧ m ≤ 1024 ∧ (∀ W', Below w'.heap.size w' W' → Calls Tryz.prog 50 #[.slice (some ⟨gb, 0, none⟩) 512 cap] W' fun e w2 => ∃ v', e = .returned v' ∧ w2.ownsRow w'.heap.size 5 1 v' 512 (bs.map bv) ∧ Below w'.heap.size w' w2) ∧
            ∀ W gd cd, Below w'.heap.size w' W → W.ownsRow w'.heap.size 5 1 (.slice (some ⟨gd, 0, none⟩) 512 cd) 512 (bs.map bv) → W.frozen? ⟨g, m * 3 + 1, none⟩ = false ∧ (∃ x, W.cell? ⟨g, m * 3 + 1, none⟩ = some x) ∧ (W.setCell ⟨g, m * 3 + 1, none⟩ (.slice (some ⟨gd, 0, none⟩) 512 cd)).cell? ⟨A.q, 3, none⟩ = some (.slice (some ⟨g, 0, none⟩) n cap2) ∧ (W.setCell ⟨g, m * 3 + 1, none⟩ (.slice (some ⟨gd, 0, none⟩) 512 cd)).frozen? ⟨g, m * 3 + 2, none⟩ = false ∧ (∃ x, (W.setCell ⟨g, m * 3 + 1, none⟩ (.slice (some ⟨gd, 0, none⟩) 512 cd)).cell? ⟨g, m * 3 + 2, none⟩ = some x) ∧ ∃ A', QAct w ((W.setCell ⟨g, m * 3 + 1, none⟩ (.slice (some ⟨gd, 0, none⟩) 512 cd)).setCell ⟨g, m * 3 + 2, none⟩ (.bool true)) A A' C S { hitC C with L := dropL C.L t ++ [{ l with dat := bs, dirty := true }] } 2) := by
          refine hus.mono ?_
          rintro r w' ⟨rfl, A', ha'⟩
          have ha := a1.trans ha'
          obtain ⟨ao, cap2, hv⟩ := ha.rq.form
          have hmx : A'.X.length = (dropL C.L t).length + 1 := by rw [ha.rq.ln]; simp
          obtain ⟨x, hx, e1, e2, e3⟩ := ha.rq.sim.get' (i := (dropL C.L t).length) (l := l) (by simp)
          obtain ⟨g, rfl, hg, k0, k1, k2, kf⟩ := ha.rq.at_ hv hx
          have hx1 := ha.rq.x1024
          refine ⟨rfl, (dropL C.L t).length, _, g, cap2, rfl, ?_, by omega, HBy.out _ _ _ _ _ ha, fun W gd cd hb ho => ?_⟩
          · have := ha.rq.c 3
            rw [ha.q] at this
            rw [this, ← hmx]
            show some A'.lv = _
            rw [hv]
          · have hrq := ha.rq.later hb
            obtain ⟨g', e', hg', j0, j1, j2, jf⟩ := hrq.at_ hv hx
            cases e'
            have hlr := hrq.lr
            rw [hv] at hlr
            have hs1 := K.row_set (j := (dropL C.L t).length * 3 + 1) (Value.slice (some ⟨gd, 0, none⟩) 512 cd) hlr (by rw [xcells_len]; omega)
            rw [xcells_setv hx _ bs] at hs1
            have hx2 : (A'.X.set (dropL C.L t).length { x with v := Value.slice (some ⟨gd, 0, none⟩) 512 cd, dat := bs })[(dropL C.L t).length]? = some { x with v := Value.slice (some ⟨gd, 0, none⟩) 512 cd, dat := bs } := List.getElem?_set_self (by omega)
            have hs2 := K.row_set (j := (dropL C.L t).length * 3 + 2) (Value.bool true) hs1 (by rw [xcells_len, List.length_set]; omega)
            rw [xcells_set hx2, List.set_set] at hs2
            have hqg : A.q ≠ g := fun e => ha.rq.own.2.1 (by rw [ha.q, e]; exact hg)
            obtain ⟨cs1, hb1⟩ := (K.row_lt hs1 g rfl).2
            have hgl : g < w'.heap.size := (K.row_lt ha.rq.lr g hg).1
            have hkk : K.Kp w' ((W.setCell ⟨g, (dropL C.L t).length * 3 + 1, none⟩ (.slice (some ⟨gd, 0, none⟩) 512 cd)).setCell ⟨g, (dropL C.L t).length * 3 + 2, none⟩ (.bool true)) A'.lv.ownBlock.toList := ((K.Kp.of_below hb _).set (.inl (by rw [hg]; simp)) _ _).set (.inl (by rw [hg]; simp)) _ _
            have hgb := row_base ho rfl
            have hod : ((W.setCell ⟨g, (dropL C.L t).length * 3 + 1, none⟩ (.slice (some ⟨gd, 0, none⟩) 512 cd)).setCell ⟨g, (dropL C.L t).length * 3 + 2, none⟩ (.bool true)).ownsRow w'.heap.size 5 1 (.slice (some ⟨gd, 0, none⟩) 512 cd) 512 (bs.map bv) := K.ownsRow_block ho (fun j e => by
              have hj := row_base ho e
              exact (Below.heap_setCell _ _ _ _ (by show j ≠ g; omega)).trans (Below.heap_setCell _ _ _ _ (by show j ≠ g; omega)))
            have hin := ha.rq.inplace hkk (X' := A'.X.set (dropL C.L t).length ⟨x.sec, Value.slice (some ⟨gd, 0, none⟩) 512 cd, bs, true⟩) (L' := dropL C.L t ++ [{ l with dat := bs, dirty := true }]) (by rw [List.length_set, hv]; exact hs2) (fun y hy => by
              rcases List.mem_or_eq_of_mem_set hy with h1 | h1
              · exact .inl h1
              · subst h1; exact .inr hod) (by
              rw [List.set_eq_take_append_cons_drop, if_pos (by omega)]
              have hsm := ha.rq.sim
              have h1 := hsm.take (dropL C.L t).length
              have h2 := hsm.drop ((dropL C.L t).length + 1)
              simp only [List.take_left'] at h1
              have h3 : A'.X.drop ((dropL C.L t).length + 1) = [] := List.drop_of_length_le (by omega)
              rw [h3]
              refine Sim.app ?_ (Sim.one (by simp [Xl.k, Ln.k, e1]))
              simpa using h1) (fun y hy => by
              rcases List.mem_append.1 hy with hy | hy
              · exact ha.rq.ok y (List.mem_append_left _ hy)
              · simp at hy; subst hy; exact ⟨(ha.rq.ok l (by simp)).1, hbs⟩) (by
              have := ha.rq.sd
              simpa using this) (by have := ha.rq.lim.1; simpa using this) (fun y hy => by
              rcases List.mem_append.1 hy with hy | hy
              · exact ha.rq.nt y (List.mem_append_left _ hy)
              · simp at hy; subst hy; exact ha.rq.nt l (by simp))
            have hq3 : (W.setCell ⟨g, (dropL C.L t).length * 3 + 1, none⟩ (.slice (some ⟨gd, 0, none⟩) 512 cd)).cell? ⟨A.q, 3, none⟩ = some (.slice (some ⟨g, 0, none⟩) ((dropL C.L t).length + 1) cap2) := by
              have hc := hrq.c 3
              rw [ha.q] at hc
              rw [World.cell?_of_block (a := ⟨A.q, 3, none⟩) (Below.heap_setCell W ⟨g, (dropL C.L t).length * 3 + 1, none⟩ _ A.q hqg), hc, ← hmx]
              show some A'.lv = _
              rw [hv]
            have hk7 := (xrow_at hs1 hx2 (by rw [List.length_set])).2.2
            have hdd : dirtyN [{ l with dat := bs, dirty := true }] = 1 := by simp [dirtyN]
            have h9 := (ha.trans hin).more (M := 2) (by
              simp only [hitC, dirtyN_app] at hdm ⊢
              omega)
            exact ⟨jf _, ⟨_, j1⟩, hq3, K.frozen_of hb1, ⟨_, hk7⟩, _, h9⟩
        clear h hq hl hlm hls hil hR a1 hus hdm HBy hrow hfar hbs h512 hlt hm
        go_enter Tryz.func27, Tryz.ntmps27
        go_wp2_with fail
        refine Calls.mono hha ?_
        clear hha
        rintro r w1 ⟨rfl, hw1⟩
        rw [hw1]
        clear hw1
        go_wp2_with fail
        refine Calls.mono hfi ?_
        clear hfi
        rintro r w1 ⟨rfl, hw1⟩
        rw [hw1]
        clear hw1
        have hiz : (i : Int) ≥ 0 := by omega
        go_wp2_with fail
        refine Calls.mono HU.out ?_
        clear HU
        rintro r w2 ⟨rfl, m, n, g, cap2, hnm, q3, hm2, hby, hfin⟩
        have HBy2 : Hid (Calls Tryz.prog 50 #[.slice (some ⟨gb, 0, none⟩) 512 cap] w2.drew fun e w' => ∃ v', e = .returned v' ∧ w'.ownsRow w2.heap.size 5 1 v' 512 (bs.map bv) ∧ Below w2.heap.size w2 w') := hby _ (K.below_drew w2)
        have HFin : Hid _ := hfin
        have hwr : IntKind.i64.wrap ((n : Int) - 1) = (n : Int) - 1 := by rw [IntKind.wrap_i64]; omega
        have hwt : ((n : Int) - 1).toNat = m := by omega
        have hlt0 : (0 : Int) ≤ (n : Int) - 1 := by omega
        have hlt1 : (n : Int) - 1 < (n : Int) := by omega
        have hlt2 : (1 : Int) ≤ (n : Int) := by omega
        have hlt3 : 0 < n := by omega
        have hlt4 : 1 ≤ n := by omega
        have hlt5 : ¬ n = 0 := by omega
        clear hby hfin c0 c4 f4 hnm
        go_wp2
        go_region_held3 (fun w' => w'.cell? ⟨A.q, 3, none⟩ = some (.slice (some ⟨g, 0, none⟩) n cap2)) (first | exact q3 | exact q35 | exact q36 | go_keep) (first | (go_at_call 50; refine HBy2.out.mono ?_; rintro r w5 ⟨v5, rfl, ho5, hb5⟩; obtain ⟨gd, cd, cur5, rfl, _⟩ := K.own_form ho5 (by decide); obtain ⟨f6, ⟨x6, k6⟩, q36, f7, ⟨x7, k7⟩, hfin⟩ := HFin.out w5 gd cd hb5 ho5; have q35 := cell_later hb5 q3; have HF : Hid _ := hfin; clear hfin HFin ho5 hb5))
        go_wp2
        go_ret
        exact ⟨rfl, HF.out⟩
      | none =>
        have hfi := rfind_none h hl
        have a1 := h.stat 5 (.int .u64 (K.inc C.st.misses)) { C.st with misses := K.inc C.st.misses } rfl
        have c5 : w.cell? ⟨A.q, 5, none⟩ = some (.int .u64 C.st.misses) := h.c 5
        have f5 := h.fz 5
        have hro := rroom_any (C := missC C) a1.rq (by have := a1.pot; simp only [missC, Qa.pot] at *; omega)
        obtain ⟨hh, hroom, htwo⟩ := room_ok (S := S) (C := missC C) h.sd h.lim.1 h.lim.2.1
        have hno := hh.sub t hl
        have hnS := hh.n
        have hnt : (roomR S (missC C)).2.2.notes = C.notes := hh.notes
        have hmo : (roomR S (missC C)).2.2.most = C.most := hh.most
        have HRo : Hid (Calls Tryz.prog 51 #[.pointer (some ⟨A.q, 0, none⟩)] (w.setCell ⟨A.q, 5, none⟩ (.int .u64 (K.inc C.st.misses))) fun r w' => r = .returned (.int .i64 (roomR S (missC C)).1) ∧ ∃ A', QAct w w' A A' C (roomR S (missC C)).2.1 (roomR S (missC C)).2.2 1) := by
          refine hro.mono ?_
          rintro r w' ⟨rfl, A', ha'⟩
          have := a1.trans ha'
          rw [Nat.zero_add] at this
          exact ⟨rfl, A', this⟩
        have hR : writeR S C t bs b = if (roomR S (missC C)).1 = 0 then (0, (roomR S (missC C)).2.1, { (roomR S (missC C)).2.2 with L := (roomR S (missC C)).2.2.L ++ [⟨(t : Int).toNat, b, bs, true, isN C.notes t⟩] }) else roomR S (missC C) := by
          unfold writeR; rw [if_pos hi, if_pos h512, hl]
        rw [hR]
        generalize roomR S (missC C) = R1 at *
        obtain ⟨e, S1, C1⟩ := R1
        simp only at *
        rcases htwo with rfl | rfl
        · simp only [if_true] at HRo ⊢
          have HAp : Hid (∀ W A2, QAct w W A A2 C S1 C1 1 → ∃ ao cap2 n, n ≤ 1024 ∧ W.cell? ⟨A.q, 3, none⟩ = some (.slice ao n cap2) ∧ (∀ W', Below W.heap.size W W' → W'.ownsRow 0 TRl 3 (.slice ao n cap2) n (xcells A2.X)) ∧ (∀ W', Below W.heap.size W W' → Calls Tryz.prog 50 #[.slice (some ⟨gb, 0, none⟩) 512 cap] W' fun e w' => ∃ v', e = .returned v' ∧ w'.ownsRow W.heap.size 5 1 v' 512 (bs.map bv) ∧ Below W.heap.size W w') ∧ ∀ W5 w6 gd cd g' cap', Below W.heap.size W W5 → W5.ownsRow W.heap.size 5 1 (.slice (some ⟨gd, 0, none⟩) 512 cd) 512 (bs.map bv) → W5.grownBy w6 (Value.slice ao n cap2).ownBlock → w6.ownsRow 0 TRl 3 (.slice (some ⟨g', 0, none⟩) (n + 1) cap') (n + 1) (xcells A2.X ++ xcell ⟨t, .slice (some ⟨gd, 0, none⟩) 512 cd, bs, true⟩) → ((Value.slice ao n cap2).ownBlock = some g' ∨ g' = W5.heap.size) → w6.cell? ⟨A.q, 3, none⟩ = some (.slice ao n cap2) ∧ w6.frozen? ⟨A.q, 3, none⟩ = false ∧ ∃ A', QAct w (w6.setCell ⟨A.q, 3, none⟩ (.slice (some ⟨g', 0, none⟩) (n + 1) cap')) A A' C S1 { C1 with L := C1.L ++ [⟨(t : Int).toNat, b, bs, true, isN C.notes t⟩] } 2) := fun W A2 ha => by
            obtain ⟨ao, cap2, hv⟩ := ha.rq.form
            refine ⟨ao, cap2, A2.X.length, ha.rq.x1024, ?_, fun W' hb => ?_, HBy.out _ _ _ _ _ ha, fun W5 w6 gd cd g' cap' hb ho5 hg hr hat => ?_⟩
            · have := ha.rq.c 3
              rw [ha.q] at this
              rw [this, ← hv]; rfl
            · rw [← hv]; exact (ha.rq.later hb).lr
            · obtain ⟨f1, f2, A', ha'⟩ := ha.pushes (bk := b) (d := true) hbs (by rw [hnS]; exact ht) hno (by rw [hmo]; exact hroom rfl) hv rfl W5 w6 gd cd g' cap' hb ho5 hg hr hat
              rw [Int.toNat_natCast, ← hnt]
              exact ⟨f1, f2, A', ha'⟩
          clear h hq hl a1 hro hh hroom hno hnS hnt hmo hR hi ht HBy hrow hfar hbs h512 hlt hm
          go_enter Tryz.func27, Tryz.ntmps27
          go_wp2_with fail
          refine Calls.mono hha ?_
          clear hha
          rintro r w1 ⟨rfl, hw1⟩
          rw [hw1]
          clear hw1
          go_wp2_with fail
          refine Calls.mono hfi ?_
          clear hfi
          rintro r w1 ⟨rfl, hw1⟩
          rw [hw1]
          clear hw1
          go_wp2_with fail
          refine Calls.mono HRo.out ?_
          clear HRo
          rintro r w3 ⟨rfl, A3, ha3⟩
          obtain ⟨ao, cap2, n, hn1, c3, hro3, hby3, hpu⟩ := HAp.out w3 A3 ha3
          have HBy : Hid (Calls Tryz.prog 50 #[.slice (some ⟨gb, 0, none⟩) 512 cap] w3.drew fun e w' => ∃ v', e = .returned v' ∧ w'.ownsRow w3.heap.size 5 1 v' 512 (bs.map bv) ∧ Below w3.heap.size w3 w') := hby3 _ (K.below_drew w3)
          have HPu : Hid _ := hpu
          have HRo3 : Hid (∀ W', Below w3.heap.size w3 W' → W'.ownsRow 0 TRl 3 (.slice ao n cap2) n (xcells A3.X)) := hro3
          have c3d : w3.drew.cell? ⟨A.q, 3, none⟩ = some (.slice ao n cap2) := c3
          obtain ⟨i0, hi0, hz0, hz1, hz2⟩ := info_parts infoRl
          clear ha3 hro3 hby3 hpu HAp c5 f5 c0
          go_wp2
          go_region_law
            (first
              | (go_simp; go_at_call 50; refine HBy.out.mono ?_; rintro r w5 ⟨v5, rfl, ho5, hb5⟩; obtain ⟨gd, cd, cur5, rfl, hgd, hkd, hcd⟩ := K.own_form ho5 (by decide); have HO5 : Hid (w5.ownsRow w3.heap.size 5 1 (.slice (some ⟨gd, 0, none⟩) 512 cd) 512 (bs.map bv)) := ho5; have HB5 : Hid (Below w3.heap.size w3 w5) := hb5; have hone := fun W => run_onex W t (.slice (some ⟨gd, 0, none⟩) 512 cd) true rfl; have c35 : w5.cell? ⟨A.q, 3, none⟩ = some (.slice ao n cap2) := cell_later hb5 c3; have c35a : (w5.alloc (.cells #[.int .i64 t, .slice (some ⟨gd, 0, none⟩) 512 cd, .bool true] TRl)).cell? ⟨A.q, 3, none⟩ = some (.slice ao n cap2) := cell_later (hb5.alloc hb5.size _) c3; clear hb5 ho5 hkd hcd; dsimp only)
              | (refine step_append_lies _ (by rfl) _ _ TRls (by rfl) 0 TRl i0 _ 3 40 Tryz.underlying90 hi0 hz0 hz1 hz2 (by rfl) (by decide) (.slice ao n cap2) n (xcells A3.X) (by rfl) (HRo3.out _ (HB5.out.alloc HB5.out.size _)) ⟨w5.heap.size, 0, none⟩ 1 1 (xcell ⟨t, .slice (some ⟨gd, 0, none⟩) 512 cd, bs, true⟩) (by rfl) (by rfl) (World.news_of_block (heap_alloc_new w5 _)) (fun u hu => by simp [xcell] at hu; rcases hu with rfl | rfl | rfl <;> rfl) (by decide) (by unfold maxLen; omega) (by omega) (Nat.zero_le _) (w5.heap.size + 1) (by rw [World.size_alloc]) ?_; intro g' cap' w6 hown' hgrow hat hlt'; obtain ⟨q3, f3, hfin⟩ := HPu.out _ w6 gd cd g' cap' (HB5.out.alloc HB5.out.size _) (HO5.out.alloc _) hgrow hown' (hat.imp id (fun e => by rw [e, World.size_alloc])); have HA6 : Hid _ := hfin; clear hown' hgrow hat hlt' hfin))
          all_goals go_wp2
          all_goals go_ret
          all_goals exact ⟨rfl, HA6.out⟩
        · simp only [show ((33 : Int) = 0) = False by simp, if_false] at HRo ⊢
          clear h hq hl a1 hro hh hroom hno hnS hnt hmo hR hi ht HBy hrow hfar hbs h512 hlt hm
          go_enter Tryz.func27, Tryz.ntmps27
          go_wp2_with fail
          refine Calls.mono hha ?_
          clear hha
          rintro r w1 ⟨rfl, hw1⟩
          rw [hw1]
          clear hw1
          go_wp2_with fail
          refine Calls.mono hfi ?_
          clear hfi
          rintro r w1 ⟨rfl, hw1⟩
          rw [hw1]
          clear hw1
          go_wp2_with fail
          refine Calls.mono HRo.out ?_
          clear HRo
          rintro r w2 ⟨rfl, A2, ha2⟩
          have HA2 : Hid (QAct w w2 A A2 C S1 C1 2) := ha2.more (by omega)
          clear ha2
          go_wp2
          go_ret
          exact ⟨rfl, A2, HA2.out⟩
    · have hR : writeR S C t bs b = (32, S, C) := by unfold writeR; rw [if_pos hi, if_neg h512]
      rw [hR]
      have H0 : Hid (QAct w w A A C S C 2) := (QAct.refl h).more (by omega)
      have hne : ¬ (m : Int) = 512 := by omega
      have hne' : ¬ m = 512 := by omega
      clear h hq hR hi hrow hfar
      go_enter Tryz.func27, Tryz.ntmps27
      go_wp2_with fail
      refine Calls.mono hha ?_
      clear hha
      rintro r w1 ⟨rfl, hw1⟩
      rw [hw1]
      clear hw1
      go_wp2
      go_ret
      exact ⟨rfl, A, H0.out⟩
  · have hi' : K.inD S.n s = false := by simpa using hi
    rw [hi'] at hha
    have hR : writeR S C s bs b = (31, S, C) := by unfold writeR; rw [if_neg hi]
    rw [hR]
    have H0 : Hid (QAct w w A A C S C 2) := (QAct.refl h).more (by omega)
    clear h hq hR hi hi' hrow hfar
    go_enter Tryz.func27, Tryz.ntmps27
    go_wp2_with fail
    refine Calls.mono hha ?_
    clear hha
    rintro r w1 ⟨rfl, hw1⟩
    rw [hw1]
    clear hw1
    go_wp2
    go_ret
    exact ⟨rfl, A, H0.out⟩
end
end Go.Proofs.YtlacligofhinmaaGreat.C
