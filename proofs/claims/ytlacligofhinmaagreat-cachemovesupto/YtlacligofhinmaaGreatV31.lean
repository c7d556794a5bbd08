import Derived.Test.YtlacligofhinmaaGreatV30
import Derived.Deep.RegionHeld3
namespace Go.Proofs.YtlacligofhinmaaGreat.C
open Go.RowKit Go.Maps Go.Shelf Go.Proofs.YtlacligofhinmaaGreat
attribute [local go_sem] Oper.semAt_some
set_option linter.unusedVariables false
set_option linter.unusedSimpArgs false
set_option maxRecDepth 100000

theorem dirtyN_app (a b : List Ln) : dirtyN (a ++ b) = dirtyN a + dirtyN b := by simp [dirtyN, List.filter_append]
theorem dirtyN_at {L : List Ln} {i : Nat} {l : Ln} (hi : L[i]? = some l) : dirtyN L = dirtyN (L.take i) + dirtyN (L.drop (i + 1)) + dirtyN [l] := by
  conv => lhs; rw [split_at hi]
  rw [dirtyN_app]
  have : dirtyN (l :: L.drop (i + 1)) = dirtyN [l] + dirtyN (L.drop (i + 1)) := dirtyN_app [l] _
  omega
theorem dirtyN_move {L : List Ln} (hd : (secs L).Nodup) {i : Nat} {l : Ln} (hi : L[i]? = some l) : dirtyN (dropL L l.sec ++ [l]) = dirtyN L := by
  rw [dropL_at hd hi, List.eraseIdx_eq_take_drop_succ, dirtyN_app, dirtyN_app, dirtyN_at hi]
theorem dirtyN_cleaned {L : List Ln} (hd : (secs L).Nodup) {i : Nat} {l : Ln} (hi : L[i]? = some l) : dirtyN (cleanL L l.sec) + dirtyN [l] = dirtyN L := by
  rw [cleanL_at hd hi, dirtyN_app, dirtyN_at hi]
  have : dirtyN (cleaned l :: L.drop (i + 1)) = dirtyN [cleaned l] + dirtyN (L.drop (i + 1)) := dirtyN_app [_] _
  have h0 : dirtyN [cleaned l] = 0 := by simp [dirtyN, cleaned]
  omega
theorem dirtyN_one {l : Ln} (h : l.dirty = true) : dirtyN [l] = 1 := by simp [dirtyN, h]
theorem cleanL_ok {L : List Ln} {n : Nat} (h : ∀ l ∈ L, l.sec < n ∧ K.OkB l.dat) (s : Int) : ∀ l ∈ cleanL L s, l.sec < n ∧ K.OkB l.dat := fun l hl => by
  obtain ⟨x, hx, e⟩ := List.mem_map.1 hl
  rw [← e]
  split
  · exact h x hx
  · exact h x hx
theorem dropL_ok {L : List Ln} {n : Nat} (h : ∀ l ∈ L, l.sec < n ∧ K.OkB l.dat) (s : Int) : ∀ l ∈ dropL L s, l.sec < n ∧ K.OkB l.dat := fun l hl => h l (List.mem_filter.1 hl).1
theorem cleanL_nt {L : List Ln} {ns : List (Int × Int)} (h : ∀ l ∈ L, l.note = isN ns l.sec) (s : Int) : ∀ l ∈ cleanL L s, l.note = isN ns l.sec := fun l hl => by
  obtain ⟨x, hx, e⟩ := List.mem_map.1 hl
  rw [← e]
  split
  · exact h x hx
  · exact h x hx
theorem cleanL_len (L : List Ln) (s : Int) : (cleanL L s).length = L.length := by simp [cleanL]
theorem dropL_le (L : List Ln) (s : Int) : (dropL L s).length ≤ L.length := List.length_filter_le _ _
theorem dropL_lt {L : List Ln} (hd : (secs L).Nodup) {i : Nat} {l : Ln} (hi : L[i]? = some l) : (dropL L l.sec).length + 1 = L.length := by
  have := (List.getElem?_eq_some_iff.1 hi).1
  rw [dropL_at hd hi, List.length_eraseIdx, if_pos this]; omega
theorem xcells_set {X : List Xl} {i : Nat} {x : Xl} (hx : X[i]? = some x) (d : Bool) : (xcells X).set (i * 3 + 2) (.bool d) = xcells (X.set i { x with dirty := d }) := by
  have hs := split_at hx
  have hi := (List.getElem?_eq_some_iff.1 hx).1
  have hl : (X.take i).length = i := by rw [List.length_take]; omega
  have hset : X.set i { x with dirty := d } = X.take i ++ { x with dirty := d } :: X.drop (i + 1) := by rw [List.set_eq_take_append_cons_drop, if_pos hi]
  rw [hset]
  conv => lhs; rw [hs]
  rw [xcells_append, xcells_append, List.set_append_right _ _ (by rw [xcells_len, hl]; omega), xcells_len, hl]
  rw [show i * 3 + 2 - i * 3 = 2 by omega]
  congr 1
section
variable {w w' : World} {A : Qa} {S S' : K.Dk} {C C' : Ch}
/-- a line is clean from now on, where it stands -/
theorem RQ.clean (h : RQ w A S C) {i : Nat} {l : Ln} {x : Xl} (hi : C.L[i]? = some l) (hx : A.X[i]? = some x) {g : Nat} (hg : A.lv.ownBlock = some g) :
    QAct w (w.setCell ⟨g, i * 3 + 2, none⟩ (.bool false)) A { A with X := A.X.set i { x with dirty := false } } C S { C with L := cleanL C.L l.sec } 0 := by
  have ha := h.own
  have hap := h.apart
  have hlt := (List.getElem?_eq_some_iff.1 hx).1
  have ho : ∀ j, j ≠ g → (w.setCell ⟨g, i * 3 + 2, none⟩ (.bool false)).heap[j]? = w.heap[j]? := fun j hj => Below.heap_setCell _ _ _ _ hj
  have hgq : A.q ≠ g := fun e => ha.2.1 (by rw [e]; exact hg)
  obtain ⟨cap, hv⟩ : ∃ cap, A.lv = .slice (some ⟨g, 0, none⟩) A.X.length cap := by
    rcases h.lr.2 with ⟨e, h0⟩ | ⟨g', cap, cur, e, _⟩
    · omega
    · rw [e] at hg; simp [Value.ownBlock] at hg; subst hg; exact ⟨cap, e⟩
  have hl := h.lr
  rw [hv] at hl
  have hset := K.row_set (j := i * 3 + 2) (.bool false) hl (by rw [xcells_len]; omega)
  rw [xcells_set hx] at hset
  obtain ⟨l', hl', e1, e2, e3⟩ := h.sim.get hx
  rw [hi] at hl'
  cases hl'
  have hxm : ∀ y ∈ A.X.set i { x with dirty := false }, y.v = x.v ∧ y.dat = x.dat ∨ y ∈ A.X := fun y hy => by
    rcases List.mem_or_eq_of_mem_set hy with h1 | h1
    · exact .inr h1
    · subst h1; exact .inl ⟨rfl, rfl⟩
  have hxi := List.mem_of_getElem? hx
  refine ⟨⟨(ho _ hgq).trans h.blk, h.rr.same (fun j hj => ho j (fun e => hap g (mem_qcfp.2 (.inr (.inr (.inl hg)))) (by rw [← e]; exact hj))), K.ownsRow_block h.nr (fun j e => ho j (fun e2 => (ha.2.2.2 g hg).1 (by rw [← e2]; exact e))), by rw [List.length_set, hv]; exact hset, ?_, ?_, ?_, cleanL_ok h.ok _, by rw [secs_cleanL]; exact h.sd, by rw [cleanL_len]; exact h.lim, h.nl, h.nok, h.fs, cleanL_nt h.nt _⟩, ?_, ?_, rfl, rfl, ?_⟩
  · intro y hy
    rcases hxm y hy with ⟨f1, f2⟩ | h1
    · rw [f1, f2]; exact K.ownsRow_block (h.xd x hxi) (fun j e => ho j (fun e2 => (ha.2.2.2 g hg).2 x hxi (by rw [← e2]; exact e)))
    · exact K.ownsRow_block (h.xd y h1) (fun j e => ho j (fun e2 => (ha.2.2.2 g hg).2 y h1 (by rw [← e2]; exact e)))
  · intro y hy j e
    rcases hxm y hy with ⟨f1, f2⟩ | h1
    · exact h.xf x hxi j (by rw [← f1]; exact e)
    · exact h.xf y h1 j e
  · rw [cleanL_at h.sd hi]
    simp only
    rw [List.set_eq_take_append_cons_drop, if_pos hlt]
    refine (h.sim.take i).app (Sim.cons ?_ (h.sim.drop (i + 1)))
    simp [Xl.k, Ln.k, cleaned, e1, e2]
  · exact (K.Kp.refl w _).set (.inl (List.mem_append_right _ (mem_qcfp.2 (.inr (.inr (.inl hg)))))) _ _
  · intro j hj
    rcases List.mem_append.1 hj with hj | hj
    · exact .inl (List.mem_append_left _ hj)
    · refine .inl (List.mem_append_right _ (mem_qcfp.2 ?_))
      rcases mem_qcfp.1 hj with hj | hj | hj | ⟨y, hy, hj⟩
      · exact .inl hj
      · exact .inr (.inl hj)
      · exact .inr (.inr (.inl hj))
      · rcases hxm y hy with ⟨f1, f2⟩ | h1
        · exact .inr (.inr (.inr ⟨x, hxi, by rw [← f1]; exact hj⟩))
        · exact .inr (.inr (.inr ⟨y, h1, hj⟩))
  · simp only [Qa.pot]
    have := dirtyN_cleaned h.sd hi
    omega
set_option maxHeartbeats 8000000 in
theorem ruse_at (h : RQ w A S C) {i : Nat} {l : Ln} (hi : C.L[i]? = some l) :
    Calls Tryz.prog 49 #[.pointer (some ⟨A.q, 0, none⟩), .int .i64 i] w fun r w' => r = .returned (.tuple #[]) ∧ ∃ A', QAct w w' A A' C S { C with L := dropL C.L l.sec ++ [l] } 0 := by
  obtain ⟨i0, hi0, hz0, hz1, hz2⟩ := info_parts infoRl
  obtain ⟨ao, cap, hv⟩ := h.form
  obtain ⟨x, hx, e1, e2, e3⟩ := h.sim.get' hi
  obtain ⟨o1, o2, xg, xc, hxv⟩ := h.xone (List.mem_of_getElem? hx)
  obtain ⟨xsec, xv, xdat, xdy⟩ := x
  simp only at hxv e1 e2 e3 o1 o2
  subst hxv
  have hx1 := h.x1024
  have hlt := (List.getElem?_eq_some_iff.1 hx).1
  obtain ⟨g, rfl, hg, k0, k1, k2, kf⟩ := h.at_ hv hx
  have c3 : w.cell? ⟨A.q, 3, none⟩ = some (.slice (some ⟨g, 0, none⟩) A.X.length cap) := by rw [← hv]; exact h.c 3
  obtain ⟨W0, hW0⟩ : ∃ W0, W0 = w.alloc (.cells #[.int .i64 xsec, (Value.slice (some ⟨xg, 0, none⟩) 512 xc), .bool xdy] TRl) := ⟨_, rfl⟩
  have hB0 : Below w.heap.size w W0 := by rw [hW0]; exact (Below.refl _ w).alloc (Nat.le_refl _) _
  have hbx : W0.heap[w.heap.size]? = some (.cells #[.int .i64 xsec, (Value.slice (some ⟨xg, 0, none⟩) 512 xc), .bool xdy] TRl) := by rw [hW0]; exact heap_alloc_new w _
  have hs0 : W0.heap.size = w.heap.size + 1 := by rw [hW0]; simp
  have HWO := rwithout_any (h.later hB0) hlt
  have HC : Hid (∀ W, Below W0.heap.size W0 W → W.cell? ⟨w.heap.size, 0, none⟩ = some (.int .i64 xsec) ∧ W.cell? ⟨w.heap.size, 1, none⟩ = some (Value.slice (some ⟨xg, 0, none⟩) 512 xc) ∧ W.cell? ⟨w.heap.size, 2, none⟩ = some (.bool xdy)) := fun W hb => by
    have := (hb.block _ (by omega)).trans hbx
    exact ⟨(K.cell_of this).trans rfl, (K.cell_of this).trans rfl, (K.cell_of this).trans rfl⟩
  have hone := fun W => run_onex W xsec (Value.slice (some ⟨xg, 0, none⟩) 512 xc) xdy o2
  have HO1 : Hid (∀ u ∈ xcell ⟨xsec, Value.slice (some ⟨xg, 0, none⟩) 512 xc, xdat, xdy⟩, u.oneCell' = true) := fun u hu => by
    simp [xcell] at hu
    rcases hu with rfl | rfl | rfl
    · rfl
    · exact o1
    · rfl
  have hel : (A.X.eraseIdx i).length = A.X.length - 1 := by rw [List.length_eraseIdx, if_pos hlt]
  have HFin : Hid (∀ W g9 cap9, Below w.heap.size w W → W.ownsRow W0.heap.size TRl 3 (.slice (some ⟨g9, 0, none⟩) ((A.X.eraseIdx i).length + 1) cap9) ((A.X.eraseIdx i).length + 1) (xcells (A.X.eraseIdx i) ++ xcell ⟨xsec, Value.slice (some ⟨xg, 0, none⟩) 512 xc, xdat, xdy⟩) → W.cell? ⟨A.q, 3, none⟩ = some A.lv ∧ W.frozen? ⟨A.q, 3, none⟩ = false ∧ ∃ A', QAct w (W.setCell ⟨A.q, 3, none⟩ (.slice (some ⟨g9, 0, none⟩) ((A.X.eraseIdx i).length + 1) cap9)) A A' C S { C with L := dropL C.L l.sec ++ [l] } 0) := fun W g9 cap9 hb ho => by
    have hr : W.ownsRow 0 TRl 3 (.slice (some ⟨g9, 0, none⟩) ((A.X.eraseIdx i).length + 1) cap9) (A.X.eraseIdx i ++ ([⟨xsec, Value.slice (some ⟨xg, 0, none⟩) 512 xc, xdat, xdy⟩] : List Xl)).length (xcells (A.X.eraseIdx i ++ ([⟨xsec, Value.slice (some ⟨xg, 0, none⟩) 512 xc, xdat, xdy⟩] : List Xl))) := by
      rw [xcells_append, List.length_append]
      have := owns_mono ho (Nat.zero_le _)
      simpa [xcells] using this
    have hsim : Sim (A.X.eraseIdx i ++ ([⟨xsec, Value.slice (some ⟨xg, 0, none⟩) 512 xc, xdat, xdy⟩] : List Xl)) (dropL C.L l.sec ++ [l]) := by
      rw [dropL_at h.sd hi]
      exact (h.sim.erase i).app (Sim.one (by simp [Xl.k, Ln.k, e1, e2, e3]))
    have hq := h.lines (K.Kp.of_below hb _) hr (fun g' e => .inr (by have := row_base ho e; omega)) (fun y hy => .inl (by
      rcases List.mem_append.1 hy with hy | hy
      · exact List.mem_of_mem_eraseIdx hy
      · simp at hy; subst hy; exact List.mem_of_getElem? hx)) hsim (fun y hy => by
      rcases List.mem_append.1 hy with hy | hy
      · exact dropL_ok h.ok _ y hy
      · simp at hy; subst hy; exact h.ok _ (List.mem_of_getElem? hi)) (dropL_push h.sd rfl) (by rw [List.length_append]; have := dropL_lt h.sd hi; have := h.lim.1; simp; omega) (fun y hy => by
      rcases List.mem_append.1 hy with hy | hy
      · exact h.nt y (List.mem_filter.1 hy).1
      · simp at hy; subst hy; exact h.nt _ (List.mem_of_getElem? hi))
    have hd := dirtyN_move h.sd hi
    refine ⟨(World.cell?_of_block (a := ⟨A.q, 3, none⟩) hq.1).trans (h.c 3), (World.frozen?_of_block (a := ⟨A.q, 3, none⟩) hq.1).trans (h.fz 3), _, hq.2.more (by omega)⟩
  obtain ⟨n, hn⟩ : ∃ n, n = (A.X.eraseIdx i).length := ⟨_, rfl⟩
  have HB0 : Hid (Below w.heap.size w W0) := hB0
  have HV : Hid (A.lv = .slice (some ⟨g, 0, none⟩) A.X.length cap) := hv
  have hnl : n ≤ 1024 := by omega
  have hin : (i : Int) < (A.X.length : Int) := by omega
  rw [← hn] at HFin HWO
  generalize A.X.length = xl at *
  generalize A.X.eraseIdx i = Y at *
  clear h hi hv hbx hx o1 hel hB0 hn kf e1 e2 e3 hg
  go_enter Tryz.func49, Tryz.ntmps49
  go_wp2_with fail
  rw [← hW0]
  refine Calls.mono HWO ?_
  clear HWO hW0
  rintro r w2 ⟨v, rfl, ho2, hb2⟩
  obtain ⟨ao5, c5, rfl⟩ : ∃ ao5 c5, v = .slice ao5 n c5 := K.own_slice ho2
  have HO2 : Hid (w2.ownsRow W0.heap.size TRl 3 (.slice ao5 n c5) n (xcells Y)) := ho2
  have HB2 : Hid (Below W0.heap.size W0 w2) := hb2
  obtain ⟨d0, d1, d2⟩ := HC.out w2 hb2
  have hsz := hb2.size
  have hone2 := hone w2
  clear ho2 hb2 k0 k1 k2 c3 hone
  go_wp2_with (at_builtin; refine wpList_append_lies _ rfl _ _ TRls rfl W0.heap.size TRl i0 _ 3 40 Tryz.underlying90 hi0 hz0 hz1 hz2 rfl (by decide) _ n (xcells Y) rfl (HO2.out.alloc _) ⟨w2.heap.size, 0, none⟩ 1 1 (xcell ⟨xsec, Value.slice (some ⟨xg, 0, none⟩) 512 xc, xdat, xdy⟩) rfl rfl (World.news_of_block (heap_alloc_new w2 _)) HO1.out (by decide) (by unfold maxLen; omega) (by omega) (by rw [World.size_alloc]; omega) _ rfl ?_; intro g9 cap9 w9 hown9 hgrow9 hat9 hlt9; have hb9 : Below w.heap.size w w9 := (HB0.out.trans ((HB2.out.alloc HB2.out.size _).mono HB0.out.size)).grown hgrow9 (by rw [World.size_alloc]; omega) (fun q e => by have := (HO2.out.lt q e).1; omega); obtain ⟨q3, f3, hfin⟩ := HFin.out w9 g9 cap9 hb9 hown9; rw [HV.out] at q3; have HX : Hid _ := hfin; clear hown9 hgrow9 hat9 hlt9 hfin hb9)
  go_end0
  exact ⟨rfl, HX.out⟩
end
end Go.Proofs.YtlacligofhinmaaGreat.C
