import Derived.Test.YtncajaihojhkkaaGreatXWS
namespace Go.Proofs.YtncajaihojhkkaaGreat.S
open Go.RowKit Go.Sort
set_option linter.unusedVariables false
set_option linter.unusedSimpArgs false
set_option maxRecDepth 100000

set_option maxHeartbeats 8000000 in
theorem lay_walk {w : World} {B bm g cap : Nat} {size : Int} {rs js ys : List (Rn ByteArray)} {fi la n m N : Nat} (r : Rn ByteArray) (hO : MO w B bm (.slice (some ⟨g, 0, none⟩) n cap) size rs) (h : RM w bm g cap size rs) (hs : size ≤ 1099511627776) (h0 : 0 ≤ r.lo) (h1 : r.lo < r.hi) (h2 : r.hi ≤ size) (hd tl : Rn ByteArray)
    (Hfi : Hid (find rs (max (r.lo - 1) 0) = fi)) (Hla : Hid (find rs (min r.hi (size - 1)) = la)) (Hn : Hid (rs.length = n)) (Hm : Hid (js.length = m)) (Hjs : Hid (joined [⟨hd.lo, r.lo, hd.v⟩, r, ⟨r.hi, tl.hi, tl.v⟩] = js))
    (hhd : rs[fi]? = some hd) (htl : rs[la]? = some tl) (hm0 : 0 < m) (hm3 : m ≤ 3)
    (HR : Hid (∀ (W : World) (gv c : Nat), W.ownsRow B TRun 3 (.slice (some ⟨g, 0, none⟩) n cap) n (rcells E rs) → B ≤ W.heap.size → gv ≠ g →
      W.ownsRow B TRun 3 (.slice (some ⟨gv, 0, none⟩) m c) m (rcells E js) →
      Calls Tryz.prog 36 #[.slice (some ⟨g, 0, none⟩) n cap, .int .i64 fi, .int .i64 ((la : Int) + 1), .slice (some ⟨gv, 0, none⟩) m c] W (RepRes W B g N (rcells E ys)))) :
    Calls Tryz.prog 23 #[.pointer (some ⟨bm, 0, none⟩), .agg #[.int .i64 r.lo, .int .i64 r.hi, .string r.v]] w fun e w' => e = .returned (.tuple #[]) ∧
      ∃ v', w'.heap[bm]? = some (.cells #[.bool true, .int .i64 size, v'] TMap (0, 0)) ∧ w'.ownsRow B TRun 3 v' N (rcells E ys) ∧ KeptM w w' bm (.slice (some ⟨g, 0, none⟩) n cap) v' := by
  have HO : Hid (MO w B bm (.slice (some ⟨g, 0, none⟩) n cap) size rs) := hO
  have hbB : B ≤ w.heap.size := Nat.le_of_lt (Nat.lt_of_le_of_lt hO.base hO.ltm)
  have hgbm : ¬ bm = g := fun e => hO.sep g rfl e.symm
  have hfzm : w.frozen? ⟨bm, 2, none⟩ = false := hO.fz 2
  clear hO
  have mixed : Tryz.prog.follows .mixedOrders = true := by kernel_rfl
  obtain ⟨W0, hW0⟩ : ∃ W0, W0 = w.alloc (.cells #[.int .i64 r.lo, .int .i64 r.hi, .string r.v] TRun) := ⟨_, rfl⟩
  have hB0 : Below w.heap.size w W0 := by rw [hW0]; exact (Below.refl _ w).alloc (Nat.le_refl _) _
  have hsz0 : W0.heap.size = w.heap.size + 1 := by rw [hW0]; simp
  have hM := h.later hB0
  have hr : ∀ j, W0.cell? ⟨w.heap.size, j, none⟩ = #[.int .i64 r.lo, .int .i64 r.hi, .string r.v][j]? := fun j => by rw [hW0]; exact World.cell?_alloc_mark w _ TRun (0, 0) j
  have r0 : ∀ n os, (grow (W0.drewN n) os).cell? ⟨w.heap.size, 0, none⟩ = some (.int .i64 r.lo) := cell_grown (by simp [hsz0]) (hr 0)
  have r1 : ∀ n os, (grow (W0.drewN n) os).cell? ⟨w.heap.size, 1, none⟩ = some (.int .i64 r.hi) := cell_grown (by simp [hsz0]) (hr 1)
  have r2 : ∀ n os, (grow (W0.drewN n) os).cell? ⟨w.heap.size, 2, none⟩ = some (.string r.v) := cell_grown (by simp [hsz0]) (hr 2)
  have m1 : ∀ n os, (grow (W0.drewN n) os).cell? ⟨bm, 1, none⟩ = some (.int .i64 size) := cell_grown hM.ltm hM.c1
  have w1 : IntKind.i64.wrap (r.lo - 1) = r.lo - 1 := by rw [IntKind.wrap_i64]; omega
  have w2 : IntKind.i64.wrap (size - 1) = size - 1 := by rw [IntKind.wrap_i64]; omega
  have HFi : ∀ i n os, Calls Tryz.prog 35 #[.pointer (some ⟨bm, 0, none⟩), .int .i64 i] (grow (W0.drewN n) os) fun e w' => e = .returned (.int .i64 (find rs i : Nat)) ∧ ∃ q os', w' = grow ((grow (W0.drewN n) os).drewN q) os' := fun i n os =>
    find_any (hM.later (below_of_grow _ W0 n os (Nat.le_refl _))) i
  have HFI : Hid (∀ i n os, Calls Tryz.prog 35 #[.pointer (some ⟨bm, 0, none⟩), .int .i64 i] (grow (W0.drewN n) os) fun e w' => e = .returned (.int .i64 (find rs i : Nat)) ∧ ∃ q os', w' = grow ((grow (W0.drewN n) os).drewN q) os') := HFi
  clear HFi hr
  go_enter Tryz.func23, Tryz.ntmps23
  go_wp2
  rw [← hW0]
  have HW0 : Hid (W0 = w.alloc (.cells #[.int .i64 r.lo, .int .i64 r.hi, .string r.v] TRun)) := hW0
  clear hW0
  go_quiet_grown (first | (go_at_call 35; refine Calls.grown_of (HFI.out _ _ _)) | skip)
  obtain ⟨W1, hW1⟩ : ∃ W1, W1 = grow (W0.drewN nq) osq := ⟨_, rfl⟩
  have hB1 : Below W0.heap.size W0 W1 := by rw [hW1]; exact below_of_grow _ W0 nq osq (Nat.le_refl _)
  have hM1 := hM.later hB1
  have q0 : W1.cell? ⟨w.heap.size, 0, none⟩ = some (.int .i64 r.lo) := by rw [hW1]; exact r0 _ _
  have q1 : W1.cell? ⟨w.heap.size, 1, none⟩ = some (.int .i64 r.hi) := by rw [hW1]; exact r1 _ _
  have q2 : W1.cell? ⟨w.heap.size, 2, none⟩ = some (.string r.v) := by rw [hW1]; exact r2 _ _
  rw [← hW1]
  clear hW1 hM r0 r1 r2 m1 w1 w2 HFI
  obtain ⟨a0, a1, a2⟩ := hM1.run hhd
  obtain ⟨b0, b1, b2⟩ := hM1.run htl
  have c2 := hM1.c2
  have lfi : fi < n := by rw [← Hn.out]; exact (List.getElem?_eq_some_iff.1 hhd).1
  have lb : la < n := by rw [← Hn.out]; exact (List.getElem?_eq_some_iff.1 htl).1
  have hlen : n ≤ 1099511627776 := by rw [← Hn.out]; exact HO.out.len
  rw [Hn.out] at c2
  rw [Hfi.out, Hla.out]
  have x1 : (0 : Int) ≤ (fi : Int) := by omega
  have x2 : (fi : Int) < (n : Int) := by omega
  have x3 : (0 : Int) ≤ (la : Int) := by omega
  have x4 : (la : Int) < (n : Int) := by omega
  have y1 := World.new_ne W1 _ a0
  have y2 := World.new_ne W1 _ b0
  have y3 := World.new_ne W1 _ c2
  have HM1 : Hid (RM W1 bm g cap size rs) := hM1
  clear hM1
  go_wp2
  go_region_held3 (fun w' => w'.cell? ⟨bm, 2, none⟩ = some (.slice (some ⟨g, 0, none⟩) n cap) ∧ w'.cell? ⟨g, fi * 3, none⟩ = some (.int .i64 hd.lo) ∧ w'.cell? ⟨g, fi * 3 + 1, none⟩ = some (.int .i64 hd.hi) ∧ w'.cell? ⟨g, fi * 3 + 2, none⟩ = some (.string hd.v) ∧ w'.cell? ⟨g, la * 3, none⟩ = some (.int .i64 tl.lo) ∧ w'.cell? ⟨g, la * 3 + 1, none⟩ = some (.int .i64 tl.hi) ∧ w'.cell? ⟨g, la * 3 + 2, none⟩ = some (.string tl.v)) (go_keep) (fail)
  · obtain ⟨W2, hW2⟩ : ∃ W2, W2 = ((W1.alloc (.cells #[.int .i64 hd.lo, .int .i64 hd.hi, .string hd.v] TRun)).alloc (.cells #[.int .i64 tl.lo, .int .i64 tl.hi, .string tl.v] TRun)).drew := ⟨_, rfl⟩
    have hB2 : Below W1.heap.size W1 W2 := by rw [hW2]; exact below_drew (((Below.refl _ W1).alloc (Nat.le_refl _) _).alloc (by simp) _)
    have hx := two_new W1 #[.int .i64 hd.lo, .int .i64 hd.hi, .string hd.v] TRun #[.int .i64 tl.lo, .int .i64 tl.hi, .string tl.v] TRun
    rw [← hW2] at hx ⊢
    obtain ⟨bh, hbh⟩ : ∃ bh, bh = W1.heap.size := ⟨_, rfl⟩
    obtain ⟨bt, hbt⟩ : ∃ bt, bt = W1.heap.size + 1 := ⟨_, rfl⟩
    rw [← hbt, ← hbh] at hx ⊢
    have hne : bh ≠ bt := by omega
    have hne' : ¬ bt = bh := by omega
    have hw1 : w.heap.size < W1.heap.size := by have := hB1.size; omega
    have n1 : ¬ w.heap.size = bh := by omega
    have n2 : ¬ w.heap.size = bt := by omega
    have n3 : ¬ bh = w.heap.size := by omega
    have n4 : ¬ bt = w.heap.size := by omega
    have hge : W1.heap.size ≤ bh ∧ W1.heap.size ≤ bt := by omega
    have hlt2 : bh < W2.heap.size ∧ bt < W2.heap.size := by rw [hW2, World.heap_drew_size]; simp; omega
    obtain ⟨hcbh, hfbh, hcbt, hfbt⟩ := hx
    clear hbh hbt hW2
    have h0 := hcbh 0
    have h1 := hcbh 1
    have h2 := hcbh 2
    have t0 := hcbt 0
    have t1 := hcbt 1
    have t2 := hcbt 2
    have f1 := hfbh 1
    have f0 := hfbt 0
    simp only [List.getElem?_toArray, List.getElem?_cons_zero, List.getElem?_cons_succ] at h0 h1 h2 t0 t1 t2
    clear hcbh hcbt hfbh hfbt
    have q0' := cell_later hB2 q0
    have q1' := cell_later hB2 q1
    have q2' := cell_later hB2 q2
    have c2' := cell_later hB2 c2
    have gfz : W2.frozen? ⟨bm, 2, none⟩ = false := by
      have hb := hB0.trans ((hB1.mono (by omega)).trans (hB2.mono (by have := hB1.size; omega)))
      exact (World.frozen?_of_block (a := ⟨bm, 2, none⟩) (hb.block _ HO.out.ltm)).trans hfzm
    have hbm2 : bm < W1.heap.size := by have := HO.out.ltm; omega
    have n5 : ¬ bm = bh := by omega
    have n6 : ¬ bm = bt := by omega
    clear q0 q1 q2 a0 a1 a2 b0 b1 b2 c2
    go_wp2
    go_region
    obtain ⟨W3, hW3⟩ : ∃ W3, W3 = ((W2.setCell ⟨bh, 1, none⟩ (.int .i64 r.lo)).setCell ⟨bt, 0, none⟩ (.int .i64 r.hi)).drew := ⟨_, rfl⟩
    have s0 : W3.cell? ⟨bh, 0, none⟩ = some (.int .i64 hd.lo) := by rw [hW3]; exact (sets_other _ _ _ _ _ _ (by simp [hne, hne']) (by simp [hne, hne'])).trans h0
    have s1 : W3.cell? ⟨bh, 1, none⟩ = some (.int .i64 r.lo) := by rw [hW3]; exact sets_first _ _ _ _ _ (by rw [h1]; rfl) (by simp [hne, hne'])
    have s2 : W3.cell? ⟨bh, 2, none⟩ = some (.string hd.v) := by rw [hW3]; exact (sets_other _ _ _ _ _ _ (by simp [hne, hne']) (by simp [hne, hne'])).trans h2
    have u0 : W3.cell? ⟨bt, 0, none⟩ = some (.int .i64 r.hi) := by rw [hW3]; exact sets_second _ _ _ _ _ (by rw [t0]; rfl) (by simp [hne, hne'])
    have u1 : W3.cell? ⟨bt, 1, none⟩ = some (.int .i64 tl.hi) := by rw [hW3]; exact (sets_other _ _ _ _ _ _ (by simp [hne, hne']) (by simp [hne, hne'])).trans t1
    have u2 : W3.cell? ⟨bt, 2, none⟩ = some (.string tl.v) := by rw [hW3]; exact (sets_other _ _ _ _ _ _ (by simp [hne, hne']) (by simp [hne, hne'])).trans t2
    have v0 : W3.cell? ⟨w.heap.size, 0, none⟩ = some (.int .i64 r.lo) := by rw [hW3]; exact (sets_other _ _ _ _ _ _ (by simp [n1]) (by simp [n2])).trans q0'
    have v1 : W3.cell? ⟨w.heap.size, 1, none⟩ = some (.int .i64 r.hi) := by rw [hW3]; exact (sets_other _ _ _ _ _ _ (by simp [n1]) (by simp [n2])).trans q1'
    have v2 : W3.cell? ⟨w.heap.size, 2, none⟩ = some (.string r.v) := by rw [hW3]; exact (sets_other _ _ _ _ _ _ (by simp [n1]) (by simp [n2])).trans q2'
    have d2 : W3.cell? ⟨bm, 2, none⟩ = some (.slice (some ⟨g, 0, none⟩) n cap) := by rw [hW3]; exact (sets_other _ _ _ _ _ _ (by simp [n5]) (by simp [n6])).trans c2'
    have hB3 : Below W1.heap.size W1 W3 := by rw [hW3]; exact below_drew ((hB2.setCell (p := ⟨bh, 1, none⟩) hge.1 _).setCell (p := ⟨bt, 0, none⟩) hge.2 _)
    rw [← hW3]
    clear hW3 h0 h1 h2 t0 t1 t2 q0' q1' q2' c2' f1 f0 gfz
    have hBW3 : Below w.heap.size w W3 := hB0.trans ((hB1.mono (by omega)).trans (hB3.mono (by have := hB1.size; omega)))
    have hgl : g < W3.heap.size := by have := h.ltg; have := hBW3.size; omega
    have hfz3 : W3.frozen? ⟨bm, 2, none⟩ = false := (World.frozen?_of_block (a := ⟨bm, 2, none⟩) (hBW3.block _ HO.out.ltm)).trans hfzm
    have hrow3 : W3.ownsRow B TRun 3 (.slice (some ⟨g, 0, none⟩) n cap) n (rcells E rs) := by
      have := (HO.out.later hBW3).row
      rwa [Hn.out] at this
    go_wp2
    exact reg4_walk rfl _ r hd tl _ _ _ _ _ _ _ _ _ _ _ _ _ _ _ _ _ _ _ _ _ _ _ _ _ _ _ _ _ _ _ _ _ _ _ _ _ _ _ _ _ _ _ _ _ _ _ _ _ _ _ _ _ _ s0 s1 s2 u0 u1 u2 v0 v1 v2 d2 hgbm hgl hfz3 Hm Hjs hm0 (by omega) (Nat.le_trans hbB hBW3.size) hrow3 HR
      (fun w' w5 ao cap' hb ho hg hf => ⟨rfl, lay_close HO.out (hBW3.trans (hb.mono hBW3.size)) ho hg hf⟩)
  · obtain ⟨W2, hW2⟩ : ∃ W2, W2 = ((W1.alloc (.cells #[.int .i64 tl.lo, .int .i64 tl.hi, .string tl.v] TRun)).alloc (.cells #[.int .i64 hd.lo, .int .i64 hd.hi, .string hd.v] TRun)).drew := ⟨_, rfl⟩
    have hB2 : Below W1.heap.size W1 W2 := by rw [hW2]; exact below_drew (((Below.refl _ W1).alloc (Nat.le_refl _) _).alloc (by simp) _)
    have hx := two_new W1 #[.int .i64 tl.lo, .int .i64 tl.hi, .string tl.v] TRun #[.int .i64 hd.lo, .int .i64 hd.hi, .string hd.v] TRun
    rw [← hW2] at hx ⊢
    obtain ⟨bt, hbt⟩ : ∃ bt, bt = W1.heap.size := ⟨_, rfl⟩
    obtain ⟨bh, hbh⟩ : ∃ bh, bh = W1.heap.size + 1 := ⟨_, rfl⟩
    rw [← hbh, ← hbt] at hx ⊢
    have hne : bh ≠ bt := by omega
    have hne' : ¬ bt = bh := by omega
    have hw1 : w.heap.size < W1.heap.size := by have := hB1.size; omega
    have n1 : ¬ w.heap.size = bh := by omega
    have n2 : ¬ w.heap.size = bt := by omega
    have n3 : ¬ bh = w.heap.size := by omega
    have n4 : ¬ bt = w.heap.size := by omega
    have hge : W1.heap.size ≤ bh ∧ W1.heap.size ≤ bt := by omega
    have hlt2 : bh < W2.heap.size ∧ bt < W2.heap.size := by rw [hW2, World.heap_drew_size]; simp; omega
    obtain ⟨hcbt, hfbt, hcbh, hfbh⟩ := hx
    clear hbh hbt hW2
    have h0 := hcbh 0
    have h1 := hcbh 1
    have h2 := hcbh 2
    have t0 := hcbt 0
    have t1 := hcbt 1
    have t2 := hcbt 2
    have f1 := hfbh 1
    have f0 := hfbt 0
    simp only [List.getElem?_toArray, List.getElem?_cons_zero, List.getElem?_cons_succ] at h0 h1 h2 t0 t1 t2
    clear hcbh hcbt hfbh hfbt
    have q0' := cell_later hB2 q0
    have q1' := cell_later hB2 q1
    have q2' := cell_later hB2 q2
    have c2' := cell_later hB2 c2
    have gfz : W2.frozen? ⟨bm, 2, none⟩ = false := by
      have hb := hB0.trans ((hB1.mono (by omega)).trans (hB2.mono (by have := hB1.size; omega)))
      exact (World.frozen?_of_block (a := ⟨bm, 2, none⟩) (hb.block _ HO.out.ltm)).trans hfzm
    have hbm2 : bm < W1.heap.size := by have := HO.out.ltm; omega
    have n5 : ¬ bm = bh := by omega
    have n6 : ¬ bm = bt := by omega
    clear q0 q1 q2 a0 a1 a2 b0 b1 b2 c2
    go_wp2
    go_region
    obtain ⟨W3, hW3⟩ : ∃ W3, W3 = ((W2.setCell ⟨bh, 1, none⟩ (.int .i64 r.lo)).setCell ⟨bt, 0, none⟩ (.int .i64 r.hi)).drew := ⟨_, rfl⟩
    have s0 : W3.cell? ⟨bh, 0, none⟩ = some (.int .i64 hd.lo) := by rw [hW3]; exact (sets_other _ _ _ _ _ _ (by simp [hne, hne']) (by simp [hne, hne'])).trans h0
    have s1 : W3.cell? ⟨bh, 1, none⟩ = some (.int .i64 r.lo) := by rw [hW3]; exact sets_first _ _ _ _ _ (by rw [h1]; rfl) (by simp [hne, hne'])
    have s2 : W3.cell? ⟨bh, 2, none⟩ = some (.string hd.v) := by rw [hW3]; exact (sets_other _ _ _ _ _ _ (by simp [hne, hne']) (by simp [hne, hne'])).trans h2
    have u0 : W3.cell? ⟨bt, 0, none⟩ = some (.int .i64 r.hi) := by rw [hW3]; exact sets_second _ _ _ _ _ (by rw [t0]; rfl) (by simp [hne, hne'])
    have u1 : W3.cell? ⟨bt, 1, none⟩ = some (.int .i64 tl.hi) := by rw [hW3]; exact (sets_other _ _ _ _ _ _ (by simp [hne, hne']) (by simp [hne, hne'])).trans t1
    have u2 : W3.cell? ⟨bt, 2, none⟩ = some (.string tl.v) := by rw [hW3]; exact (sets_other _ _ _ _ _ _ (by simp [hne, hne']) (by simp [hne, hne'])).trans t2
    have v0 : W3.cell? ⟨w.heap.size, 0, none⟩ = some (.int .i64 r.lo) := by rw [hW3]; exact (sets_other _ _ _ _ _ _ (by simp [n1]) (by simp [n2])).trans q0'
    have v1 : W3.cell? ⟨w.heap.size, 1, none⟩ = some (.int .i64 r.hi) := by rw [hW3]; exact (sets_other _ _ _ _ _ _ (by simp [n1]) (by simp [n2])).trans q1'
    have v2 : W3.cell? ⟨w.heap.size, 2, none⟩ = some (.string r.v) := by rw [hW3]; exact (sets_other _ _ _ _ _ _ (by simp [n1]) (by simp [n2])).trans q2'
    have d2 : W3.cell? ⟨bm, 2, none⟩ = some (.slice (some ⟨g, 0, none⟩) n cap) := by rw [hW3]; exact (sets_other _ _ _ _ _ _ (by simp [n5]) (by simp [n6])).trans c2'
    have hB3 : Below W1.heap.size W1 W3 := by rw [hW3]; exact below_drew ((hB2.setCell (p := ⟨bh, 1, none⟩) hge.1 _).setCell (p := ⟨bt, 0, none⟩) hge.2 _)
    rw [← hW3]
    clear hW3 h0 h1 h2 t0 t1 t2 q0' q1' q2' c2' f1 f0 gfz
    have hBW3 : Below w.heap.size w W3 := hB0.trans ((hB1.mono (by omega)).trans (hB3.mono (by have := hB1.size; omega)))
    have hgl : g < W3.heap.size := by have := h.ltg; have := hBW3.size; omega
    have hfz3 : W3.frozen? ⟨bm, 2, none⟩ = false := (World.frozen?_of_block (a := ⟨bm, 2, none⟩) (hBW3.block _ HO.out.ltm)).trans hfzm
    have hrow3 : W3.ownsRow B TRun 3 (.slice (some ⟨g, 0, none⟩) n cap) n (rcells E rs) := by
      have := (HO.out.later hBW3).row
      rwa [Hn.out] at this
    go_wp2
    exact reg4_walk rfl _ r hd tl _ _ _ _ _ _ _ _ _ _ _ _ _ _ _ _ _ _ _ _ _ _ _ _ _ _ _ _ _ _ _ _ _ _ _ _ _ _ _ _ _ _ _ _ _ _ _ _ _ _ _ _ _ _ s0 s1 s2 u0 u1 u2 v0 v1 v2 d2 hgbm hgl hfz3 Hm Hjs hm0 (by omega) (Nat.le_trans hbB hBW3.size) hrow3 HR
      (fun w' w5 ao cap' hb ho hg hf => ⟨rfl, lay_close HO.out (hBW3.trans (hb.mono hBW3.size)) ho hg hf⟩)
end Go.Proofs.YtncajaihojhkkaaGreat.S
