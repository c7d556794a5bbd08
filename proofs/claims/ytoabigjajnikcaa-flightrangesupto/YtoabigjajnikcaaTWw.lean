import Derived.Test.YtoabigjajnikcaaTVw
namespace Go.Proofs.Ytoabigjajnikcaa
open Go.RowKit Go.Maps Go.Shelf
attribute [local go_sem] Oper.semAt_some
set_option linter.unusedVariables false
set_option linter.unusedSimpArgs false
set_option maxRecDepth 100000

/-- what is told is new: none of it lay there when it was asked for -/
structure ValW (n0 : Nat) (L : List En) (pre : List Pe) (x : Pe) (Wp W : World) : Prop where
  v : ValE n0 L pre x W
  new : Wp.heap.size ≤ x.lo
set_option maxHeartbeats 8000000 in
/-- what a ranging over All gives -/
theorem seq_allW (n : Nat) (hn : 2 ≤ n) {Kp : World → World → Prop} {Fine : Nat → World → Prop} (HK : KeepsV Kp Fine) {w : World} {b0 : Nat} {po : Option Addr} {F : Nat → Prop} {V : Int → Value} (L : List En)
    (HU : Hid (∀ W, Below w.heap.size w W → Calls Try.prog 44 #[.pointer po] W fun r w' => ∃ v, r = .returned v ∧ w'.ownsRow W.heap.size TEn 9 v L.length (L.flatMap fun e => vcl (V e.id)) ∧ Below W.heap.size W w'))
    (c0 : w.cell? ⟨b0, 0, none⟩ = some (.pointer po)) (hb0 : b0 < w.heap.size) (hp : ∀ e ∈ L, PV w F (V e.id) e) (hFl : ∀ g, F g → g < w.heap.size) (hl : L.length ≤ 64)
    (hF1 : ∀ (W w1 : World) (k : Nat), Below w.heap.size w W → w.heap.size + 2 ≤ W.heap.size → Below W.heap.size W w1 → W.heap.size ≤ k → k < w1.heap.size → Fine k w1) (hF2 : ∀ g, F g → ∀ W, Below w.heap.size w W → w.heap.size + 2 ≤ W.heap.size → Fine g W) :
    SeqW Fence.wide n Try.prog 43 #[.pointer (some ⟨b0, 0, none⟩)] (fun x : Pe => #[.agg (pcl x).toArray]) Kp (ValW w.heap.size L) (fun ys => ys.map (·.e) = L) (fun pre => ∃ rest, L = pre.map (·.e) ++ rest) L.length w := by
  intro l J Jx W hW hW2 hJ hY h0
  have HP := HU.out W hW
  have d0 : W.cell? ⟨b0, 0, none⟩ = some (.pointer po) := (cell_block (hW.block b0 hb0)).trans c0
  have HJ : Hid (∀ s X Y, J s X → Below X.heap.size X Y → J s Y) := hJ
  have hf : Fence.wide.fn 43 := trivial
  have hf2 : Fence.wide.fn 44 := trivial
  have hf3 : Fence.wide.fn 34 := trivial
  have h1 : 1 ≤ n := by omega
  have h1' : 1 ≤ n - 1 := by omega
  have HF1 : Hid (∀ (w1 : World) (k : Nat), Below W.heap.size W w1 → W.heap.size ≤ k → k < w1.heap.size → Fine k w1) := fun w1 k hb hk hk2 => hF1 W w1 k hW hW2 hb hk hk2
  have HF2 : Hid (∀ (w1 : World), Below W.heap.size W w1 → ∀ g, F g → w1.heap[g]? = w.heap[g]? ∧ Fine g w1) := fun w1 hb g hg => ⟨(hb.block g (by have := hFl g hg; have := hW.size; omega)).trans (hW.block g (hFl g hg)), hF2 g hg w1 (hW.trans (hb.mono hW.size)) (by have := hb.size; omega)⟩
  have HPV : Hid _ := hp
  have HY : Hid _ := hY
  have H0 : Hid _ := h0
  have HFl : Hid _ := hFl
  obtain ⟨m, hm⟩ : ∃ m, L.length = m := ⟨_, rfl⟩
  have HM : Hid (L.length = m) := hm
  rw [hm] at HP hl HY
  have hWs := hW.size
  clear HU c0 h0 hF1 hF2 hW hm hJ hp hY hFl
  refine callsIn_of_wp Try.func43 rfl hf ?_ rfl
  simp only [Try.ntmps43, List.size_toArray, List.length_cons, List.length_nil, Nat.reduceAdd, Nat.reduceSub, Array.replicate_succ, Array.replicate_zero, List.push_toArray, List.append_toArray, List.nil_append, List.cons_append]
  gi_wp2_with (gi_at_call 44; refine (callsIn_wide.2 HP).mono ?_; rintro e w1 ⟨v9, rfl, ho9, hb9⟩; obtain ⟨ao9, c9, hv9⟩ := owns_form9 ho9; subst hv9; have HO9 : Hid _ := ho9; have HB9 : Hid _ := hb9; clear ho9 hb9)
  have HC : Hid (∀ k e, L[k]? = some e → ∃ g, ao9 = some ⟨g, 0, none⟩ ∧ Fine g w1 ∧ ∀ wr : World, wr.heap[g]? = w1.heap[g]? → wr.rangeAt g (k * 9) (vcl (V e.id))) := fun k e he => by
    rcases HO9.out.2 with ⟨_, h0⟩ | ⟨g, cap, cur, hv, hbg, hg, _⟩
    · have h9 := (List.getElem?_eq_some_iff.1 he).1
      have h8 := HM.out
      omega
    · simp only [Value.slice.injEq] at hv
      obtain ⟨rfl, _, rfl⟩ := hv
      refine ⟨g, rfl, HF1.out w1 g HB9.out hbg (block_lt hg), fun wr hw j u hu => ?_⟩
      rw [cell_block hw]
      exact own_range _ L HO9.out (fun x hx => vcl_len (HPV.out x hx)) HM.out k e he j u hu
  gi_loopw [8] (fun i wr => ∃ (k : Nat) (xs : List Pe), i = .int .i64 k ∧ k ≤ m ∧ Hid ((∀ g, Fine g w1 → wr.heap[g]? = w1.heap[g]? ∧ Fine g wr) ∧ (∀ g, F g → wr.heap[g]? = w.heap[g]? ∧ Fine g wr) ∧ xs.map (·.e) = L.take k ∧ (∀ y ∈ xs, y.hi ≤ wr.heap.size) ∧ J xs wr ∧ w.heap.size ≤ wr.heap.size)) (fun i _ => m - (intOf i).toNat)
  case atStart => exact ⟨0, [], rfl, Nat.zero_le _, fun g hg => ⟨rfl, hg⟩, HF2.out w1 HB9.out, by simp, by simp, HJ.out _ _ _ H0.out HB9.out, by have h9 := HB9.out.size; omega⟩
  case round =>
    obtain ⟨k, xs, rfl, hk, HI⟩ := hrel
    by_cases hlt2 : k < m
    · obtain ⟨e, he⟩ : ∃ e, L[k]? = some e := ⟨_, List.getElem?_eq_getElem (by have := HM.out; omega)⟩
      have hem : e ∈ L := List.mem_of_getElem? he
      obtain ⟨gv, rfl, hfg, hrg⟩ := HC.out k e he
      have hx := hrg wr (HI.out.1 gv hfg).1
      obtain ⟨da, dc, aa, ac, hv, r1, r2⟩ := (HPV.out e hem).ex
      have HPw : Hid (∀ wr' : World, (∀ g, F g → wr'.heap[g]? = w.heap[g]?) → PV wr' F (.agg (ecl e da dc aa ac).toArray) e) := fun wr' h9 => by
        have := (HPV.out e hem).same h9
        rw [hv] at this; exact this
      rw [hv] at hx
      have z0 : wr.cell? ⟨gv, k * 9, none⟩ = some (.int .i64 e.id) := hx 0 _ rfl
      have z1 : wr.cell? ⟨gv, k * 9 + 1, none⟩ = some (.int .u16 e.rq.fl) := hx 1 _ rfl
      have z2 : wr.cell? ⟨gv, k * 9 + 2, none⟩ = some (.int .u16 e.rq.ty) := hx 2 _ rfl
      have z3 : wr.cell? ⟨gv, k * 9 + 3, none⟩ = some (.int .u64 e.rq.ck) := hx 3 _ rfl
      have z4 : wr.cell? ⟨gv, k * 9 + 4, none⟩ = some (.int .u64 e.rq.off) := hx 4 _ rfl
      have z5 : wr.cell? ⟨gv, k * 9 + 5, none⟩ = some (.int .u64 e.rq.len) := hx 5 _ rfl
      have z6 : wr.cell? ⟨gv, k * 9 + 6, none⟩ = some (.slice da e.rq.data.length dc) := hx 6 _ rfl
      have z7 : wr.cell? ⟨gv, k * 9 + 7, none⟩ = some (.bool e.rd) := hx 7 _ rfl
      have z8 : wr.cell? ⟨gv, k * 9 + 8, none⟩ = some (.slice aa e.an.length ac) := hx 8 _ rfl
      have hkz : (k : Int) < (m : Int) := by omega
      obtain ⟨n1, hn1⟩ : ∃ n, e.rq.data.length = n := ⟨_, rfl⟩
      obtain ⟨n2, hn2⟩ : ∃ n, e.an.length = n := ⟨_, rfl⟩
      rw [hn1] at z6
      rw [hn2] at z8
      have HN1 : Hid _ := hn1
      have HN2 : Hid _ := hn2
      have bx := heap_new wr (.cells #[.int .i64 e.id, .int .u16 e.rq.fl, .int .u16 e.rq.ty, .int .u64 e.rq.ck, .int .u64 e.rq.off, .int .u64 e.rq.len, .slice da n1 dc, .bool e.rd, .slice aa n2 ac] TEn)
      have HCp : Hid (Calls Try.prog 34 #[.agg #[.int .i64 e.id, .int .u16 e.rq.fl, .int .u16 e.rq.ty, .int .u64 e.rq.ck, .int .u64 e.rq.off, .int .u64 e.rq.len, .slice da n1 dc, .bool e.rd, .slice aa n2 ac]] (wr.alloc (.cells #[.int .i64 e.id, .int .u16 e.rq.fl, .int .u16 e.rq.ty, .int .u64 e.rq.ck, .int .u64 e.rq.off, .int .u64 e.rq.len, .slice da n1 dc, .bool e.rd, .slice aa n2 ac] TEn)) fun r w2 => ∃ x : Pe, r = .returned (.agg (pcl x).toArray) ∧ Hid (x.e = e ∧ ValE w.heap.size L xs x w2 ∧ J xs w2 ∧ Below wr.heap.size wr w2 ∧ x.hi = w2.heap.size ∧ wr.heap.size ≤ x.lo)) := by
        have hP := HPw.out (wr.alloc (.cells #[.int .i64 e.id, .int .u16 e.rq.fl, .int .u16 e.rq.ty, .int .u64 e.rq.ck, .int .u64 e.rq.off, .int .u64 e.rq.len, .slice da n1 dc, .bool e.rd, .slice aa n2 ac] TEn)) (fun g hg => ((below1 wr _).block g (by
          have h9 := (HI.out.2.1 g hg).1
          have h8 := HFl.out g hg
          have h7 : w.heap[g]? = some w.heap[g] := Array.getElem?_eq_getElem h8
          rw [h7] at h9
          exact (Array.getElem?_eq_some_iff.1 h9).1)).trans (HI.out.2.1 g hg).1)
        simp only [ecl, hn1, hn2] at hP
        refine (copied_any hP).mono ?_
        rintro r w2 ⟨d1, c1, a1, c2, rfl, hov, hb2⟩
        have hb3 : Below wr.heap.size wr w2 := (below1 wr _).trans (hb2.mono (by rw [size1]; omega))
        refine ⟨⟨e, d1, c1, a1, c2, wr.heap.size + 1, w2.heap.size⟩, rfl, rfl, ⟨by have h9 := HI.out.2.2.2.2.2; show w.heap.size ≤ wr.heap.size + 1; omega, ?_, ⟨by rw [size1] at hov; exact hov, fun p hp => (hov.lt.1 p hp).2, fun p hp => (hov.lt.2 p hp).2, Nat.le_refl _, by have := hb2.size; rw [size1] at this; exact this⟩, fun y hy => ?_⟩, HJ.out _ _ _ HI.out.2.2.2.2.1 hb3, hb3, rfl, Nat.le_succ _⟩
        · have : xs.length = k := by
            have h9 := congrArg List.length HI.out.2.2.1
            rw [List.length_map, List.length_take, HM.out] at h9
            omega
          rw [this]; exact he
        · have := HI.out.2.2.2.1 y hy
          show y.hi ≤ wr.heap.size + 1
          omega
      have HXl : Hid (xs.length < m) := by
        have h9 := congrArg List.length HI.out.2.2.1
        rw [List.length_map, List.length_take, HM.out] at h9
        show xs.length < m
        omega
      have y0 := (blk_at bx 0).trans rfl
      have y1 := (blk_at bx 1).trans rfl
      have y2 := (blk_at bx 2).trans rfl
      have y3 := (blk_at bx 3).trans rfl
      have y4 := (blk_at bx 4).trans rfl
      have y5 := (blk_at bx 5).trans rfl
      have y6 := (blk_at bx 6).trans rfl
      have y7 := (blk_at bx 7).trans rfl
      have y8 := (blk_at bx 8).trans rfl
      clear hx hv r1 r2 hrg hn1 hn2 bx HPw
      gi_wp2_with (gi_at_call 34; refine (callsIn_wide.2 HCp.out).mono ?_; rintro r w2 ⟨x, rfl, HX⟩; obtain ⟨fn, tmps, assign, body, hy, hR⟩ := HY.out xs x wr w2 HI.out.2.2.2.2.1 HX.out.2.2.2.1 ⟨HX.out.2.1, HX.out.2.2.2.2.2⟩ HXl.out)
      have HT : Hid ((xs ++ [x]).map (·.e) = L.take (k + 1)) := by
        show _ = _
        rw [List.map_append, HI.out.2.2.1, List.take_add_one, he]
        simp [HX.out.1]
      refine hR.mono ?_
      rintro e9 W3 (⟨rfl, hJ3, hk3⟩ | ⟨rfl, hJx3⟩)
      · have hb2 := HX.out.2.2.2.1
        have HI3 : Hid ((∀ g, Fine g w1 → W3.heap[g]? = w1.heap[g]? ∧ Fine g W3) ∧ (∀ g, F g → W3.heap[g]? = w.heap[g]? ∧ Fine g W3) ∧ (xs ++ [x]).map (·.e) = L.take (k + 1) ∧ (∀ y ∈ xs ++ [x], y.hi ≤ W3.heap.size) ∧ J (xs ++ [x]) W3 ∧ w.heap.size ≤ W3.heap.size) := by
          have step : ∀ g, Fine g wr → W3.heap[g]? = wr.heap[g]? ∧ Fine g W3 := fun g hg => by
            have f2 := HK.a hb2 hg
            have h9 := HK.k hk3 f2
            exact ⟨h9.1.trans (hb2.block g (HK.lt hg)), h9.2⟩
          refine ⟨fun g hg => ?_, fun g hg => ?_, HT.out, fun y hy => ?_, hJ3, by have h9 := HK.s hk3; have h8 := hb2.size; have h7 := HI.out.2.2.2.2.2; omega⟩
          · have h8 := HI.out.1 g hg
            have h9 := step g h8.2
            exact ⟨h9.1.trans h8.1, h9.2⟩
          · have h8 := HI.out.2.1 g hg
            have h9 := step g h8.2
            exact ⟨h9.1.trans h8.1, h9.2⟩
          · have h9 := HK.s hk3
            rcases List.mem_append.1 hy with hy | hy
            · have := HI.out.2.2.2.1 y hy
              have := hb2.size
              omega
            · simp at hy; subst hy
              rw [HX.out.2.2.2.2.1]; exact h9
        clear HI HX hR hJ3 hk3 hb2
        gi_wp2
        go_roundw
        case rel => exact ⟨k + 1, xs ++ [x], by go_num, by omega, HI3⟩
        case measure => simp [intOf]; omega
      · gi_wp2
        refine bodyPost_ret (results_none rfl _ _ _) rfl ?_
        exact ⟨⟨_, rfl⟩, .inr ⟨xs ++ [x], ⟨L.drop (k + 1), by rw [HT.out]; exact (List.take_append_drop _ _).symm⟩, hJx3⟩⟩
    · have e : k = m := by omega
      subst e
      have HE : Hid (xs.map (·.e) = L) := by
        show _ = _
        rw [HI.out.2.2.1, List.take_of_length_le (by rw [HM.out]; omega)]
      have HJk : Hid _ := HI.out.2.2.2.2.1
      clear HI
      gi_wp2
      go_end0
      exact ⟨⟨_, rfl⟩, .inl ⟨xs, HE.out, HJk.out⟩⟩
end Go.Proofs.Ytoabigjajnikcaa
