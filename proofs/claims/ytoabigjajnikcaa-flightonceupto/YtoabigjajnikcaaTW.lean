import Derived.Test.YtoabigjajnikcaaTV
namespace Go.Proofs.Ytoabigjajnikcaa
open Go.RowKit Go.Maps Go.Shelf
attribute [local go_sem] Oper.semAt_some
set_option linter.unusedVariables false
set_option linter.unusedSimpArgs false
set_option maxRecDepth 100000

/-- an entry that was told: where its bytes lie, and between which blocks -/
structure Pe where
  e : En
  da : Option Addr
  dc : Nat
  aa : Option Addr
  ac : Nat
  lo : Nat
  hi : Nat
def pcl (x : Pe) : List Value := ecl x.e x.da x.dc x.aa x.ac
/-- what is told is the caller's own, and new -/
structure Ok1 (W : World) (x : Pe) : Prop where
  ov : OV W x.lo x.e x.da x.dc x.aa x.ac
  d : ∀ p, x.da = some p → p.block < x.hi
  a : ∀ p, x.aa = some p → p.block < x.hi
  le : x.hi ≤ W.heap.size
  lh : x.lo ≤ x.hi
structure ValE (n0 : Nat) (L : List En) (pre : List Pe) (x : Pe) (W : World) : Prop where
  ge : n0 ≤ x.lo
  at_ : L[pre.length]? = some x.e
  ok : Ok1 W x
  ap : ∀ y ∈ pre, y.hi ≤ x.lo
theorem Ok1.same {W W' : World} {x : Pe} (h : Ok1 W x) (hs : W.heap.size ≤ W'.heap.size) (hb : ∀ g cs, x.lo ≤ g → g < x.hi → W.heap[g]? = some (.cells cs 5 (0, 0)) → W'.heap[g]? = W.heap[g]?) : Ok1 W' x := by
  refine ⟨h.ov.same (fun p hp => ?_) (fun p hp => ?_), h.d, h.a, Nat.le_trans h.le hs, h.lh⟩
  · have h1 := h.ov.d
    rw [hp] at h1
    obtain ⟨cs, hc⟩ := owns_type h1 p.block rfl
    exact hb p.block cs (h.ov.lt.1 p hp).1 (h.d p hp) hc
  · have h1 := h.ov.a
    rw [hp] at h1
    obtain ⟨cs, hc⟩ := owns_type h1 p.block rfl
    exact hb p.block cs (h.ov.lt.2 p hp).1 (h.a p hp) hc
theorem Ok1.later {W W' : World} {x : Pe} (h : Ok1 W x) (hb : Below W.heap.size W W') : Ok1 W' x := h.same hb.size (fun g cs h1 h2 _ => hb.block g (by have := h.le; omega))
/-- what a ranging's body leaves of blocks that are none of its own -/
structure KeepsV (Kp : World → World → Prop) (Fine : Nat → World → Prop) : Prop where
  k : ∀ {W W' : World} {g : Nat}, Kp W W' → Fine g W → W'.heap[g]? = W.heap[g]? ∧ Fine g W'
  a : ∀ {W W' : World} {g : Nat}, Below W.heap.size W W' → Fine g W → Fine g W'
  s : ∀ {W W' : World}, Kp W W' → W.heap.size ≤ W'.heap.size
  lt : ∀ {W : World} {g : Nat}, Fine g W → g < W.heap.size
theorem FRow.same {w w' : World} {F : Nat → Prop} {ao : Option Addr} {cap : Nat} {l : List Nat} (h : FRow w F ao cap l) (hs : ∀ g, F g → w'.heap[g]? = w.heap[g]?) : FRow w' F ao cap l := by
  refine ⟨⟨h.row.lt, h.row.len, h.row.nil, fun hne => ?_⟩, h.fp⟩
  obtain ⟨b, off, e, hc⟩ := h.row.at_ hne
  refine ⟨b, off, e, fun k hkk => ?_⟩
  rw [cell_block (hs b (h.fp hne _ e))]
  exact hc k hkk
theorem PV.same {w w' : World} {F : Nat → Prop} {v : Value} {e : En} (h : PV w F v e) (hs : ∀ g, F g → w'.heap[g]? = w.heap[g]?) : PV w' F v e := by
  obtain ⟨da, dc, aa, ac, hv, h1, h2⟩ := h.ex
  exact ⟨da, dc, aa, ac, hv, h1.same hs, h2.same hs⟩
theorem all_fn (w : World) (p : Option Addr) : Calls Try.prog 27 #[.pointer p] w fun r w' => r = .returned (.func (.func 43) #[] #[.pointer (some ⟨w.heap.size, 0, none⟩)]) ∧ w' = w.alloc (.cells #[.pointer p] 22) := by
  have hmf : ∀ (fn : Fn) (first cap : Array Value) (w : World), (Instr.makeFunc fn first cap).run Try.prog w = .ok (.func fn first cap) w := fun _ _ _ _ => rfl
  go_enter Try.func27, Try.ntmps27
  go_wp2
  go_ret
  exact ⟨rfl, rfl⟩
set_option maxHeartbeats 8000000 in
/-- what a ranging over All gives -/
theorem seq_all (n : Nat) (hn : 2 ≤ n) {Kp : World → World → Prop} {Fine : Nat → World → Prop} (HK : KeepsV Kp Fine) {w : World} {b0 : Nat} {po : Option Addr} {F : Nat → Prop} {V : Int → Value} (L : List En)
    (HU : Hid (∀ W, Below w.heap.size w W → Calls Try.prog 44 #[.pointer po] W fun r w' => ∃ v, r = .returned v ∧ w'.ownsRow W.heap.size TEn 9 v L.length (L.flatMap fun e => vcl (V e.id)) ∧ Below W.heap.size W w'))
    (c0 : w.cell? ⟨b0, 0, none⟩ = some (.pointer po)) (hb0 : b0 < w.heap.size) (hp : ∀ e ∈ L, PV w F (V e.id) e) (hFl : ∀ g, F g → g < w.heap.size) (hl : L.length ≤ 64)
    (hF1 : ∀ (W w1 : World) (k : Nat), Below w.heap.size w W → w.heap.size + 2 ≤ W.heap.size → Below W.heap.size W w1 → W.heap.size ≤ k → k < w1.heap.size → Fine k w1) (hF2 : ∀ g, F g → ∀ W, Below w.heap.size w W → w.heap.size + 2 ≤ W.heap.size → Fine g W) :
    SeqV Fence.wide n Try.prog 43 #[.pointer (some ⟨b0, 0, none⟩)] (fun x : Pe => #[.agg (pcl x).toArray]) Kp (ValE w.heap.size L) (fun ys => ys.map (·.e) = L) (fun pre => ∃ rest, L = pre.map (·.e) ++ rest) L.length w := by
  intro l J Jx W hW hW2 hJ hY h0
  have HP := HU.out W hW
  have d0 : W.cell? ⟨b0, 0, none⟩ = some (.pointer po) := (cell_block (hW.block b0 hb0)).trans c0
  have HJ : Hid (∀ s X Y, J s X → Below X.heap.size X Y → J s Y) := hJ
  have hf : Fence.wide.fn 43 := trivial
  have hf2 : Fence.wide.fn 44 := trivial
  have hf3 : Fence.wide.fn 34 := trivial
  have h1 : 1 ≤ n := by omega
  have h1' : 1 ≤ n - 1 := by omega
  have HF1 : Hid (∀ (w1 : World) (k : Nat), Below W.heap.size W w1 → W.heap.size ≤ k → k < w1.heap.size → Fine k w1) := fun w1 k hb hk hk2 => hF1 W w1 k hW hW2 hb hk hk2
  have HF2 : Hid (∀ (w1 : World), Below W.heap.size W w1 → ∀ g, F g → w1.heap[g]? = w.heap[g]? ∧ Fine g w1) := fun w1 hb g hg => ⟨(hb.block g (by have := hFl g hg; have := hW.size; omega)).trans (hW.block g (hFl g hg)), hF2 g hg w1 (hW.trans (hb.mono hW.size)) (by have := hb.size; omega)⟩
  have HPV : Hid _ := hp
  have HY : Hid _ := hY
  have H0 : Hid _ := h0
  have HFl : Hid _ := hFl
  obtain ⟨m, hm⟩ : ∃ m, L.length = m := ⟨_, rfl⟩
  have HM : Hid (L.length = m) := hm
  rw [hm] at HP hl HY
  have hWs := hW.size
  clear HU c0 h0 hF1 hF2 hW hm hJ hp hY hFl
  refine callsIn_of_wp Try.func43 rfl hf ?_ rfl
  simp only [Try.ntmps43, List.size_toArray, List.length_cons, List.length_nil, Nat.reduceAdd, Nat.reduceSub, Array.replicate_succ, Array.replicate_zero, List.push_toArray, List.append_toArray, List.nil_append, List.cons_append]
  gi_wp2_with (gi_at_call 44; refine (callsIn_wide.2 HP).mono ?_; rintro e w1 ⟨v9, rfl, ho9, hb9⟩; obtain ⟨ao9, c9, hv9⟩ := owns_form9 ho9; subst hv9; have HO9 : Hid _ := ho9; have HB9 : Hid _ := hb9; clear ho9 hb9)
  have HC : Hid (∀ k e, L[k]? = some e → ∃ g, ao9 = some ⟨g, 0, none⟩ ∧ Fine g w1 ∧ ∀ wr : World, wr.heap[g]? = w1.heap[g]? → wr.rangeAt g (k * 9) (vcl (V e.id))) := fun k e he => by
    rcases HO9.out.2 with ⟨_, h0⟩ | ⟨g, cap, cur, hv, hbg, hg, _⟩
    · have h9 := (List.getElem?_eq_some_iff.1 he).1
      have h8 := HM.out
      omega
    · simp only [Value.slice.injEq] at hv
      obtain ⟨rfl, _, rfl⟩ := hv
      refine ⟨g, rfl, HF1.out w1 g HB9.out hbg (block_lt hg), fun wr hw j u hu => ?_⟩
      rw [cell_block hw]
      exact own_range _ L HO9.out (fun x hx => vcl_len (HPV.out x hx)) HM.out k e he j u hu
  gi_loopw [8] (fun i wr => ∃ (k : Nat) (xs : List Pe), i = .int .i64 k ∧ k ≤ m ∧ Hid ((∀ g, Fine g w1 → wr.heap[g]? = w1.heap[g]? ∧ Fine g wr) ∧ (∀ g, F g → wr.heap[g]? = w.heap[g]? ∧ Fine g wr) ∧ xs.map (·.e) = L.take k ∧ (∀ y ∈ xs, y.hi ≤ wr.heap.size) ∧ J xs wr ∧ w.heap.size ≤ wr.heap.size)) (fun i _ => m - (intOf i).toNat)
  case atStart => exact ⟨0, [], rfl, Nat.zero_le _, fun g hg => ⟨rfl, hg⟩, HF2.out w1 HB9.out, by simp, by simp, HJ.out _ _ _ H0.out HB9.out, by have h9 := HB9.out.size; omega⟩
  case round =>
    obtain ⟨k, xs, rfl, hk, HI⟩ := hrel
    by_cases hlt2 : k < m
    · obtain ⟨e, he⟩ : ∃ e, L[k]? = some e := ⟨_, List.getElem?_eq_getElem (by have := HM.out; omega)⟩
      have hem : e ∈ L := List.mem_of_getElem? he
      obtain ⟨gv, rfl, hfg, hrg⟩ := HC.out k e he
      have hx := hrg wr (HI.out.1 gv hfg).1
      obtain ⟨da, dc, aa, ac, hv, r1, r2⟩ := (HPV.out e hem).ex
      have HPw : Hid (∀ wr' : World, (∀ g, F g → wr'.heap[g]? = w.heap[g]?) → PV wr' F (.agg (ecl e da dc aa ac).toArray) e) := fun wr' h9 => by
        have := (HPV.out e hem).same h9
        rw [hv] at this; exact this
      rw [hv] at hx
      have z0 : wr.cell? ⟨gv, k * 9, none⟩ = some (.int .i64 e.id) := hx 0 _ rfl
      have z1 : wr.cell? ⟨gv, k * 9 + 1, none⟩ = some (.int .u16 e.rq.fl) := hx 1 _ rfl
      have z2 : wr.cell? ⟨gv, k * 9 + 2, none⟩ = some (.int .u16 e.rq.ty) := hx 2 _ rfl
      have z3 : wr.cell? ⟨gv, k * 9 + 3, none⟩ = some (.int .u64 e.rq.ck) := hx 3 _ rfl
      have z4 : wr.cell? ⟨gv, k * 9 + 4, none⟩ = some (.int .u64 e.rq.off) := hx 4 _ rfl
      have z5 : wr.cell? ⟨gv, k * 9 + 5, none⟩ = some (.int .u64 e.rq.len) := hx 5 _ rfl
      have z6 : wr.cell? ⟨gv, k * 9 + 6, none⟩ = some (.slice da e.rq.data.length dc) := hx 6 _ rfl
      have z7 : wr.cell? ⟨gv, k * 9 + 7, none⟩ = some (.bool e.rd) := hx 7 _ rfl
      have z8 : wr.cell? ⟨gv, k * 9 + 8, none⟩ = some (.slice aa e.an.length ac) := hx 8 _ rfl
      have hkz : (k : Int) < (m : Int) := by omega
      obtain ⟨n1, hn1⟩ : ∃ n, e.rq.data.length = n := ⟨_, rfl⟩
      obtain ⟨n2, hn2⟩ : ∃ n, e.an.length = n := ⟨_, rfl⟩
      rw [hn1] at z6
      rw [hn2] at z8
      have HN1 : Hid _ := hn1
      have HN2 : Hid _ := hn2
      have bx := heap_new wr (.cells #[.int .i64 e.id, .int .u16 e.rq.fl, .int .u16 e.rq.ty, .int .u64 e.rq.ck, .int .u64 e.rq.off, .int .u64 e.rq.len, .slice da n1 dc, .bool e.rd, .slice aa n2 ac] TEn)
      have HCp : Hid (Calls Try.prog 34 #[.agg #[.int .i64 e.id, .int .u16 e.rq.fl, .int .u16 e.rq.ty, .int .u64 e.rq.ck, .int .u64 e.rq.off, .int .u64 e.rq.len, .slice da n1 dc, .bool e.rd, .slice aa n2 ac]] (wr.alloc (.cells #[.int .i64 e.id, .int .u16 e.rq.fl, .int .u16 e.rq.ty, .int .u64 e.rq.ck, .int .u64 e.rq.off, .int .u64 e.rq.len, .slice da n1 dc, .bool e.rd, .slice aa n2 ac] TEn)) fun r w2 => ∃ x : Pe, r = .returned (.agg (pcl x).toArray) ∧ Hid (x.e = e ∧ ValE w.heap.size L xs x w2 ∧ J xs w2 ∧ Below wr.heap.size wr w2 ∧ x.hi = w2.heap.size)) := by
        have hP := HPw.out (wr.alloc (.cells #[.int .i64 e.id, .int .u16 e.rq.fl, .int .u16 e.rq.ty, .int .u64 e.rq.ck, .int .u64 e.rq.off, .int .u64 e.rq.len, .slice da n1 dc, .bool e.rd, .slice aa n2 ac] TEn)) (fun g hg => ((below1 wr _).block g (by
          have h9 := (HI.out.2.1 g hg).1
          have h8 := HFl.out g hg
          have h7 : w.heap[g]? = some w.heap[g] := Array.getElem?_eq_getElem h8
          rw [h7] at h9
          exact (Array.getElem?_eq_some_iff.1 h9).1)).trans (HI.out.2.1 g hg).1)
        simp only [ecl, hn1, hn2] at hP
        refine (copied_any hP).mono ?_
        rintro r w2 ⟨d1, c1, a1, c2, rfl, hov, hb2⟩
        have hb3 : Below wr.heap.size wr w2 := (below1 wr _).trans (hb2.mono (by rw [size1]; omega))
        refine ⟨⟨e, d1, c1, a1, c2, wr.heap.size + 1, w2.heap.size⟩, rfl, rfl, ⟨by have h9 := HI.out.2.2.2.2.2; show w.heap.size ≤ wr.heap.size + 1; omega, ?_, ⟨by rw [size1] at hov; exact hov, fun p hp => (hov.lt.1 p hp).2, fun p hp => (hov.lt.2 p hp).2, Nat.le_refl _, by have := hb2.size; rw [size1] at this; exact this⟩, fun y hy => ?_⟩, HJ.out _ _ _ HI.out.2.2.2.2.1 hb3, hb3, rfl⟩
        · have : xs.length = k := by
            have h9 := congrArg List.length HI.out.2.2.1
            rw [List.length_map, List.length_take, HM.out] at h9
            omega
          rw [this]; exact he
        · have := HI.out.2.2.2.1 y hy
          show y.hi ≤ wr.heap.size + 1
          omega
      have HXl : Hid (xs.length < m) := by
        have h9 := congrArg List.length HI.out.2.2.1
        rw [List.length_map, List.length_take, HM.out] at h9
        show xs.length < m
        omega
      have y0 := (blk_at bx 0).trans rfl
      have y1 := (blk_at bx 1).trans rfl
      have y2 := (blk_at bx 2).trans rfl
      have y3 := (blk_at bx 3).trans rfl
      have y4 := (blk_at bx 4).trans rfl
      have y5 := (blk_at bx 5).trans rfl
      have y6 := (blk_at bx 6).trans rfl
      have y7 := (blk_at bx 7).trans rfl
      have y8 := (blk_at bx 8).trans rfl
      clear hx hv r1 r2 hrg hn1 hn2 bx HPw
      gi_wp2_with (gi_at_call 34; refine (callsIn_wide.2 HCp.out).mono ?_; rintro r w2 ⟨x, rfl, HX⟩; obtain ⟨fn, tmps, assign, body, hy, hR⟩ := HY.out xs x w2 HX.out.2.2.1 HX.out.2.1 HXl.out)
      have HT : Hid ((xs ++ [x]).map (·.e) = L.take (k + 1)) := by
        show _ = _
        rw [List.map_append, HI.out.2.2.1, List.take_add_one, he]
        simp [HX.out.1]
      refine hR.mono ?_
      rintro e9 W3 (⟨rfl, hJ3, hk3⟩ | ⟨rfl, hJx3⟩)
      · have hb2 := HX.out.2.2.2.1
        have HI3 : Hid ((∀ g, Fine g w1 → W3.heap[g]? = w1.heap[g]? ∧ Fine g W3) ∧ (∀ g, F g → W3.heap[g]? = w.heap[g]? ∧ Fine g W3) ∧ (xs ++ [x]).map (·.e) = L.take (k + 1) ∧ (∀ y ∈ xs ++ [x], y.hi ≤ W3.heap.size) ∧ J (xs ++ [x]) W3 ∧ w.heap.size ≤ W3.heap.size) := by
          have step : ∀ g, Fine g wr → W3.heap[g]? = wr.heap[g]? ∧ Fine g W3 := fun g hg => by
            have f2 := HK.a hb2 hg
            have h9 := HK.k hk3 f2
            exact ⟨h9.1.trans (hb2.block g (HK.lt hg)), h9.2⟩
          refine ⟨fun g hg => ?_, fun g hg => ?_, HT.out, fun y hy => ?_, hJ3, by have h9 := HK.s hk3; have h8 := hb2.size; have h7 := HI.out.2.2.2.2.2; omega⟩
          · have h8 := HI.out.1 g hg
            have h9 := step g h8.2
            exact ⟨h9.1.trans h8.1, h9.2⟩
          · have h8 := HI.out.2.1 g hg
            have h9 := step g h8.2
            exact ⟨h9.1.trans h8.1, h9.2⟩
          · have h9 := HK.s hk3
            rcases List.mem_append.1 hy with hy | hy
            · have := HI.out.2.2.2.1 y hy
              have := hb2.size
              omega
            · simp at hy; subst hy
              rw [HX.out.2.2.2.2]; exact h9
        clear HI HX hR hJ3 hk3 hb2
        gi_wp2
        go_roundw
        case rel => exact ⟨k + 1, xs ++ [x], by go_num, by omega, HI3⟩
        case measure => simp [intOf]; omega
      · gi_wp2
        refine bodyPost_ret (results_none rfl _ _ _) rfl ?_
        exact ⟨⟨_, rfl⟩, .inr ⟨xs ++ [x], ⟨L.drop (k + 1), by rw [HT.out]; exact (List.take_append_drop _ _).symm⟩, hJx3⟩⟩
    · have e : k = m := by omega
      subst e
      have HE : Hid (xs.map (·.e) = L) := by
        show _ = _
        rw [HI.out.2.2.1, List.take_of_length_le (by rw [HM.out]; omega)]
      have HJk : Hid _ := HI.out.2.2.2.2.1
      clear HI
      gi_wp2
      go_end0
      exact ⟨⟨_, rfl⟩, .inl ⟨xs, HE.out, HJk.out⟩⟩
end Go.Proofs.Ytoabigjajnikcaa
