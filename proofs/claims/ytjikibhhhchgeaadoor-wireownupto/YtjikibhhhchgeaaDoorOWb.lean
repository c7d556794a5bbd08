import Derived.Test.YtjikibhhhchgeaaDoorOWa
import Derived.Test.YtjikibhhhchgeaaDoorOWl
import Derived.Test.YtjikibhhhchgeaaDoorPUd
import Derived.Test.YtjikibhhhchgeaaDoorPPk
import Derived.Deep.RegionHeld3
namespace Go.Proofs.YtjikibhhhchgeaaDoor
open Go.RowKit
set_option linter.unusedVariables false
set_option linter.unusedSimpArgs false
set_option maxRecDepth 100000
/-- a row that was made: where, how long, what -/
structure Rr where
  lo : Nat
  hi : Nat
  ao : Option Addr
  n : Nat
  cap : Nat
  l : List Nat
def Rr.v (r : Rr) : Value := .slice r.ao r.n r.cap
/-- boxes and rows of one's own -/
structure Ow (w W : World) (bs : List (Nat × Array Value × TypeId)) (rs : List Rr) : Prop where
  bel : Below w.heap.size w W
  box : ∀ x ∈ bs, W.heap[x.1]? = some (.cells x.2.1 x.2.2 (0, 0))
  row : ∀ r ∈ rs, RowAt W r.lo r.hi r.ao r.n r.cap r.l
theorem Ow.later {w W W' : World} {bs : List (Nat × Array Value × TypeId)} {rs : List Rr} (h : Ow w W bs rs) (k : Below W.heap.size W W') : Ow w W' bs rs :=
  ⟨h.bel.trans (k.mono h.bel.size), fun x hx => box_later (h.box x hx) k, fun r hr => (h.row r hr).later k⟩
theorem Ow.addRow {w W W' : World} {bs : List (Nat × Array Value × TypeId)} {rs : List Rr} (h : Ow w W bs rs) (k : Below W.heap.size W W') {lo hi : Nat} {ao : Option Addr} {n cap : Nat} {l : List Nat} (hr : RowAt W' lo hi ao n cap l) : Ow w W' bs (rs ++ [⟨lo, hi, ao, n, cap, l⟩]) :=
  ⟨(h.later k).bel, (h.later k).box, fun r hm => by
    rcases List.mem_append.1 hm with hm | hm
    · exact (h.later k).row r hm
    · simp at hm; subst hm; exact hr⟩
theorem Ow.addBox {w W : World} {bs : List (Nat × Array Value × TypeId)} {rs : List Rr} (h : Ow w W bs rs) (A : Array Value) (t : TypeId) : Ow w (W.alloc (.cells A t)) (bs ++ [(W.heap.size, A, t)]) rs :=
  ⟨(h.later (below1 W _)).bel, fun x hm => by
    rcases List.mem_append.1 hm with hm | hm
    · exact (h.later (below1 W _)).box x hm
    · simp at hm; subst hm; exact heap_new W _, (h.later (below1 W _)).row⟩
/-- rows one behind the other share no block -/
theorem Ow.sep {w W : World} {bs : List (Nat × Array Value × TypeId)} {rs : List Rr} (h : Ow w W bs rs) (i j : Nat) (x y : Rr) (hi : rs[i]? = some x) (hj : rs[j]? = some y) (hc : x.hi ≤ y.lo ∨ y.hi ≤ x.lo) : Sep x.v y.v := by
  intro g hg hg'
  have r1 := h.row x (List.mem_of_getElem? hi)
  have r2 := h.row y (List.mem_of_getElem? hj)
  have a1 := (owns_lt r1.own g hg).2
  have a2 := r1.hi g hg
  have b1 := (owns_lt r2.own g hg').2
  have b2 := r2.hi g hg'
  omega
def Ls (rs : List Rr) (i : Nat) : Value := match rs[i]? with
  | some r => r.v
  | none => .slice none 0 0
def Ln (rs : List Rr) (i : Nat) : Nat := match rs[i]? with
  | some r => r.n
  | none => 0
/-- the rows as the lists of a slice that holds them -/
theorem Ow.lists {w W : World} {bs : List (Nat × Array Value × TypeId)} {rs : List Rr} {n lb : Nat} (h : Ow w W bs rs) (hn : rs.length = n) (hord : ∀ (i j : Nat) (x y : Rr), i < j → rs[i]? = some x → rs[j]? = some y → x.hi ≤ y.lo) (B : Nat) (hB : B ≤ W.heap.size) (hlo : ∀ x ∈ rs, B ≤ x.lo) (hsm : ∀ x ∈ rs, x.n ≤ 4398046511104) (hlb : ∀ x ∈ rs, x.hi ≤ lb) (hcell : ∀ i, i < n → W.cell? ⟨lb, 0 + i, none⟩ = some (Ls rs i)) : Lists W B lb 0 n (Ls rs) (Ln rs) := by
  have get : ∀ i, i < n → ∃ x, rs[i]? = some x ∧ x ∈ rs ∧ Ls rs i = x.v ∧ Ln rs i = x.n := fun i hi => by
    have e := List.getElem?_eq_getElem (l := rs) (i := i) (by omega)
    exact ⟨_, e, List.mem_of_getElem? e, by simp [Ls, e], by simp [Ln, e]⟩
  refine ⟨hcell, fun i hi => ?_, fun i j hi hj hne => ?_, fun i hi hb => ?_, fun i hi => ?_, hB⟩
  · obtain ⟨x, e, hm, e1, e2⟩ := get i hi
    rw [e1, e2]
    exact ⟨x.l, owns_mono (h.row x hm).own (hlo x hm)⟩
  · obtain ⟨x, e, hm, e1, e2⟩ := get i hi
    obtain ⟨y, e', hm', e1', e2'⟩ := get j hj
    rw [e1, e1']
    rcases Nat.lt_or_ge i j with hlt | hge
    · exact h.sep i j x y e e' (.inl (hord i j x y hlt e e'))
    · exact h.sep i j x y e e' (.inr (hord j i y x (by omega) e' e))
  · obtain ⟨x, e, hm, e1, e2⟩ := get i hi
    rw [e1] at hb
    have := (h.row x hm).hi lb hb
    have := hlb x hm
    omega
  · obtain ⟨x, e, hm, e1, e2⟩ := get i hi
    rw [e2]; exact hsm x hm
theorem Row.rat {w w' : World} {ao : Option Addr} {cap : Nat} {l : List Nat} {n : Nat} (h : Row w w' ao cap l) (hn : l.length = n) : RowAt w' w.heap.size w'.heap.size ao n cap l := h.at hn
theorem RowAt.some {W : World} {lo hi : Nat} {ao : Option Addr} {n cap : Nat} {l : List Nat} (h : RowAt W lo hi ao n cap l) (hn : 0 < n) : ∃ g, ao = some ⟨g, 0, none⟩ := by
  rcases h.own.2 with ⟨hv, h0⟩ | ⟨g, c, cur, hv, _⟩
  · omega
  · simp only [Value.slice.injEq] at hv; exact ⟨g, hv.1⟩
set_option maxHeartbeats 8000000 in
theorem wireOwn_p (f t ck o : Nat) (da : Option Addr) (dcap k : Nat) (d : List Nat) (x : Nat) (ea : Option Addr) (ecap en : Nat) (el : List Nat) (ext : Bool) (w : World) (hT : Tb w) (hf : f < 65536) (ht : t < 65536) (hc : ck < 18446744073709551616) (ho : o < 18446744073709551616) (hx : x < 18446744073709551616) (hd : BRow w da dcap d) (hk : d.length = k) (hk1 : k ≤ 1048576) (he : BRow w ea ecap el) (hen : el.length = en) (hen1 : en ≤ 1048576) (hpos : 0 < en) :
    Calls Tryd.prog 6 #[.agg #[.int .u16 (f : Int), .int .u16 (t : Int), .int .u64 (ck : Int), .int .u64 (o : Int), .slice da k dcap], .agg #[.int .u64 (x : Int), .slice ea en ecap], .bool ext] w fun e w' => e = .returned (.bool true) ∧ Below w.heap.size w w' := by
  obtain ⟨i0, hi, hz0, hz1, hz2⟩ := info_parts Tryd.info5
  have HTb : Hid (Tb w) := hT
  have HDr : Hid (BRow w da dcap d) := hd
  have HEr : Hid (BRow w ea ecap el) := he
  have HK : Hid (d.length = k) := hk
  have HEN : Hid (el.length = en) := hen
  obtain ⟨nA, hnA⟩ : ∃ nA, (kC f t ck o d ext).length = nA := ⟨_, rfl⟩
  have hnA1 : 20 ≤ nA ∧ nA ≤ 1048608 := by rw [← hnA, kC_len, hk]; cases ext <;> simp <;> omega
  have HE : Hid (∀ W, Below w.heap.size w W → Calls Tryd.prog 27 #[.agg #[.int .u16 (f : Int), .int .u16 (t : Int), .int .u64 (ck : Int), .int .u64 (o : Int), .slice da k dcap], .bool ext] W fun e w' => ∃ ao cap, e = .returned (.slice ao nA cap) ∧ RowAt w' W.heap.size w'.heap.size ao nA cap (kC f t ck o d ext) ∧ Below W.heap.size W w') := fun W hb => by
    have h := encChunkC f t ck o da dcap d ext W hf ht hc ho (hd.later hb) (by omega)
    rw [hk, hnA] at h
    exact h.mono fun e w' ⟨ao, cap, h1, h2⟩ => ⟨ao, cap, h1, h2.at hnA, h2.bel⟩
  have HF : Hid (∀ W, Below w.heap.size w W → Calls Tryd.prog 30 #[.agg #[.int .u16 (f : Int), .int .u16 (t : Int), .int .u64 (ck : Int), .int .u64 (o : Int), .slice da k dcap], .bool ext] W fun e w' => ∃ ao cap, e = .returned (.slice ao nA cap) ∧ RowAt w' W.heap.size w'.heap.size ao nA cap (kC f t ck o d ext) ∧ Below W.heap.size W w') := fun W hb => by
    have h := rChunkC f t ck o da dcap d ext W hf ht hc ho (hd.later hb) (by omega)
    rw [hk, hnA] at h
    exact h.mono fun e w' ⟨ao, cap, h1, h2⟩ => ⟨ao, cap, h1, h2.at hnA, h2.bel⟩
  have HD : Hid (∀ W lo hi ao cap, RowAt W lo hi ao nA cap (kC f t ck o d ext) → Calls Tryd.prog 28 #[.slice ao nA cap, .int .u32 (k : Int), .bool ext] W fun e w' => ∃ (x y : Nat) (ao2 : Option Addr) (cap2 : Nat), e = .returned (.tuple #[.agg #[.int .u16 (f : Int), .int .u16 (t : Int), .int .u64 (ck : Int), .int .u64 (x : Int), .slice ao2 k cap2], .int .i64 (y : Int), .int .i64 0]) ∧ RowAt w' W.heap.size w'.heap.size ao2 k cap2 d ∧ Below W.heap.size W w') := fun W lo hi ao cap hr => by
    obtain ⟨g, rfl⟩ := hr.some (by omega)
    have h := decK f t ck o d ext g 0 cap nA k W hf ht hc ho hk (by omega) (by omega) (crow_of hr.own hr.lt hnA (by omega)) hnA
    exact h.mono fun e w' ⟨x, y, a2, c2, h1, h2, h3⟩ => ⟨x, y, a2, c2, h1, ⟨h2, hd.lt, fun g hg => (owns_lt h2 g hg).1, hk⟩, h3⟩
  obtain ⟨np, hnp⟩ : ∃ np, (daL x el).length = np := ⟨_, rfl⟩
  have hnp1 : np = 8 + en := by rw [← hnp]; simp [daL, bigTo_length, hen]
  have HP : Hid (∀ W, Below w.heap.size w W → Calls Tryd.prog 29 #[.agg #[.int .u64 (x : Int), .slice ea en ecap]] W fun e w' => ∃ ao cap, e = .returned (.tuple #[.slice ao np cap, .int .i64 0]) ∧ RowAt w' W.heap.size w'.heap.size ao np cap (daL x el) ∧ Below W.heap.size W w') := fun W hb => by
    have h := packData_ok x en ea ecap el W hx (he.later hb) hen hpos (by omega)
    exact h.mono fun e w' ⟨ao, cap, n, h1, h2, h3⟩ => by
      obtain rfl : n = np := by omega
      exact ⟨ao, cap, h1, h3.at h2, h3.bel⟩
  have HU : Hid (∀ W lo hi ao cap, RowAt W lo hi ao np cap (daL x el) → Calls Tryd.prog 23 #[.slice ao np cap] W fun e w' => ∃ da dc, e = .returned (.tuple #[.agg #[.int .u64 (x : Int), .slice da en dc], .int .i64 0]) ∧ RowAt w' W.heap.size w'.heap.size da en dc el ∧ Below W.heap.size W w') := fun W lo hi ao cap hr => by
    have h := unpackData_ok ao cap np (daL x el) W (hr.brow (by omega)) hnp (by omega)
    have e1 : okR (daL x el) 0 8 = true := by simp [okR]; omega
    have e2 : raA (daL x el) 0 8 = 8 := by simp [raA, e1]
    have ed : daL x el = bigTo x 8 8 ++ el := by simp [daL]
    have e3 : rvV (daL x el) 0 8 = x := by
      rw [rvV, if_pos e1]
      exact val_of (pre := []) (tl := el) x 8 0 (by simp [daL]) rfl (by omega)
    have e4 : rrL (daL x el) 8 ((daL x el).length - 8) = el := by
      have e5 : okR (daL x el) 8 ((daL x el).length - 8) = true := by simp [okR]; omega
      have e6 : (bigTo x 8 8 ++ el).drop 8 = el := by
        have := List.drop_left (l₁ := bigTo x 8 8) (l₂ := el)
        rw [bigTo_length] at this
        exact this
      rw [rrL, if_pos e5, ed, e6, List.take_of_length_le (by simp [bigTo_length])]
    rw [e2, e3, e4] at h
    exact h.mono fun e w' ⟨a2, c2, n, h1, h2, h3⟩ => by
      obtain rfl : n = en := by omega
      exact ⟨a2, c2, h1, h3.at h2, h3.bel⟩
  have HNum : Hid (∀ (e : Int) (w : World), Calls Tryd.prog 12 #[.int .i64 e] w fun r w' => r = .returned (.int .i64 e) ∧ w' = w) := num_any
  have HAl : Hid (∀ w, Tb w → Calls Tryd.prog 10 #[] w fun e w' => e = .returned (.bool true) ∧ Below w.heap.size w w') := alive_any
  have HS : Hid (∀ (W : World) (ao bo : Option Addr) (cap cap' n : Nat) (l : List Nat), BRow W ao cap l → BRow W bo cap' l → l.length = n → Calls Tryd.prog 9 #[.slice ao n cap, .slice bo n cap'] W fun e w' => e = .returned (.bool true) ∧ Below W.heap.size W w') := fun W ao bo cap cap' n l h1 h2 h3 => same8_true ao bo cap cap' n l W h1 h2 h3
  have hwk : IntKind.u32.wrap (k : Int) = (k : Int) := by rw [IntKind.wrap_u32]; omega
  have HNA : Hid ((kC f t ck o d ext).length = nA) := hnA
  generalize kC f t ck o d ext = A at *
  have HB0 : Hid (f < 65536) := hf
  have HNP1 : Hid (np = 8 + en) := hnp1
  clear hnp1
  clear hT hd he hk hen hf ht hc ho hx hnA hnp
  have hb0 := mkb2 w #[.int .u16 (f : Int), .int .u16 (t : Int), .int .u64 (ck : Int), .int .u64 (o : Int), .slice da k dcap] #[.int .u64 (x : Int), .slice ea en ecap] 85 44
  go_enter Tryd.func6, Tryd.ntmps6
  have h0 : Ow w ((w.alloc (.cells #[.int .u16 (f : Int), .int .u16 (t : Int), .int .u64 (ck : Int), .int .u64 (o : Int), .slice da k dcap] 85)).alloc (.cells #[.int .u64 (x : Int), .slice ea en ecap] 44)) [(w.heap.size, #[.int .u16 (f : Int), .int .u16 (t : Int), .int .u64 (ck : Int), .int .u64 (o : Int), .slice da k dcap], 85), (w.heap.size + 1, #[.int .u64 (x : Int), .slice ea en ecap], 44)] [] := ⟨hb0.bel, fun y hy => by
    simp at hy
    rcases hy with rfl | rfl
    · exact hb0.a
    · exact hb0.b, by simp⟩
  clear hb0
  go_wp2_with fail
  have HQ0 : Hid (w.heap.size + 2 ≤ ((w.alloc (Obj.cells #[.int .u16 (f : Int), .int .u16 (t : Int), .int .u64 (ck : Int), .int .u64 (o : Int), .slice da k dcap] 85)).alloc (Obj.cells #[.int .u64 (x : Int), .slice ea en ecap] 44)).heap.size) := by simp [Hid]
  generalize (w.alloc (Obj.cells #[.int .u16 (f : Int), .int .u16 (t : Int), .int .u64 (ck : Int), .int .u64 (o : Int), .slice da k dcap] 85)).alloc (Obj.cells #[.int .u64 (x : Int), .slice ea en ecap] 44) = W0 at *
  have H0 : Hid _ := h0
  clear h0
  refine (HE.out W0 H0.out.bel).mono ?_
  rintro e W1 ⟨ao1, cap1, rfl, hr1, hb1⟩
  have H1 : Hid _ := H0.out.addRow hb1 hr1
  have HZ1 : Hid (W0.heap.size ≤ W1.heap.size) := hb1.size
  clear hr1 hb1 H0
  have qc := H1.out.box (w.heap.size, #[.int .u16 (f : Int), .int .u16 (t : Int), .int .u64 (ck : Int), .int .u64 (o : Int), .slice da k dcap], 85) (by simp)
  have qc0 := blk_at qc 0
  have qc1 := blk_at qc 1
  have qc2 := blk_at qc 2
  have qc3 := blk_at qc 3
  have qc4 := blk_at qc 4
  simp at qc0 qc1 qc2 qc3 qc4
  clear qc
  go_wp2_with fail
  clear qc0 qc1 qc2 qc3 qc4
  refine (HE.out W1 H1.out.bel).mono ?_
  rintro e W2 ⟨ao2, cap2, rfl, hr2, hb2⟩
  have H2 : Hid _ := H1.out.addRow hb2 hr2
  have HZ2 : Hid (W1.heap.size ≤ W2.heap.size) := hb2.size
  clear hr2 hb2 H1
  have qc := H2.out.box (w.heap.size, #[.int .u16 (f : Int), .int .u16 (t : Int), .int .u64 (ck : Int), .int .u64 (o : Int), .slice da k dcap], 85) (by simp)
  have qc0 := blk_at qc 0
  have qc1 := blk_at qc 1
  have qc2 := blk_at qc 2
  have qc3 := blk_at qc 3
  have qc4 := blk_at qc 4
  simp at qc0 qc1 qc2 qc3 qc4
  clear qc
  go_wp2_with fail
  clear qc0 qc1 qc2 qc3 qc4
  refine (HD.out W2 W0.heap.size W1.heap.size ao1 cap1 (H2.out.row ⟨W0.heap.size, W1.heap.size, ao1, nA, cap1, A⟩ (by simp))).mono ?_
  rintro e W3a ⟨x3, y3, ao3, cap3, rfl, hr3, hb3⟩
  have h3a := H2.out.addRow hb3 hr3
  have H3 : Hid _ := h3a.addBox #[.int .u16 (f : Int), .int .u16 (t : Int), .int .u64 (ck : Int), .int .u64 (x3 : Int), .slice ao3 k cap3] 85
  have HZ3 : Hid (W2.heap.size ≤ W3a.heap.size ∧ (W3a.alloc (.cells #[.int .u16 (f : Int), .int .u16 (t : Int), .int .u64 (ck : Int), .int .u64 (x3 : Int), .slice ao3 k cap3] 85)).heap.size = W3a.heap.size + 1) := ⟨hb3.size, by simp⟩
  clear hr3 hb3 h3a H2
  go_upto_region 4 with fail
  generalize W3a.alloc (Obj.cells #[.int .u16 (f : Int), .int .u16 (t : Int), .int .u64 (ck : Int), .int .u64 (x3 : Int), .slice ao3 k cap3] 85) = W3 at *
  obtain ⟨B3, hB3⟩ : ∃ B3, W3a.heap.size = B3 := ⟨_, rfl⟩
  rw [hB3] at H3 HZ3 ⊢
  clear hB3
  have qc := H3.out.box (w.heap.size, #[.int .u16 (f : Int), .int .u16 (t : Int), .int .u64 (ck : Int), .int .u64 (o : Int), .slice da k dcap], 85) (by simp)
  have qc0 := blk_at qc 0
  have qc1 := blk_at qc 1
  have qc2 := blk_at qc 2
  have qc3 := blk_at qc 3
  have qc4 := blk_at qc 4
  simp at qc0 qc1 qc2 qc3 qc4
  clear qc
  go_wp2_with fail
  clear qc0 qc1 qc2 qc3 qc4
  refine (HD.out W3 W0.heap.size W1.heap.size ao1 cap1 (H3.out.row ⟨W0.heap.size, W1.heap.size, ao1, nA, cap1, A⟩ (by simp))).mono ?_
  rintro e W4a ⟨x4, y4, ao4, cap4, rfl, hr4, hb4⟩
  have h4a := H3.out.addRow hb4 hr4
  have H4 : Hid _ := h4a.addBox #[.int .u16 (f : Int), .int .u16 (t : Int), .int .u64 (ck : Int), .int .u64 (x4 : Int), .slice ao4 k cap4] 85
  have HZ4 : Hid (W3.heap.size ≤ W4a.heap.size ∧ (W4a.alloc (.cells #[.int .u16 (f : Int), .int .u16 (t : Int), .int .u64 (ck : Int), .int .u64 (x4 : Int), .slice ao4 k cap4] 85)).heap.size = W4a.heap.size + 1) := ⟨hb4.size, by simp⟩
  clear hr4 hb4 h4a H3
  go_upto_region 5 with fail
  generalize W4a.alloc (Obj.cells #[.int .u16 (f : Int), .int .u16 (t : Int), .int .u64 (ck : Int), .int .u64 (x4 : Int), .slice ao4 k cap4] 85) = W4 at *
  obtain ⟨B4, hB4⟩ : ∃ B4, W4a.heap.size = B4 := ⟨_, rfl⟩
  rw [hB4] at H4 HZ4 ⊢
  clear hB4
  have qd := H4.out.box (w.heap.size + 1, #[.int .u64 (x : Int), .slice ea en ecap], 44) (by simp)
  have qd0 := blk_at qd 0
  have qd1 := blk_at qd 1
  simp at qd0 qd1
  clear qd
  go_wp2_with fail
  clear qd0 qd1
  refine (HP.out W4 H4.out.bel).mono ?_
  rintro e W5 ⟨ao5, cap5, rfl, hr5, hb5⟩
  have H5 : Hid _ := H4.out.addRow hb5 hr5
  have HZ5 : Hid (W4.heap.size ≤ W5.heap.size) := hb5.size
  have HR5 : Hid _ := hr5
  clear hr5 hb5 H4
  go_wp2_with fail
  refine (HU.out W5 W4.heap.size W5.heap.size ao5 cap5 HR5.out).mono ?_
  rintro e W6a ⟨ao6, cap6, rfl, hr6, hb6⟩
  have h6a := H5.out.addRow hb6 hr6
  have H6 : Hid _ := h6a.addBox #[.int .u64 ((x : Nat) : Int), .slice ao6 en cap6] 44
  have HZ6 : Hid (W5.heap.size ≤ W6a.heap.size ∧ (W6a.alloc (.cells #[.int .u64 ((x : Nat) : Int), .slice ao6 en cap6] 44)).heap.size = W6a.heap.size + 1) := ⟨hb6.size, by simp⟩
  clear hr6 hb6 h6a H5 HR5
  go_upto_region 7 with fail
  generalize W6a.alloc (Obj.cells #[.int .u64 ((x : Nat) : Int), .slice ao6 en cap6] 44) = W6 at *
  obtain ⟨B6, hB6⟩ : ∃ B6, W6a.heap.size = B6 := ⟨_, rfl⟩
  rw [hB6] at H6 HZ6 ⊢
  clear hB6
  have gB1 : Hid (∀ W, Below W6.heap.size W6 W → BRow W ao1 cap1 A ∧ BRow W ao2 cap2 A ∧ BRow W ao3 cap3 d ∧ BRow W da dcap d ∧ BRow W ao6 cap6 el ∧ BRow W ea ecap el ∧ Ow w W _ _) := fun W hb => by
    have h := H6.out.later hb
    exact ⟨(h.row ⟨W0.heap.size, W1.heap.size, ao1, nA, cap1, A⟩ (by simp)).brow (show nA ≤ 140737488351232 by omega), (h.row ⟨W1.heap.size, W2.heap.size, ao2, nA, cap2, A⟩ (by simp)).brow (show nA ≤ 140737488351232 by omega), (h.row ⟨W2.heap.size, B3, ao3, k, cap3, d⟩ (by simp)).brow (show k ≤ 140737488351232 by omega), HDr.out.later h.bel, (h.row ⟨W5.heap.size, B6, ao6, en, cap6, el⟩ (by simp)).brow (show en ≤ 140737488351232 by omega), HEr.out.later h.bel, h⟩
  go_wp2_with fail
  refine (HNum.out 0 _).mono ?_
  rintro e Wn ⟨rfl, hw⟩
  rw [hw]; clear hw Wn
  go_wp2_with fail
  refine (HNum.out 0 _).mono ?_
  rintro e Wn ⟨rfl, hw⟩
  rw [hw]; clear hw Wn
  go_wp2_with fail
  refine (HS.out W6 ao1 ao2 cap1 cap2 nA A (gB1.out W6 (Below.refl _ _)).1 (gB1.out W6 (Below.refl _ _)).2.1 HNA.out).mono ?_
  rintro e W7 ⟨rfl, hb7⟩
  have HB7 : Hid (Below W6.heap.size W6 W7) := hb7
  clear hb7
  have h7 := (gB1.out W7 HB7.out).2.2.2.2.2.2
  have qx := h7.box (B3, #[.int .u16 (f : Int), .int .u16 (t : Int), .int .u64 (ck : Int), .int .u64 (x3 : Int), .slice ao3 k cap3], 85) (by simp)
  have qx4 := blk_at qx 4
  simp at qx4
  have qc := h7.box (w.heap.size, #[.int .u16 (f : Int), .int .u16 (t : Int), .int .u64 (ck : Int), .int .u64 (o : Int), .slice da k dcap], 85) (by simp)
  have qc4 := blk_at qc 4
  simp at qc4
  clear qx qc h7
  go_wp2_with fail
  clear qx4 qc4
  refine (HS.out W7 ao3 da cap3 dcap k d (gB1.out W7 HB7.out).2.2.1 (gB1.out W7 HB7.out).2.2.2.1 HK.out).mono ?_
  rintro e W8 ⟨rfl, hb8⟩
  have HB8 : Hid (Below W6.heap.size W6 W8) := HB7.out.trans (hb8.mono HB7.out.size)
  clear hb8 HB7
  go_wp2_with fail
  refine (HNum.out 0 _).mono ?_
  rintro e Wn ⟨rfl, hw⟩
  rw [hw]; clear hw Wn
  go_wp2_with fail
  refine (HNum.out 0 _).mono ?_
  rintro e Wn ⟨rfl, hw⟩
  rw [hw]; clear hw Wn
  have h8 := (gB1.out W8 HB8.out).2.2.2.2.2.2
  have qx := h8.box (B6, #[.int .u64 ((x : Nat) : Int), .slice ao6 en cap6], 44) (by simp)
  have qx1 := blk_at qx 1
  simp at qx1
  have qd := h8.box (w.heap.size + 1, #[.int .u64 (x : Int), .slice ea en ecap], 44) (by simp)
  have qd1 := blk_at qd 1
  simp at qd1
  clear qx qd h8
  go_wp2_with fail
  clear qx1 qd1
  refine (HS.out W8 ao6 ea cap6 ecap en el (gB1.out W8 HB8.out).2.2.2.2.1 (gB1.out W8 HB8.out).2.2.2.2.2.1 HEN.out).mono ?_
  rintro e W9 ⟨rfl, hb9⟩
  have HB9 : Hid (Below W6.heap.size W6 W9) := HB8.out.trans (hb9.mono HB8.out.size)
  clear hb9 HB8
  have H9 : Hid _ := (gB1.out W9 HB9.out).2.2.2.2.2.2
  clear gB1 HD HP HU
  have h9 := H9.out
  have qx := h9.box (B3, #[.int .u16 (f : Int), .int .u16 (t : Int), .int .u64 (ck : Int), .int .u64 (x3 : Int), .slice ao3 k cap3], 85) (by simp)
  have qx4 := blk_at qx 4
  have qy := h9.box (B4, #[.int .u16 (f : Int), .int .u16 (t : Int), .int .u64 (ck : Int), .int .u64 (x4 : Int), .slice ao4 k cap4], 85) (by simp)
  have qy4 := blk_at qy 4
  have qz := h9.box (B6, #[.int .u64 ((x : Nat) : Int), .slice ao6 en cap6], 44) (by simp)
  have qz1 := blk_at qz 1
  simp at qx4 qy4 qz1
  clear qx qy qz h9
  go_upto_region 10 with fail
  clear qx4 qy4 qz1
  have h10 := H9.out.later (below1 W9 (.cells #[.slice ao1 nA cap1, .slice ao2 nA cap2, .slice ao3 k cap3, .slice ao4 k cap4, .slice ao5 np cap5, .slice ao6 en cap6] 25))
  have hnew := heap_new W9 (.cells #[.slice ao1 nA cap1, .slice ao2 nA cap2, .slice ao3 k cap3, .slice ao4 k cap4, .slice ao5 np cap5, .slice ao6 en cap6] 25)
  have hsz9 := HB9.out.size
  have hL10 : Lists (W9.alloc (.cells #[.slice ao1 nA cap1, .slice ao2 nA cap2, .slice ao3 k cap3, .slice ao4 k cap4, .slice ao5 np cap5, .slice ao6 en cap6] 25)) W0.heap.size W9.heap.size 0 6 (Ls [⟨W0.heap.size, W1.heap.size, ao1, nA, cap1, A⟩, ⟨W1.heap.size, W2.heap.size, ao2, nA, cap2, A⟩, ⟨W2.heap.size, B3, ao3, k, cap3, d⟩, ⟨W3.heap.size, B4, ao4, k, cap4, d⟩, ⟨W4.heap.size, W5.heap.size, ao5, np, cap5, (daL x el)⟩, ⟨W5.heap.size, B6, ao6, en, cap6, el⟩]) (Ln [⟨W0.heap.size, W1.heap.size, ao1, nA, cap1, A⟩, ⟨W1.heap.size, W2.heap.size, ao2, nA, cap2, A⟩, ⟨W2.heap.size, B3, ao3, k, cap3, d⟩, ⟨W3.heap.size, B4, ao4, k, cap4, d⟩, ⟨W4.heap.size, W5.heap.size, ao5, np, cap5, (daL x el)⟩, ⟨W5.heap.size, B6, ao6, en, cap6, el⟩]) := by
    have z1 := HZ1.out; have z2 := HZ2.out; have z3 := HZ3.out; have z4 := HZ4.out; have z5 := HZ5.out; have z6 := HZ6.out
    have zp := HNP1.out
    refine Ow.lists (rs := [⟨W0.heap.size, W1.heap.size, ao1, nA, cap1, A⟩, ⟨W1.heap.size, W2.heap.size, ao2, nA, cap2, A⟩, ⟨W2.heap.size, B3, ao3, k, cap3, d⟩, ⟨W3.heap.size, B4, ao4, k, cap4, d⟩, ⟨W4.heap.size, W5.heap.size, ao5, np, cap5, (daL x el)⟩, ⟨W5.heap.size, B6, ao6, en, cap6, el⟩]) (by simpa using h10) rfl ?_ W0.heap.size (by have := below1 W9 (.cells #[.slice ao1 nA cap1, .slice ao2 nA cap2, .slice ao3 k cap3, .slice ao4 k cap4, .slice ao5 np cap5, .slice ao6 en cap6] 25); have := this.size; omega) ?_ ?_ ?_ ?_
    · intro i j a b hij hi' hj'
      have hj6 : j < 6 := by
        have := (List.getElem?_eq_some_iff.1 hj').1
        simpa using this
      have : i = 0 ∨ i = 1 ∨ i = 2 ∨ i = 3 ∨ i = 4 := by omega
      have : j = 1 ∨ j = 2 ∨ j = 3 ∨ j = 4 ∨ j = 5 := by omega
      rcases ‹i = 0 ∨ _› with rfl | rfl | rfl | rfl | rfl <;> rcases ‹j = 1 ∨ _› with rfl | rfl | rfl | rfl | rfl <;> first | omega | (simp at hi' hj'; subst hi'; subst hj'; simp only; omega)
    · intro a ha; simp at ha; rcases ha with rfl | rfl | rfl | rfl | rfl | rfl <;> simp only <;> omega
    · intro a ha; simp at ha; rcases ha with rfl | rfl | rfl | rfl | rfl | rfl <;> simp only <;> omega
    · intro a ha; simp at ha; rcases ha with rfl | rfl | rfl | rfl | rfl | rfl <;> simp only <;> omega
    · intro i hi6
      have hi6' : i < 6 := hi6
      have : i = 0 ∨ i = 1 ∨ i = 2 ∨ i = 3 ∨ i = 4 ∨ i = 5 := by omega
      rcases this with rfl | rfl | rfl | rfl | rfl | rfl <;> exact blk_at hnew _
  have hW0w : W0.heap.size ≤ W9.heap.size := by
    have z1 := HZ1.out; have z2 := HZ2.out; have z3 := HZ3.out; have z4 := HZ4.out; have z5 := HZ5.out; have z6 := HZ6.out; omega
  have HOw : Hid (Ow w (W9.alloc (.cells #[.slice ao1 nA cap1, .slice ao2 nA cap2, .slice ao3 k cap3, .slice ao4 k cap4, .slice ao5 np cap5, .slice ao6 en cap6] 25)) [(w.heap.size, #[.int .u16 (f : Int), .int .u16 (t : Int), .int .u64 (ck : Int), .int .u64 (o : Int), .slice da k dcap], 85)] [] ∧ W0.heap.size ≤ (W9.alloc (.cells #[.slice ao1 nA cap1, .slice ao2 nA cap2, .slice ao3 k cap3, .slice ao4 k cap4, .slice ao5 np cap5, .slice ao6 en cap6] 25)).heap.size) := ⟨⟨h10.bel, fun y hy => h10.box y (by simp at hy; subst hy; simp), by simp⟩, Nat.le_trans hW0w (below1 W9 _).size⟩
  generalize Ls [⟨W0.heap.size, W1.heap.size, ao1, nA, cap1, A⟩, ⟨W1.heap.size, W2.heap.size, ao2, nA, cap2, A⟩, ⟨W2.heap.size, B3, ao3, k, cap3, d⟩, ⟨W3.heap.size, B4, ao4, k, cap4, d⟩, ⟨W4.heap.size, W5.heap.size, ao5, np, cap5, (daL x el)⟩, ⟨W5.heap.size, B6, ao6, en, cap6, el⟩] = L at *
  generalize Ln [⟨W0.heap.size, W1.heap.size, ao1, nA, cap1, A⟩, ⟨W1.heap.size, W2.heap.size, ao2, nA, cap2, A⟩, ⟨W2.heap.size, B3, ao3, k, cap3, d⟩, ⟨W3.heap.size, B4, ao4, k, cap4, d⟩, ⟨W4.heap.size, W5.heap.size, ao5, np, cap5, (daL x el)⟩, ⟨W5.heap.size, B6, ao6, en, cap6, el⟩] = len at *
  generalize W9.alloc (Obj.cells #[.slice ao1 nA cap1, .slice ao2 nA cap2, .slice ao3 k cap3, .slice ao4 k cap4, .slice ao5 np cap5, .slice ao6 en cap6] 25) = W at *
  generalize W9.heap.size = lb at *
  have H0 : Hid (Lists W W0.heap.size lb 0 6 L len) := hL10
  clear hL10 h10 hnew hsz9 hW0w HB9 H9 HZ1 HZ2 HZ3 HZ4 HZ5 HZ6 H6
  generalize hBB : W0.heap.size = B at *
  clear hBB
  go_wp2
  go_loopw [20] (fun iv wr => ∃ i : Nat, i ≤ 6 ∧ iv = .int .i64 i ∧ AInv W wr B 6 L len i 0) (fun iv _ => 6 - (intOf iv).toNat)
  case atStart => exact ⟨0, Nat.zero_le _, rfl, AInv.start H0.out⟩
  case round =>
    obtain ⟨i, hin, rfl, hA⟩ := hrel
    have HA : Hid (AInv W wr B 6 L len i 0) := hA
    clear hA
    by_cases hlt : i < 6
    · have n6t : decide ((i : Int) < 6) = true := by simp; omega
      obtain ⟨ao, cap, hL, hpo⟩ := H0.out.form i hlt
      have HLf : Hid (L i = .slice ao (len i) cap) := hL
      have HPos : Hid (0 < len i → ∃ g, ao = some ⟨g, 0, none⟩) := hpo
      have hsm := H0.out.small i hlt
      clear hL hpo
      go_wp2
      go_loopw [21] (fun kv wr2 => ∃ k : Nat, k ≤ len i ∧ kv = .int .i64 k ∧ AInv W wr2 B 6 L len i k) (fun kv _ => len i - (intOf kv).toNat)
      case atStart => exact ⟨0, Nat.zero_le _, rfl, HA.out⟩
      case round =>
        obtain ⟨j, hj, rfl, hA2⟩ := hrel
        have hcl : wr.cell? ⟨lb, i, none⟩ = some (.slice ao (len i) cap) := by have := H0.out.cellIn hA2.kept i hlt; rw [Nat.zero_add, HLf.out] at this; exact this
        have HA2 : Hid (AInv W wr B 6 L len i j) := hA2
        clear hA2
        by_cases hlk : j < len i
        · obtain ⟨g, rfl⟩ := HPos.out (by omega)
          obtain ⟨⟨y, hy⟩, hfz, hst⟩ := AInv.store H0.out HA2.out hlt hlk HLf.out
          have HSt : Hid (AInv W (wr.setCell ⟨g, j, none⟩ (.int .u8 (((i + 1) % 256 : Nat) : Int))) B 6 L len i (j + 1)) := hst
          clear hst
          have hv := mkb_val i
          go_wp2
          go_roundw
          case rel => exact ⟨j + 1, by omega, by go_num, HSt.out⟩
          case measure => simp [intOf]; omega
        · obtain rfl : j = len i := by omega
          have HNx : Hid (AInv W wr B 6 L len (i + 1) 0) := HA2.out.next hlt
          go_wp2
          go_roundw
          case rel => exact ⟨i + 1, by omega, by go_num, HNx.out⟩
          case measure => simp [intOf]; omega
    · have hin' : i = 6 := by omega
      have HC0 : Hid (CInv W wr B 6 L len) := by have h := HA.out; rw [hin'] at h; exact CInv.start h
      have n61 : decide ((i : Int) < 6) = false := by simp; omega
      clear HA hin hin'
      go_wp2
      clear n61 hlt
      go_loopw [22, 23] (fun gv iv wr2 => ∃ (i g : Nat), i ≤ 6 ∧ iv = .int .i64 i ∧ gv = .int .i64 g ∧ 40 * i ≤ g ∧ g ≤ 4398046511144 * i ∧ CInv W wr2 B 6 L len) (fun _ iv _ => 6 - (intOf iv).toNat)
      case atStart => exact ⟨0, 0, Nat.zero_le _, rfl, rfl, by omega, by omega, HC0.out⟩
      case round =>
        obtain ⟨i, gr, hin, rfl, rfl, hg1, hg2, hC⟩ := hrel
        have HC : Hid (CInv W wr B 6 L len) := hC
        clear hC
        by_cases hlt : i < 6
        · have n6t : decide ((i : Int) < 6) = true := by simp; omega
          obtain ⟨ao, cap, hL, hpo⟩ := H0.out.form i hlt
          have hsm := H0.out.small i hlt
          have hcl : wr.cell? ⟨lb, i, none⟩ = some (.slice ao (len i) cap) := by have := H0.out.cellIn HC.out.kept i hlt; rw [Nat.zero_add, hL] at this; exact this
          have HD0 : Hid (DInv W wr B 6 L len i (.slice ao (len i) cap) 0) := by rw [← hL]; exact HC.out.begin H0.out hlt
          clear hL hpo
          go_wp2
          go_loopw [24, 25] (fun v kv wr3 => ∃ (k : Nat), k ≤ 40 ∧ kv = .int .i64 k ∧ DInv W wr3 B 6 L len i v k) (fun _ kv _ => 40 - (intOf kv).toNat)
          case atStart => exact ⟨0, by omega, rfl, HD0.out⟩
          case round =>
            obtain ⟨j, hj, rfl, hD⟩ := hrel
            obtain ⟨vao, vcap, hv⟩ := owns_form hD.cur
            subst hv
            have HD : Hid (DInv W wr B 6 L len i (.slice vao (len i + j) vcap) j) := hD
            clear hD
            by_cases hlk : j < 40
            · have HO : Hid (∀ o, (wr.alloc o).ownsRow B 5 1 (.slice vao (len i + j) vcap) (len i + j) ((marks i (len i) ++ tails j).map bv)) := fun o => HD.out.cur.alloc o
              have HZ : Hid (B ≤ wr.heap.size) := Nat.le_trans H0.out.base HD.out.kept.size
              go_wp2_with (at_builtin; refine wpList_append_three _ rfl (.tmp 154) (.tmp 155) 25 rfl B 5 i0 (.int .u8 0) 1 Tryd.underlying25 hi hz0 hz1 hz2 rfl (.slice vao (len i + j) vcap) (len i + j) ((marks i (len i) ++ tails j).map bv) rfl (HO.out _) ⟨wr.heap.size, 0, none⟩ 1 1 [.int .u8 99] rfl rfl (news_one wr _ _ _ rfl) (by simp [Value.oneCell']) (by unfold maxLen; omega) (by omega) (by have := HZ.out; simp; omega) ?_)
              intro ao2' cap2' w1 ho hf
              have HN : Hid (DInv W w1 B 6 L len i (.slice ao2' (len i + j + 1) cap2') (j + 1)) := DInv.grow H0.out hlt HD.out ((Below.refl wr.heap.size wr).alloc (Nat.le_refl _) (.cells #[.int .u8 99] 5)) (by rw [List.map_append, List.append_assoc]; exact ho) (hf.imp id (And.imp_left fun h g hg => by have := h g hg; simpa using this))
              clear ho hf
              go_wp2
              go_roundw
              case rel => exact ⟨j + 1, by omega, by go_num, HN.out⟩
              case measure => simp [intOf]; omega
            · have hk7 : j = 40 := by omega
              subst hk7
              have HN : Hid (CInv W wr B 6 L len) := HD.out.finish
              clear HD
              have hw6 : IntKind.i64.wrap ((gr : Int) + ((len i + 40 : Nat) : Int)) = ((gr + (len i + 40) : Nat) : Int) := by rw [IntKind.wrap_i64]; omega
              have hw7 : IntKind.i64.wrap ((gr : Int) + ((len i : Int) + 40)) = ((gr + (len i + 40) : Nat) : Int) := by rw [IntKind.wrap_i64]; omega
              go_wp2
              go_roundw
              case rel => exact ⟨i + 1, gr + (len i + 40), by omega, by go_num, by first | rfl | (congr 1; omega) | go_num, by omega, by omega, HN.out⟩
              case measure => simp [intOf]; omega
        · have hin' : i = 6 := by omega
          have n62 : decide ((i : Int) < 6) = false := by simp; omega
          have hg3 : 240 ≤ gr := by omega
          have HG3 : Hid (240 ≤ gr ∧ gr ≤ 26388279066864) := ⟨by omega, by omega⟩
          clear hin hin' hg1 hg2 hg3
          go_wp2
          clear n62 hlt
          go_loopw [26] (fun iv wr2 => ∃ (i q : Nat), i ≤ 6 ∧ iv = .int .i64 i ∧ wr2 = wr.drewN q) (fun iv _ => 6 - (intOf iv).toNat)
          case atStart => exact ⟨0, 0, Nat.zero_le _, rfl, rfl⟩
          case round =>
            rename_i wrr
            obtain ⟨i, q, hin, rfl, rfl⟩ := hrel
            by_cases hlt : i < 6
            · have n6t : decide ((i : Int) < 6) = true := by simp; omega
              obtain ⟨ao, cap, hL, hpo⟩ := H0.out.form i hlt
              have HPos : Hid (0 < len i → ∃ g, ao = some ⟨g, 0, none⟩) := hpo
              have hsm := H0.out.small i hlt
              have hcl : wr.cell? ⟨lb, i, none⟩ = some (.slice ao (len i) cap) := by have := H0.out.cellIn HC.out.kept i hlt; rw [Nat.zero_add, hL] at this; exact this
              have HRd : Hid (∀ g, ao = some ⟨g, 0, none⟩ → ∀ k, k < len i → wr.cell? ⟨g, k, none⟩ = some (.int .u8 (((i + 1) % 256 : Nat) : Int))) := fun g hg k hk => HC.out.read hlt (by rw [hL, hg]) hk
              clear hL hpo
              generalize len i = m at *
              go_wp2
              go_loopw [27] (fun kv wr2 => ∃ (k q : Nat), k ≤ m ∧ kv = .int .i64 k ∧ wr2 = wr.drewN q) (fun kv _ => m - (intOf kv).toNat)
              case atStart => exact ⟨0, _, Nat.zero_le _, rfl, rfl⟩
              case round =>
                obtain ⟨j, q, hj, rfl, rfl⟩ := hrel
                by_cases hlk : j < m
                · obtain ⟨g, rfl⟩ := HPos.out (by omega)
                  have hy := HRd.out g rfl j hlk
                  have hv := mkb_val i
                  go_wp2
                  go_roundw
                  case rel => exact ⟨j + 1, _, by omega, by go_num, rfl⟩
                  case measure => simp [intOf]; omega
                · go_wp2
                  go_roundw
                  case rel => exact ⟨i + 1, _, by omega, by go_num, rfl⟩
                  case measure => simp [intOf]; omega
            · have n63 : decide ((i : Int) < 6) = false := by simp; omega
              have HBw : Hid (Below B W (wr.drewN q)) := by
                have h1 := HC.out.kept.below HOw.out.2 (fun g hg ⟨i, hi', e⟩ => by obtain ⟨C', ho⟩ := H0.out.own i hi'; have := (owns_lt ho g e).2; omega)
                exact ⟨h1.os, h1.tape, h1.output, h1.size, h1.block⟩
              have HC5 : Hid (∀ W', Below (wr.drewN q).heap.size (wr.drewN q) W' → ((W'.cell? ⟨w.heap.size, 0, none⟩ = some (.int .u16 (f : Int)) ∧ W'.cell? ⟨w.heap.size, 1, none⟩ = some (.int .u16 (t : Int))) ∧ W'.cell? ⟨w.heap.size, 2, none⟩ = some (.int .u64 (ck : Int))) ∧ W'.cell? ⟨w.heap.size, 3, none⟩ = some (.int .u64 (o : Int)) ∧ W'.cell? ⟨w.heap.size, 4, none⟩ = some (.slice da k dcap)) := fun W' hb => by
                have q0 := HOw.out.1.box (w.heap.size, #[.int .u16 (f : Int), .int .u16 (t : Int), .int .u64 (ck : Int), .int .u64 (o : Int), .slice da k dcap], 85) (by simp)
                have q1 : (wr.drewN q).heap[w.heap.size]? = some (.cells #[.int .u16 (f : Int), .int .u16 (t : Int), .int .u64 (ck : Int), .int .u64 (o : Int), .slice da k dcap] 85 (0, 0)) := by rw [HBw.out.block w.heap.size (by have := HQ0.out; omega)]; exact q0
                have q2 := box_later q1 hb
                exact ⟨⟨⟨blk_at q2 0, blk_at q2 1⟩, blk_at q2 2⟩, blk_at q2 3, blk_at q2 4⟩
              have HWw : Hid (Below w.heap.size w (wr.drewN q)) := HOw.out.1.bel.trans (HBw.out.mono (by have := HQ0.out; omega))
              have g64 : decide ((64 : Int) ≤ (gr : Int)) = true := by have := HG3.out.1; simp; omega
              clear HC HBw HOw H0
              go_wp2
              
              generalize wr.drewN q = Wz at *
              obtain ⟨⟨⟨y0, y1⟩, y2⟩, y3, y4⟩ := HC5.out Wz (Below.refl _ _)
              go_region_held3 (fun w' => ((w'.cell? ⟨w.heap.size, 0, none⟩ = some (.int .u16 (f : Int)) ∧ w'.cell? ⟨w.heap.size, 1, none⟩ = some (.int .u16 (t : Int))) ∧ w'.cell? ⟨w.heap.size, 2, none⟩ = some (.int .u64 (ck : Int))) ∧ w'.cell? ⟨w.heap.size, 3, none⟩ = some (.int .u64 (o : Int)) ∧ w'.cell? ⟨w.heap.size, 4, none⟩ = some (.slice da k dcap)) (first | exact HC5.out _ Q4.out | exact HC5.out _ Q3.out | exact HC5.out _ Q2.out | exact HC5.out _ Q1.out | go_keep) (first | (go_at_call 27; refine (HE.out Wz.drew ⟨HWw.out.os, HWw.out.tape, HWw.out.output, HWw.out.size, HWw.out.block⟩).mono ?_; rintro e w1 ⟨p1, k1, rfl, r1, b1⟩; have Q1 : Hid (Below Wz.heap.size Wz w1) := ⟨b1.os, b1.tape, b1.output, b1.size, b1.block⟩; have R1 : Hid _ := r1; clear r1 b1) | (go_at_call 30; refine (HF.out _ (HWw.out.trans (Q1.out.mono HWw.out.size))).mono ?_; rintro e w2 ⟨p2, k2, rfl, r2, b2⟩; have Q2 : Hid (Below Wz.heap.size Wz w2) := Q1.out.trans (b2.mono Q1.out.size); have R2 : Hid _ := r2; have R1b : Hid _ := R1.out.later b2; clear r2 b2) | (go_at_call 9; refine (HS.out _ _ _ _ _ nA A (R1b.out.brow (by omega)) (R2.out.brow (by omega)) HNA.out).mono ?_; rintro e w3 ⟨rfl, b3⟩; have Q3 : Hid (Below Wz.heap.size Wz w3) := Q2.out.trans (b3.mono Q2.out.size); clear b3) | (go_at_call 10; refine (HAl.out _ (HTb.out.later (HWw.out.trans (Q3.out.mono HWw.out.size)))).mono ?_; rintro e w4 ⟨rfl, b4⟩; have Q4 : Hid (Below Wz.heap.size Wz w4) := Q3.out.trans (b4.mono Q3.out.size); clear b4))
              clear y0 y1 y2 y3 y4
              go_wp2
              go_ret
              exact ⟨rfl, HWw.out.trans (Q4.out.mono HWw.out.size)⟩
set_option maxHeartbeats 8000000 in
theorem wireOwn_z (f t ck o : Nat) (da : Option Addr) (dcap k : Nat) (d : List Nat) (x : Nat) (ea : Option Addr) (ecap : Nat) (el : List Nat) (ext : Bool) (w : World) (hT : Tb w) (hf : f < 65536) (ht : t < 65536) (hc : ck < 18446744073709551616) (ho : o < 18446744073709551616) (hx : x < 18446744073709551616) (hd : BRow w da dcap d) (hk : d.length = k) (hk1 : k ≤ 1048576) (he : BRow w ea ecap el) (hen : el.length = 0) (hen1 : 0 ≤ 1048576)  :
    Calls Tryd.prog 6 #[.agg #[.int .u16 (f : Int), .int .u16 (t : Int), .int .u64 (ck : Int), .int .u64 (o : Int), .slice da k dcap], .agg #[.int .u64 (x : Int), .slice ea 0 ecap], .bool ext] w fun e w' => e = .returned (.bool true) ∧ Below w.heap.size w w' := by
  obtain ⟨i0, hi, hz0, hz1, hz2⟩ := info_parts Tryd.info5
  have HTb : Hid (Tb w) := hT
  have HDr : Hid (BRow w da dcap d) := hd
  have HEr : Hid (BRow w ea ecap el) := he
  have HK : Hid (d.length = k) := hk
  have HEN : Hid (el.length = 0) := hen
  obtain ⟨nA, hnA⟩ : ∃ nA, (kC f t ck o d ext).length = nA := ⟨_, rfl⟩
  have hnA1 : 20 ≤ nA ∧ nA ≤ 1048608 := by rw [← hnA, kC_len, hk]; cases ext <;> simp <;> omega
  have HE : Hid (∀ W, Below w.heap.size w W → Calls Tryd.prog 27 #[.agg #[.int .u16 (f : Int), .int .u16 (t : Int), .int .u64 (ck : Int), .int .u64 (o : Int), .slice da k dcap], .bool ext] W fun e w' => ∃ ao cap, e = .returned (.slice ao nA cap) ∧ RowAt w' W.heap.size w'.heap.size ao nA cap (kC f t ck o d ext) ∧ Below W.heap.size W w') := fun W hb => by
    have h := encChunkC f t ck o da dcap d ext W hf ht hc ho (hd.later hb) (by omega)
    rw [hk, hnA] at h
    exact h.mono fun e w' ⟨ao, cap, h1, h2⟩ => ⟨ao, cap, h1, h2.at hnA, h2.bel⟩
  have HF : Hid (∀ W, Below w.heap.size w W → Calls Tryd.prog 30 #[.agg #[.int .u16 (f : Int), .int .u16 (t : Int), .int .u64 (ck : Int), .int .u64 (o : Int), .slice da k dcap], .bool ext] W fun e w' => ∃ ao cap, e = .returned (.slice ao nA cap) ∧ RowAt w' W.heap.size w'.heap.size ao nA cap (kC f t ck o d ext) ∧ Below W.heap.size W w') := fun W hb => by
    have h := rChunkC f t ck o da dcap d ext W hf ht hc ho (hd.later hb) (by omega)
    rw [hk, hnA] at h
    exact h.mono fun e w' ⟨ao, cap, h1, h2⟩ => ⟨ao, cap, h1, h2.at hnA, h2.bel⟩
  have HD : Hid (∀ W lo hi ao cap, RowAt W lo hi ao nA cap (kC f t ck o d ext) → Calls Tryd.prog 28 #[.slice ao nA cap, .int .u32 (k : Int), .bool ext] W fun e w' => ∃ (x y : Nat) (ao2 : Option Addr) (cap2 : Nat), e = .returned (.tuple #[.agg #[.int .u16 (f : Int), .int .u16 (t : Int), .int .u64 (ck : Int), .int .u64 (x : Int), .slice ao2 k cap2], .int .i64 (y : Int), .int .i64 0]) ∧ RowAt w' W.heap.size w'.heap.size ao2 k cap2 d ∧ Below W.heap.size W w') := fun W lo hi ao cap hr => by
    obtain ⟨g, rfl⟩ := hr.some (by omega)
    have h := decK f t ck o d ext g 0 cap nA k W hf ht hc ho hk (by omega) (by omega) (crow_of hr.own hr.lt hnA (by omega)) hnA
    exact h.mono fun e w' ⟨x, y, a2, c2, h1, h2, h3⟩ => ⟨x, y, a2, c2, h1, ⟨h2, hd.lt, fun g hg => (owns_lt h2 g hg).1, hk⟩, h3⟩
  have hnp : (([] : List Nat)).length = 0 := rfl
  have HP : Hid (∀ W, Below w.heap.size w W → Calls Tryd.prog 29 #[.agg #[.int .u64 (x : Int), .slice ea 0 ecap]] W fun e w' => ∃ ao cap, e = .returned (.tuple #[.slice ao 0 cap, .int .i64 81]) ∧ RowAt w' W.heap.size w'.heap.size ao 0 cap ([] : List Nat) ∧ Below W.heap.size W w') := fun W hb => by
    have h := packData_bad x ea ecap W
    exact h.mono fun e w' ⟨ao, cap, n, h1, h2, h3⟩ => by
      obtain rfl : n = 0 := by simpa using h2.symm
      exact ⟨ao, cap, h1, h3.at rfl, h3.bel⟩
  have HU : Hid (∀ W lo hi ao cap, RowAt W lo hi ao 0 cap ([] : List Nat) → Calls Tryd.prog 23 #[.slice ao 0 cap] W fun e w' => ∃ da dc, e = .returned (.tuple #[.agg #[.int .u64 ((0 : Nat) : Int), .slice da 0 dc], .int .i64 81]) ∧ RowAt w' W.heap.size w'.heap.size da 0 dc ([] : List Nat) ∧ Below W.heap.size W w') := fun W lo hi ao cap hr => by
    have h := unpackData_no ao cap 0 [] W (hr.brow (by omega)) rfl (by decide)
    exact h.mono fun e w' ⟨h1, h2⟩ => ⟨none, 0, h1, ⟨World.ownsRow_nil _ _ _ _, by simp, by simp [Value.ownBlock], rfl⟩, h2⟩
  have HNum : Hid (∀ (e : Int) (w : World), Calls Tryd.prog 12 #[.int .i64 e] w fun r w' => r = .returned (.int .i64 e) ∧ w' = w) := num_any
  have HAl : Hid (∀ w, Tb w → Calls Tryd.prog 10 #[] w fun e w' => e = .returned (.bool true) ∧ Below w.heap.size w w') := alive_any
  have HS : Hid (∀ (W : World) (ao bo : Option Addr) (cap cap' n : Nat) (l : List Nat), BRow W ao cap l → BRow W bo cap' l → l.length = n → Calls Tryd.prog 9 #[.slice ao n cap, .slice bo n cap'] W fun e w' => e = .returned (.bool true) ∧ Below W.heap.size W w') := fun W ao bo cap cap' n l h1 h2 h3 => same8_true ao bo cap cap' n l W h1 h2 h3
  have hwk : IntKind.u32.wrap (k : Int) = (k : Int) := by rw [IntKind.wrap_u32]; omega
  have HNA : Hid ((kC f t ck o d ext).length = nA) := hnA
  generalize kC f t ck o d ext = A at *
  have HB0 : Hid (f < 65536) := hf
  clear hT hd he hk hen hf ht hc ho hx hnA hnp
  have hb0 := mkb2 w #[.int .u16 (f : Int), .int .u16 (t : Int), .int .u64 (ck : Int), .int .u64 (o : Int), .slice da k dcap] #[.int .u64 (x : Int), .slice ea 0 ecap] 85 44
  go_enter Tryd.func6, Tryd.ntmps6
  have h0 : Ow w ((w.alloc (.cells #[.int .u16 (f : Int), .int .u16 (t : Int), .int .u64 (ck : Int), .int .u64 (o : Int), .slice da k dcap] 85)).alloc (.cells #[.int .u64 (x : Int), .slice ea 0 ecap] 44)) [(w.heap.size, #[.int .u16 (f : Int), .int .u16 (t : Int), .int .u64 (ck : Int), .int .u64 (o : Int), .slice da k dcap], 85), (w.heap.size + 1, #[.int .u64 (x : Int), .slice ea 0 ecap], 44)] [] := ⟨hb0.bel, fun y hy => by
    simp at hy
    rcases hy with rfl | rfl
    · exact hb0.a
    · exact hb0.b, by simp⟩
  clear hb0
  go_wp2_with fail
  have HQ0 : Hid (w.heap.size + 2 ≤ ((w.alloc (Obj.cells #[.int .u16 (f : Int), .int .u16 (t : Int), .int .u64 (ck : Int), .int .u64 (o : Int), .slice da k dcap] 85)).alloc (Obj.cells #[.int .u64 (x : Int), .slice ea 0 ecap] 44)).heap.size) := by simp [Hid]
  generalize (w.alloc (Obj.cells #[.int .u16 (f : Int), .int .u16 (t : Int), .int .u64 (ck : Int), .int .u64 (o : Int), .slice da k dcap] 85)).alloc (Obj.cells #[.int .u64 (x : Int), .slice ea 0 ecap] 44) = W0 at *
  have H0 : Hid _ := h0
  clear h0
  refine (HE.out W0 H0.out.bel).mono ?_
  rintro e W1 ⟨ao1, cap1, rfl, hr1, hb1⟩
  have H1 : Hid _ := H0.out.addRow hb1 hr1
  have HZ1 : Hid (W0.heap.size ≤ W1.heap.size) := hb1.size
  clear hr1 hb1 H0
  have qc := H1.out.box (w.heap.size, #[.int .u16 (f : Int), .int .u16 (t : Int), .int .u64 (ck : Int), .int .u64 (o : Int), .slice da k dcap], 85) (by simp)
  have qc0 := blk_at qc 0
  have qc1 := blk_at qc 1
  have qc2 := blk_at qc 2
  have qc3 := blk_at qc 3
  have qc4 := blk_at qc 4
  simp at qc0 qc1 qc2 qc3 qc4
  clear qc
  go_wp2_with fail
  clear qc0 qc1 qc2 qc3 qc4
  refine (HE.out W1 H1.out.bel).mono ?_
  rintro e W2 ⟨ao2, cap2, rfl, hr2, hb2⟩
  have H2 : Hid _ := H1.out.addRow hb2 hr2
  have HZ2 : Hid (W1.heap.size ≤ W2.heap.size) := hb2.size
  clear hr2 hb2 H1
  have qc := H2.out.box (w.heap.size, #[.int .u16 (f : Int), .int .u16 (t : Int), .int .u64 (ck : Int), .int .u64 (o : Int), .slice da k dcap], 85) (by simp)
  have qc0 := blk_at qc 0
  have qc1 := blk_at qc 1
  have qc2 := blk_at qc 2
  have qc3 := blk_at qc 3
  have qc4 := blk_at qc 4
  simp at qc0 qc1 qc2 qc3 qc4
  clear qc
  go_wp2_with fail
  clear qc0 qc1 qc2 qc3 qc4
  refine (HD.out W2 W0.heap.size W1.heap.size ao1 cap1 (H2.out.row ⟨W0.heap.size, W1.heap.size, ao1, nA, cap1, A⟩ (by simp))).mono ?_
  rintro e W3a ⟨x3, y3, ao3, cap3, rfl, hr3, hb3⟩
  have h3a := H2.out.addRow hb3 hr3
  have H3 : Hid _ := h3a.addBox #[.int .u16 (f : Int), .int .u16 (t : Int), .int .u64 (ck : Int), .int .u64 (x3 : Int), .slice ao3 k cap3] 85
  have HZ3 : Hid (W2.heap.size ≤ W3a.heap.size ∧ (W3a.alloc (.cells #[.int .u16 (f : Int), .int .u16 (t : Int), .int .u64 (ck : Int), .int .u64 (x3 : Int), .slice ao3 k cap3] 85)).heap.size = W3a.heap.size + 1) := ⟨hb3.size, by simp⟩
  clear hr3 hb3 h3a H2
  go_upto_region 4 with fail
  generalize W3a.alloc (Obj.cells #[.int .u16 (f : Int), .int .u16 (t : Int), .int .u64 (ck : Int), .int .u64 (x3 : Int), .slice ao3 k cap3] 85) = W3 at *
  obtain ⟨B3, hB3⟩ : ∃ B3, W3a.heap.size = B3 := ⟨_, rfl⟩
  rw [hB3] at H3 HZ3 ⊢
  clear hB3
  have qc := H3.out.box (w.heap.size, #[.int .u16 (f : Int), .int .u16 (t : Int), .int .u64 (ck : Int), .int .u64 (o : Int), .slice da k dcap], 85) (by simp)
  have qc0 := blk_at qc 0
  have qc1 := blk_at qc 1
  have qc2 := blk_at qc 2
  have qc3 := blk_at qc 3
  have qc4 := blk_at qc 4
  simp at qc0 qc1 qc2 qc3 qc4
  clear qc
  go_wp2_with fail
  clear qc0 qc1 qc2 qc3 qc4
  refine (HD.out W3 W0.heap.size W1.heap.size ao1 cap1 (H3.out.row ⟨W0.heap.size, W1.heap.size, ao1, nA, cap1, A⟩ (by simp))).mono ?_
  rintro e W4a ⟨x4, y4, ao4, cap4, rfl, hr4, hb4⟩
  have h4a := H3.out.addRow hb4 hr4
  have H4 : Hid _ := h4a.addBox #[.int .u16 (f : Int), .int .u16 (t : Int), .int .u64 (ck : Int), .int .u64 (x4 : Int), .slice ao4 k cap4] 85
  have HZ4 : Hid (W3.heap.size ≤ W4a.heap.size ∧ (W4a.alloc (.cells #[.int .u16 (f : Int), .int .u16 (t : Int), .int .u64 (ck : Int), .int .u64 (x4 : Int), .slice ao4 k cap4] 85)).heap.size = W4a.heap.size + 1) := ⟨hb4.size, by simp⟩
  clear hr4 hb4 h4a H3
  go_upto_region 5 with fail
  generalize W4a.alloc (Obj.cells #[.int .u16 (f : Int), .int .u16 (t : Int), .int .u64 (ck : Int), .int .u64 (x4 : Int), .slice ao4 k cap4] 85) = W4 at *
  obtain ⟨B4, hB4⟩ : ∃ B4, W4a.heap.size = B4 := ⟨_, rfl⟩
  rw [hB4] at H4 HZ4 ⊢
  clear hB4
  have qd := H4.out.box (w.heap.size + 1, #[.int .u64 (x : Int), .slice ea 0 ecap], 44) (by simp)
  have qd0 := blk_at qd 0
  have qd1 := blk_at qd 1
  simp at qd0 qd1
  clear qd
  go_wp2_with fail
  clear qd0 qd1
  refine (HP.out W4 H4.out.bel).mono ?_
  rintro e W5 ⟨ao5, cap5, rfl, hr5, hb5⟩
  have H5 : Hid _ := H4.out.addRow hb5 hr5
  have HZ5 : Hid (W4.heap.size ≤ W5.heap.size) := hb5.size
  have HR5 : Hid _ := hr5
  clear hr5 hb5 H4
  go_wp2_with fail
  refine (HU.out W5 W4.heap.size W5.heap.size ao5 cap5 HR5.out).mono ?_
  rintro e W6a ⟨ao6, cap6, rfl, hr6, hb6⟩
  have h6a := H5.out.addRow hb6 hr6
  have H6 : Hid _ := h6a.addBox #[.int .u64 ((0 : Nat) : Int), .slice ao6 0 cap6] 44
  have HZ6 : Hid (W5.heap.size ≤ W6a.heap.size ∧ (W6a.alloc (.cells #[.int .u64 ((0 : Nat) : Int), .slice ao6 0 cap6] 44)).heap.size = W6a.heap.size + 1) := ⟨hb6.size, by simp⟩
  clear hr6 hb6 h6a H5 HR5
  go_upto_region 7 with fail
  generalize W6a.alloc (Obj.cells #[.int .u64 0, .slice ao6 0 cap6] 44) = W6 at *
  obtain ⟨B6, hB6⟩ : ∃ B6, W6a.heap.size = B6 := ⟨_, rfl⟩
  rw [hB6] at H6 HZ6 ⊢
  clear hB6
  have gB1 : Hid (∀ W, Below W6.heap.size W6 W → BRow W ao1 cap1 A ∧ BRow W ao2 cap2 A ∧ BRow W ao3 cap3 d ∧ BRow W da dcap d ∧ Ow w W _ _) := fun W hb => by
    have h := H6.out.later hb
    exact ⟨(h.row ⟨W0.heap.size, W1.heap.size, ao1, nA, cap1, A⟩ (by simp)).brow (show nA ≤ 140737488351232 by omega), (h.row ⟨W1.heap.size, W2.heap.size, ao2, nA, cap2, A⟩ (by simp)).brow (show nA ≤ 140737488351232 by omega), (h.row ⟨W2.heap.size, B3, ao3, k, cap3, d⟩ (by simp)).brow (show k ≤ 140737488351232 by omega), HDr.out.later h.bel, h⟩
  go_wp2_with fail
  refine (HNum.out 0 _).mono ?_
  rintro e Wn ⟨rfl, hw⟩
  rw [hw]; clear hw Wn
  go_wp2_with fail
  refine (HNum.out 0 _).mono ?_
  rintro e Wn ⟨rfl, hw⟩
  rw [hw]; clear hw Wn
  go_wp2_with fail
  refine (HS.out W6 ao1 ao2 cap1 cap2 nA A (gB1.out W6 (Below.refl _ _)).1 (gB1.out W6 (Below.refl _ _)).2.1 HNA.out).mono ?_
  rintro e W7 ⟨rfl, hb7⟩
  have HB7 : Hid (Below W6.heap.size W6 W7) := hb7
  clear hb7
  have h7 := (gB1.out W7 HB7.out).2.2.2.2
  have qx := h7.box (B3, #[.int .u16 (f : Int), .int .u16 (t : Int), .int .u64 (ck : Int), .int .u64 (x3 : Int), .slice ao3 k cap3], 85) (by simp)
  have qx4 := blk_at qx 4
  simp at qx4
  have qc := h7.box (w.heap.size, #[.int .u16 (f : Int), .int .u16 (t : Int), .int .u64 (ck : Int), .int .u64 (o : Int), .slice da k dcap], 85) (by simp)
  have qc4 := blk_at qc 4
  simp at qc4
  clear qx qc h7
  go_wp2_with fail
  clear qx4 qc4
  refine (HS.out W7 ao3 da cap3 dcap k d (gB1.out W7 HB7.out).2.2.1 (gB1.out W7 HB7.out).2.2.2.1 HK.out).mono ?_
  rintro e W8 ⟨rfl, hb8⟩
  have HB8 : Hid (Below W6.heap.size W6 W8) := HB7.out.trans (hb8.mono HB7.out.size)
  clear hb8 HB7
  go_wp2_with fail
  refine (HNum.out 81 _).mono ?_
  rintro e Wn ⟨rfl, hw⟩
  rw [hw]; clear hw Wn
  have HB9 : Hid (Below W6.heap.size W6 W8) := HB8.out
  clear HB8
  generalize W8 = W9 at *
  have H9 : Hid _ := (gB1.out W9 HB9.out).2.2.2.2
  clear gB1 HD HP HU
  have h9 := H9.out
  have qx := h9.box (B3, #[.int .u16 (f : Int), .int .u16 (t : Int), .int .u64 (ck : Int), .int .u64 (x3 : Int), .slice ao3 k cap3], 85) (by simp)
  have qx4 := blk_at qx 4
  have qy := h9.box (B4, #[.int .u16 (f : Int), .int .u16 (t : Int), .int .u64 (ck : Int), .int .u64 (x4 : Int), .slice ao4 k cap4], 85) (by simp)
  have qy4 := blk_at qy 4
  have qz := h9.box (B6, #[.int .u64 ((0 : Nat) : Int), .slice ao6 0 cap6], 44) (by simp)
  have qz1 := blk_at qz 1
  simp at qx4 qy4 qz1
  clear qx qy qz h9
  go_upto_region 10 with fail
  clear qx4 qy4 qz1
  have h10 := H9.out.later (below1 W9 (.cells #[.slice ao1 nA cap1, .slice ao2 nA cap2, .slice ao3 k cap3, .slice ao4 k cap4, .slice ao5 0 cap5, .slice ao6 0 cap6] 25))
  have hnew := heap_new W9 (.cells #[.slice ao1 nA cap1, .slice ao2 nA cap2, .slice ao3 k cap3, .slice ao4 k cap4, .slice ao5 0 cap5, .slice ao6 0 cap6] 25)
  have hsz9 := HB9.out.size
  have hL10 : Lists (W9.alloc (.cells #[.slice ao1 nA cap1, .slice ao2 nA cap2, .slice ao3 k cap3, .slice ao4 k cap4, .slice ao5 0 cap5, .slice ao6 0 cap6] 25)) W0.heap.size W9.heap.size 0 6 (Ls [⟨W0.heap.size, W1.heap.size, ao1, nA, cap1, A⟩, ⟨W1.heap.size, W2.heap.size, ao2, nA, cap2, A⟩, ⟨W2.heap.size, B3, ao3, k, cap3, d⟩, ⟨W3.heap.size, B4, ao4, k, cap4, d⟩, ⟨W4.heap.size, W5.heap.size, ao5, 0, cap5, ([] : List Nat)⟩, ⟨W5.heap.size, B6, ao6, 0, cap6, ([] : List Nat)⟩]) (Ln [⟨W0.heap.size, W1.heap.size, ao1, nA, cap1, A⟩, ⟨W1.heap.size, W2.heap.size, ao2, nA, cap2, A⟩, ⟨W2.heap.size, B3, ao3, k, cap3, d⟩, ⟨W3.heap.size, B4, ao4, k, cap4, d⟩, ⟨W4.heap.size, W5.heap.size, ao5, 0, cap5, ([] : List Nat)⟩, ⟨W5.heap.size, B6, ao6, 0, cap6, ([] : List Nat)⟩]) := by
    have z1 := HZ1.out; have z2 := HZ2.out; have z3 := HZ3.out; have z4 := HZ4.out; have z5 := HZ5.out; have z6 := HZ6.out
    
    refine Ow.lists (rs := [⟨W0.heap.size, W1.heap.size, ao1, nA, cap1, A⟩, ⟨W1.heap.size, W2.heap.size, ao2, nA, cap2, A⟩, ⟨W2.heap.size, B3, ao3, k, cap3, d⟩, ⟨W3.heap.size, B4, ao4, k, cap4, d⟩, ⟨W4.heap.size, W5.heap.size, ao5, 0, cap5, ([] : List Nat)⟩, ⟨W5.heap.size, B6, ao6, 0, cap6, ([] : List Nat)⟩]) (by simpa using h10) rfl ?_ W0.heap.size (by have := below1 W9 (.cells #[.slice ao1 nA cap1, .slice ao2 nA cap2, .slice ao3 k cap3, .slice ao4 k cap4, .slice ao5 0 cap5, .slice ao6 0 cap6] 25); have := this.size; omega) ?_ ?_ ?_ ?_
    · intro i j a b hij hi' hj'
      have hj6 : j < 6 := by
        have := (List.getElem?_eq_some_iff.1 hj').1
        simpa using this
      have : i = 0 ∨ i = 1 ∨ i = 2 ∨ i = 3 ∨ i = 4 := by omega
      have : j = 1 ∨ j = 2 ∨ j = 3 ∨ j = 4 ∨ j = 5 := by omega
      rcases ‹i = 0 ∨ _› with rfl | rfl | rfl | rfl | rfl <;> rcases ‹j = 1 ∨ _› with rfl | rfl | rfl | rfl | rfl <;> first | omega | (simp at hi' hj'; subst hi'; subst hj'; simp only; omega)
    · intro a ha; simp at ha; rcases ha with rfl | rfl | rfl | rfl | rfl | rfl <;> simp only <;> omega
    · intro a ha; simp at ha; rcases ha with rfl | rfl | rfl | rfl | rfl | rfl <;> simp only <;> omega
    · intro a ha; simp at ha; rcases ha with rfl | rfl | rfl | rfl | rfl | rfl <;> simp only <;> omega
    · intro i hi6
      have hi6' : i < 6 := hi6
      have : i = 0 ∨ i = 1 ∨ i = 2 ∨ i = 3 ∨ i = 4 ∨ i = 5 := by omega
      rcases this with rfl | rfl | rfl | rfl | rfl | rfl <;> exact blk_at hnew _
  have hW0w : W0.heap.size ≤ W9.heap.size := by
    have z1 := HZ1.out; have z2 := HZ2.out; have z3 := HZ3.out; have z4 := HZ4.out; have z5 := HZ5.out; have z6 := HZ6.out; omega
  have HOw : Hid (Ow w (W9.alloc (.cells #[.slice ao1 nA cap1, .slice ao2 nA cap2, .slice ao3 k cap3, .slice ao4 k cap4, .slice ao5 0 cap5, .slice ao6 0 cap6] 25)) [(w.heap.size, #[.int .u16 (f : Int), .int .u16 (t : Int), .int .u64 (ck : Int), .int .u64 (o : Int), .slice da k dcap], 85)] [] ∧ W0.heap.size ≤ (W9.alloc (.cells #[.slice ao1 nA cap1, .slice ao2 nA cap2, .slice ao3 k cap3, .slice ao4 k cap4, .slice ao5 0 cap5, .slice ao6 0 cap6] 25)).heap.size) := ⟨⟨h10.bel, fun y hy => h10.box y (by simp at hy; subst hy; simp), by simp⟩, Nat.le_trans hW0w (below1 W9 _).size⟩
  generalize Ls [⟨W0.heap.size, W1.heap.size, ao1, nA, cap1, A⟩, ⟨W1.heap.size, W2.heap.size, ao2, nA, cap2, A⟩, ⟨W2.heap.size, B3, ao3, k, cap3, d⟩, ⟨W3.heap.size, B4, ao4, k, cap4, d⟩, ⟨W4.heap.size, W5.heap.size, ao5, 0, cap5, ([] : List Nat)⟩, ⟨W5.heap.size, B6, ao6, 0, cap6, ([] : List Nat)⟩] = L at *
  generalize Ln [⟨W0.heap.size, W1.heap.size, ao1, nA, cap1, A⟩, ⟨W1.heap.size, W2.heap.size, ao2, nA, cap2, A⟩, ⟨W2.heap.size, B3, ao3, k, cap3, d⟩, ⟨W3.heap.size, B4, ao4, k, cap4, d⟩, ⟨W4.heap.size, W5.heap.size, ao5, 0, cap5, ([] : List Nat)⟩, ⟨W5.heap.size, B6, ao6, 0, cap6, ([] : List Nat)⟩] = len at *
  generalize W9.alloc (Obj.cells #[.slice ao1 nA cap1, .slice ao2 nA cap2, .slice ao3 k cap3, .slice ao4 k cap4, .slice ao5 0 cap5, .slice ao6 0 cap6] 25) = W at *
  generalize W9.heap.size = lb at *
  have H0 : Hid (Lists W W0.heap.size lb 0 6 L len) := hL10
  clear hL10 h10 hnew hsz9 hW0w HB9 H9 HZ1 HZ2 HZ3 HZ4 HZ5 HZ6 H6
  generalize hBB : W0.heap.size = B at *
  clear hBB
  go_wp2
  go_loopw [20] (fun iv wr => ∃ i : Nat, i ≤ 6 ∧ iv = .int .i64 i ∧ AInv W wr B 6 L len i 0) (fun iv _ => 6 - (intOf iv).toNat)
  case atStart => exact ⟨0, Nat.zero_le _, rfl, AInv.start H0.out⟩
  case round =>
    obtain ⟨i, hin, rfl, hA⟩ := hrel
    have HA : Hid (AInv W wr B 6 L len i 0) := hA
    clear hA
    by_cases hlt : i < 6
    · have n6t : decide ((i : Int) < 6) = true := by simp; omega
      obtain ⟨ao, cap, hL, hpo⟩ := H0.out.form i hlt
      have HLf : Hid (L i = .slice ao (len i) cap) := hL
      have HPos : Hid (0 < len i → ∃ g, ao = some ⟨g, 0, none⟩) := hpo
      have hsm := H0.out.small i hlt
      clear hL hpo
      go_wp2
      go_loopw [21] (fun kv wr2 => ∃ k : Nat, k ≤ len i ∧ kv = .int .i64 k ∧ AInv W wr2 B 6 L len i k) (fun kv _ => len i - (intOf kv).toNat)
      case atStart => exact ⟨0, Nat.zero_le _, rfl, HA.out⟩
      case round =>
        obtain ⟨j, hj, rfl, hA2⟩ := hrel
        have hcl : wr.cell? ⟨lb, i, none⟩ = some (.slice ao (len i) cap) := by have := H0.out.cellIn hA2.kept i hlt; rw [Nat.zero_add, HLf.out] at this; exact this
        have HA2 : Hid (AInv W wr B 6 L len i j) := hA2
        clear hA2
        by_cases hlk : j < len i
        · obtain ⟨g, rfl⟩ := HPos.out (by omega)
          obtain ⟨⟨y, hy⟩, hfz, hst⟩ := AInv.store H0.out HA2.out hlt hlk HLf.out
          have HSt : Hid (AInv W (wr.setCell ⟨g, j, none⟩ (.int .u8 (((i + 1) % 256 : Nat) : Int))) B 6 L len i (j + 1)) := hst
          clear hst
          have hv := mkb_val i
          go_wp2
          go_roundw
          case rel => exact ⟨j + 1, by omega, by go_num, HSt.out⟩
          case measure => simp [intOf]; omega
        · obtain rfl : j = len i := by omega
          have HNx : Hid (AInv W wr B 6 L len (i + 1) 0) := HA2.out.next hlt
          go_wp2
          go_roundw
          case rel => exact ⟨i + 1, by omega, by go_num, HNx.out⟩
          case measure => simp [intOf]; omega
    · have hin' : i = 6 := by omega
      have HC0 : Hid (CInv W wr B 6 L len) := by have h := HA.out; rw [hin'] at h; exact CInv.start h
      have n61 : decide ((i : Int) < 6) = false := by simp; omega
      clear HA hin hin'
      go_wp2
      clear n61 hlt
      go_loopw [22, 23] (fun gv iv wr2 => ∃ (i g : Nat), i ≤ 6 ∧ iv = .int .i64 i ∧ gv = .int .i64 g ∧ 40 * i ≤ g ∧ g ≤ 4398046511144 * i ∧ CInv W wr2 B 6 L len) (fun _ iv _ => 6 - (intOf iv).toNat)
      case atStart => exact ⟨0, 0, Nat.zero_le _, rfl, rfl, by omega, by omega, HC0.out⟩
      case round =>
        obtain ⟨i, gr, hin, rfl, rfl, hg1, hg2, hC⟩ := hrel
        have HC : Hid (CInv W wr B 6 L len) := hC
        clear hC
        by_cases hlt : i < 6
        · have n6t : decide ((i : Int) < 6) = true := by simp; omega
          obtain ⟨ao, cap, hL, hpo⟩ := H0.out.form i hlt
          have hsm := H0.out.small i hlt
          have hcl : wr.cell? ⟨lb, i, none⟩ = some (.slice ao (len i) cap) := by have := H0.out.cellIn HC.out.kept i hlt; rw [Nat.zero_add, hL] at this; exact this
          have HD0 : Hid (DInv W wr B 6 L len i (.slice ao (len i) cap) 0) := by rw [← hL]; exact HC.out.begin H0.out hlt
          clear hL hpo
          go_wp2
          go_loopw [24, 25] (fun v kv wr3 => ∃ (k : Nat), k ≤ 40 ∧ kv = .int .i64 k ∧ DInv W wr3 B 6 L len i v k) (fun _ kv _ => 40 - (intOf kv).toNat)
          case atStart => exact ⟨0, by omega, rfl, HD0.out⟩
          case round =>
            obtain ⟨j, hj, rfl, hD⟩ := hrel
            obtain ⟨vao, vcap, hv⟩ := owns_form hD.cur
            subst hv
            have HD : Hid (DInv W wr B 6 L len i (.slice vao (len i + j) vcap) j) := hD
            clear hD
            by_cases hlk : j < 40
            · have HO : Hid (∀ o, (wr.alloc o).ownsRow B 5 1 (.slice vao (len i + j) vcap) (len i + j) ((marks i (len i) ++ tails j).map bv)) := fun o => HD.out.cur.alloc o
              have HZ : Hid (B ≤ wr.heap.size) := Nat.le_trans H0.out.base HD.out.kept.size
              go_wp2_with (at_builtin; refine wpList_append_three _ rfl (.tmp 154) (.tmp 155) 25 rfl B 5 i0 (.int .u8 0) 1 Tryd.underlying25 hi hz0 hz1 hz2 rfl (.slice vao (len i + j) vcap) (len i + j) ((marks i (len i) ++ tails j).map bv) rfl (HO.out _) ⟨wr.heap.size, 0, none⟩ 1 1 [.int .u8 99] rfl rfl (news_one wr _ _ _ rfl) (by simp [Value.oneCell']) (by unfold maxLen; omega) (by omega) (by have := HZ.out; simp; omega) ?_)
              intro ao2' cap2' w1 ho hf
              have HN : Hid (DInv W w1 B 6 L len i (.slice ao2' (len i + j + 1) cap2') (j + 1)) := DInv.grow H0.out hlt HD.out ((Below.refl wr.heap.size wr).alloc (Nat.le_refl _) (.cells #[.int .u8 99] 5)) (by rw [List.map_append, List.append_assoc]; exact ho) (hf.imp id (And.imp_left fun h g hg => by have := h g hg; simpa using this))
              clear ho hf
              go_wp2
              go_roundw
              case rel => exact ⟨j + 1, by omega, by go_num, HN.out⟩
              case measure => simp [intOf]; omega
            · have hk7 : j = 40 := by omega
              subst hk7
              have HN : Hid (CInv W wr B 6 L len) := HD.out.finish
              clear HD
              have hw6 : IntKind.i64.wrap ((gr : Int) + ((len i + 40 : Nat) : Int)) = ((gr + (len i + 40) : Nat) : Int) := by rw [IntKind.wrap_i64]; omega
              have hw7 : IntKind.i64.wrap ((gr : Int) + ((len i : Int) + 40)) = ((gr + (len i + 40) : Nat) : Int) := by rw [IntKind.wrap_i64]; omega
              go_wp2
              go_roundw
              case rel => exact ⟨i + 1, gr + (len i + 40), by omega, by go_num, by first | rfl | (congr 1; omega) | go_num, by omega, by omega, HN.out⟩
              case measure => simp [intOf]; omega
        · have hin' : i = 6 := by omega
          have n62 : decide ((i : Int) < 6) = false := by simp; omega
          have hg3 : 240 ≤ gr := by omega
          have HG3 : Hid (240 ≤ gr ∧ gr ≤ 26388279066864) := ⟨by omega, by omega⟩
          clear hin hin' hg1 hg2 hg3
          go_wp2
          clear n62 hlt
          go_loopw [26] (fun iv wr2 => ∃ (i q : Nat), i ≤ 6 ∧ iv = .int .i64 i ∧ wr2 = wr.drewN q) (fun iv _ => 6 - (intOf iv).toNat)
          case atStart => exact ⟨0, 0, Nat.zero_le _, rfl, rfl⟩
          case round =>
            rename_i wrr
            obtain ⟨i, q, hin, rfl, rfl⟩ := hrel
            by_cases hlt : i < 6
            · have n6t : decide ((i : Int) < 6) = true := by simp; omega
              obtain ⟨ao, cap, hL, hpo⟩ := H0.out.form i hlt
              have HPos : Hid (0 < len i → ∃ g, ao = some ⟨g, 0, none⟩) := hpo
              have hsm := H0.out.small i hlt
              have hcl : wr.cell? ⟨lb, i, none⟩ = some (.slice ao (len i) cap) := by have := H0.out.cellIn HC.out.kept i hlt; rw [Nat.zero_add, hL] at this; exact this
              have HRd : Hid (∀ g, ao = some ⟨g, 0, none⟩ → ∀ k, k < len i → wr.cell? ⟨g, k, none⟩ = some (.int .u8 (((i + 1) % 256 : Nat) : Int))) := fun g hg k hk => HC.out.read hlt (by rw [hL, hg]) hk
              clear hL hpo
              generalize len i = m at *
              go_wp2
              go_loopw [27] (fun kv wr2 => ∃ (k q : Nat), k ≤ m ∧ kv = .int .i64 k ∧ wr2 = wr.drewN q) (fun kv _ => m - (intOf kv).toNat)
              case atStart => exact ⟨0, _, Nat.zero_le _, rfl, rfl⟩
              case round =>
                obtain ⟨j, q, hj, rfl, rfl⟩ := hrel
                by_cases hlk : j < m
                · obtain ⟨g, rfl⟩ := HPos.out (by omega)
                  have hy := HRd.out g rfl j hlk
                  have hv := mkb_val i
                  go_wp2
                  go_roundw
                  case rel => exact ⟨j + 1, _, by omega, by go_num, rfl⟩
                  case measure => simp [intOf]; omega
                · go_wp2
                  go_roundw
                  case rel => exact ⟨i + 1, _, by omega, by go_num, rfl⟩
                  case measure => simp [intOf]; omega
            · have n63 : decide ((i : Int) < 6) = false := by simp; omega
              have HBw : Hid (Below B W (wr.drewN q)) := by
                have h1 := HC.out.kept.below HOw.out.2 (fun g hg ⟨i, hi', e⟩ => by obtain ⟨C', ho⟩ := H0.out.own i hi'; have := (owns_lt ho g e).2; omega)
                exact ⟨h1.os, h1.tape, h1.output, h1.size, h1.block⟩
              have HC5 : Hid (∀ W', Below (wr.drewN q).heap.size (wr.drewN q) W' → ((W'.cell? ⟨w.heap.size, 0, none⟩ = some (.int .u16 (f : Int)) ∧ W'.cell? ⟨w.heap.size, 1, none⟩ = some (.int .u16 (t : Int))) ∧ W'.cell? ⟨w.heap.size, 2, none⟩ = some (.int .u64 (ck : Int))) ∧ W'.cell? ⟨w.heap.size, 3, none⟩ = some (.int .u64 (o : Int)) ∧ W'.cell? ⟨w.heap.size, 4, none⟩ = some (.slice da k dcap)) := fun W' hb => by
                have q0 := HOw.out.1.box (w.heap.size, #[.int .u16 (f : Int), .int .u16 (t : Int), .int .u64 (ck : Int), .int .u64 (o : Int), .slice da k dcap], 85) (by simp)
                have q1 : (wr.drewN q).heap[w.heap.size]? = some (.cells #[.int .u16 (f : Int), .int .u16 (t : Int), .int .u64 (ck : Int), .int .u64 (o : Int), .slice da k dcap] 85 (0, 0)) := by rw [HBw.out.block w.heap.size (by have := HQ0.out; omega)]; exact q0
                have q2 := box_later q1 hb
                exact ⟨⟨⟨blk_at q2 0, blk_at q2 1⟩, blk_at q2 2⟩, blk_at q2 3, blk_at q2 4⟩
              have HWw : Hid (Below w.heap.size w (wr.drewN q)) := HOw.out.1.bel.trans (HBw.out.mono (by have := HQ0.out; omega))
              have g64 : decide ((64 : Int) ≤ (gr : Int)) = true := by have := HG3.out.1; simp; omega
              clear HC HBw HOw H0
              go_wp2
              
              generalize wr.drewN q = Wz at *
              obtain ⟨⟨⟨y0, y1⟩, y2⟩, y3, y4⟩ := HC5.out Wz (Below.refl _ _)
              go_region_held3 (fun w' => ((w'.cell? ⟨w.heap.size, 0, none⟩ = some (.int .u16 (f : Int)) ∧ w'.cell? ⟨w.heap.size, 1, none⟩ = some (.int .u16 (t : Int))) ∧ w'.cell? ⟨w.heap.size, 2, none⟩ = some (.int .u64 (ck : Int))) ∧ w'.cell? ⟨w.heap.size, 3, none⟩ = some (.int .u64 (o : Int)) ∧ w'.cell? ⟨w.heap.size, 4, none⟩ = some (.slice da k dcap)) (first | exact HC5.out _ Q4.out | exact HC5.out _ Q3.out | exact HC5.out _ Q2.out | exact HC5.out _ Q1.out | go_keep) (first | (go_at_call 27; refine (HE.out Wz.drew ⟨HWw.out.os, HWw.out.tape, HWw.out.output, HWw.out.size, HWw.out.block⟩).mono ?_; rintro e w1 ⟨p1, k1, rfl, r1, b1⟩; have Q1 : Hid (Below Wz.heap.size Wz w1) := ⟨b1.os, b1.tape, b1.output, b1.size, b1.block⟩; have R1 : Hid _ := r1; clear r1 b1) | (go_at_call 30; refine (HF.out _ (HWw.out.trans (Q1.out.mono HWw.out.size))).mono ?_; rintro e w2 ⟨p2, k2, rfl, r2, b2⟩; have Q2 : Hid (Below Wz.heap.size Wz w2) := Q1.out.trans (b2.mono Q1.out.size); have R2 : Hid _ := r2; have R1b : Hid _ := R1.out.later b2; clear r2 b2) | (go_at_call 9; refine (HS.out _ _ _ _ _ nA A (R1b.out.brow (by omega)) (R2.out.brow (by omega)) HNA.out).mono ?_; rintro e w3 ⟨rfl, b3⟩; have Q3 : Hid (Below Wz.heap.size Wz w3) := Q2.out.trans (b3.mono Q2.out.size); clear b3) | (go_at_call 10; refine (HAl.out _ (HTb.out.later (HWw.out.trans (Q3.out.mono HWw.out.size)))).mono ?_; rintro e w4 ⟨rfl, b4⟩; have Q4 : Hid (Below Wz.heap.size Wz w4) := Q3.out.trans (b4.mono Q3.out.size); clear b4))
              clear y0 y1 y2 y3 y4
              go_wp2
              go_ret
              exact ⟨rfl, HWw.out.trans (Q4.out.mono HWw.out.size)⟩
end Go.Proofs.YtjikibhhhchgeaaDoor
