import Derived.Test.YtoabigjajnikcaaTB
import Derived.Laws.Tables
namespace Go.Proofs.Ytoabigjajnikcaa
open Go.RowKit Go.Maps
attribute [local go_sem] Oper.semAt_some
set_option linter.unusedVariables false
set_option linter.unusedSimpArgs false
set_option maxRecDepth 100000

theorem below1 (w : World) (o : Obj) : Below w.heap.size w (w.alloc o) := (Below.refl _ _).alloc (Nat.le_refl _) _
theorem below_drewN (w : World) (q : Nat) : Below w.heap.size w (w.drewN q) := ⟨rfl, rfl, rfl, Nat.le_refl _, fun _ _ => rfl⟩
theorem size1 (w : World) (o : Obj) : (w.alloc o).heap.size = w.heap.size + 1 := by simp
theorem keptIn_set (W : World) (g j : Nat) (v : Value) : KeptIn (fun k => k = g) W (W.setCell ⟨g, j, none⟩ v) := ⟨rfl, rfl, rfl, Nat.le_of_eq (by simp), fun k _ hn => Below.heap_setCell _ _ _ _ hn⟩
theorem put_box {W : World} {b : Nat} {cs : Array Value} {t : TypeId} (h : W.heap[b]? = some (.cells cs t (0, 0))) (j : Nat) (v : Value) {cs' : Array Value} (hcs : cs.setIfInBounds j v = cs') : (W.setCell ⟨b, j, none⟩ v).heap[b]? = some (.cells cs' t (0, 0)) := by
  rw [heap_setCell_same W b j cs t v h, hcs]
set_option maxHeartbeats 1000000 in
theorem new_any (w : World) (m : Nat) (h1 : 1 ≤ m) (h2 : m ≤ 64) : Calls Try.prog 16 #[.int .i64 m] w fun r w' => ∃ b, r = .returned (.tuple #[.pointer (some ⟨b, 0, none⟩), .int .i64 0]) ∧ ∃ bm, RT w' (fun _ => False) b bm (fun _ => undef) (newS m) ∧ Below w.heap.size w w' ∧ w.heap.size ≤ b ∧ w.heap.size ≤ bm := by
  have hmk := fun (w : World) => run_makeMap (P := Try.prog) TMp w
  have z1 : ¬ (m : Int) < 1 := by omega
  have z2 : ¬ (64 : Int) < m := by omega
  go_enter Try.func16, Try.ntmps16
  go_wp2
  go_ret2
  have H : Hid (∀ (d : Obj), ((w.alloc (.map #[] 0)).alloc d).heap[w.heap.size]? = some (.map #[] 0) ∧ ((w.alloc (.map #[] 0)).alloc d).heap[w.heap.size + 1]? = some d ∧ Below w.heap.size w ((w.alloc (.map #[] 0)).alloc d)) := by
    intro d
    have s1 : (w.alloc (.map #[] 0)).heap.size = w.heap.size + 1 := World.size_alloc _ _
    refine ⟨?_, ?_, ?_⟩
    · rw [Below.heap_alloc _ _ _ (by omega), heap_alloc_new]
    · rw [← s1, heap_alloc_new]
    · exact ((Below.refl _ w).alloc (Nat.le_refl _) _).alloc (by omega) _
  refine ⟨w.heap.size + 1, rfl, w.heap.size, ⟨fun _ h => h.elim, fun h => h, fun h => h, (H.out _).2.1, ?_, by simp [newS], newS_ok h1 h2⟩, (H.out _).2.2, by omega, by omega⟩
  · exact ⟨#[], 0, (H.out _).1, ⟨by simp, ⟨by simp, by simp, by simp⟩, by simp⟩, Nat.le_refl _, rfl⟩
theorem eql_nil (w : World) : (binOp .eql 42 (.slice none 0 0) (.slice none 0 0)).run Try.prog w = .ok (.bool true) w := run_eql_nil_slice w 42 5 none 0 0 0 0 Try.underlying42
theorem clone_nil (w : World) : Calls Try.prog 36 #[.slice none 0 0] w fun e w' => e = .returned (.slice none 0 0) ∧ w' = w := by
  have he := eql_nil
  go_enter Try.func36, Try.ntmps36
  go_wp2
  go_ret
  exact ⟨rfl, rfl⟩
set_option maxHeartbeats 1000000 in
theorem clone_some (ad : Addr) (cap n : Nat) (l : List Nat) (w : World) (h : BRow w (some ad) cap l) (HN : Hid (l.length = n)) (hn : n ≤ 140737488351232) :
    Calls Try.prog 36 #[.slice (some ad) n cap] w fun e w' => ∃ v, e = .returned v ∧ w'.ownsRow w.heap.size 5 1 v n (l.map bv) ∧ Below w.heap.size w w' := by
  obtain ⟨i0, hi, hz0, hz1, hz2⟩ := info_parts Try.info5
  have he : ∀ w : World, (binOp .eql 42 (.slice (some ad) n cap) (.slice none 0 0)).run Try.prog w = .ok (.bool false) w := fun w => Lib.run_eql_slice_nil w 42 5 (some ad) n cap 0 0 Try.underlying42
  have HB : Hid (∀ o, BRow (w.alloc o) (some ad) cap l) := fun o => h.later ((Below.refl _ _).alloc (Nat.le_refl _) o)
  have HO : Hid ((w.alloc (.cells #[] 5)).ownsRow w.heap.size 5 1 (.slice (some ⟨w.heap.size, 0, none⟩) 0 0) 0 []) :=
    World.ownsRow_lit w #[] 0 (Nat.le_refl _) (Nat.zero_le _) rfl
  clear h
  go_enter Try.func36, Try.ntmps36
  go_wp2_with (at_builtin; refine wpList_append_two _ rfl (.tmp 5) (.tmp 6) 42 rfl w.heap.size 5 i0 (.int .u8 0) 1 Try.underlying42 hi hz0 hz1 hz2 rfl _ 0 [] rfl HO.out (some ad) n cap (l.map bv) rfl (by simp) (by rw [List.length_map]; exact HN.out) (HB.out _).news (bv_one l) (by unfold maxLen; omega) (by omega) (by simp) ?_)
  intro v' w1 ho hg hf
  have hb : Below w.heap.size w w1 := ((Below.refl _ _).alloc (Nat.le_refl _) _).grown hg (by simp) (by intro k hk; simp [Value.ownBlock] at hk; omega)
  clear hg hf
  go_wp2
  go_ret
  exact ⟨_, rfl, ho, hb⟩
theorem clone_any (ao : Option Addr) (cap n : Nat) (l : List Nat) (w : World) (h : BRow w ao cap l) (hn : l.length = n) :
    Calls Try.prog 36 #[.slice ao n cap] w fun e w' => ∃ ao' cap', e = .returned (.slice ao' n cap') ∧ w'.ownsRow w.heap.size 5 1 (.slice ao' n cap') n (l.map bv) ∧ Below w.heap.size w w' := by
  subst hn
  cases ao with
  | none =>
    obtain ⟨rfl, rfl⟩ := h.nil rfl
    exact (clone_nil w).mono fun e w' hh => ⟨none, 0, hh.1, World.ownsRow_nil _ _ _ _, by rw [hh.2]; exact Below.refl _ _⟩
  | some ad =>
    refine (clone_some ad cap l.length l w h rfl h.len).mono fun e w' ⟨v, he, ho, hb⟩ => ?_
    obtain ⟨ao', cap', rfl⟩ := owns_form ho
    exact ⟨ao', cap', he, ho, hb⟩
/-- an entry as a value whose bytes are rows of its own, from B on -/
structure OV (w : World) (B : Nat) (e : En) (da : Option Addr) (dc : Nat) (aa : Option Addr) (ac : Nat) : Prop where
  d : w.ownsRow B 5 1 (.slice da e.rq.data.length dc) e.rq.data.length (e.rq.data.map bv)
  a : w.ownsRow B 5 1 (.slice aa e.an.length ac) e.an.length (e.an.map bv)
  dlt : ∀ x ∈ e.rq.data, x < 256
  alt : ∀ x ∈ e.an, x < 256
  dlen : e.rq.data.length ≤ 140737488351232
  alen : e.an.length ≤ 140737488351232
  sep : ∀ p q, da = some p → aa = some q → p.block ≠ q.block
theorem OV.lt {w : World} {B : Nat} {e : En} {da aa : Option Addr} {dc ac : Nat} (h : OV w B e da dc aa ac) : (∀ p, da = some p → B ≤ p.block ∧ p.block < w.heap.size) ∧ (∀ p, aa = some p → B ≤ p.block ∧ p.block < w.heap.size) :=
  ⟨fun p hp => by subst hp; have := owns_lt h.d p.block rfl; omega, fun p hp => by subst hp; have := owns_lt h.a p.block rfl; omega⟩
theorem OV.same {w w' : World} {B : Nat} {e : En} {da aa : Option Addr} {dc ac : Nat} (h : OV w B e da dc aa ac) (hd : ∀ p, da = some p → w'.heap[p.block]? = w.heap[p.block]?) (ha : ∀ p, aa = some p → w'.heap[p.block]? = w.heap[p.block]?) : OV w' B e da dc aa ac := by
  refine ⟨owns_same h.d fun g hg => ?_, owns_same h.a fun g hg => ?_, h.dlt, h.alt, h.dlen, h.alen, h.sep⟩
  · cases da with
    | none => simp [Value.ownBlock] at hg
    | some p => simp [Value.ownBlock] at hg; subst hg; exact hd p rfl
  · cases aa with
    | none => simp [Value.ownBlock] at hg
    | some p => simp [Value.ownBlock] at hg; subst hg; exact ha p rfl
theorem OV.later {w w' : World} {B : Nat} {e : En} {da aa : Option Addr} {dc ac : Nat} (h : OV w B e da dc aa ac) (hb : Below w.heap.size w w') : OV w' B e da dc aa ac :=
  h.same (fun p hp => hb.block _ (h.lt.1 p hp).2) (fun p hp => hb.block _ (h.lt.2 p hp).2)
theorem OV.pv {w : World} {B : Nat} {e : En} {da aa : Option Addr} {dc ac : Nat} (h : OV w B e da dc aa ac) {F : Nat → Prop} (hF : ∀ g, B ≤ g → g < w.heap.size → F g) : PV w F (.agg (ecl e da dc aa ac).toArray) e := by
  obtain ⟨d1, d2, e1, r1⟩ := FRow.own (F := F) h.d h.dlt h.dlen (fun g hg => by have := owns_lt h.d g hg; exact hF g this.2 this.1)
  obtain ⟨a1, a2, e2, r2⟩ := FRow.own (F := F) h.a h.alt h.alen (fun g hg => by have := owns_lt h.a g hg; exact hF g this.2 this.1)
  simp only [Value.slice.injEq] at e1 e2
  obtain ⟨rfl, _, rfl⟩ := e1
  obtain ⟨rfl, _, rfl⟩ := e2
  exact ⟨da, dc, aa, ac, rfl, r1, r2⟩
theorem oneEcl (e : En) (da aa : Option Addr) (dc ac : Nat) : (ecl e da dc aa ac).toArray.all (·.oneCell') = true := by simp [ecl, Value.oneCell']
theorem below_row {B g : Nat} {w0 w : World} (hb : Below B w0 w) (hBg : B ≤ g) (cs : Array Value) : Below B w0 (w.setRow g cs) :=
  hb.trans ⟨rfl, rfl, rfl, by simp [World.setRow], fun k hk => setRow_other w g k cs (by omega)⟩
structure Bx1 (w W : World) (A : Array Value) (tA : TypeId) : Prop where
  bel : Below w.heap.size w W
  a : W.heap[w.heap.size]? = some (.cells A tA (0, 0))
  size : w.heap.size + 1 ≤ W.heap.size
structure Bx2 (w W : World) (A B : Array Value) (tA tB : TypeId) : Prop where
  bel : Below w.heap.size w W
  a : W.heap[w.heap.size]? = some (.cells A tA (0, 0))
  b : W.heap[w.heap.size + 1]? = some (.cells B tB (0, 0))
  size : w.heap.size + 2 ≤ W.heap.size
theorem mkb1 (w : World) (A : Array Value) (tA : TypeId) : Bx1 w (w.alloc (.cells A tA)) A tA := ⟨below1 w _, heap_new w _, by rw [size1]; omega⟩
theorem mkb2 (w : World) (A B : Array Value) (tA tB : TypeId) : Bx2 w ((w.alloc (.cells A tA)).alloc (.cells B tB)) A B tA tB := by
  have h := mkb1 w A tA
  have k := below1 (w.alloc (.cells A tA)) (.cells B tB)
  refine ⟨h.bel.trans (k.mono (by rw [size1]; omega)), by rw [k.block _ (by rw [size1]; omega)]; exact h.a, ?_, by rw [size1, size1]; omega⟩
  have := heap_new (w.alloc (.cells A tA)) (.cells B tB)
  rwa [size1] at this
theorem Bx1.later {w W W' : World} {A : Array Value} {tA : TypeId} (h : Bx1 w W A tA) (k : Below W.heap.size W W') : Bx1 w W' A tA :=
  ⟨h.bel.trans (k.mono h.bel.size), by rw [k.block _ (by have := h.size; omega)]; exact h.a, Nat.le_trans h.size k.size⟩
theorem Bx2.later {w W W' : World} {A B : Array Value} {tA tB : TypeId} (h : Bx2 w W A B tA tB) (k : Below W.heap.size W W') : Bx2 w W' A B tA tB :=
  ⟨h.bel.trans (k.mono h.bel.size), by rw [k.block _ (by have := h.size; omega)]; exact h.a, by rw [k.block _ (by have := h.size; omega)]; exact h.b, Nat.le_trans h.size k.size⟩
theorem Bx2.put {w W : World} {A B A' : Array Value} {tA tB : TypeId} (h : Bx2 w W A B tA tB) (j : Nat) (v : Value) (hA : A.setIfInBounds j v = A') : Bx2 w (W.setCell ⟨w.heap.size, j, none⟩ v) A' B tA tB :=
  ⟨h.bel.setCell (by simp) _, put_box h.a j v hA, by rw [Below.heap_setCell _ _ _ _ (by simp)]; exact h.b, by simp; exact h.size⟩
set_option maxHeartbeats 2000000 in
theorem copied_any {w : World} {F : Nat → Prop} {v : Value} {e : En} (h : PV w F v e) : Calls Try.prog 34 #[v] w fun r w' => ∃ da dc aa ac, r = .returned (.agg (ecl e da dc aa ac).toArray) ∧ OV w' w.heap.size e da dc aa ac ∧ Below w.heap.size w w' := by
  obtain ⟨da, dc, aa, ac, rfl, r1, r2⟩ := h.ex
  clear h
  obtain ⟨n1, hn1⟩ : ∃ n, e.rq.data.length = n := ⟨_, rfl⟩
  obtain ⟨n2, hn2⟩ : ∃ n, e.an.length = n := ⟨_, rfl⟩
  have HN1 : Hid _ := hn1
  have HN2 : Hid _ := hn2
  have R1 : Hid _ := r1
  have R2 : Hid _ := r2
  simp only [ecl, hn1, hn2]
  clear r1 r2 hn1 hn2
  go_enter Try.func34, Try.ntmps34
  go_wp2_with fail
  have B0 := mkb2 w #[.int .i64 e.id, .int .u16 e.rq.fl, .int .u16 e.rq.ty, .int .u64 e.rq.ck, .int .u64 e.rq.off, .int .u64 e.rq.len, .slice da n1 dc, .bool e.rd, .slice aa n2 ac] #[.int .i64 0, .int .u16 0, .int .u16 0, .int .u64 0, .int .u64 0, .int .u64 0, .slice none 0 0, .bool false, .slice none 0 0] 56 56
  have HB0 : Hid _ := B0
  refine (clone_any da dc n1 e.rq.data _ (R1.out.row.later B0.bel) HN1.out).mono ?_
  rintro r w1 ⟨a1, c1, rfl, ho1, hb1⟩
  have B1 := B0.later hb1
  have x6 : w1.frozen? ⟨w.heap.size, 6, none⟩ = false := blk_free B1.a 6
  have x8 : w1.cell? ⟨w.heap.size, 8, none⟩ = some (.slice aa n2 ac) := (blk_at B1.a 8).trans rfl
  have y6 : w1.cell? ⟨w.heap.size, 6, none⟩ = some (.slice da n1 dc) := (blk_at B1.a 6).trans rfl
  have HB1 : Hid _ := B1
  have HO1 : Hid (w1.ownsRow (w.heap.size + 2) 5 1 (.slice a1 n1 c1) n1 (e.rq.data.map bv)) := by
    show World.ownsRow _ _ _ _ _ _ _
    have := ho1
    rwa [size1, size1] at this
  clear B0 B1 ho1 hb1 HB0
  go_wp2_with fail
  have B2 := HB1.out.put 6 (.slice a1 n1 c1) (A' := #[.int .i64 e.id, .int .u16 e.rq.fl, .int .u16 e.rq.ty, .int .u64 e.rq.ck, .int .u64 e.rq.off, .int .u64 e.rq.len, .slice a1 n1 c1, .bool e.rd, .slice aa n2 ac]) rfl
  refine (clone_any aa ac n2 e.an _ (R2.out.row.later B2.bel) HN2.out).mono ?_
  rintro r w2 ⟨a2, c2, rfl, ho2, hb2⟩
  have HO1' : Hid (w2.ownsRow (w.heap.size + 2) 5 1 (.slice a1 n1 c1) n1 (e.rq.data.map bv)) := owns_same HO1.out fun g hg => by
    have := owns_lt HO1.out g hg
    rw [hb2.block g (by simp; omega), Below.heap_setCell _ _ _ _ (by simp; omega)]
  have hsz : w.heap.size + 2 ≤ w1.heap.size := HB1.out.size
  have HO2 : Hid (w2.ownsRow w1.heap.size 5 1 (.slice a2 n2 c2) n2 (e.an.map bv)) := by
    show World.ownsRow _ _ _ _ _ _ _
    have := ho2
    simpa using this
  have B3 := B2.later hb2
  have HSep : Hid (∀ p q, a1 = some p → a2 = some q → p.block ≠ q.block) := fun p q hp hq => by
    subst hp hq
    have h1 := owns_lt HO1.out p.block rfl
    have h2 := owns_lt HO2.out q.block rfl
    omega
  have z8 : w2.frozen? ⟨w.heap.size, 8, none⟩ = false := blk_free B3.a 8
  have y8 : w2.cell? ⟨w.heap.size, 8, none⟩ = some (.slice aa n2 ac) := (blk_at B3.a 8).trans rfl
  have HB4 : Hid _ := B3.put 8 (.slice a2 n2 c2) (A' := #[.int .i64 e.id, .int .u16 e.rq.fl, .int .u16 e.rq.ty, .int .u64 e.rq.ck, .int .u64 e.rq.off, .int .u64 e.rq.len, .slice a1 n1 c1, .bool e.rd, .slice a2 n2 c2]) rfl
  have HBl : Hid _ := B3.bel
  clear B2 B3 ho2 hb2 HB1 HO1
  go_wp2_with (first | (refine wpList_load_row rfl TEn _ rfl w.heap.size rfl 56 #[.int .i64 e.id, .int .u16 e.rq.fl, .int .u16 e.rq.ty, .int .u64 e.rq.ck, .int .u64 e.rq.off, .int .u64 e.rq.len, .slice a1 n1 c1, .bool e.rd, .slice a2 n2 c2] (0, 0) _ HB4.out.a Try.underlying56 rfl infoEn ?_) | (refine wpList_store_row rfl TEn _ _ rfl (w.heap.size + 1) #[.int .i64 e.id, .int .u16 e.rq.fl, .int .u16 e.rq.ty, .int .u64 e.rq.ck, .int .u64 e.rq.off, .int .u64 e.rq.len, .slice a1 n1 c1, .bool e.rd, .slice a2 n2 c2] rfl rfl 56 _ HB4.out.b infoEn rfl (by simp [Value.oneCell']) ?_))
  have hfin := setRow_heap (w2.setCell ⟨w.heap.size, 8, none⟩ (.slice a2 n2 c2)) (w.heap.size + 1) _ #[.int .i64 e.id, .int .u16 e.rq.fl, .int .u16 e.rq.ty, .int .u64 e.rq.ck, .int .u64 e.rq.off, .int .u64 e.rq.len, .slice a1 n1 c1, .bool e.rd, .slice a2 n2 c2] 56 _ HB4.out.b
  refine bodyPost_ret (results_cell_one rfl _ _ (w.heap.size + 1) 56 #[.int .i64 e.id, .int .u16 e.rq.fl, .int .u16 e.rq.ty, .int .u64 e.rq.ck, .int .u64 e.rq.off, .int .u64 e.rq.len, .slice a1 n1 c1, .bool e.rd, .slice a2 n2 c2] (0, 0) _ rfl hfin Try.underlying56 rfl infoEn) rfl ?_
  have hoth : ∀ g, g ≠ w.heap.size → g ≠ w.heap.size + 1 → ((w2.setCell ⟨w.heap.size, 8, none⟩ (.slice a2 n2 c2)).setRow (w.heap.size + 1) #[.int .i64 e.id, .int .u16 e.rq.fl, .int .u16 e.rq.ty, .int .u64 e.rq.ck, .int .u64 e.rq.off, .int .u64 e.rq.len, .slice a1 n1 c1, .bool e.rd, .slice a2 n2 c2]).heap[g]? = w2.heap[g]? := fun g h1 h2 => by
    rw [setRow_other _ _ _ _ h2, Below.heap_setCell _ _ _ _ h1]
  refine ⟨a1, c1, a2, c2, by first | rfl | rw [HN1.out, HN2.out], ⟨?_, ?_, R1.out.row.lt, R2.out.row.lt, R1.out.row.len, R2.out.row.len, HSep.out⟩, ?_⟩
  · rw [HN1.out]
    refine owns_mono (owns_same HO1'.out fun g hg => ?_) (b' := w.heap.size) (by omega)
    have := owns_lt HO1'.out g hg
    exact hoth g (by omega) (by omega)
  · rw [HN2.out]
    refine owns_mono (owns_same HO2.out fun g hg => ?_) (b' := w.heap.size) (by omega)
    have := owns_lt HO2.out g hg
    exact hoth g (by omega) (by omega)
  · exact below_row (HBl.out.setCell (by simp) _) (by omega) _
end Go.Proofs.Ytoabigjajnikcaa
