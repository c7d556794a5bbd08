import Derived.Test.YtjkoambfecmglaaJS
import Derived.Test.YtjkoambfecmglaaJK
import Derived.Laws.Runes
import Derived.Laws.Rows
namespace Go.Proofs.Ytjkoambfecmglaa
open Go.RowKit
set_option linter.unusedVariables false
set_option linter.unusedSimpArgs false
set_option maxRecDepth 100000
theorem u64_rem (a : Int) (m : Nat) : ∃ r : Nat, r ≤ m ∧ (IntKind.u64.wrap a).tmod ((m : Int) + 1) = (r : Int) := by
  have h0 : 0 ≤ IntKind.u64.wrap a := by
    unfold IntKind.wrap
    simp [IntKind.bits, IntKind.signed]
    omega
  rw [Int.tmod_eq_emod_of_nonneg h0]
  have h1 := Int.emod_nonneg (IntKind.u64.wrap a) (show ((m : Int) + 1) ≠ 0 by omega)
  have h2 := Int.emod_lt_of_pos (IntKind.u64.wrap a) (show 0 < ((m : Int) + 1) by omega)
  exact ⟨(IntKind.u64.wrap a % ((m : Int) + 1)).toNat, by omega, by omega⟩
/-- an operation that was brought into what may be -/
structure FitQ (n : Nat) (q : Opv) (ds : List Nat) : Prop where
  fr : q.fr = 0
  to : q.to_ = -1
  sy : q.sy = false
  k1 : 1 ≤ q.k
  k4 : q.k ≤ 4
  off0 : 0 ≤ q.off
  len0 : 0 ≤ q.len
  inn : q.off + q.len ≤ (n : Int)
  fl : q.k = 4 → q.off = 0 ∧ q.len = 0
  dl : ds.length = q.n
  w : q.k = 2 → (q.n : Int) = q.len
  o : q.k ≠ 2 → q.n = 0
theorem FitQ.askd {n : Nat} {q : Opv} {ds : List Nat} (h : FitQ n q ds) (t : Nat) : Askd n (t + 1) 1 ⟨q.k, (t : Int), q.to_, q.off, q.len, q.da, q.n, q.dc, q.sy⟩ ds where
  k1 := h.k1
  k4 := h.k4
  fr0 := by show (0 : Int) ≤ (t : Int); omega
  frt := by show (t : Int) < ((t + 1 : Nat) : Int); omega
  off0 := h.off0
  len0 := h.len0
  inn := h.inn
  fl := h.fl
  dl := h.dl
  w := h.w
  r1 e _ := h.o (by have e' : q.k = 1 := e; omega)
  r2 _ e := absurd e (by decide)
  o e := h.o (by rcases e with e | e <;> (have e' := e; simp only at e'; omega))
  un _ := ⟨h.to, h.sy⟩
  an e := absurd e (by decide)
  sy e := by have := h.sy; rw [this] at e; cases e
def FitEnd (n : Nat) (w : World) (e : Ending) (w' : World) : Prop := ∃ (q : Opv) (ds : List Nat), e = .returned (.agg q.cells) ∧ FitQ n q ds ∧ BRow w' q.da q.dc ds ∧ q.n ≤ q.dc ∧ (∀ a, q.da = some a → w.heap.size ≤ a.block ∧ a.block < w'.heap.size) ∧ Below w.heap.size w w'
theorem FitEnd.mk {n : Nat} {w w' : World} {e : Ending} (q : Opv) (ds : List Nat) (h1 : e = .returned (.agg q.cells)) (h2 : FitQ n q ds) (h3 : BRow w' q.da q.dc ds) (h6 : q.n ≤ q.dc) (h4 : ∀ a, q.da = some a → w.heap.size ≤ a.block ∧ a.block < w'.heap.size) (h5 : Below w.heap.size w w') : FitEnd n w e w' := ⟨q, ds, h1, h2, h3, h6, h4, h5⟩
theorem info50s : (Try.prog.info? 50).map (·.size) = some 7 := by kernel_rfl
theorem below3 (w : World) (a b c : Obj) : Below w.heap.size w (((w.alloc a).alloc b).alloc c) := (((Below.refl _ w).alloc (Nat.le_refl _) _).alloc (by simp) _).alloc (by simp; omega) _
theorem alloc3_mid (w : World) (a b c : Obj) : (((w.alloc a).alloc b).alloc c).heap[w.heap.size + 1]? = some b := by
  have e : ((w.alloc a).alloc b).heap[w.heap.size + 1]? = some b := by
    have := heap_new (w.alloc a) b
    simpa using this
  have hb : Below ((w.alloc a).alloc b).heap.size ((w.alloc a).alloc b) (((w.alloc a).alloc b).alloc c) := (Below.refl _ _).alloc (Nat.le_refl _) c
  exact (hb.block _ (by simp)).trans e
/-- a result in a box -/
theorem results_cell_one {P : Program} {fn : Func} {p : Tmp} {ty : TypeId} (h : fn.results = #[.cell p ty]) (tmps : Array Value) (w : World) (g : Nat) (t : TypeId) (cs : Array Value) (fr : Nat × Nat) (d : TypeDesc)
    (hp : tmps.getD p undef = .pointer (some ⟨g, 0, none⟩)) (hg : w.heap[g]? = some (.cells cs t fr))
    (hu : P.underlying ty = some d) (hd : (match d with | .struct _ | .array _ _ => true | _ => false) = true) (hi : (P.info? ty).map (·.size) = some cs.size) :
    (results fn tmps).run P w = .ok (.agg cs) w := by
  have hp' : tmps[p]?.getD undef = .pointer (some ⟨g, 0, none⟩) := by simpa using hp
  simp [results, h, hp', asAddr, Sem.run_bind, Result.andThen, run_loadVar_row w g t ty cs fr d hg hu hd hi]
theorem u8_wrap (i : Nat) : ∃ y : Nat, y < 256 ∧ IntKind.u8.wrap ((i : Int) + 1) = (y : Int) := by
  refine ⟨(i + 1) % 256, Nat.mod_lt _ (by decide), ?_⟩
  unfold IntKind.wrap
  simp [IntKind.bits, IntKind.signed]
/-- the boxes of a fitting, and the row that is being written -/
structure Ft (w W : World) (a z c : Array Value) (x : Nat) (ds : List Nat) : Prop where
  bel : Below w.heap.size w W
  a : W.heap[w.heap.size]? = some (.cells a 50 (0, 0))
  z : W.heap[w.heap.size + 1]? = some (.cells z 50 (0, 0))
  c : W.heap[w.heap.size + 1 + 1]? = some (.cells c 50 (0, 0))
  row : W.ownsRow w.heap.size 5 1 (.slice (some ⟨w.heap.size + 1 + 1 + 1, 0, none⟩) x x) x (ds.map bv)
  lt : ∀ b ∈ ds, b < 256
theorem Ft.dlen {w W : World} {a z c : Array Value} {x : Nat} {ds : List Nat} (h : Ft w W a z c x ds) : ds.length = x := by
  have := h.row.1; rw [List.length_map] at this; omega
theorem Ft.set {w W : World} {a z c : Array Value} {x i : Nat} {ds : List Nat} (h : Ft w W a z c x ds) (hi : i < x) (y : Nat) (hy : y < 256) : Ft w (W.setCell ⟨w.heap.size + 1 + 1 + 1, i, none⟩ (.int .u8 (y : Int))) a z c x (ds.set i y) where
  bel := h.bel.setCell (p := ⟨w.heap.size + 1 + 1 + 1, i, none⟩) (by show w.heap.size ≤ w.heap.size + 1 + 1 + 1; omega) _
  a := (Below.heap_setCell _ ⟨w.heap.size + 1 + 1 + 1, i, none⟩ _ _ (by show w.heap.size ≠ w.heap.size + 1 + 1 + 1; omega)).trans h.a
  z := (Below.heap_setCell _ ⟨w.heap.size + 1 + 1 + 1, i, none⟩ _ _ (by show w.heap.size + 1 ≠ w.heap.size + 1 + 1 + 1; omega)).trans h.z
  c := (Below.heap_setCell _ ⟨w.heap.size + 1 + 1 + 1, i, none⟩ _ _ (by show w.heap.size + 1 + 1 ≠ w.heap.size + 1 + 1 + 1; omega)).trans h.c
  row := by
    have := own_set h.row (bv y) hi
    rw [List.map_set]; exact this
  lt b hb := by
    rcases List.mem_or_eq_of_mem_set hb with h1 | h1
    · exact h.lt b h1
    · rw [h1]; exact hy
theorem Ft.drew {w W : World} {a z c : Array Value} {x : Nat} {ds : List Nat} (h : Ft w W a z c x ds) : Ft w W.drew a z c x ds :=
  ⟨h.bel.trans ⟨rfl, rfl, rfl, Nat.le_refl _, fun _ _ => rfl⟩, h.a, h.z, h.c, owns_same h.row fun _ _ => rfl, h.lt⟩
theorem ft_new (w : World) (a z c : Array Value) (x : Nat) (hx : x ≤ 4096) : Ft w ((((w.alloc (.cells a 50)).alloc (.cells z 50)).alloc (.cells c 50)).alloc (.cells (Array.replicate x (Value.int .u8 0)) 5)) a z c x (List.replicate x 0) := by
  have s1 : (w.alloc (.cells a 50)).heap.size = w.heap.size + 1 := World.size_alloc _ _
  have s2 : ((w.alloc (.cells a 50)).alloc (.cells z 50)).heap.size = w.heap.size + 1 + 1 := by rw [World.size_alloc, s1]
  have s3 : (((w.alloc (.cells a 50)).alloc (.cells z 50)).alloc (.cells c 50)).heap.size = w.heap.size + 1 + 1 + 1 := by rw [World.size_alloc, s2]
  have g1 : (w.alloc (.cells a 50)).heap[w.heap.size]? = some (.cells a 50 (0, 0)) := heap_new _ _
  have g2 : ((w.alloc (.cells a 50)).alloc (.cells z 50)).heap[w.heap.size + 1]? = some (.cells z 50 (0, 0)) := by rw [← s1]; exact heap_new _ _
  have g3 : (((w.alloc (.cells a 50)).alloc (.cells z 50)).alloc (.cells c 50)).heap[w.heap.size + 1 + 1]? = some (.cells c 50 (0, 0)) := by rw [← s2]; exact heap_new _ _
  have h2 : ((w.alloc (.cells a 50)).alloc (.cells z 50)).heap[w.heap.size]? = some (.cells a 50 (0, 0)) := by rw [Below.heap_alloc _ _ _ (by rw [s1]; omega)]; exact g1
  have h3 : (((w.alloc (.cells a 50)).alloc (.cells z 50)).alloc (.cells c 50)).heap[w.heap.size]? = some (.cells a 50 (0, 0)) := by rw [Below.heap_alloc _ _ _ (by rw [s2]; omega)]; exact h2
  have k3 : (((w.alloc (.cells a 50)).alloc (.cells z 50)).alloc (.cells c 50)).heap[w.heap.size + 1]? = some (.cells z 50 (0, 0)) := by rw [Below.heap_alloc _ _ _ (by rw [s2]; omega)]; exact g2
  refine ⟨(below3 _ _ _ _).alloc (by rw [s3]; omega) _, ?_, ?_, ?_, ?_, fun b hb => by rw [List.eq_of_mem_replicate hb]; decide⟩
  · rw [Below.heap_alloc _ _ _ (by rw [s3]; omega)]; exact h3
  · rw [Below.heap_alloc _ _ _ (by rw [s3]; omega)]; exact k3
  · rw [Below.heap_alloc _ _ _ (by rw [s3]; omega)]; exact g3
  · rw [List.map_replicate]
    refine ⟨by simp, .inr ⟨w.heap.size + 1 + 1 + 1, x, _, rfl, by omega, by rw [← s3]; exact heap_new _ _, Nat.le_refl _, by unfold maxLen; omega, by simp, ?_⟩⟩
    simp [bv]
theorem set7 {w W : World} {g : Nat} {z0 z1 z2 z3 z4 z5 z6 : Value} (hB : Below w.heap.size w W) (hg0 : w.heap.size ≤ g) (hg : W.heap[g]? = some (.cells #[z0, z1, z2, z3, z4, z5, z6] 50 (0, 0))) (v0 v1 v2 v3 v4 v5 v6 : Value) :
    (((((((((W.setCell ⟨g, 0, none⟩ v0).setCell ⟨g, 1, none⟩ v1).setCell ⟨g, 2, none⟩ v2).setCell ⟨g, 3, none⟩ v3).setCell ⟨g, 4, none⟩ v4).setCell ⟨g, 5, none⟩ v5).setCell ⟨g, 6, none⟩ v6).heap[g]? = some (.cells #[v0, v1, v2, v3, v4, v5, v6] 50 (0, 0))) ∧ (∀ k, k ≠ g → (((((((W.setCell ⟨g, 0, none⟩ v0).setCell ⟨g, 1, none⟩ v1).setCell ⟨g, 2, none⟩ v2).setCell ⟨g, 3, none⟩ v3).setCell ⟨g, 4, none⟩ v4).setCell ⟨g, 5, none⟩ v5).setCell ⟨g, 6, none⟩ v6).heap[k]? = W.heap[k]?) ∧ (((((((W.setCell ⟨g, 0, none⟩ v0).setCell ⟨g, 1, none⟩ v1).setCell ⟨g, 2, none⟩ v2).setCell ⟨g, 3, none⟩ v3).setCell ⟨g, 4, none⟩ v4).setCell ⟨g, 5, none⟩ v5).setCell ⟨g, 6, none⟩ v6).heap.size = W.heap.size) ∧ Below w.heap.size w (((((((W.setCell ⟨g, 0, none⟩ v0).setCell ⟨g, 1, none⟩ v1).setCell ⟨g, 2, none⟩ v2).setCell ⟨g, 3, none⟩ v3).setCell ⟨g, 4, none⟩ v4).setCell ⟨g, 5, none⟩ v5).setCell ⟨g, 6, none⟩ v6) := by
  refine ⟨⟨?_, fun k hk => ?_, ?_⟩, ?_⟩
  · have h := hg
    clear hg hB
    have st : ∀ (V : World) (cs ds : List Value) (i : Nat) (v : Value), V.heap[g]? = some (.cells cs.toArray 50 (0, 0)) → cs.set i v = ds → (V.setCell ⟨g, i, none⟩ v).heap[g]? = some (.cells ds.toArray 50 (0, 0)) := fun V cs ds i v h1 h2 => by
      have h3 := heap_setCell_same V g i cs.toArray 50 v h1
      rw [List.setIfInBounds_toArray, h2] at h3; exact h3
    have h0 := st _ [z0, z1, z2, z3, z4, z5, z6] [v0, z1, z2, z3, z4, z5, z6] 0 v0 h rfl
    have h1 := st _ [v0, z1, z2, z3, z4, z5, z6] [v0, v1, z2, z3, z4, z5, z6] 1 v1 h0 rfl
    have h2 := st _ [v0, v1, z2, z3, z4, z5, z6] [v0, v1, v2, z3, z4, z5, z6] 2 v2 h1 rfl
    have h3 := st _ [v0, v1, v2, z3, z4, z5, z6] [v0, v1, v2, v3, z4, z5, z6] 3 v3 h2 rfl
    have h4 := st _ [v0, v1, v2, v3, z4, z5, z6] [v0, v1, v2, v3, v4, z5, z6] 4 v4 h3 rfl
    have h5 := st _ [v0, v1, v2, v3, v4, z5, z6] [v0, v1, v2, v3, v4, v5, z6] 5 v5 h4 rfl
    have h6 := st _ [v0, v1, v2, v3, v4, v5, z6] [v0, v1, v2, v3, v4, v5, v6] 6 v6 h5 rfl
    exact h6
  · rw [Below.heap_setCell _ ⟨g, 6, none⟩ _ _ hk, Below.heap_setCell _ ⟨g, 5, none⟩ _ _ hk, Below.heap_setCell _ ⟨g, 4, none⟩ _ _ hk, Below.heap_setCell _ ⟨g, 3, none⟩ _ _ hk, Below.heap_setCell _ ⟨g, 2, none⟩ _ _ hk, Below.heap_setCell _ ⟨g, 1, none⟩ _ _ hk, Below.heap_setCell _ ⟨g, 0, none⟩ _ _ hk]
  · simp only [World.size_setCell]
  · exact ((((((hB.setCell (p := ⟨g, 0, none⟩) hg0 _).setCell (p := ⟨g, 1, none⟩) hg0 _).setCell (p := ⟨g, 2, none⟩) hg0 _).setCell (p := ⟨g, 3, none⟩) hg0 _).setCell (p := ⟨g, 4, none⟩) hg0 _).setCell (p := ⟨g, 5, none⟩) hg0 _).setCell (p := ⟨g, 6, none⟩) hg0 _
theorem brow_nil (W : World) : BRow W none 0 [] := ⟨by simp, by simp, fun _ => ⟨rfl, rfl⟩, fun h => absurd rfl h⟩
theorem run_bytes0 (w : World) {x : Nat} (hx : x ≤ 4096) : (Instr.makeSlice 22 (.int .i64 (x : Int)) (.int .i64 (x : Int))).run Try.prog w = .ok (.slice (some ⟨w.heap.size, 0, none⟩) x x) (w.alloc (.cells (Array.replicate x (Value.int .u8 0)) 5)) := by
  obtain ⟨i0, hi, hz0, hz1, hz2⟩ := info_parts Try.info5
  have h1 := run_make (P := Try.prog) w 22 5 i0 (.int .u8 0) Try.underlying22 hi hz0 .i64 .i64 (x : Int) (x : Int) (by omega) (Int.le_refl _) (by rw [hz2]; omega) (by omega)
  rw [Int.toNat_natCast, hz1] at h1
  rw [h1]
  congr 3
  apply Array.ext_getElem?
  intro k
  rcases Nat.lt_or_ge k x with hk | hk
  · simp [madeCells, Value.cells, hk, Nat.mod_one]
  · rw [Array.getElem?_eq_none (by simp [madeCells]; omega), Array.getElem?_eq_none (by simp; omega)]
set_option maxHeartbeats 32000000 in
theorem fitted_any (k fr t off len : Int) (da : Option Addr) (pn dc : Nat) (sy : Bool) (n : Nat) (ds0 : List Nat) (w : World) (hn : n ≤ 4096) (hb : BRow w da dc ds0) (hd : ds0.length = pn) :
    Calls Try.prog 22 #[.agg (Opv.mk k fr t off len da pn dc sy).cells, .int .i64 (n : Int)] w (FitEnd n w) := by
  obtain ⟨r, hr, q1⟩ := u64_rem k 3
  obtain ⟨o, ho, q2⟩ := u64_rem off n
  obtain ⟨z, hz⟩ : ∃ z : Nat, n - o = z := ⟨_, rfl⟩
  have q3 : (n : Int) - (o : Int) = (z : Int) := by omega
  obtain ⟨x, hx, q4⟩ := u64_rem len z
  have q1' : (IntKind.u64.wrap k).tmod 4 = (r : Int) := q1
  have hz2 : z ≤ 4096 := by omega
  have HN : Hid (o + x ≤ n ∧ x ≤ 4096) := ⟨by omega, by omega⟩
  have hx4 : x ≤ 4096 := by omega
  have ho4 : o ≤ 4096 := by omega
  have q5 : IntKind.u64.wrap ((z : Int) + 1) = (z : Int) + 1 := by
    unfold IntKind.wrap
    simp [IntKind.bits, IntKind.signed]
    omega
  have HBr : Hid (BRow w da dc ds0 ∧ ds0.length = pn) := ⟨hb, hd⟩
  clear q1 hb hd hz
  by_cases h3 : r = 3
  · subst h3
    go_enter Try.func22, Try.ntmps22
    go_wp2
    refine bodyPost_ret (results_cell_one rfl _ _ (w.heap.size + 1) 50 #[.int .i64 4, .int .i64 0, .int .i64 (-1), .int .i64 0, .int .i64 0, .slice none 0 0, .bool false] (0, 0) _ rfl (alloc3_mid _ _ _ _) Try.underlying50 rfl info50s) rfl ?_
    exact FitEnd.mk ⟨4, 0, -1, 0, 0, none, 0, 0, false⟩ [] rfl ⟨rfl, rfl, rfl, by show (1 : Int) ≤ 4; omega, by show (4 : Int) ≤ 4; omega, by show (0 : Int) ≤ 0; omega, by show (0 : Int) ≤ 0; omega, by show (0 : Int) + 0 ≤ (n : Int); omega, fun _ => ⟨rfl, rfl⟩, rfl, fun e => absurd e (by show ¬ (4 : Int) = 2; omega), fun _ => rfl⟩ (brow_nil _) (Nat.le_refl _) (fun a e => by cases e) (below3 _ _ _ _)
  · have e1 : (1 + (r : Int) == 4) = false := by rw [beq_eq_false_iff_ne]; omega
    by_cases h1 : r = 1
    · subst h1
      have hmk : ∀ W : World, (Instr.makeSlice 22 (.int .i64 (x : Int)) (.int .i64 (x : Int))).run Try.prog W = .ok (.slice (some ⟨W.heap.size, 0, none⟩) x x) (W.alloc (.cells (Array.replicate x (Value.int .u8 0)) 5)) := fun W => run_bytes0 W hx4
      go_enter Try.func22, Try.ntmps22
      go_wp2_with fail
      have HF0 : Hid _ := ft_new w (Opv.mk k fr t off len da pn dc sy).cells #[.int .i64 0, .int .i64 0, .int .i64 0, .int .i64 0, .int .i64 0, .slice none 0 0, .bool false] #[.int .i64 2, .int .i64 0, .int .i64 (-1), .int .i64 (o : Int), .int .i64 (x : Int), .slice (some ⟨w.heap.size + 1 + 1 + 1, 0, none⟩) x x, .bool false] x hx4
      clear hmk q1' q2 q3 q4 q5 e1 h3 hr hz2 hx ho
      go_loopw [7] (fun iv wr => ∃ (i : Nat) (ds : List Nat), i ≤ x ∧ iv = .int .i64 (i : Int) ∧ Hid (Ft w wr (Opv.mk k fr t off len da pn dc sy).cells #[.int .i64 0, .int .i64 0, .int .i64 0, .int .i64 0, .int .i64 0, .slice none 0 0, .bool false] #[.int .i64 2, .int .i64 0, .int .i64 (-1), .int .i64 (o : Int), .int .i64 (x : Int), .slice (some ⟨w.heap.size + 1 + 1 + 1, 0, none⟩) x x, .bool false] x ds)) (fun iv _ => x - (intOf iv).toNat)
      case atStart => exact ⟨0, _, Nat.zero_le _, rfl, HF0.out⟩
      case round =>
        clear HF0
        obtain ⟨i, ds, hi, rfl, HF⟩ := hrel
        have c4 : wr.cell? ⟨w.heap.size + 1 + 1, 4, none⟩ = some (.int .i64 (x : Int)) := blk_at HF.out.c 4
        have c5 : wr.cell? ⟨w.heap.size + 1 + 1, 5, none⟩ = some (.slice (some ⟨w.heap.size + 1 + 1 + 1, 0, none⟩) x x) := blk_at HF.out.c 5
        have a5 : wr.cell? ⟨w.heap.size, 5, none⟩ = some (.slice da pn dc) := blk_at HF.out.a 5
        by_cases hlt : i < x
        · have n9 : decide ((i : Int) < (x : Int)) = true := decide_eq_true (by omega)
          have n9b : decide (i < x) = true := decide_eq_true hlt
          have ii0 : (0 : Int) ≤ (i : Int) := by omega
          have ii9 : (i : Int) < (x : Int) := by omega
          obtain ⟨g', eg, -, hcell, hfr⟩ := own_some HF.out.row (by omega)
          have eg2 : w.heap.size + 1 + 1 + 1 = g' := by simpa using eg
          subst eg2
          have hdl : i < ds.length := by rw [HF.out.dlen]; exact hlt
          have cg : wr.cell? ⟨w.heap.size + 1 + 1 + 1, i, none⟩ = some (.int .u8 ((ds[i] : Nat) : Int)) := by rw [hcell i hlt, List.getElem?_map, List.getElem?_eq_getElem hdl]; rfl
          have fg : wr.frozen? ⟨w.heap.size + 1 + 1 + 1, i, none⟩ = false := hfr i
          obtain ⟨y1, hy1, q6⟩ := u8_wrap i
          have HF1 : Hid _ := HF.out.set hlt y1 hy1
          have s5 : (wr.setCell ⟨w.heap.size + 1 + 1 + 1, i, none⟩ (.int .u8 (y1 : Int))).cell? ⟨w.heap.size, 5, none⟩ = some (.slice da pn dc) := blk_at HF1.out.a 5
          have t5 : (wr.setCell ⟨w.heap.size + 1 + 1 + 1, i, none⟩ (.int .u8 (y1 : Int))).cell? ⟨w.heap.size + 1 + 1, 5, none⟩ = some (.slice (some ⟨w.heap.size + 1 + 1 + 1, 0, none⟩) x x) := blk_at HF1.out.c 5
          obtain ⟨d0, hd0⟩ : ∃ d0, ds[i] = d0 := ⟨_, rfl⟩
          rw [hd0] at cg
          clear hcell hfr hd0 hdl eg
          by_cases hip : i < pn
          · have n8 : decide ((i : Int) < (pn : Int)) = true := decide_eq_true (by omega)
            have n8b : decide (i < pn) = true := decide_eq_true hip
            have ii8 : (i : Int) < (pn : Int) := by omega
            have hil : i < ds0.length := by rw [HBr.out.2]; exact hip
            obtain ⟨b0, o0, eb, hcb⟩ := HBr.out.1.at_ (by rintro rfl; simp at hil)
            subst eb
            obtain ⟨y, hy⟩ : ∃ y, ds0[i] = y := ⟨_, rfl⟩
            have hy256 : y < 256 := by rw [← hy]; exact HBr.out.1.lt _ (List.getElem_mem hil)
            obtain ⟨X1, hX1⟩ : ∃ X1, wr.setCell ⟨w.heap.size + 1 + 1 + 1, i, none⟩ (.int .u8 (y1 : Int)) = X1 := ⟨_, rfl⟩
            rw [hX1] at HF1 s5 t5
            have HE1 : Hid (wr.setCell ⟨w.heap.size + 1 + 1 + 1, i, none⟩ (.int .u8 (y1 : Int)) = X1) := hX1
            have HYe : Hid (∀ U, Below w.heap.size w U → U.cell? ⟨b0, o0 + i, none⟩ = some (.int .u8 (y : Int))) := fun U hU => by rw [← hy]; exact cell_later hU (hcb i hil)
            have cy : X1.cell? ⟨b0, o0 + i, none⟩ = some (.int .u8 (y : Int)) := HYe.out _ HF1.out.bel
            have HSw : Hid (X1.cell? ⟨w.heap.size + 1 + 1, 5, none⟩ = some (.slice (some ⟨w.heap.size + 1 + 1 + 1, 0, none⟩) x x) ∧ X1.cell? ⟨w.heap.size, 5, none⟩ = some (.slice (some ⟨b0, o0, none⟩) pn dc) ∧ X1.cell? ⟨b0, o0 + i, none⟩ = some (.int .u8 (y : Int))) := ⟨t5, s5, cy⟩
            have HF2 : Hid _ := HF1.out.set hlt y hy256
            have HSx : Hid ((X1.setCell ⟨w.heap.size + 1 + 1 + 1, i, none⟩ (.int .u8 (y : Int))).cell? ⟨w.heap.size + 1 + 1, 5, none⟩ = some (.slice (some ⟨w.heap.size + 1 + 1 + 1, 0, none⟩) x x) ∧ (X1.setCell ⟨w.heap.size + 1 + 1 + 1, i, none⟩ (.int .u8 (y : Int))).cell? ⟨w.heap.size, 5, none⟩ = some (.slice (some ⟨b0, o0, none⟩) pn dc) ∧ (X1.setCell ⟨w.heap.size + 1 + 1 + 1, i, none⟩ (.int .u8 (y : Int))).cell? ⟨b0, o0 + i, none⟩ = some (.int .u8 (y : Int))) := ⟨blk_at HF2.out.c 5, blk_at HF2.out.a 5, HYe.out _ HF2.out.bel⟩
            obtain ⟨g', eg, -, hcell, hfr⟩ := own_some HF1.out.row (by omega)
            have eg2 : w.heap.size + 1 + 1 + 1 = g' := by simpa using eg
            subst eg2
            have hdl : i < (ds.set i y1).length := by rw [HF1.out.dlen]; exact hlt
            have cg1 : X1.cell? ⟨w.heap.size + 1 + 1 + 1, i, none⟩ = some (.int .u8 (((ds.set i y1)[i] : Nat) : Int)) := by rw [hcell i hlt, List.getElem?_map, List.getElem?_eq_getElem hdl]; rfl
            have fg1 : X1.frozen? ⟨w.heap.size + 1 + 1 + 1, i, none⟩ = false := hfr i
            obtain ⟨d1, hd1⟩ : ∃ d1, (ds.set i y1)[i] = d1 := ⟨_, rfl⟩
            rw [hd1] at cg1
            have HIl : Hid (i < x) := hlt
            clear hcell hfr hd1 hdl eg hcb hil hy hX1
            go_wp2_with fail
            rw [HE1.out]
            refine wp_region_held_drew (S := (fun w' => w'.cell? ⟨w.heap.size + 1 + 1, 5, none⟩ = some (.slice (some ⟨w.heap.size + 1 + 1 + 1, 0, none⟩) x x) ∧ w'.cell? ⟨w.heap.size, 5, none⟩ = some (.slice (some ⟨b0, o0, none⟩) pn dc) ∧ w'.cell? ⟨b0, o0 + i, none⟩ = some (.int .u8 (y : Int)))) (by kernel_rfl) ?_ (fun hHeld => ?_)
            · exact HSw.out
            refine wpAnyH_take (i := 0) (oi := { dst := some 64, op := Op.fieldAddr 50 (Operand.tmp 6) 5, type := 0, pos := _, after := #[], guard := none }) (v := ?_) rfl (by kernel_rfl) (by kernel_rfl) (by kernel_rfl) (fun _ _ _ h => h) (Or.inl ⟨by rfl, ?_⟩) (by assumption) ?_
            rotate_left
            · (intro w hSw; (try dsimp only at hSw); go_simp) <;> with_reducible rfl
            try simp only [Act.put, List.setIfInBounds_toArray, List.set_cons_zero, List.set_cons_succ]
            refine wpAnyH_take (i := 1) (oi := { dst := some 65, op := Op.load 22 (Operand.tmp 64), type := 22, pos := _, after := _, guard := none }) (v := ?_) rfl (by kernel_rfl) (by kernel_rfl) (by kernel_rfl) (fun _ _ _ h => h) (Or.inl ⟨by rfl, ?_⟩) (by assumption) ?_
            rotate_left
            · (intro w hSw; (try dsimp only at hSw); go_simp) <;> with_reducible rfl
            try simp only [Act.put, List.setIfInBounds_toArray, List.set_cons_zero, List.set_cons_succ]
            refine wpAnyH_take (i := 2) (oi := { dst := some 66, op := Op.move (Operand.tmp 7), type := 3, pos := _, after := #[], guard := none }) (v := ?_) rfl (by kernel_rfl) (by kernel_rfl) (by kernel_rfl) (fun _ _ _ h => h) (Or.inl ⟨by rfl, ?_⟩) (by assumption) ?_
            rotate_left
            · (intro w hSw; (try dsimp only at hSw); go_simp) <;> with_reducible rfl
            try simp only [Act.put, List.setIfInBounds_toArray, List.set_cons_zero, List.set_cons_succ]
            refine wpAnyH_take (i := 3) (oi := { dst := some 67, op := Op.fieldAddr 50 (Operand.tmp 2) 5, type := 0, pos := _, after := #[], guard := none }) (v := ?_) rfl (by kernel_rfl) (by kernel_rfl) (by kernel_rfl) (fun _ _ _ h => h) (Or.inl ⟨by rfl, ?_⟩) (by assumption) ?_
            rotate_left
            · (intro w hSw; (try dsimp only at hSw); go_simp) <;> with_reducible rfl
            try simp only [Act.put, List.setIfInBounds_toArray, List.set_cons_zero, List.set_cons_succ]
            refine wpAnyH_take (i := 4) (oi := { dst := some 68, op := Op.load 22 (Operand.tmp 67), type := 22, pos := _, after := _, guard := none }) (v := ?_) rfl (by kernel_rfl) (by kernel_rfl) (by kernel_rfl) (fun _ _ _ h => h) (Or.inl ⟨by rfl, ?_⟩) (by assumption) ?_
            rotate_left
            · (intro w hSw; (try dsimp only at hSw); go_simp) <;> with_reducible rfl
            try simp only [Act.put, List.setIfInBounds_toArray, List.set_cons_zero, List.set_cons_succ]
            refine wpAnyH_take (i := 5) (oi := { dst := some 69, op := Op.move (Operand.tmp 7), type := 3, pos := _, after := #[], guard := none }) (v := ?_) rfl (by kernel_rfl) (by kernel_rfl) (by kernel_rfl) (fun _ _ _ h => h) (Or.inl ⟨by rfl, ?_⟩) (by assumption) ?_
            rotate_left
            · (intro w hSw; (try dsimp only at hSw); go_simp) <;> with_reducible rfl
            try simp only [Act.put, List.setIfInBounds_toArray, List.set_cons_zero, List.set_cons_succ]
            refine wpAnyH_take (i := 6) (oi := { dst := some 70, op := Op.indexAddr 22 (Operand.tmp 68) (Operand.tmp 69), type := 0, pos := _, after := _, guard := none }) (v := ?_) rfl (by kernel_rfl) (by kernel_rfl) (by kernel_rfl) (fun _ _ _ h => h) (Or.inl ⟨by rfl, ?_⟩) (by assumption) ?_
            rotate_left
            · (intro w hSw; (try dsimp only at hSw); go_simp) <;> with_reducible rfl
            try simp only [Act.put, List.setIfInBounds_toArray, List.set_cons_zero, List.set_cons_succ]
            refine wpAnyH_take (i := 7) (oi := { dst := some 71, op := Op.load 5 (Operand.tmp 70), type := 5, pos := _, after := _, guard := none }) (v := ?_) rfl (by kernel_rfl) (by kernel_rfl) (by kernel_rfl) (fun _ _ _ h => h) (Or.inl ⟨by rfl, ?_⟩) (by assumption) ?_
            rotate_left
            · (intro w hSw; (try dsimp only at hSw); go_simp) <;> with_reducible rfl
            try simp only [Act.put, List.setIfInBounds_toArray, List.set_cons_zero, List.set_cons_succ]
            refine wpAnyH_take (i := 8) (oi := { dst := some 72, op := Op.indexAddr 22 (Operand.tmp 65) (Operand.tmp 66), type := 0, pos := _, after := _, guard := none }) (v := ?_) rfl (by kernel_rfl) (by kernel_rfl) (by kernel_rfl) (fun _ _ _ h => h) (Or.inl ⟨by rfl, ?_⟩) (by assumption) ?_
            rotate_left
            · (intro w hSw; (try dsimp only at hSw); go_simp) <;> with_reducible rfl
            try simp only [Act.put, List.setIfInBounds_toArray, List.set_cons_zero, List.set_cons_succ]
            refine wpAnyH_ready (rs := [9]) (by kernel_rfl) (by simp) ?_
            refine AllReadyH.cons (o := { dst := none, op := Op.store 5 (Operand.tmp 72) (Operand.tmp 71), type := 0, pos := _, after := _, guard := none }) rfl (fun K hK => ?_) AllReadyH.nil
            go_simp
            skip
            try go_simp
            clear hHeld
            refine hK.out _ _ ?_ (fun hHeld => ?_)
            · exact HSx.out
            clear hK K
            try simp only [Act.put, List.setIfInBounds_toArray, List.set_cons_zero, List.set_cons_succ]
            refine wpAnyH_done (by kernel_rfl) ?_ _
            have HN : Hid (Ft w (X1.setCell ⟨w.heap.size + 1 + 1 + 1, i, none⟩ (.int .u8 (y : Int))).drew (Opv.mk k fr t off len (some ⟨b0, o0, none⟩) pn dc sy).cells #[.int .i64 0, .int .i64 0, .int .i64 0, .int .i64 0, .int .i64 0, .slice none 0 0, .bool false] #[.int .i64 2, .int .i64 0, .int .i64 (-1), .int .i64 (o : Int), .int .i64 (x : Int), .slice (some ⟨w.heap.size + 1 + 1 + 1, 0, none⟩) x x, .bool false] x ((ds.set i y1).set i y)) := HF2.out.drew
            go_wp2_with fail
            go_roundw
            case rel => exact ⟨i + 1, _, HIl.out, by go_num, HN.out⟩
            case measure => have := HIl.out; simp [intOf]; omega
          · have n8 : decide ((i : Int) < (pn : Int)) = false := decide_eq_false (by omega)
            have n8b : decide (i < pn) = false := decide_eq_false hip
            have HIl : Hid (i < x) := hlt
            go_wp2_with fail
            go_roundw
            case rel => exact ⟨i + 1, _, HIl.out, by go_num, HF1.out⟩
            case measure => have := HIl.out; simp [intOf]; omega
        · have n9 : decide ((i : Int) < (x : Int)) = false := decide_eq_false (by omega)
          have n9b : decide (i < x) = false := decide_eq_false hlt
          have c0 : wr.cell? ⟨w.heap.size + 1 + 1, 0, none⟩ = some (.int .i64 2) := blk_at HF.out.c 0
          have c1 : wr.cell? ⟨w.heap.size + 1 + 1, 1, none⟩ = some (.int .i64 0) := blk_at HF.out.c 1
          have c2 : wr.cell? ⟨w.heap.size + 1 + 1, 2, none⟩ = some (.int .i64 (-1)) := blk_at HF.out.c 2
          have c3 : wr.cell? ⟨w.heap.size + 1 + 1, 3, none⟩ = some (.int .i64 (o : Int)) := blk_at HF.out.c 3
          have c6 : wr.cell? ⟨w.heap.size + 1 + 1, 6, none⟩ = some (.bool false) := blk_at HF.out.c 6
          have z0 : wr.cell? ⟨w.heap.size + 1, 0, none⟩ = some (.int .i64 0) := blk_at HF.out.z 0
          have z1 : wr.cell? ⟨w.heap.size + 1, 1, none⟩ = some (.int .i64 0) := blk_at HF.out.z 1
          have z2 : wr.cell? ⟨w.heap.size + 1, 2, none⟩ = some (.int .i64 0) := blk_at HF.out.z 2
          have z3 : wr.cell? ⟨w.heap.size + 1, 3, none⟩ = some (.int .i64 0) := blk_at HF.out.z 3
          have z4 : wr.cell? ⟨w.heap.size + 1, 4, none⟩ = some (.int .i64 0) := blk_at HF.out.z 4
          have z5 : wr.cell? ⟨w.heap.size + 1, 5, none⟩ = some (.slice none 0 0) := blk_at HF.out.z 5
          have z6 : wr.cell? ⟨w.heap.size + 1, 6, none⟩ = some (.bool false) := blk_at HF.out.z 6
          have f0 : wr.frozen? ⟨w.heap.size + 1, 0, none⟩ = false := blk_free HF.out.z 0
          have f1 : wr.frozen? ⟨w.heap.size + 1, 1, none⟩ = false := blk_free HF.out.z 1
          have f2 : wr.frozen? ⟨w.heap.size + 1, 2, none⟩ = false := blk_free HF.out.z 2
          have f3 : wr.frozen? ⟨w.heap.size + 1, 3, none⟩ = false := blk_free HF.out.z 3
          have f4 : wr.frozen? ⟨w.heap.size + 1, 4, none⟩ = false := blk_free HF.out.z 4
          have f5 : wr.frozen? ⟨w.heap.size + 1, 5, none⟩ = false := blk_free HF.out.z 5
          have f6 : wr.frozen? ⟨w.heap.size + 1, 6, none⟩ = false := blk_free HF.out.z 6
          have HXe : Hid (i = x) := Nat.le_antisymm hi (Nat.le_of_not_lt hlt)
          obtain ⟨h7, b7⟩ := set7 HF.out.bel (by omega) HF.out.z (.int .i64 2) (.int .i64 0) (.int .i64 (-1)) (.int .i64 (o : Int)) (.int .i64 (x : Int)) (.slice (some ⟨w.heap.size + 1 + 1 + 1, 0, none⟩) x x) (.bool false)
          have H7 : Hid _ := h7
          have B7 : Hid _ := b7
          have HBe : Hid (∀ U : World, Below w.heap.size w U → (∀ g, g ≠ w.heap.size + 1 → U.heap[g]? = wr.heap[g]?) → U.heap.size = wr.heap.size → FitEnd n w (.returned (.agg #[.int .i64 2, .int .i64 0, .int .i64 (-1), .int .i64 (o : Int), .int .i64 (x : Int), .slice (some ⟨w.heap.size + 1 + 1 + 1, 0, none⟩) x x, .bool false])) U) := fun U hU hg hsz => by
            have hrow : U.ownsRow w.heap.size 5 1 (.slice (some ⟨w.heap.size + 1 + 1 + 1, 0, none⟩) x x) x (ds.map bv) := owns_same HF.out.row fun g e => by
              have e2 : w.heap.size + 1 + 1 + 1 = g := Option.some.inj e
              exact hg g (by omega)
            have hlt9 : w.heap.size + 1 + 1 + 1 < U.heap.size := (owns_in hrow rfl).2
            exact FitEnd.mk ⟨2, 0, -1, (o : Int), (x : Int), some ⟨w.heap.size + 1 + 1 + 1, 0, none⟩, x, x, false⟩ ds rfl ⟨rfl, rfl, rfl, by show (1 : Int) ≤ 2; omega, by show (2 : Int) ≤ 4; omega, by show (0 : Int) ≤ (o : Int); omega, by show (0 : Int) ≤ (x : Int); omega, by show (o : Int) + (x : Int) ≤ (n : Int); have := HN.out.1; omega, fun e => absurd e (by show ¬ (2 : Int) = 4; omega), HF.out.dlen, fun _ => rfl, fun e => absurd rfl e⟩ (brow_own hrow HF.out.dlen HF.out.lt (by omega)) (Nat.le_refl _) (fun a e => by cases e; exact ⟨by show w.heap.size ≤ w.heap.size + 1 + 1 + 1; omega, hlt9⟩) hU
          clear h7 b7
          go_wp2_with fail
          refine bodyPost_ret (results_cell_one rfl _ _ (w.heap.size + 1) 50 #[.int .i64 2, .int .i64 0, .int .i64 (-1), .int .i64 (o : Int), .int .i64 (x : Int), .slice (some ⟨w.heap.size + 1 + 1 + 1, 0, none⟩) x x, .bool false] (0, 0) _ rfl H7.out.1 Try.underlying50 rfl info50s) rfl ?_
          exact HBe.out _ B7.out H7.out.2.1 H7.out.2.2
    · have e2 : (1 + (r : Int) == 2) = false := by rw [beq_eq_false_iff_ne]; omega
      go_enter Try.func22, Try.ntmps22
      go_wp2
      refine bodyPost_ret (results_cell_one rfl _ _ (w.heap.size + 1) 50 #[.int .i64 (1 + (r : Int)), .int .i64 0, .int .i64 (-1), .int .i64 (o : Int), .int .i64 (x : Int), .slice none 0 0, .bool false] (0, 0) _ rfl (alloc3_mid _ _ _ _) Try.underlying50 rfl info50s) rfl ?_
      exact FitEnd.mk ⟨1 + (r : Int), 0, -1, (o : Int), (x : Int), none, 0, 0, false⟩ [] rfl ⟨rfl, rfl, rfl, by show (1 : Int) ≤ 1 + (r : Int); omega, by show 1 + (r : Int) ≤ 4; omega, by show (0 : Int) ≤ (o : Int); omega, by show (0 : Int) ≤ (x : Int); omega, by show (o : Int) + (x : Int) ≤ (n : Int); have := HN.out.1; omega, fun e => absurd e (by show ¬ 1 + (r : Int) = 4; omega), rfl, fun e => absurd e (by show ¬ 1 + (r : Int) = 2; omega), fun _ => rfl⟩ (brow_nil _) (Nat.le_refl _) (fun a e => by cases e) (below3 _ _ _ _)
end Go.Proofs.Ytjkoambfecmglaa
