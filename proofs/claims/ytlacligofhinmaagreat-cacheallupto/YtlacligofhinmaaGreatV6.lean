import Derived.Test.YtlacligofhinmaaGreatV5
import Derived.Great.BuildSlice
namespace Go.Proofs.YtlacligofhinmaaGreat.K
open Go.RowKit Go.Maps Go.Proofs.YtlacligofhinmaaGreat
set_option linter.unusedVariables false
set_option linter.unusedSimpArgs false
set_option maxRecDepth 100000

def Zp : Array Value := #[.int .i64 0] ++ Array.replicate 512 (.int .u8 0)
theorem infoPu : (Tryz.prog.info? TPu).map (fun i => (i.zero, i.size, i.bytes)) = some (some (.agg Zp), 513, 520) := by kernel_rfl
/-- a write's cells -/
def Pc (s : Int) (l : Bl) : Array Value := #[.int .i64 s] ++ Lc l
theorem Pc_size {s : Int} {l : Bl} (h : OkB l) : (Pc s l).size = 513 := by simp [Pc, Lc_size h]
theorem Pc_list (s : Nat) (l : Bl) : (Pc s l).toList = pcell (s, l) := by simp [Pc, Lc, pcell]
theorem Zp_size : Zp.size = 513 := by simp [Zp]
/-- one part that fits -/
theorem fill_one {place : Nat → Option (Nat × Nat)} {cells : Array Value} {i off : Nat} {v : Value} {rest : List (Nat × Value)} (hp : place i = some (off, v.cells.size)) (hf : off + v.cells.size ≤ cells.size) :
    ∃ r, Instr.fill place cells ((i, v) :: rest) = Instr.fill place r rest ∧ r.size = cells.size ∧ ∀ k, r[k]? = if off ≤ k ∧ k < off + v.cells.size then v.cells[k - off]? else cells[k]? := by
  have h := Great.foldl_set off v.cells.toList 0 cells
  refine ⟨_, ?_, h.1, fun k => ?_⟩
  · conv => lhs; unfold Instr.fill
    rw [hp]
    simp only
    rw [if_neg (by simp; omega)]
    congr 1
    rw [← Array.foldl_toList, Array.toList_zipIdx]
  · rw [h.2 k]
    simp only [Nat.add_zero, Array.length_toList, Array.getElem?_toList]
    by_cases hk : off ≤ k ∧ k < off + v.cells.size
    · rw [if_pos hk, if_pos ⟨hk.1, hk.2, by omega⟩]
    · rw [if_neg hk, if_neg (fun h => hk ⟨h.1, h.2.1⟩)]
theorem fill_put {Z : Array Value} (hZ : Z.size = 513) (s : Int) {l : Bl} (hl : OkB l) : Instr.fill (fun x => ([(0, 1), (1, 512)] : List (Nat × Nat)).toArray[x]?) Z [(0, .int .i64 s), (1, .agg (Lc l))] = some (Pc s l) := by
  have hs := Lc_size hl
  have hc1 : (Value.int .i64 s).cells = #[.int .i64 s] := rfl
  have hc2 : (Value.agg (Lc l)).cells = Lc l := rfl
  obtain ⟨r1, e1, s1, g1⟩ := fill_one (place := fun x => ([(0, 1), (1, 512)] : List (Nat × Nat)).toArray[x]?) (cells := Z) (i := 0) (off := 0) (v := .int .i64 s) (rest := [(1, .agg (Lc l))]) (by rw [hc1]; rfl) (by rw [hc1, hZ]; simp)
  obtain ⟨r2, e2, s2, g2⟩ := fill_one (place := fun x => ([(0, 1), (1, 512)] : List (Nat × Nat)).toArray[x]?) (cells := r1) (i := 1) (off := 1) (v := .agg (Lc l)) (rest := []) (by rw [hc2, hs]; rfl) (by rw [s1, hc2, hs, hZ]; decide)
  rw [e1, e2]
  show some r2 = _
  congr 1
  apply Array.ext_getElem?
  intro k
  rw [g2 k, hc2, hs]
  by_cases hk : 1 ≤ k ∧ k < 1 + 512
  · rw [if_pos hk]
    unfold Pc
    rw [Array.getElem?_append_right (by simp; omega)]
    rfl
  · rw [if_neg hk, g1 k, hc1]
    by_cases h0 : k = 0
    · subst h0
      unfold Pc
      rw [if_pos (by simp), Array.getElem?_append_left (by simp)]
    · rw [if_neg (by simp; omega)]
      rw [Array.getElem?_eq_none (by rw [hZ]; omega), Array.getElem?_eq_none (by rw [Pc_size hl]; omega)]
theorem undPu : Tryz.prog.underlying TPu = some (.struct (Tryz.prog.fieldsOf TPu)) := by kernel_rfl
theorem plPu : (Tryz.prog.fieldsOf TPu).toList.mapM (fun f => (Tryz.prog.info? f.type).map fun i => (f.offset, i.size)) = some [(0, 1), (1, 512)] := by kernel_rfl
theorem built_put (s : Int) {l : Bl} (hl : OkB l) : Tryz.prog.built TPu [(0, .int .i64 s), (1, .agg (Lc l))] = some (Pc s l) := by
  obtain ⟨i0, hi, hz0, hz1, hz2⟩ := info_parts infoPu
  have hf := fill_put Zp_size s hl
  unfold Program.built
  rw [hi, undPu]
  simp only [hz0, plPu]
  exact hf
theorem run_put (w : World) (s : Int) {l : Bl} (hl : OkB l) : (Instr.build TPu #[(0, .int .i64 s), (1, .agg (Lc l))]).run Tryz.prog w = .ok (.agg (Pc s l)) w := run_build w TPu _ _ (built_put s hl)
theorem run_one (w : World) (s : Int) {l : Bl} (hl : OkB l) : (Instr.buildSlice TPus 1 #[(0, .agg (Pc s l))]).run Tryz.prog w = .ok (.slice (some ⟨w.heap.size, 0, none⟩) 1 1) (w.alloc (.cells (Pc s l) TPu)) := by
  obtain ⟨i0, hi, hz0, hz1, hz2⟩ := info_parts infoPu
  refine run_buildSlice w TPus TPu 1 _ _ i0 (.agg Zp) Tryz.underlying122 hi hz0 (by rw [hz1]; decide) (by rw [hz1]; decide) ?_
  rw [hz1]
  have hsz : ((Array.range (1 * 513)).map ((Value.agg Zp).cells[· % (Value.agg Zp).cells.size]!)).size = 513 := by simp
  obtain ⟨r, e, hs, g⟩ := fill_one (place := fun i => some (i * 513, 513)) (cells := (Array.range (1 * 513)).map ((Value.agg Zp).cells[· % (Value.agg Zp).cells.size]!)) (i := 0) (off := 0) (v := .agg (Pc s l)) (rest := []) (by simp [Value.cells, Pc_size hl]) (by rw [hsz]; simp [Value.cells, Pc_size hl])
  show Instr.fill _ _ [(0, Value.agg (Pc s l))] = _
  rw [e]
  show some r = _
  congr 1
  apply Array.ext_getElem?
  intro k
  rw [g k]
  simp only [Value.cells, Pc_size hl]
  by_cases hk : 0 ≤ k ∧ k < 0 + 513
  · rw [if_pos hk]; rfl
  · rw [if_neg hk, Array.getElem?_eq_none (by simp; omega), Array.getElem?_eq_none (by rw [Pc_size hl]; omega)]
end Go.Proofs.YtlacligofhinmaaGreat.K

namespace Go.Proofs.YtlacligofhinmaaGreat.K
open Go.RowKit Go.Maps Go.Proofs.YtlacligofhinmaaGreat
set_option linter.unusedVariables false
set_option linter.unusedSimpArgs false
set_option maxRecDepth 100000

theorem blk_set {w : World} {b : Nat} {cs : Array Value} {T : TypeId} (h : w.heap[b]? = some (.cells cs T (0, 0))) (j : Nat) (v : Value) : (w.setCell ⟨b, j, none⟩ v).heap[b]? = some (.cells (cs.setIfInBounds j v) T (0, 0)) := by
  rw [setCell_eq_setRow w b j cs T (0, 0) v h]
  exact setRow_heap _ _ _ _ _ _ h
section
variable {w w' : World} {lk : Int} {b ms ml : Nat} {qv fv : Value} {S : Dk}
/-- the disk's own block turns -/
theorem RK.put (h : RK w lk b ms ml qv fv S) (lk' : Int) (st' : Sts)
    (hb : w'.heap[b]? = some (.cells #[.int .i32 lk', .int .u32 0, .int .i64 S.n, .map (some ms), qv, .map (some ml), fv, .int .u64 st'.reads, .int .u64 st'.writes, .int .u64 st'.bars, .int .u64 st'.failed, .int .u64 st'.crashes] TDk (0, 0)))
    (hs : ∀ i ∈ fp b ms ml qv fv, i ≠ b → w'.heap[i]? = w.heap[i]?) : RK w' lk' b ms ml qv fv { S with st := st' } := by
  obtain ⟨a1, a2, a3, a4, _⟩ := h.apart
  obtain ⟨D, h1, h2⟩ := h.sm
  obtain ⟨D', h4, h5⟩ := h.lm
  exact ⟨hb, h.n0, h.n1, ⟨D, ownsMap_block h1 (hs ms (by simp [fp]) (Ne.symm a1)), h2⟩, ⟨D', ownsMap_block h4 (hs ml (by simp [fp]) (Ne.symm a2)), h5⟩, ownsRow_block h.qr (fun g hg => hs g (by simp [fp, hg]) (fun e => a3 (by rw [hg, e]))), ownsRow_block h.fr (fun g hg => hs g (by simp [fp, hg]) (fun e => a4 (by rw [hg, e]))), h.ne, h.qok⟩
theorem RK.setLk (h : RK w lk b ms ml qv fv S) (lk' : Int) : RK (w.setCell ⟨b, 0, none⟩ (.int .i32 lk')) lk' b ms ml qv fv S :=
  h.put lk' S.st (by rw [blk_set h.blk]; rfl) (fun i _ hi => Below.heap_setCell _ _ _ _ hi)
theorem DAct.refl (h : RK w lk b ms ml qv fv S) : DAct w w lk b ms ml ms ml qv fv qv fv S := ⟨h, Kp.refl _ _, fun _ h => .inl h⟩
theorem DAct.from_later {w0 : World} {ms' ml' : Nat} {qv' fv' : Value} {S' : Dk} (h : DAct w w' lk b ms ml ms' ml' qv fv qv' fv' S') (hb : Below w0.heap.size w0 w) : DAct w0 w' lk b ms ml ms' ml' qv fv qv' fv' S' :=
  ⟨h.rk, (Kp.of_below hb _).trans h.kp (fun i hi => .inl hi), fun i hi => (h.sub i hi).imp id (fun h => Nat.le_trans hb.size h)⟩
theorem DAct.trans {w1 w2 : World} {lk1 lk2 : Int} {ms1 ml1 ms2 ml2 : Nat} {qv1 fv1 qv2 fv2 : Value} {S1 S2 : Dk} (h : DAct w w1 lk1 b ms ml ms1 ml1 qv fv qv1 fv1 S1) (h' : DAct w1 w2 lk2 b ms1 ml1 ms2 ml2 qv1 fv1 qv2 fv2 S2) : DAct w w2 lk2 b ms ml ms2 ml2 qv fv qv2 fv2 S2 :=
  ⟨h'.rk, h.kp.trans h'.kp (fun i hi => h.sub i hi), fun i hi => (h'.sub i hi).elim (fun h1 => h.sub i h1) (fun h1 => .inr (Nat.le_trans h.kp.size h1))⟩
theorem DAct.later {w0 : World} {ms' ml' : Nat} {qv' fv' : Value} {S' : Dk} (h : DAct w w' lk b ms ml ms' ml' qv fv qv' fv' S') (hb : Below w'.heap.size w' w0) : DAct w w0 lk b ms ml ms' ml' qv fv qv' fv' S' :=
  ⟨h.rk.later hb, h.kp.trans (Kp.of_below hb []) (by simp), h.sub⟩
theorem DAct.put {ms' ml' : Nat} {qv' fv' : Value} {S' : Dk} (h : DAct w w' lk b ms ml ms' ml' qv fv qv' fv' S') (j : Nat) (v : Value) (lk' : Int) (st' : Sts)
    (hb : (#[.int .i32 lk, .int .u32 0, .int .i64 S'.n, .map (some ms'), qv', .map (some ml'), fv', .int .u64 S'.st.reads, .int .u64 S'.st.writes, .int .u64 S'.st.bars, .int .u64 S'.st.failed, .int .u64 S'.st.crashes] : Array Value).setIfInBounds j v = #[.int .i32 lk', .int .u32 0, .int .i64 S'.n, .map (some ms'), qv', .map (some ml'), fv', .int .u64 st'.reads, .int .u64 st'.writes, .int .u64 st'.bars, .int .u64 st'.failed, .int .u64 st'.crashes]) :
    DAct w (w'.setCell ⟨b, j, none⟩ v) lk' b ms ml ms' ml' qv fv qv' fv' { S' with st := st' } :=
  ⟨h.rk.put lk' st' (by rw [blk_set h.rk.blk, hb]) (fun i _ hi => Below.heap_setCell _ _ _ _ hi), h.kp.set (.inl (by simp [fp])) _ _, h.sub⟩

theorem lastAt_snoc {t i : Nat} {q : List Pu} {p : Pu} (h : lastAt t (q ++ [p]) i) : (p.1 = t ∧ i = q.length) ∨ (p.1 ≠ t ∧ lastAt t q i) := by
  obtain ⟨⟨l, hl⟩, hn⟩ := h
  rcases Nat.lt_trichotomy i q.length with hlt | heq | hgt
  · refine .inr ⟨hn q.length p hlt (by simp), ⟨l, by rw [List.getElem?_append_left hlt] at hl; exact hl⟩, fun j x hj hx => hn j x hj (by rw [List.getElem?_append_left (List.getElem?_eq_some_iff.1 hx).1]; exact hx)⟩
  · subst heq
    simp at hl
    exact .inl ⟨by rw [hl], rfl⟩
  · rw [List.getElem?_append_right (by omega)] at hl
    have : i - q.length = (i - q.length - 1) + 1 := by omega
    rw [this] at hl
    simp at hl
theorem LastOk.snoc {n : Nat} {q : List Pu} {D : DataW Unit} (h : LastOk n q D) (hm : IsMap D) {s : Nat} {l : Bl} (hs : s < n) (hw : WideAt.IsKeyLit (kl s)) : LastOk n (q ++ [(s, l)]) (D.put (kl s) (.lit (.int .i64 q.length))) := by
  refine ⟨fun x hx => ?_, fun t i hi => ?_, fun t ht => ?_⟩
  · by_cases e : x = kl s
    · exact ⟨s, hs, e⟩
    · rw [has_put_other e] at hx; exact h.rng x hx
  · rcases lastAt_snoc hi with ⟨e, rfl⟩ | ⟨e, hl⟩
    · simp only at e
      subst e
      exact ⟨atKey_put_same hm hw _ _, has_put_same hm hw _⟩
    · have hne : kl t ≠ kl s := fun e' => e (by simp at e'; omega)
      rw [atKey_put_other hne, has_put_other hne]
      exact h.yes t i hl
  · have hne : kl t ≠ kl s := fun e' => ht (s, l) (by simp) (by simp at e'; omega)
    rw [has_put_other hne]
    exact h.no t fun p hp => ht p (by simp [hp])
/-- a write joins the queue -/
theorem RK.queued {w4 w5 w6 : World} {o : Obj} {g' cap' s : Nat} {l : Bl} {D : DataW Unit} (h : RK w lk b ms ml qv fv S) (hs : s < S.n) (hl : OkB l)
    (hm : w.ownsMap Tryz.prog TIn (plainElem Tryz.prog TIn) ml (Maps.size D) D) (hlo : LastOk S.n S.q D)
    (k4 : Kp w w4 [ml]) (hm4 : ∃ c, w4.ownsMap Tryz.prog TIn (plainElem Tryz.prog TIn) ml c (D.put (kl s) (.lit (.int .i64 S.q.length)))) (hb5 : Below w4.heap.size w4 w5)
    (hg : (w5.alloc o).grownBy w6 qv.ownBlock) (hown : w6.ownsRow 0 TPu 513 (.slice (some ⟨g', 0, none⟩) (S.q.length + 1) cap') (S.q.length + 1) (pcells S.q ++ pcell (s, l))) (hat : qv.ownBlock = some g' ∨ w5.heap.size ≤ g') :
    w6.cell? ⟨b, 4, none⟩ = some qv ∧ w6.frozen? ⟨b, 4, none⟩ = false ∧ DAct w (w6.setCell ⟨b, 4, none⟩ (.slice (some ⟨g', 0, none⟩) (S.q.length + 1) cap')) lk b ms ml ms ml qv fv (.slice (some ⟨g', 0, none⟩) (S.q.length + 1) cap') fv { S with q := S.q ++ [(s, l)] } := by
  obtain ⟨a1, a2, a3, a4, a5, a6, a7, a8, a9⟩ := h.apart
  have hlt := h.lt
  have hs4 := k4.size
  have hs5 := hb5.size
  have hkeep : ∀ i ∈ fp b ms ml qv fv, i ≠ ml → qv.ownBlock ≠ some i → w6.heap[i]? = w.heap[i]? := fun i hi h1 h2 => by
    have := hlt i hi
    rw [hg.block i (by rw [World.size_alloc]; omega) (fun e => h2 e.symm), Below.heap_alloc _ _ _ (by omega), hb5.block i (by omega), k4.block i this (by simpa using h1)]
  have hbb : w6.heap[b]? = w.heap[b]? := hkeep b (by simp [fp]) a2 a3
  have hblk := hbb.trans h.blk
  have hml6 : w6.heap[ml]? = w4.heap[ml]? := by
    have := hlt ml (by simp [fp])
    rw [hg.block ml (by rw [World.size_alloc]; omega) (fun e => a6 e.symm), Below.heap_alloc _ _ _ (by omega), hb5.block ml (by omega)]
  refine ⟨(cell_of hblk).trans rfl, frozen_of hblk, ?_, ?_, ?_⟩
  · have hne : ∀ i, i ≠ b → (w6.setCell ⟨b, 4, none⟩ (.slice (some ⟨g', 0, none⟩) (S.q.length + 1) cap')).heap[i]? = w6.heap[i]? := fun i hi => Below.heap_setCell _ _ _ _ hi
    obtain ⟨Ds, hms, hso⟩ := h.sm
    obtain ⟨c, hm4'⟩ := hm4
    have hgb : g' ≠ b := by
      rcases hat with e | e
      · exact fun e' => a3 (by rw [e, e'])
      · have := hlt b (by simp [fp]); omega
    refine ⟨by rw [blk_set hblk]; rfl, h.n0, h.n1, ⟨Ds, ownsMap_block hms ((hne ms (Ne.symm a1)).trans (hkeep ms (by simp [fp]) h.ne a5)), hso⟩, ⟨_, ownsMap_tight (ownsMap_block hm4' ((hne ml (Ne.symm a2)).trans hml6)), hlo.snoc hm.isMap hs (keyed.key (keyOf_int_mk Tryz.underlying3 (wfI s (by have := h.n1; omega))))⟩, ?_, ?_, h.ne, fun p hp => ?_⟩
    · have e1 : pcells (S.q ++ [(s, l)]) = pcells S.q ++ pcell (s, l) := by rw [pcells_append]; simp [pcells]
      have e2 : (S.q ++ [(s, l)]).length = S.q.length + 1 := by simp
      show World.ownsRow _ 0 TPu 513 _ (S.q ++ [(s, l)]).length (pcells (S.q ++ [(s, l)]))
      rw [e1, e2]
      exact ownsRow_block hown (fun g e => by simp [Value.ownBlock] at e; subst e; exact hne _ hgb)
    · refine ownsRow_block h.fr (fun g e => ?_)
      exact (hne g (fun e' => a4 (by rw [e, e']))).trans (hkeep g (by simp [fp, e]) (fun e' => a8 (by rw [e, e'])) (fun e' => a9 g e' e))
    · rcases List.mem_append.1 hp with hp | hp
      · exact h.qok p hp
      · simp at hp; subst hp; exact ⟨hs, hl⟩
  · refine Kp.set (Kp.grown (w' := w5.alloc o) ?_ hg (fun k e => .inl (by simp [fp, e]))) (.inl (by simp [fp])) _ _
    have k5 : Kp w w5 (fp b ms ml qv fv) := (k4.sub (fun i hi => .inl (by simp at hi; simp [fp, hi]))).trans (Kp.of_below hb5 []) (by simp)
    exact k5.trans (Kp.of_below ((Below.refl _ w5).alloc (Nat.le_refl _) o) []) (by simp)
  · intro i hi
    simp only [fp, Value.ownBlock, List.mem_cons, List.mem_append, Option.mem_toList, Option.some.injEq] at hi ⊢
    rcases hi with rfl | rfl | rfl | rfl | hi
    · simp
    · simp
    · simp
    · rcases hat with e | e
      · exact .inl (.inr (.inr (.inr (.inl e))))
      · right; omega
    · simp [hi]
end
end Go.Proofs.YtlacligofhinmaaGreat.K
