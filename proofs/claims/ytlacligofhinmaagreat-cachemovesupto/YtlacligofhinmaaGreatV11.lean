import Derived.Test.YtlacligofhinmaaGreatV10
namespace Go.Proofs.YtlacligofhinmaaGreat.K
open Go.RowKit Go.Maps Go.Proofs.YtlacligofhinmaaGreat Go.MuLone
attribute [local go_sem] Oper.semAt_some
set_option linter.unusedVariables false
set_option linter.unusedSimpArgs false
set_option maxRecDepth 100000

/-- a sector's safe bytes become others -/
def upd (f : Nat → Bl) (s : Nat) (l : Bl) : Nat → Bl := fun t => if t = s then l else f t
def laid (S : Dk) (s : Nat) (l : Bl) : Dk := { S with safe := upd S.safe s l }
theorem SafeOk.put {n : Nat} {f : Nat → Bl} {D : DataW Unit} (h : SafeOk n f D) (hm : IsMap D) {s : Nat} {l : Bl} (hs : s < n) (hl : OkB l) (hw : WideAt.IsKeyLit (kl s)) : SafeOk n (upd f s l) (D.put (kl s) (bD l)) := by
  refine ⟨fun t ht => ?_, fun x hx => ?_, fun t ht => ?_⟩
  · by_cases e : t = s
    · subst e; rw [atKey_put_same hm hw]; simp [upd]
    · rw [atKey_put_other (fun e' => e (by simp at e'; omega)), h.at_ t ht]; simp [upd, e]
  · by_cases e : x = kl s
    · exact ⟨s, hs, e⟩
    · rw [has_put_other e] at hx; exact h.has_ x hx
  · unfold upd; split
    · exact hl
    · exact h.ok t ht
theorem SafeOk.del {n : Nat} {f : Nat → Bl} {D : DataW Unit} (h : SafeOk n f D) {s : Nat} (hs : s < n) : SafeOk n (upd f s z512) (D.del (kl s)) := by
  refine ⟨fun t ht => ?_, fun x hx => ?_, fun t ht => ?_⟩
  · by_cases e : t = s
    · subst e; rw [atKey_del_same]; simp [upd]
    · rw [atKey_del_other (fun e' => e (by simp at e'; omega)), h.at_ t ht]; simp [upd, e]
  · by_cases e : x = kl s
    · exact ⟨s, hs, e⟩
    · rw [has_del_other e] at hx; exact h.has_ x hx
  · unfold upd; split
    · exact okZ
    · exact h.ok t ht
/-- the map of safe bytes turns -/
theorem RK.safed {w w' : World} {lk : Int} {b ms ml : Nat} {qv fv : Value} {S : Dk} (h : RK w lk b ms ml qv fv S) {f : Nat → Bl} {D : DataW Unit} {c : Nat} (hm : w'.ownsMap Tryz.prog TIn blkE ms c D) (hso : SafeOk S.n f D) (hk : Kp w w' [ms]) : DAct w w' lk b ms ml ms ml qv fv qv fv { S with safe := f } := by
  obtain ⟨a1, a2, a3, a4, a5, a6, a7, a8, a9⟩ := h.apart
  have hs : ∀ i ∈ fp b ms ml qv fv, i ≠ ms → w'.heap[i]? = w.heap[i]? := fun i hi hne => hk.block i (h.lt i hi) (by simpa using hne)
  obtain ⟨D', h4, h5⟩ := h.lm
  exact ⟨⟨(hs b (by simp [fp]) a1).trans h.blk, h.n0, h.n1, ⟨D, ownsMap_tight hm, hso⟩, ⟨D', ownsMap_block h4 (hs ml (by simp [fp]) (Ne.symm h.ne)), h5⟩, ownsRow_block h.qr (fun g hg => hs g (by simp [fp, hg]) (fun e => a5 (by rw [hg, e]))), ownsRow_block h.fr (fun g hg => hs g (by simp [fp, hg]) (fun e => a7 (by rw [hg, e]))), h.ne, h.qok⟩, hk.sub (fun i hi => .inl (by simp at hi; simp [fp, hi])), fun i hi => .inl hi⟩
theorem kp_turned {X Y : World} {b : Nat} (h : X.grownBy Y (some b)) : Kp X Y [b] := ⟨h.os, h.tape, h.output, h.size, fun i hi hn => h.block i hi (fun e => hn (by simpa using e))⟩

set_option maxHeartbeats 4000000 in
theorem lay_any {w : World} {lk : Int} {b ms ml : Nat} {qv fv : Value} {S : Dk} (h : RK w lk b ms ml qv fv S) {s : Nat} (hs : s < S.n) {l : Bl} (hl : OkB l) :
    Calls Tryz.prog 115 #[.pointer (some ⟨b, 0, none⟩), .int .i64 s, .agg (Lc l)] w fun r w' => r = .returned (.tuple #[]) ∧ DAct w w' lk b ms ml ms ml qv fv qv fv (laid S s l) := by
  have hz := zeroBl
  have heq := fun W => eq_block hl W
  have hB0 : Below w.heap.size w (w.alloc (.cells (Lc l) TBl)) := (Below.refl _ w).alloc (Nat.le_refl _) _
  have h0 := h.later hB0
  have HG : Hid ((w.alloc (.cells (Lc l) TBl)).heap[w.heap.size]? = some (.cells (Lc l) TBl)) := heap_alloc_new w _
  have HZ : Hid ((Tryz.prog.info? TBl).map (·.size) = some (Lc l).size) := by show _ = _; rw [Lc_size hl]; exact sizeBl
  have c3 : (w.alloc (.cells (Lc l) TBl)).cell? ⟨b, 3, none⟩ = some (.map (some ms)) := h0.c 3
  have hk : keyOf Tryz.prog TIn (.int .i64 s) = some (kl s) := keyOf_int_mk Tryz.underlying3 (wfI s (by have := h.n1; omega))
  obtain ⟨D, hm, hso⟩ := h0.sm
  by_cases e : l = z512
  · subst e
    have hdel : ∀ ty, ∃ w1, (Builtin.delete_ #[TMs, TIn] ty #[.map (some ms), .int .i64 s]).run Tryz.prog (w.alloc (.cells (Lc z512) TBl)) = .ok (.tuple #[]) w1 ∧ DAct w w1 lk b ms ml ms ml qv fv qv fv (laid S s z512) := fun ty => by
      obtain ⟨w1, hdel, hm1, ht1⟩ := hm.drop keyed Tryz.underlying113 hk ty
      exact ⟨w1, hdel, (h0.safed hm1 (hso.del hs) (kp_turned ht1.grown)).from_later hB0⟩
    obtain ⟨w1, hd1, hfin⟩ := hdel 0
    have HF : Hid (DAct w w1 lk b ms ml ms ml qv fv qv fv (laid S s z512)) := hfin
    have hd : decide (z512 = z512) = true := decide_eq_true rfl
    clear h h0 hB0 hk hm hso hfin hs hdel
    go_enter Tryz.func115, Tryz.ntmps115
    go_wp2_with (refine wpList_load_row rfl TBl _ rfl w.heap.size rfl TBl (Lc z512) (0, 0) _ HG.out Tryz.underlying136 rfl HZ.out ?_)
    exact bodyPost_ret (results_none rfl _ _ _) rfl ⟨rfl, HF.out⟩
  · have hn1 := h.n1
    have hsz := size_le hm hso.has_
    obtain ⟨w1, hup, hm1, hg1⟩ := hm.drew.update keyed Tryz.underlying113 (by unfold maxLen; omega) hk (blkE_val l)
    have hfin : DAct w w1 lk b ms ml ms ml qv fv qv fv (laid S s l) := (h0.safed hm1 (hso.put hm.isMap hs hl (keyed.key hk)) ⟨hg1.os, hg1.tape, hg1.output, hg1.size, (kp_turned hg1).block⟩).from_later hB0
    have HF : Hid (DAct w w1 lk b ms ml ms ml qv fv qv fv (laid S s l)) := hfin
    have hup2 : (Instr.mapUpdate TMs (.map (some ms)) (.int .i64 s) (.agg (l.map bv).toArray)).run Tryz.prog (w.alloc (.cells (Lc l) TBl)).drew = .ok () w1 := hup
    have hgx : ∀ i, i < w.heap.size + 1 → i ≠ ms → w1.heap[i]? = (w.alloc (.cells (Lc l) TBl)).heap[i]? := fun i hi hne => hg1.block i (by show i < (w.alloc _).heap.size; rw [World.size_alloc]; exact hi) (fun e => hne (by simpa using e))
    have hbl := h.lt b (by simp [fp])
    have hmsl := h.lt ms (by simp [fp])
    have k3 : w1.cell? ⟨b, 3, none⟩ = some (.map (some ms)) := (World.cell?_of_block (a := ⟨b, 3, none⟩) (hgx b (by omega) h.apart.1)).trans c3
    have r0 : (w.alloc (.cells (Lc l) TBl)).rangeAt w.heap.size 0 (l.map bv) := fun j v hv => by
      rw [cell_of HG.out, Nat.zero_add]; simpa [Lc] using hv
    have kr : w1.rangeAt w.heap.size 0 (l.map bv) := fun j v hv => (World.cell?_of_block (a := ⟨w.heap.size, 0 + j, none⟩) (hgx w.heap.size (by omega) (by omega))).trans (r0 j v hv)
    have hu := Tryz.underlying136
    have hi73 : (Tryz.prog.info? 136).map (·.size) = some (l.map bv).length := by rw [List.length_map, hl.len]; exact sizeBl
    have hl512 : (l.map bv).length = 512 := by rw [List.length_map, hl.len]
    have ho1 := Lc_one' l
    have hd : decide (l = z512) = false := decide_eq_false e
    clear h h0 hB0 hk hm hso hm1 hg1 hfin hup hs
    go_enter Tryz.func115, Tryz.ntmps115
    go_wp2_with (refine wpList_load_row rfl TBl _ rfl w.heap.size rfl TBl (Lc l) (0, 0) _ HG.out Tryz.underlying136 rfl HZ.out ?_)
    go_region_held3 (fun w' => w'.cell? ⟨b, 3, none⟩ = some (.map (some ms)) ∧ w'.rangeAt w.heap.size 0 (l.map bv)) (first | exact ⟨k3, kr⟩ | go_keep_ranges) (fail)
    go_wp2
    go_end0
    exact ⟨rfl, HF.out⟩
end Go.Proofs.YtlacligofhinmaaGreat.K
