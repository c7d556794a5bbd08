import Derived.Test.YtbamjfnjenmdaaaGreatG4
import Derived.ChangeKeysEq
namespace Go.Proofs.YtbamjfnjenmdaaaGreat.K
open Go.RowKit Go.Maps Go.Proofs.YtbamjfnjenmdaaaGreat Go.MuLone
attribute [local go_sem] Oper.semAt_some
set_option linter.unusedVariables false
set_option linter.unusedSimpArgs false
set_option maxRecDepth 100000

theorem brow_box {w : World} {g : Nat} {l : Bl} (hl : OkB l) (h : w.heap[g]? = some (.cells (Lc l) TBl (0, 0))) (cap : Nat) : BRow w (some ⟨g, 0, none⟩) cap l := by
  refine ⟨hl.lt, by rw [hl.len]; decide, (fun e => by cases e), fun _ => ⟨g, 0, rfl, fun k hk => ?_⟩⟩
  rw [Nat.zero_add, cell_of h]
  simp [Lc, hk]
set_option maxHeartbeats 4000000 in
theorem read_none {w : World} {b ms ml : Nat} {qv fv : Value} {S : Dk} (h : RK w 0 b ms ml qv fv S) (hf : S.fs = []) {s : Nat} (hs : s < S.n) :
    Calls Tryz.prog 32 #[.pointer (some ⟨b, 0, none⟩), .int .i64 s] w fun r w' => ∃ v, r = .returned (.tuple #[v, .int .i64 0]) ∧ w'.ownsRow w.heap.size 5 1 v 512 ((look S s).map bv) ∧ DAct w w' 0 b ms ml ms ml qv fv qv fv (readS S) := by
  have hus := usable_any h
  have c0 : w.cell? ⟨b, 0, none⟩ = some (.int .i32 0) := h.c 0
  have z0 := h.fz 0
  have a1 := (DAct.refl h).put 0 (.int .i32 1) 1 S.st rfl
  obtain ⟨w1, hw1⟩ : ∃ w1, w1 = w.setCell ⟨b, 0, none⟩ (.int .i32 1) := ⟨_, rfl⟩
  rw [← hw1] at a1
  have h1 : RK w1 1 b ms ml qv fv S := a1.rk
  have hha := has_any h1 s
  rw [decide_eq_true (show 0 ≤ (s : Int) ∧ (s : Int) < S.n by omega)] at hha
  have hfa := fail_none h1 hf 1 s
  have hok := look_ok h hs
  have HA1 : Hid (DAct w w1 1 b ms ml ms ml qv fv qv fv S) := a1
  have HS : Hid (s < S.n) := hs
  have HL : Hid (OkB (look S s)) := hok
  have hz := zeroBl
  have HZ : Hid ((Tryz.prog.info? TBl).map (·.size) = some (Lc (look S s)).size) := by show _ = _; rw [Lc_size hok]; exact sizeBl
  generalize hlk : look S s = l at *
  have HE : Hid (look (readS S) s = l) := hlk
  clear h h1 a1 hs hf hok hlk
  go_enter_defers Tryz.func32, Tryz.ntmps32
  go_wp2_with (first | (go_at_call 44; refine hus.mono ?_; rintro e w9 ⟨rfl, hw9⟩; rw [hw9]; clear hw9 hus) | (go_at_call 45; refine (lock_free Tryz.muLib ⟨b, 0, none⟩ _ c0 z0).mono ?_; rintro e w9 ⟨rfl, hw9⟩; rw [hw9, ← hw1]; clear hw9 hw1 c0 z0) | (go_at_call 57; refine hha.mono ?_; rintro e w9 ⟨rfl, hw9⟩; rw [hw9]; clear hw9 hha) | (go_at_call 58; refine hfa.mono ?_; rintro e w2 ⟨rfl, hb2⟩; have a3 : DAct w (w2.alloc (.cells #[.int .i64 0, .int .i64 0, .int .i64 0, .int .i64 0, .bool false] TFa)) 1 b ms ml ms ml qv fv qv fv S := (HA1.out.later hb2).later ((Below.refl _ w2).alloc (Nat.le_refl _) _); have c7 : (w2.alloc (.cells #[.int .i64 0, .int .i64 0, .int .i64 0, .int .i64 0, .bool false] TFa)).cell? ⟨b, 7, none⟩ = some (.int .u64 S.st.reads) := a3.rk.c 7; have z7 := a3.rk.fz 7; have a4 := a3.put 7 (.int .u64 (inc S.st.reads)) 1 { S.st with reads := inc S.st.reads } rfl; have HA4 : Hid (DAct w ((w2.alloc (.cells #[.int .i64 0, .int .i64 0, .int .i64 0, .int .i64 0, .bool false] TFa)).setCell ⟨b, 7, none⟩ (.int .u64 (inc S.st.reads))) 1 b ms ml ms ml qv fv qv fv (readS S)) := a4; clear hb2 hfa a3 a4) | (go_at_call 59; refine (reads_any HA4.out.rk HS.out).mono ?_; rintro e w5 ⟨rfl, hb5⟩; rw [HE.out]; have hg5 := heap_alloc_new w5 (.cells Zc TBl); have HT5 : Hid ((w5.alloc (.cells Zc TBl)).there w5.heap.size 0 (Lc l).size) := there_row hg5 (by rw [Lc_size HL.out, Zc_size]; decide); have he5 : (w5.alloc (.cells Zc TBl)).setCells w5.heap.size 0 (Lc l).toList = w5.alloc (.cells (Lc l) TBl) := ((setCells_row HL.out hg5 Zc_size).trans (World.setRow_alloc_new w5 Zc (Lc l) TBl)); have HE5 : Hid ((w5.alloc (.cells Zc TBl)).setCells w5.heap.size 0 (Lc l).toList = w5.alloc (.cells (Lc l) TBl)) := he5; have a6 : DAct w (w5.alloc (.cells (Lc l) TBl)) 1 b ms ml ms ml qv fv qv fv (readS S) := (HA4.out.later hb5).later ((Below.refl _ w5).alloc (Nat.le_refl _) _); have HA6 : Hid (DAct w (w5.alloc (.cells (Lc l) TBl)) 1 b ms ml ms ml qv fv qv fv (readS S)) := a6; have hcl := clone_some ⟨w5.heap.size, 0, none⟩ 512 512 l (w5.alloc (.cells (Lc l) TBl)) (brow_box HL.out (heap_alloc_new w5 _) 512) HL.out.len (by decide); clear hg5 he5 a6 hb5) | (refine wpList_store_mid rfl TBl _ _ rfl w5.heap.size 0 (Lc l) rfl rfl HT5.out HZ.out (Lc_one l) ?_; rw [HE5.out]) | (go_at_call 31; refine hcl.mono ?_; rintro e w7 ⟨v, rfl, ho7, hb7⟩))
  have a7 := HA6.out.later hb7
  refine leaves_cons (f := 46) (args := #[.pointer (some ⟨b, 0, none⟩)]) (by simp) (by simp [go_sem]) ?_
  refine (unlock_deferred Tryz.muLib ⟨b, 0, none⟩ .returning _ (a7.rk.c 0) (a7.rk.fz 0)).mono ?_
  rintro e u' w'' ⟨rfl, rfl, rfl⟩
  refine ⟨_, results_tmp2 rfl _ _ _, v, rfl, ?_, a7.put 0 (.int .i32 0) 0 (readS S).st rfl⟩
  have hk := HA6.out.kp.size
  have hbl := HA6.out.rk.lt b (by simp [fp])
  refine ownsRow_block (owns_mono ho7 hk) (fun g hg => Below.heap_setCell _ _ _ _ ?_)
  have := (ho7.lt g hg).1
  show g ≠ b
  omega
end Go.Proofs.YtbamjfnjenmdaaaGreat.K

namespace Go.Proofs.YtbamjfnjenmdaaaGreat.K
open Go.RowKit Go.Maps Go.Proofs.YtbamjfnjenmdaaaGreat Go.MuLone
attribute [local go_sem] Oper.semAt_some
set_option linter.unusedVariables false
set_option linter.unusedSimpArgs false
set_option maxRecDepth 100000

theorem cells5 : Tryz.prog.cellsOf 5 = 1 := by kernel_rfl
theorem part_u8 {l : Bl} (hl : OkB l) {i : Nat} (hi : i < 512) (w : World) : (part 5 (Lc l) (i * 1)).run Tryz.prog w = .ok (bv (l.getD i 0)) w := by
  have h1 : (Lc l)[i]? = some (bv (l.getD i 0)) := by
    have : i < l.length := by rw [hl.len]; exact hi
    simp [Lc, this]
  simp [part, go_sem, h1]
theorem eqItems_u8 {l m : Bl} (hl : OkB l) (hm : OkB m) (d : Nat) (w : World) : ∀ is : List Nat, (∀ i ∈ is, i < 512) → (Op.eqItems (d + 1) 5 (Tryz.prog.cellsOf 5) (Lc l) (Lc m) is).run Tryz.prog w = .ok (decide (∀ i ∈ is, l.getD i 0 = m.getD i 0)) w
  | [], _ => by simp [Op.eqItems]
  | i :: is, h => by
    have hi := h i (by simp)
    have ih := eqItems_u8 hl hm d w is (fun j hj => h j (by simp [hj]))
    rw [cells5] at ih ⊢
    simp only [Op.eqItems, Sem.run_bind, part_u8 hl hi, part_u8 hm hi, Result.andThen_ok, bv, run_equalIn_int w d _ _ _ _ _ Tryz.underlying5]
    by_cases e : l.getD i 0 = m.getD i 0
    · rw [e]
      simp only [beq_self_eq_true, Bool.not_true, Bool.false_eq_true, if_false]
      rw [ih]
      congr 1
      exact decide_eq_decide.2 ⟨fun hh j hj => (List.mem_cons.1 hj).elim (fun e1 => by rw [e1]; exact e) (hh j), fun hh j hj => hh j (by simp [hj])⟩
    · have e' : (((l.getD i 0 : Nat) : Int) == ((m.getD i 0 : Nat) : Int)) = false := by
        rw [beq_eq_false_iff_ne]; omega
      rw [e']
      simp only [Bool.not_false, if_true, Sem.run_pure]
      congr 1
      exact (decide_eq_false (fun hh => e (hh i (by simp)))).symm
theorem list_eq {l m : Bl} (hl : OkB l) (hm : OkB m) : (∀ i ∈ List.range 512, l.getD i 0 = m.getD i 0) ↔ l = m := by
  constructor
  · intro h
    apply List.ext_getElem (by rw [hl.len, hm.len])
    intro i h1 h2
    have := h i (by rw [hl.len] at h1; simpa using h1)
    simpa [h1, h2] using this
  · rintro rfl i _; rfl
theorem eq_block {l : Bl} (hl : OkB l) (w : World) : (binOp .eql TBl (.agg (Lc l)) (.agg Zc)).run Tryz.prog w = .ok (.bool (decide (l = z512))) w := by
  rw [run_eql_struct, show (10000 : Nat) = 9998 + 1 + 1 from rfl, Zc_eq, show ((z512.map bv).toArray : Array Value) = Lc z512 from rfl]
  obtain ⟨i5, h5⟩ : ∃ i5, Tryz.prog.info? 5 = some i5 := by
    cases h : Tryz.prog.info? 5 with
    | none => have := sizeU8; rw [h] at this; cases this
    | some i => exact ⟨i, rfl⟩
  rw [run_equalIn_array w (9998 + 1) (Lc l) (Lc z512) Tryz.underlying116 h5, eqItems_u8 hl okZ 9998 w _ (fun i hi => by simpa using hi)]
  simp only [Result.andThen_ok]
  congr 2
  exact decide_eq_decide.2 (list_eq hl okZ)
end Go.Proofs.YtbamjfnjenmdaaaGreat.K

namespace Go.Proofs.YtbamjfnjenmdaaaGreat.K
open Go.RowKit Go.Maps Go.Proofs.YtbamjfnjenmdaaaGreat Go.MuLone
attribute [local go_sem] Oper.semAt_some
set_option linter.unusedVariables false
set_option linter.unusedSimpArgs false
set_option maxRecDepth 100000

/-- a sector's safe bytes become others -/
def upd (f : Nat → Bl) (s : Nat) (l : Bl) : Nat → Bl := fun t => if t = s then l else f t
def laid (S : Dk) (s : Nat) (l : Bl) : Dk := { S with safe := upd S.safe s l }
theorem SafeOk.put {n : Nat} {f : Nat → Bl} {D : DataW Unit} (h : SafeOk n f D) (hm : IsMap D) {s : Nat} {l : Bl} (hs : s < n) (hl : OkB l) (hw : WideAt.IsKeyLit (kl s)) : SafeOk n (upd f s l) (D.put (kl s) (bD l)) := by
  refine ⟨fun t ht => ?_, fun x hx => ?_, fun t ht => ?_⟩
  · by_cases e : t = s
    · subst e; rw [atKey_put_same hm hw]; simp [upd]
    · rw [atKey_put_other (fun e' => e (by simp at e'; omega)), h.at_ t ht]; simp [upd, e]
  · by_cases e : x = kl s
    · exact ⟨s, hs, e⟩
    · rw [has_put_other e] at hx; exact h.has_ x hx
  · unfold upd; split
    · exact hl
    · exact h.ok t ht
theorem SafeOk.del {n : Nat} {f : Nat → Bl} {D : DataW Unit} (h : SafeOk n f D) {s : Nat} (hs : s < n) : SafeOk n (upd f s z512) (D.del (kl s)) := by
  refine ⟨fun t ht => ?_, fun x hx => ?_, fun t ht => ?_⟩
  · by_cases e : t = s
    · subst e; rw [atKey_del_same]; simp [upd]
    · rw [atKey_del_other (fun e' => e (by simp at e'; omega)), h.at_ t ht]; simp [upd, e]
  · by_cases e : x = kl s
    · exact ⟨s, hs, e⟩
    · rw [has_del_other e] at hx; exact h.has_ x hx
  · unfold upd; split
    · exact okZ
    · exact h.ok t ht
/-- the map of safe bytes turns -/
theorem RK.safed {w w' : World} {lk : Int} {b ms ml : Nat} {qv fv : Value} {S : Dk} (h : RK w lk b ms ml qv fv S) {f : Nat → Bl} {D : DataW Unit} {c : Nat} (hm : w'.ownsMap Tryz.prog TIn blkE ms c D) (hso : SafeOk S.n f D) (hk : Kp w w' [ms]) : DAct w w' lk b ms ml ms ml qv fv qv fv { S with safe := f } := by
  obtain ⟨a1, a2, a3, a4, a5, a6, a7, a8, a9⟩ := h.apart
  have hs : ∀ i ∈ fp b ms ml qv fv, i ≠ ms → w'.heap[i]? = w.heap[i]? := fun i hi hne => hk.block i (h.lt i hi) (by simpa using hne)
  obtain ⟨D', h4, h5⟩ := h.lm
  exact ⟨⟨(hs b (by simp [fp]) a1).trans h.blk, h.n0, h.n1, ⟨D, ownsMap_tight hm, hso⟩, ⟨D', ownsMap_block h4 (hs ml (by simp [fp]) (Ne.symm h.ne)), h5⟩, ownsRow_block h.qr (fun g hg => hs g (by simp [fp, hg]) (fun e => a5 (by rw [hg, e]))), ownsRow_block h.fr (fun g hg => hs g (by simp [fp, hg]) (fun e => a7 (by rw [hg, e]))), h.ne, h.qok⟩, hk.sub (fun i hi => .inl (by simp at hi; simp [fp, hi])), fun i hi => .inl hi⟩
theorem kp_turned {X Y : World} {b : Nat} (h : X.grownBy Y (some b)) : Kp X Y [b] := ⟨h.os, h.tape, h.output, h.size, fun i hi hn => h.block i hi (fun e => hn (by simpa using e))⟩

set_option maxHeartbeats 4000000 in
theorem lay_any {w : World} {lk : Int} {b ms ml : Nat} {qv fv : Value} {S : Dk} (h : RK w lk b ms ml qv fv S) {s : Nat} (hs : s < S.n) {l : Bl} (hl : OkB l) :
    Calls Tryz.prog 110 #[.pointer (some ⟨b, 0, none⟩), .int .i64 s, .agg (Lc l)] w fun r w' => r = .returned (.tuple #[]) ∧ DAct w w' lk b ms ml ms ml qv fv qv fv (laid S s l) := by
  have hz := zeroBl
  have heq := fun W => eq_block hl W
  have hB0 : Below w.heap.size w (w.alloc (.cells (Lc l) TBl)) := (Below.refl _ w).alloc (Nat.le_refl _) _
  have h0 := h.later hB0
  have HG : Hid ((w.alloc (.cells (Lc l) TBl)).heap[w.heap.size]? = some (.cells (Lc l) TBl)) := heap_alloc_new w _
  have HZ : Hid ((Tryz.prog.info? TBl).map (·.size) = some (Lc l).size) := by show _ = _; rw [Lc_size hl]; exact sizeBl
  have c3 : (w.alloc (.cells (Lc l) TBl)).cell? ⟨b, 3, none⟩ = some (.map (some ms)) := h0.c 3
  have hk : keyOf Tryz.prog TIn (.int .i64 s) = some (kl s) := keyOf_int_mk Tryz.underlying3 (wfI s (by have := h.n1; omega))
  obtain ⟨D, hm, hso⟩ := h0.sm
  by_cases e : l = z512
  · subst e
    have hdel : ∀ ty, ∃ w1, (Builtin.delete_ #[TMs, TIn] ty #[.map (some ms), .int .i64 s]).run Tryz.prog (w.alloc (.cells (Lc z512) TBl)) = .ok (.tuple #[]) w1 ∧ DAct w w1 lk b ms ml ms ml qv fv qv fv (laid S s z512) := fun ty => by
      obtain ⟨w1, hdel, hm1, ht1⟩ := hm.drop keyed Tryz.underlying107 hk ty
      exact ⟨w1, hdel, (h0.safed hm1 (hso.del hs) (kp_turned ht1.grown)).from_later hB0⟩
    obtain ⟨w1, hd1, hfin⟩ := hdel 0
    have HF : Hid (DAct w w1 lk b ms ml ms ml qv fv qv fv (laid S s z512)) := hfin
    have hd : decide (z512 = z512) = true := decide_eq_true rfl
    clear h h0 hB0 hk hm hso hfin hs hdel
    go_enter Tryz.func110, Tryz.ntmps110
    go_wp2_with (refine wpList_load_row rfl TBl _ rfl w.heap.size rfl TBl (Lc z512) (0, 0) _ HG.out Tryz.underlying116 rfl HZ.out ?_)
    exact bodyPost_ret (results_none rfl _ _ _) rfl ⟨rfl, HF.out⟩
  · have hn1 := h.n1
    have hsz := size_le hm hso.has_
    obtain ⟨w1, hup, hm1, hg1⟩ := hm.drew.update keyed Tryz.underlying107 (by unfold maxLen; omega) hk (blkE_val l)
    have hfin : DAct w w1 lk b ms ml ms ml qv fv qv fv (laid S s l) := (h0.safed hm1 (hso.put hm.isMap hs hl (keyed.key hk)) ⟨hg1.os, hg1.tape, hg1.output, hg1.size, (kp_turned hg1).block⟩).from_later hB0
    have HF : Hid (DAct w w1 lk b ms ml ms ml qv fv qv fv (laid S s l)) := hfin
    have hup2 : (Instr.mapUpdate TMs (.map (some ms)) (.int .i64 s) (.agg (l.map bv).toArray)).run Tryz.prog (w.alloc (.cells (Lc l) TBl)).drew = .ok () w1 := hup
    have hgx : ∀ i, i < w.heap.size + 1 → i ≠ ms → w1.heap[i]? = (w.alloc (.cells (Lc l) TBl)).heap[i]? := fun i hi hne => hg1.block i (by show i < (w.alloc _).heap.size; rw [World.size_alloc]; exact hi) (fun e => hne (by simpa using e))
    have hbl := h.lt b (by simp [fp])
    have hmsl := h.lt ms (by simp [fp])
    have k3 : w1.cell? ⟨b, 3, none⟩ = some (.map (some ms)) := (World.cell?_of_block (a := ⟨b, 3, none⟩) (hgx b (by omega) h.apart.1)).trans c3
    have r0 : (w.alloc (.cells (Lc l) TBl)).rangeAt w.heap.size 0 (l.map bv) := fun j v hv => by
      rw [cell_of HG.out, Nat.zero_add]; simpa [Lc] using hv
    have kr : w1.rangeAt w.heap.size 0 (l.map bv) := fun j v hv => (World.cell?_of_block (a := ⟨w.heap.size, 0 + j, none⟩) (hgx w.heap.size (by omega) (by omega))).trans (r0 j v hv)
    have hu := Tryz.underlying116
    have hi73 : (Tryz.prog.info? 116).map (·.size) = some (l.map bv).length := by rw [List.length_map, hl.len]; exact sizeBl
    have hl512 : (l.map bv).length = 512 := by rw [List.length_map, hl.len]
    have ho1 := Lc_one' l
    have hd : decide (l = z512) = false := decide_eq_false e
    clear h h0 hB0 hk hm hso hm1 hg1 hfin hup hs
    go_enter Tryz.func110, Tryz.ntmps110
    go_wp2_with (refine wpList_load_row rfl TBl _ rfl w.heap.size rfl TBl (Lc l) (0, 0) _ HG.out Tryz.underlying116 rfl HZ.out ?_)
    go_region_held3 (fun w' => w'.cell? ⟨b, 3, none⟩ = some (.map (some ms)) ∧ w'.rangeAt w.heap.size 0 (l.map bv)) (first | exact ⟨k3, kr⟩ | go_keep_ranges) (fail)
    go_wp2
    go_end0
    exact ⟨rfl, HF.out⟩
end Go.Proofs.YtbamjfnjenmdaaaGreat.K
