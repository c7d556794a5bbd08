import Derived.Test.YtlacligofhinmaaGreatV9
import Derived.ChangeKeysEq
namespace Go.Proofs.YtlacligofhinmaaGreat.K
open Go.RowKit Go.Maps Go.Proofs.YtlacligofhinmaaGreat Go.MuLone
attribute [local go_sem] Oper.semAt_some
set_option linter.unusedVariables false
set_option linter.unusedSimpArgs false
set_option maxRecDepth 100000

theorem brow_box {w : World} {g : Nat} {l : Bl} (hl : OkB l) (h : w.heap[g]? = some (.cells (Lc l) TBl (0, 0))) (cap : Nat) : BRow w (some ⟨g, 0, none⟩) cap l := by
  refine ⟨hl.lt, by rw [hl.len]; decide, (fun e => by cases e), fun _ => ⟨g, 0, rfl, fun k hk => ?_⟩⟩
  rw [Nat.zero_add, cell_of h]
  simp [Lc, hk]
set_option maxHeartbeats 4000000 in
theorem read_none {w : World} {b ms ml : Nat} {qv fv : Value} {S : Dk} (h : RK w 0 b ms ml qv fv S) (hf : S.fs = []) {s : Nat} (hs : s < S.n) :
    Calls Tryz.prog 45 #[.pointer (some ⟨b, 0, none⟩), .int .i64 s] w fun r w' => ∃ v, r = .returned (.tuple #[v, .int .i64 0]) ∧ w'.ownsRow w.heap.size 5 1 v 512 ((look S s).map bv) ∧ DAct w w' 0 b ms ml ms ml qv fv qv fv (readS S) := by
  have hus := usable_any h
  have c0 : w.cell? ⟨b, 0, none⟩ = some (.int .i32 0) := h.c 0
  have z0 := h.fz 0
  have a1 := (DAct.refl h).put 0 (.int .i32 1) 1 S.st rfl
  obtain ⟨w1, hw1⟩ : ∃ w1, w1 = w.setCell ⟨b, 0, none⟩ (.int .i32 1) := ⟨_, rfl⟩
  rw [← hw1] at a1
  have h1 : RK w1 1 b ms ml qv fv S := a1.rk
  have hha := has_any h1 s
  rw [decide_eq_true (show 0 ≤ (s : Int) ∧ (s : Int) < S.n by omega)] at hha
  have hfa := fail_none h1 hf 1 s
  have hok := look_ok h hs
  have HA1 : Hid (DAct w w1 1 b ms ml ms ml qv fv qv fv S) := a1
  have HS : Hid (s < S.n) := hs
  have HL : Hid (OkB (look S s)) := hok
  have hz := zeroBl
  have HZ : Hid ((Tryz.prog.info? TBl).map (·.size) = some (Lc (look S s)).size) := by show _ = _; rw [Lc_size hok]; exact sizeBl
  generalize hlk : look S s = l at *
  have HE : Hid (look (readS S) s = l) := hlk
  clear h h1 a1 hs hf hok hlk
  go_enter_defers Tryz.func45, Tryz.ntmps45
  go_wp2_with (first | (go_at_call 60; refine hus.mono ?_; rintro e w9 ⟨rfl, hw9⟩; rw [hw9]; clear hw9 hus) | (go_at_call 61; refine (lock_free Tryz.muLib ⟨b, 0, none⟩ _ c0 z0).mono ?_; rintro e w9 ⟨rfl, hw9⟩; rw [hw9, ← hw1]; clear hw9 hw1 c0 z0) | (go_at_call 96; refine hha.mono ?_; rintro e w9 ⟨rfl, hw9⟩; rw [hw9]; clear hw9 hha) | (go_at_call 97; refine hfa.mono ?_; rintro e w2 ⟨rfl, hb2⟩; have a3 : DAct w (w2.alloc (.cells #[.int .i64 0, .int .i64 0, .int .i64 0, .int .i64 0, .bool false] TFa)) 1 b ms ml ms ml qv fv qv fv S := (HA1.out.later hb2).later ((Below.refl _ w2).alloc (Nat.le_refl _) _); have c7 : (w2.alloc (.cells #[.int .i64 0, .int .i64 0, .int .i64 0, .int .i64 0, .bool false] TFa)).cell? ⟨b, 7, none⟩ = some (.int .u64 S.st.reads) := a3.rk.c 7; have z7 := a3.rk.fz 7; have a4 := a3.put 7 (.int .u64 (inc S.st.reads)) 1 { S.st with reads := inc S.st.reads } rfl; have HA4 : Hid (DAct w ((w2.alloc (.cells #[.int .i64 0, .int .i64 0, .int .i64 0, .int .i64 0, .bool false] TFa)).setCell ⟨b, 7, none⟩ (.int .u64 (inc S.st.reads))) 1 b ms ml ms ml qv fv qv fv (readS S)) := a4; clear hb2 hfa a3 a4) | (go_at_call 98; refine (reads_any HA4.out.rk HS.out).mono ?_; rintro e w5 ⟨rfl, hb5⟩; rw [HE.out]; have hg5 := heap_alloc_new w5 (.cells Zc TBl); have HT5 : Hid ((w5.alloc (.cells Zc TBl)).there w5.heap.size 0 (Lc l).size) := there_row hg5 (by rw [Lc_size HL.out, Zc_size]; decide); have he5 : (w5.alloc (.cells Zc TBl)).setCells w5.heap.size 0 (Lc l).toList = w5.alloc (.cells (Lc l) TBl) := ((setCells_row HL.out hg5 Zc_size).trans (World.setRow_alloc_new w5 Zc (Lc l) TBl)); have HE5 : Hid ((w5.alloc (.cells Zc TBl)).setCells w5.heap.size 0 (Lc l).toList = w5.alloc (.cells (Lc l) TBl)) := he5; have a6 : DAct w (w5.alloc (.cells (Lc l) TBl)) 1 b ms ml ms ml qv fv qv fv (readS S) := (HA4.out.later hb5).later ((Below.refl _ w5).alloc (Nat.le_refl _) _); have HA6 : Hid (DAct w (w5.alloc (.cells (Lc l) TBl)) 1 b ms ml ms ml qv fv qv fv (readS S)) := a6; have hcl := clone_some ⟨w5.heap.size, 0, none⟩ 512 512 l (w5.alloc (.cells (Lc l) TBl)) (brow_box HL.out (heap_alloc_new w5 _) 512) HL.out.len (by decide); clear hg5 he5 a6 hb5) | (refine wpList_store_mid rfl TBl _ _ rfl w5.heap.size 0 (Lc l) rfl rfl HT5.out HZ.out (Lc_one l) ?_; rw [HE5.out]) | (go_at_call 43; refine hcl.mono ?_; rintro e w7 ⟨v, rfl, ho7, hb7⟩))
  have a7 := HA6.out.later hb7
  refine leaves_cons (f := 62) (args := #[.pointer (some ⟨b, 0, none⟩)]) (by simp) (by simp [go_sem]) ?_
  refine (unlock_deferred Tryz.muLib ⟨b, 0, none⟩ .returning _ (a7.rk.c 0) (a7.rk.fz 0)).mono ?_
  rintro e u' w'' ⟨rfl, rfl, rfl⟩
  refine ⟨_, results_tmp2 rfl _ _ _, v, rfl, ?_, a7.put 0 (.int .i32 0) 0 (readS S).st rfl⟩
  have hk := HA6.out.kp.size
  have hbl := HA6.out.rk.lt b (by simp [fp])
  refine ownsRow_block (owns_mono ho7 hk) (fun g hg => Below.heap_setCell _ _ _ _ ?_)
  have := (ho7.lt g hg).1
  show g ≠ b
  omega
end Go.Proofs.YtlacligofhinmaaGreat.K

namespace Go.Proofs.YtlacligofhinmaaGreat.K
open Go.RowKit Go.Maps Go.Proofs.YtlacligofhinmaaGreat Go.MuLone
attribute [local go_sem] Oper.semAt_some
set_option linter.unusedVariables false
set_option linter.unusedSimpArgs false
set_option maxRecDepth 100000

theorem cells5 : Tryz.prog.cellsOf 5 = 1 := by kernel_rfl
theorem part_u8 {l : Bl} (hl : OkB l) {i : Nat} (hi : i < 512) (w : World) : (part 5 (Lc l) (i * 1)).run Tryz.prog w = .ok (bv (l.getD i 0)) w := by
  have h1 : (Lc l)[i]? = some (bv (l.getD i 0)) := by
    have : i < l.length := by rw [hl.len]; exact hi
    simp [Lc, this]
  simp [part, go_sem, h1]
theorem eqItems_u8 {l m : Bl} (hl : OkB l) (hm : OkB m) (d : Nat) (w : World) : ∀ is : List Nat, (∀ i ∈ is, i < 512) → (Op.eqItems (d + 1) 5 (Tryz.prog.cellsOf 5) (Lc l) (Lc m) is).run Tryz.prog w = .ok (decide (∀ i ∈ is, l.getD i 0 = m.getD i 0)) w
  | [], _ => by simp [Op.eqItems]
  | i :: is, h => by
    have hi := h i (by simp)
    have ih := eqItems_u8 hl hm d w is (fun j hj => h j (by simp [hj]))
    rw [cells5] at ih ⊢
    simp only [Op.eqItems, Sem.run_bind, part_u8 hl hi, part_u8 hm hi, Result.andThen_ok, bv, run_equalIn_int w d _ _ _ _ _ Tryz.underlying5]
    by_cases e : l.getD i 0 = m.getD i 0
    · rw [e]
      simp only [beq_self_eq_true, Bool.not_true, Bool.false_eq_true, if_false]
      rw [ih]
      congr 1
      exact decide_eq_decide.2 ⟨fun hh j hj => (List.mem_cons.1 hj).elim (fun e1 => by rw [e1]; exact e) (hh j), fun hh j hj => hh j (by simp [hj])⟩
    · have e' : (((l.getD i 0 : Nat) : Int) == ((m.getD i 0 : Nat) : Int)) = false := by
        rw [beq_eq_false_iff_ne]; omega
      rw [e']
      simp only [Bool.not_false, if_true, Sem.run_pure]
      congr 1
      exact (decide_eq_false (fun hh => e (hh i (by simp)))).symm
theorem list_eq {l m : Bl} (hl : OkB l) (hm : OkB m) : (∀ i ∈ List.range 512, l.getD i 0 = m.getD i 0) ↔ l = m := by
  constructor
  · intro h
    apply List.ext_getElem (by rw [hl.len, hm.len])
    intro i h1 h2
    have := h i (by rw [hl.len] at h1; simpa using h1)
    simpa [h1, h2] using this
  · rintro rfl i _; rfl
theorem eq_block {l : Bl} (hl : OkB l) (w : World) : (binOp .eql TBl (.agg (Lc l)) (.agg Zc)).run Tryz.prog w = .ok (.bool (decide (l = z512))) w := by
  rw [run_eql_struct, show (10000 : Nat) = 9998 + 1 + 1 from rfl, Zc_eq, show ((z512.map bv).toArray : Array Value) = Lc z512 from rfl]
  obtain ⟨i5, h5⟩ : ∃ i5, Tryz.prog.info? 5 = some i5 := by
    cases h : Tryz.prog.info? 5 with
    | none => have := sizeU8; rw [h] at this; cases this
    | some i => exact ⟨i, rfl⟩
  rw [run_equalIn_array w (9998 + 1) (Lc l) (Lc z512) Tryz.underlying136 h5, eqItems_u8 hl okZ 9998 w _ (fun i hi => by simpa using hi)]
  simp only [Result.andThen_ok]
  congr 2
  exact decide_eq_decide.2 (list_eq hl okZ)
end Go.Proofs.YtlacligofhinmaaGreat.K
