import Derived.Test.YtoabigjajnikcaaTD
namespace Go.Proofs.Ytoabigjajnikcaa
open Go.RowKit Go.Maps
attribute [local go_sem] Oper.semAt_some
set_option linter.unusedVariables false
set_option linter.unusedSimpArgs false
set_option maxRecDepth 100000

section
variable {w : World} {F : Nat → Prop} {b bm : Nat} {V : Int → Value} {S : St}
set_option maxHeartbeats 2000000 in
theorem get_core (po : Option Addr) (k er : Int) (c0 c1 c2 c3 c4 c5 c6 c7 c8 : Value) (e : En) (hp : PV w F (.agg #[c0, c1, c2, c3, c4, c5, c6, c7, c8]) e) (h1c : (#[c0, c1, c2, c3, c4, c5, c6, c7, c8] : Array Value).all (·.oneCell') = true) (hlt : ∀ g, F g → g < w.heap.size)
    (hf : ∀ w', Below w.heap.size w w' → Calls Try.prog 35 #[.pointer po, .int .i64 k] w' fun r w'' => r = .returned (.tuple #[.agg #[c0, c1, c2, c3, c4, c5, c6, c7, c8], .int .i64 er]) ∧ Below w'.heap.size w' w'') :
    Calls Try.prog 24 #[.pointer po, .int .i64 k] w fun r w' => ∃ da dc aa ac, r = .returned (.tuple #[.agg (ecl e da dc aa ac).toArray, .int .i64 er]) ∧ OV w' w.heap.size e da dc aa ac ∧ Below w.heap.size w w' := by
  have HF : Hid _ := hf _ (below1 w (.cells zC TEn))
  have HP : Hid _ := hp
  have H1 : Hid _ := h1c
  have HL : Hid _ := hlt
  simp only [zC] at HF
  clear hf hp h1c hlt
  go_enter Try.func24, Try.ntmps24
  go_wp2_with fail
  refine Calls.mono HF.out ?_
  rintro r w1 ⟨rfl, hb1⟩
  have hs1 := hb1.size
  rw [size1] at hs1
  have B1 := (mkb1 w #[.int .i64 0, .int .u16 0, .int .u16 0, .int .u64 0, .int .u64 0, .int .u64 0, .slice none 0 0, .bool false, .slice none 0 0] TEn).later hb1
  have B2 := B1.later (below1 w1 (.cells #[.int .i64 0, .int .u16 0, .int .u16 0, .int .u64 0, .int .u64 0, .int .u64 0, .slice none 0 0, .bool false, .slice none 0 0] TEn))
  have HB2 : Hid _ := B2
  have HBx : Hid _ := mkb1 w1 #[.int .i64 0, .int .u16 0, .int .u16 0, .int .u64 0, .int .u64 0, .int .u64 0, .slice none 0 0, .bool false, .slice none 0 0] TEn
  clear B1 B2 hb1 HF
  go_wp2_with (first | (refine wpList_store_row rfl TEn _ _ rfl w1.heap.size #[c0, c1, c2, c3, c4, c5, c6, c7, c8] rfl rfl TEn _ HBx.out.a infoEn rfl H1.out ?_; have HB3 : Hid _ := setRow_heap _ w1.heap.size _ #[c0, c1, c2, c3, c4, c5, c6, c7, c8] TEn _ HBx.out.a) | (refine wpList_load_row rfl TEn _ rfl w1.heap.size rfl TEn #[c0, c1, c2, c3, c4, c5, c6, c7, c8] (0, 0) _ HB3.out Try.underlying56 rfl infoEn ?_) | fail)
  have HBl : Hid (Below w.heap.size w ((w1.alloc (.cells #[.int .i64 0, .int .u16 0, .int .u16 0, .int .u64 0, .int .u64 0, .int .u64 0, .slice none 0 0, .bool false, .slice none 0 0] TEn)).setRow w1.heap.size #[c0, c1, c2, c3, c4, c5, c6, c7, c8])) := below_row HB2.out.bel (by omega) _
  have HR : Hid (((w1.alloc (.cells #[.int .i64 0, .int .u16 0, .int .u16 0, .int .u64 0, .int .u64 0, .int .u64 0, .slice none 0 0, .bool false, .slice none 0 0] TEn)).setRow w1.heap.size #[c0, c1, c2, c3, c4, c5, c6, c7, c8]).heap[w.heap.size]? = some (.cells #[.int .i64 0, .int .u16 0, .int .u16 0, .int .u64 0, .int .u64 0, .int .u64 0, .slice none 0 0, .bool false, .slice none 0 0] TEn (0, 0))) := (setRow_other _ _ _ _ (by omega)).trans HB2.out.a
  have HSz : Hid (w.heap.size < ((w1.alloc (.cells #[.int .i64 0, .int .u16 0, .int .u16 0, .int .u64 0, .int .u64 0, .int .u64 0, .slice none 0 0, .bool false, .slice none 0 0] TEn)).setRow w1.heap.size #[c0, c1, c2, c3, c4, c5, c6, c7, c8]).heap.size) := block_lt HR.out
  generalize ((w1.alloc (.cells #[.int .i64 0, .int .u16 0, .int .u16 0, .int .u64 0, .int .u64 0, .int .u64 0, .slice none 0 0, .bool false, .slice none 0 0] TEn)).setRow w1.heap.size #[c0, c1, c2, c3, c4, c5, c6, c7, c8]) = W at *
  refine (copied_any (HP.out.keep (KeptIn.ofBelow (S := fun _ => False) HBl.out) HL.out (fun _ _ h => h))).mono ?_
  rintro r w3 ⟨da, dc, aa, ac, rfl, hov, hb3⟩
  have HR3 : Hid _ := (hb3.block _ HSz.out).trans HR.out
  have HOv : Hid _ := hov
  have Hb3 : Hid _ := hb3
  have HE : Hid (ecl e da dc aa ac = ecl e da dc aa ac) := rfl
  clear hov hb3
  have HO : Hid _ := oneEcl e da aa dc ac
  simp only [ecl] at HO ⊢
  go_wp2_with (first | (refine wpList_store_row rfl TEn _ _ rfl w.heap.size _ rfl rfl TEn _ HR3.out infoEn rfl HO.out ?_) | fail)
  refine bodyPost_ret (results_cell_tmp1 rfl _ _ w.heap.size TEn #[.int .i64 e.id, .int .u16 e.rq.fl, .int .u16 e.rq.ty, .int .u64 e.rq.ck, .int .u64 e.rq.off, .int .u64 e.rq.len, .slice da e.rq.data.length dc, .bool e.rd, .slice aa e.an.length ac] (0, 0) _ rfl ?_ Try.underlying56 rfl infoEn) rfl ?_
  · exact setRow_heap _ _ _ _ _ _ HR3.out
  · have hlt := HSz.out
    have hsz := HBl.out.size
    have hov := HOv.out
    refine ⟨da, dc, aa, ac, rfl, ?_, below_row (HBl.out.trans (Hb3.out.mono HBl.out.size)) (by omega) _⟩
    have h2 := hov.same (w' := w3.setRow w.heap.size #[.int .i64 e.id, .int .u16 e.rq.fl, .int .u16 e.rq.ty, .int .u64 e.rq.ck, .int .u64 e.rq.off, .int .u64 e.rq.len, .slice da e.rq.data.length dc, .bool e.rd, .slice aa e.an.length ac]) (fun p hp => setRow_other _ _ _ _ (by have := (hov.lt.1 p hp).1; omega)) (fun p hp => setRow_other _ _ _ _ (by have := (hov.lt.2 p hp).1; omega))
    exact ⟨owns_mono h2.d hsz, owns_mono h2.a hsz, h2.dlt, h2.alt, h2.dlen, h2.alen, h2.sep⟩
theorem PV.form {v : Value} {e : En} (h : PV w F v e) : ∃ c0 c1 c2 c3 c4 c5 c6 c7 c8, v = .agg #[c0, c1, c2, c3, c4, c5, c6, c7, c8] ∧ (#[c0, c1, c2, c3, c4, c5, c6, c7, c8] : Array Value).all (·.oneCell') = true ∧ ∃ da dc aa ac, #[c0, c1, c2, c3, c4, c5, c6, c7, c8] = (ecl e da dc aa ac).toArray := by
  obtain ⟨da, dc, aa, ac, rfl, _, _⟩ := h.ex
  exact ⟨_, _, _, _, _, _, _, _, _, rfl, oneEcl e da aa dc ac, da, dc, aa, ac, rfl⟩
theorem get_yes (h : RT w F b bm V S) (e : En) (he : e ∈ S.L) : Calls Try.prog 24 #[.pointer (some ⟨b, 0, none⟩), .int .i64 e.id] w fun r w' => ∃ da dc aa ac, r = .returned (.tuple #[.agg (ecl e da dc aa ac).toArray, .int .i64 0]) ∧ OV w' w.heap.size e da dc aa ac ∧ Below w.heap.size w w' := by
  have hp := h.pv e he
  obtain ⟨c0, c1, c2, c3, c4, c5, c6, c7, c8, hv, h1, _⟩ := hp.form
  rw [hv] at hp
  exact get_core _ _ _ c0 c1 c2 c3 c4 c5 c6 c7 c8 e hp h1 h.lt fun w' hb => find_yes (h.later hb) e.id (ids_mem he) c0 c1 c2 c3 c4 c5 c6 c7 c8 hv h1
theorem get_no (h : RT w F b bm V S) (k : Int) (hk : k ∉ ids S.L) (hw : (Lit.int .i64 k).wf = true) : Calls Try.prog 24 #[.pointer (some ⟨b, 0, none⟩), .int .i64 k] w fun r w' => ∃ da dc aa ac, r = .returned (.tuple #[.agg (ecl zEn da dc aa ac).toArray, .int .i64 132]) ∧ OV w' w.heap.size zEn da dc aa ac ∧ Below w.heap.size w w' :=
  get_core _ _ _ _ _ _ _ _ _ _ _ _ zEn (zpv w F) (by simp [Value.oneCell']) h.lt fun w' hb => find_no (h.later hb) k hk hw
theorem get_not {po : Option Addr} (h : NoT w po) (k : Int) : Calls Try.prog 24 #[.pointer po, .int .i64 k] w fun r w' => ∃ da dc aa ac, r = .returned (.tuple #[.agg (ecl zEn da dc aa ac).toArray, .int .i64 1]) ∧ OV w' w.heap.size zEn da dc aa ac ∧ Below w.heap.size w w' :=
  get_core _ _ _ _ _ _ _ _ _ _ _ _ zEn (zpv w (fun _ => False)) (by simp [Value.oneCell']) (fun _ h => h.elim) fun w' hb => find_not (h.later hb) k
theorem clear_run (h : RT w F b bm V S) : ∃ w', (∀ ty, (Builtin.clear_ #[TMp] ty #[.map (some bm)]).run Try.prog w = .ok (.tuple #[]) w') ∧ w'.ownsMap Try.prog TIn heldE bm 0 (.map []) ∧ w.mapTurned w' bm := by
  obtain ⟨es, clock, h1, h2, h3, h4⟩ := h.mp
  refine ⟨_, fun ty => by
    simp [Builtin.clear_, run_underlying Try.underlying74, MapKept.run_getObj_map h1, MapKept.run_setObj_map _ h1, Result.andThen]
    rfl, ⟨#[], clock, ChangeMaps.heap_setBlock_same h1 _, ?_, Nat.le_refl _, rfl⟩, ⟨es, clock, #[], clock, h1, rfl⟩⟩
  exact ⟨by simp, ⟨by simp, by simp, by simp⟩, by simp⟩
end
end Go.Proofs.Ytoabigjajnikcaa
