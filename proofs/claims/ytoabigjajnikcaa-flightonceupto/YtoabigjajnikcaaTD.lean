import Derived.Test.YtoabigjajnikcaaTC
namespace Go.Proofs.Ytoabigjajnikcaa
open Go.RowKit Go.Maps
attribute [local go_sem] Oper.semAt_some
set_option linter.unusedVariables false
set_option linter.unusedSimpArgs false
set_option maxRecDepth 100000

def zEn : En := ⟨0, ⟨0, 0, 0, 0, 0, []⟩, false, []⟩
def zC : Array Value := #[.int .i64 0, .int .u16 0, .int .u16 0, .int .u64 0, .int .u64 0, .int .u64 0, .slice none 0 0, .bool false, .slice none 0 0]
theorem zeroEn (w : World) : (zeroValue TEn).run Try.prog w = .ok (.agg zC) w := by kernel_rfl
theorem zpv (w : World) (F : Nat → Prop) : PV w F (.agg zC) zEn := ⟨none, 0, none, 0, rfl, FRow.nil w F, FRow.nil w F⟩
section
variable {w : World} {F : Nat → Prop} {b bm : Nat} {V : Int → Value} {S : St}
set_option maxHeartbeats 1000000 in
theorem find_not {po : Option Addr} (h : NoT w po) (k : Int) : Calls Try.prog 35 #[.pointer po, .int .i64 k] w fun e w' => e = .returned (.tuple #[.agg zC, .int .i64 1]) ∧ Below w.heap.size w w' := by
  have hu := usable_not (h.later (below1 w (.cells zC TEn)))
  simp only [zC] at hu ⊢
  go_enter Try.func35, Try.ntmps35
  go_wp2_with (first | (go_at_call 32; refine hu.mono ?_; rintro e w9 ⟨rfl, hw9⟩; rw [hw9]; clear hw9))
  exact bodyPost_ret (results_cell_tmp1 rfl _ _ w.heap.size 56 zC (0, 0) _ rfl (heap_new w _) Try.underlying56 rfl infoEn) rfl ⟨rfl, below1 w _⟩
set_option maxHeartbeats 2000000 in
theorem find_no (h : RT w F b bm V S) (k : Int) (hk : k ∉ ids S.L) (hw : (Lit.int .i64 k).wf = true) : Calls Try.prog 35 #[.pointer (some ⟨b, 0, none⟩), .int .i64 k] w fun e w' => e = .returned (.tuple #[.agg zC, .int .i64 132]) ∧ Below w.heap.size w w' := by
  have hR := h.later (below1 w (.cells zC TEn))
  have hu := usable_any hR
  have h2 : w.cell? ⟨b, 2, none⟩ = some (.map (some bm)) := h.c 2
  have h2' : (w.alloc (.cells zC TEn)).cell? ⟨b, 2, none⟩ = some (.map (some bm)) := hR.c 2
  have hb : ¬ b = w.heap.size := by have := h.ltb; omega
  have hm : (w.alloc (.cells zC TEn)).ownsMap Try.prog TIn heldE bm S.L.length (mapI (ids S.L) V) := hR.mp
  have hz := zeroEn
  have hh : Maps.has (mapI (ids S.L) V) (kl k) = false := by rw [mapI_has]; simp [hk]
  have hat : (mapI (ids S.L) V).atKey (kl k) (.held (.agg zC)) = .held (.agg zC) := atKey_of_not_has hh _
  have hv' : ∀ v ps, heldE v = some ((mapI (ids S.L) V).atKey (kl k) (.held (.agg zC)), ps) → v = .agg zC := fun v ps hv => heldE_inj (by rw [hat] at hv; exact hv)
  clear h hR
  simp only [zC] at hu hm h2' hz hv' ⊢
  have HM : Hid _ := hm
  clear hm hat
  go_enter Try.func35, Try.ntmps35
  go_wp2_with (first | (go_at_call 32; refine hu.mono ?_; rintro e w9 ⟨rfl, hw9⟩; rw [hw9]; clear hw9) | (at_lookup; refine wpList_lookup_own_ok _ rfl _ _ TMp rfl TIn TEn keyed Try.underlying74 heldE (hz _) (.held _) [] rfl bm _ _ rfl HM.out _ _ rfl (keyAt hw) ?_; intro v ps hv; have e1 := hv' v ps hv; rw [e1, hh]; clear hv e1))
  exact bodyPost_ret (results_cell_tmp1 rfl _ _ w.heap.size 56 zC (0, 0) _ rfl (mkb2 w _ _ _ _).a Try.underlying56 rfl infoEn) rfl ⟨rfl, (mkb2 w _ _ _ _).bel⟩
theorem ids_mem {e : En} {L : List En} (he : e ∈ L) : e.id ∈ ids L := List.mem_map.2 ⟨e, he, rfl⟩
theorem RT.wf (h : RT w F b bm V S) {k : Int} (hk : k ∈ ids S.L) : (Lit.int .i64 k).wf = true := by
  have h1 := h.ok.pos k hk
  have h2 := h.ok.top k hk
  have h3 := h.ok.big
  simp only [Lit.wf, Bool.and_eq_true, decide_eq_true_eq]
  constructor
  · show (-9223372036854775808 : Int) ≤ k; omega
  · show k ≤ (9223372036854775807 : Int); omega
set_option maxHeartbeats 2000000 in
theorem find_yes (h : RT w F b bm V S) (k : Int) (hk : k ∈ ids S.L) (c0 c1 c2 c3 c4 c5 c6 c7 c8 : Value) (hV : V k = .agg #[c0, c1, c2, c3, c4, c5, c6, c7, c8]) (h1c : (#[c0, c1, c2, c3, c4, c5, c6, c7, c8] : Array Value).all (·.oneCell') = true) : Calls Try.prog 35 #[.pointer (some ⟨b, 0, none⟩), .int .i64 k] w fun e w' => e = .returned (.tuple #[.agg #[c0, c1, c2, c3, c4, c5, c6, c7, c8], .int .i64 0]) ∧ Below w.heap.size w w' := by
  have hR := h.later (below1 w (.cells zC TEn))
  have hu := usable_any hR
  have h2 : w.cell? ⟨b, 2, none⟩ = some (.map (some bm)) := h.c 2
  have h2' : (w.alloc (.cells zC TEn)).cell? ⟨b, 2, none⟩ = some (.map (some bm)) := hR.c 2
  have hb : ¬ b = w.heap.size := by have := h.ltb; omega
  have hm : (w.alloc (.cells zC TEn)).ownsMap Try.prog TIn heldE bm S.L.length (mapI (ids S.L) V) := hR.mp
  have hz := zeroEn
  have hw := h.wf hk
  have hh : Maps.has (mapI (ids S.L) V) (kl k) = true := by rw [mapI_has]; simp [hk]
  have hv' : ∀ v ps, heldE v = some ((mapI (ids S.L) V).atKey (kl k) (.held (.agg zC)), ps) → v = .agg #[c0, c1, c2, c3, c4, c5, c6, c7, c8] := fun v ps hv => by rw [mapI_at _ _ _ _ hk] at hv; rw [← hV]; exact heldE_inj hv
  have H1 : Hid _ := h1c
  clear h hR hV h1c
  simp only [zC] at hu hm h2' hz hv' ⊢
  have HM : Hid _ := hm
  clear hm
  have B2 := mkb2 w #[.int .i64 0, .int .u16 0, .int .u16 0, .int .u64 0, .int .u64 0, .int .u64 0, .slice none 0 0, .bool false, .slice none 0 0] #[.int .i64 0, .int .u16 0, .int .u16 0, .int .u64 0, .int .u64 0, .int .u64 0, .slice none 0 0, .bool false, .slice none 0 0] 56 56
  have HB2 : Hid _ := B2
  clear B2
  go_enter Try.func35, Try.ntmps35
  go_wp2_with (first | (go_at_call 32; refine hu.mono ?_; rintro e w9 ⟨rfl, hw9⟩; rw [hw9]; clear hw9) | (at_lookup; refine wpList_lookup_own_ok _ rfl _ _ TMp rfl TIn TEn keyed Try.underlying74 heldE (hz _) (.held _) [] rfl bm _ _ rfl HM.out _ _ rfl (keyAt hw) ?_; intro v ps hv; have e1 := hv' v ps hv; rw [e1, hh]; clear hv e1) | (refine wpList_store_row rfl TEn _ _ rfl (w.heap.size + 1) #[c0, c1, c2, c3, c4, c5, c6, c7, c8] rfl rfl 56 _ HB2.out.b infoEn rfl H1.out ?_; have HB3 : Hid _ := setRow_heap _ (w.heap.size + 1) _ #[c0, c1, c2, c3, c4, c5, c6, c7, c8] 56 _ HB2.out.b) | (refine wpList_load_row rfl TEn _ rfl (w.heap.size + 1) rfl 56 #[c0, c1, c2, c3, c4, c5, c6, c7, c8] (0, 0) _ HB3.out Try.underlying56 rfl infoEn ?_) | (refine wpList_store_row rfl TEn _ _ rfl w.heap.size #[c0, c1, c2, c3, c4, c5, c6, c7, c8] rfl rfl 56 _ ((setRow_other _ _ _ _ (by omega)).trans HB2.out.a) infoEn rfl H1.out ?_))
  refine bodyPost_ret (results_cell_tmp1 rfl _ _ w.heap.size 56 #[c0, c1, c2, c3, c4, c5, c6, c7, c8] (0, 0) _ rfl ?_ Try.underlying56 rfl infoEn) rfl ?_
  · exact setRow_heap _ _ _ _ _ _ ((setRow_other _ _ _ _ (by omega)).trans HB2.out.a)
  · exact ⟨rfl, below_row (below_row HB2.out.bel (by omega) _) (by omega) _⟩
end
end Go.Proofs.Ytoabigjajnikcaa
