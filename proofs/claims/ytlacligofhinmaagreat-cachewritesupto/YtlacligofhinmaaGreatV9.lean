import Derived.Test.YtlacligofhinmaaGreatV7
import Derived.Test.YtlacligofhinmaaGreatV8
namespace Go.Proofs.YtlacligofhinmaaGreat.K
open Go.RowKit Go.Maps Go.Proofs.YtlacligofhinmaaGreat Go.MuLone
attribute [local go_sem] Oper.semAt_some
set_option linter.unusedVariables false
set_option linter.unusedSimpArgs false
set_option maxRecDepth 100000

def readS (S : Dk) : Dk := { S with st := { S.st with reads := inc S.st.reads } }
theorem look_ok {w : World} {lk : Int} {b ms ml : Nat} {qv fv : Value} {S : Dk} (h : RK w lk b ms ml qv fv S) {s : Nat} (hs : s < S.n) : OkB (look S s) := by
  unfold look
  cases hl : lastQ s S.q with
  | none => obtain ⟨D, _, hso⟩ := h.sm; exact hso.ok s hs
  | some l => obtain ⟨i, hi, _⟩ := lastQ_some hl; exact (h.qok _ (List.mem_of_getElem? hi)).2
theorem sectors_any {w : World} {b ms ml : Nat} {qv fv : Value} {S : Dk} (h : RK w 0 b ms ml qv fv S) :
    Calls Tryz.prog 56 #[.pointer (some ⟨b, 0, none⟩)] w fun r w' => r = .returned (.int .i64 S.n) ∧ DAct w w' 0 b ms ml ms ml qv fv qv fv S := by
  have hus := usable_any h
  have c0 : w.cell? ⟨b, 0, none⟩ = some (.int .i32 0) := h.c 0
  have z0 := h.fz 0
  have a1 := (DAct.refl h).put 0 (.int .i32 1) 1 S.st rfl
  have HA1 : Hid (DAct w (w.setCell ⟨b, 0, none⟩ (.int .i32 1)) 1 b ms ml ms ml qv fv qv fv S) := a1
  have c2 : (w.setCell ⟨b, 0, none⟩ (.int .i32 1)).cell? ⟨b, 2, none⟩ = some (.int .i64 S.n) := a1.rk.c 2
  clear a1 h
  go_enter_defers Tryz.func56, Tryz.ntmps56
  go_wp2_with (first | (go_at_call 60; refine hus.mono ?_; rintro e w9 ⟨rfl, hw9⟩; rw [hw9]; clear hw9 hus) | (go_at_call 61; refine (lock_free Tryz.muLib ⟨b, 0, none⟩ _ c0 z0).mono ?_; rintro e w9 ⟨rfl, hw9⟩; rw [hw9]; clear hw9))
  refine leaves_cons (f := 62) (args := #[.pointer (some ⟨b, 0, none⟩)]) (by simp) (by simp [go_sem]) ?_
  refine (unlock_deferred Tryz.muLib ⟨b, 0, none⟩ .returning _ (HA1.out.rk.c 0) (HA1.out.rk.fz 0)).mono ?_
  rintro e u' w'' ⟨rfl, rfl, rfl⟩
  exact ⟨_, results_tmp rfl _ _ _, rfl, HA1.out.put 0 (.int .i32 0) 0 S.st rfl⟩
theorem stats_any {w : World} {b ms ml : Nat} {qv fv : Value} {S : Dk} (h : RK w 0 b ms ml qv fv S) :
    Calls Tryz.prog 89 #[.pointer (some ⟨b, 0, none⟩)] w fun r w' => r = .returned (.agg #[.int .u64 S.st.reads, .int .u64 S.st.writes, .int .u64 S.st.bars, .int .u64 S.st.failed, .int .u64 S.st.crashes]) ∧ DAct w w' 0 b ms ml ms ml qv fv qv fv S := by
  obtain ⟨W0, hW0⟩ : ∃ W0, W0 = w.alloc (.cells #[.int .u64 0, .int .u64 0, .int .u64 0, .int .u64 0, .int .u64 0] 125) := ⟨_, rfl⟩
  have hB0 : Below w.heap.size w W0 := by rw [hW0]; exact (Below.refl _ w).alloc (Nat.le_refl _) _
  have h0 := h.later hB0
  have hbx : W0.heap[w.heap.size]? = some (.cells #[.int .u64 0, .int .u64 0, .int .u64 0, .int .u64 0, .int .u64 0] 125) := by rw [hW0]; exact heap_alloc_new w _
  have hne : b ≠ w.heap.size := by have := h.lt b (by simp [fp]); omega
  have hus := usable_any h0
  have c0 : W0.cell? ⟨b, 0, none⟩ = some (.int .i32 0) := h0.c 0
  have z0 := h0.fz 0
  have a1 := ((DAct.refl h0).put 0 (.int .i32 1) 1 S.st rfl).from_later hB0
  have HA1 : Hid (DAct w (W0.setCell ⟨b, 0, none⟩ (.int .i32 1)) 1 b ms ml ms ml qv fv qv fv S) := a1
  have k7 : (W0.setCell ⟨b, 0, none⟩ (.int .i32 1)).cell? ⟨b, 7, none⟩ = some (.int .u64 S.st.reads) := a1.rk.c 7
  have k8 : (W0.setCell ⟨b, 0, none⟩ (.int .i32 1)).cell? ⟨b, 8, none⟩ = some (.int .u64 S.st.writes) := a1.rk.c 8
  have k9 : (W0.setCell ⟨b, 0, none⟩ (.int .i32 1)).cell? ⟨b, 9, none⟩ = some (.int .u64 S.st.bars) := a1.rk.c 9
  have k10 : (W0.setCell ⟨b, 0, none⟩ (.int .i32 1)).cell? ⟨b, 10, none⟩ = some (.int .u64 S.st.failed) := a1.rk.c 10
  have k11 : (W0.setCell ⟨b, 0, none⟩ (.int .i32 1)).cell? ⟨b, 11, none⟩ = some (.int .u64 S.st.crashes) := a1.rk.c 11
  have HBx : Hid ((W0.setCell ⟨b, 0, none⟩ (.int .i32 1)).heap[w.heap.size]? = some (.cells #[.int .u64 0, .int .u64 0, .int .u64 0, .int .u64 0, .int .u64 0] 125)) := (Below.heap_setCell _ _ _ _ (Ne.symm hne)).trans hbx
  have HFin : Hid (∀ v0 v1 v2 v3 v4 : Value, DAct w ((((((W0.setCell ⟨b, 0, none⟩ (.int .i32 1)).setCell ⟨w.heap.size, 0, none⟩ v0).setCell ⟨w.heap.size, 1, none⟩ v1).setCell ⟨w.heap.size, 2, none⟩ v2).setCell ⟨w.heap.size, 3, none⟩ v3).setCell ⟨w.heap.size, 4, none⟩ v4) 1 b ms ml ms ml qv fv qv fv S ∧ ((((((W0.setCell ⟨b, 0, none⟩ (.int .i32 1)).setCell ⟨w.heap.size, 0, none⟩ v0).setCell ⟨w.heap.size, 1, none⟩ v1).setCell ⟨w.heap.size, 2, none⟩ v2).setCell ⟨w.heap.size, 3, none⟩ v3).setCell ⟨w.heap.size, 4, none⟩ v4).heap[w.heap.size]? = some (.cells #[v0, v1, v2, v3, v4] 125)) := fun v0 v1 v2 v3 v4 => by
    have hlt := h.lt
    have hk : ∀ {X : World} (j : Nat) (v : Value), DAct w X 1 b ms ml ms ml qv fv qv fv S → DAct w (X.setCell ⟨w.heap.size, j, none⟩ v) 1 b ms ml ms ml qv fv qv fv S := fun {X} j v hX =>
      ⟨hX.rk.same (fun i hi => Below.heap_setCell _ _ _ _ (by have := hlt i hi; show i ≠ w.heap.size; omega)), hX.kp.set (.inr (Nat.le_refl _)) _ _, hX.sub⟩
    refine ⟨hk _ _ (hk _ _ (hk _ _ (hk _ _ (hk _ _ HA1.out)))), ?_⟩
    have e0 := blk_set HBx.out 0 v0
    have e1 := blk_set e0 1 v1
    have e2 := blk_set e1 2 v2
    have e3 := blk_set e2 3 v3
    have e4 := blk_set e3 4 v4
    exact e4
  have hi5 : (Tryz.prog.info? 125).map (·.size) = some 5 := by kernel_rfl
  clear a1 h h0 hB0 hbx
  subst hW0
  go_enter_defers Tryz.func89, Tryz.ntmps89
  go_wp2_with (first | (go_at_call 60; refine hus.mono ?_; rintro e w9 ⟨rfl, hw9⟩; rw [hw9]; clear hw9 hus) | (go_at_call 61; refine (lock_free Tryz.muLib ⟨b, 0, none⟩ _ c0 z0).mono ?_; rintro e w9 ⟨rfl, hw9⟩; rw [hw9]; clear hw9))
  obtain ⟨q1, q2⟩ := HFin.out (.int .u64 S.st.reads) (.int .u64 S.st.writes) (.int .u64 S.st.bars) (.int .u64 S.st.failed) (.int .u64 S.st.crashes)
  refine leaves_cons (f := 62) (args := #[.pointer (some ⟨b, 0, none⟩)]) (by simp) (by simp [go_sem]) ?_
  refine (unlock_deferred Tryz.muLib ⟨b, 0, none⟩ .returning _ (q1.rk.c 0) (q1.rk.fz 0)).mono ?_
  rintro e u' w'' ⟨rfl, rfl, rfl⟩
  exact ⟨_, results_cell_row rfl _ _ w.heap.size 125 _ (0, 0) _ rfl ((Below.heap_setCell _ _ _ _ (Ne.symm hne)).trans q2) Tryz.underlying125 rfl hi5, rfl, q1.put 0 (.int .i32 0) 0 S.st rfl⟩
/-- the last write's place -/
theorem waits_any {w : World} {b ms ml : Nat} {qv fv : Value} {S : Dk} (h : RK w 0 b ms ml qv fv S) {s : Nat} (hs : s < S.n) :
    Calls Tryz.prog 117 #[.pointer (some ⟨b, 0, none⟩), .int .i64 s] w fun r w' => r = .returned (.bool (lastQ s S.q).isSome) ∧ DAct w w' 0 b ms ml ms ml qv fv qv fv S := by
  have hus := usable_any h
  have c0 : w.cell? ⟨b, 0, none⟩ = some (.int .i32 0) := h.c 0
  have z0 := h.fz 0
  have a1 := (DAct.refl h).put 0 (.int .i32 1) 1 S.st rfl
  have HA1 : Hid (DAct w (w.setCell ⟨b, 0, none⟩ (.int .i32 1)) 1 b ms ml ms ml qv fv qv fv S) := a1
  have c5 : (w.setCell ⟨b, 0, none⟩ (.int .i32 1)).cell? ⟨b, 5, none⟩ = some (.map (some ml)) := a1.rk.c 5
  have hk : keyOf Tryz.prog TIn (.int .i64 s) = some (kl s) := keyOf_int_mk Tryz.underlying3 (wfI s (by have := h.n1; omega))
  obtain ⟨Dl, hml, hlo⟩ := a1.rk.lm
  obtain ⟨v, ps, hlk, hv⟩ := hml.look_ok keyed Tryz.underlying114 (Tryz.zeroValue3 _) (plainElem_int Tryz.underlying3 (a := 0) (by decide)) hk
  obtain ⟨c, rfl, hc, hwc⟩ := plainElem_int_inv Tryz.underlying3 hv
  have hh : Maps.has Dl (kl s) = (lastQ s S.q).isSome := by
    cases hl : lastQ s S.q with
    | none => exact hlo.no s (lastQ_none hl)
    | some l => obtain ⟨i, _, hla⟩ := lastQ_some hl; exact (hlo.yes s i hla).2
  rw [hh] at hlk
  generalize (lastQ s S.q).isSome = yes at *
  clear a1 h hk hml hlo hv hc hwc hh hs
  go_enter_defers Tryz.func117, Tryz.ntmps117
  go_wp2_with (first | (go_at_call 60; refine hus.mono ?_; rintro e w9 ⟨rfl, hw9⟩; rw [hw9]; clear hw9 hus) | (go_at_call 61; refine (lock_free Tryz.muLib ⟨b, 0, none⟩ _ c0 z0).mono ?_; rintro e w9 ⟨rfl, hw9⟩; rw [hw9]; clear hw9))
  refine leaves_cons (f := 62) (args := #[.pointer (some ⟨b, 0, none⟩)]) (by simp) (by simp [go_sem]) ?_
  refine (unlock_deferred Tryz.muLib ⟨b, 0, none⟩ .returning _ (HA1.out.rk.c 0) (HA1.out.rk.fz 0)).mono ?_
  rintro e u' w'' ⟨rfl, rfl, rfl⟩
  exact ⟨_, results_tmp rfl _ _ _, rfl, HA1.out.put 0 (.int .i32 0) 0 S.st rfl⟩
end Go.Proofs.YtlacligofhinmaaGreat.K
