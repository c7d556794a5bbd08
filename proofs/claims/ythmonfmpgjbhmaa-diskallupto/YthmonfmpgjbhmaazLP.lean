import Derived.Test.YthmonfmpgjbhmaazLN
namespace Go.Proofs.Ythmonfmpgjbhmaa.K
open Go.RowKit Go.Maps Go.Proofs.Ythmonfmpgjbhmaa Go.MuLone
attribute [local go_sem] Oper.semAt_some
set_option linter.unusedVariables false
set_option linter.unusedSimpArgs false
set_option maxRecDepth 100000

theorem own_slice {w : World} {B T size n : Nat} {v : Value} {xs : List Value} (h : w.ownsRow B T size v n xs) : ∃ ao cap, v = .slice ao n cap := by
  rcases h.2 with ⟨rfl, h0⟩ | ⟨g, cap, cur, rfl, _⟩
  · exact ⟨_, _, by rw [h0]⟩
  · exact ⟨_, _, rfl⟩
set_option maxHeartbeats 8000000 in
theorem copy_any {w : World} {b ms ml : Nat} {qv fv : Value} {S : Dk} (h : RK w 0 b ms ml qv fv S) (hf : FsOk S.fs) (hql : S.q.length ≤ 1048576) :
    Calls Try.prog 40 #[.pointer (some ⟨b, 0, none⟩)] w fun r w' => ∃ b' ms' ml' qv' fv', r = .returned (.pointer (some ⟨b', 0, none⟩)) ∧ RK w' 0 b' ms' ml' qv' fv' S ∧ (∀ i ∈ fp b' ms' ml' qv' fv', w.heap.size ≤ i) ∧ DAct w w' 0 b ms ml ms ml qv fv qv fv S := by
  have hus := usable_any h
  have c0 : w.cell? ⟨b, 0, none⟩ = some (.int .i32 0) := h.c 0
  have z0 := h.fz 0
  have a1 := (DAct.refl h).put 0 (.int .i32 1) 1 S.st rfl
  obtain ⟨w1, hw1⟩ : ∃ w1, w1 = w.setCell ⟨b, 0, none⟩ (.int .i32 1) := ⟨_, rfl⟩
  rw [← hw1] at a1
  have hd1 : Below w1.heap.size w1 w1.drew := ⟨rfl, rfl, rfl, Nat.le_refl _, fun _ _ => rfl⟩
  have HA1 : Hid (DAct w w1.drew 1 b ms ml ms ml qv fv qv fv S) := a1.later hd1
  have HSz : Hid (w.heap.size ≤ w1.drew.heap.size) := a1.kp.size
  have HCs : Hid (∀ W, Below w1.drew.heap.size w1.drew W → ∀ j : Nat, W.cell? ⟨b, j, none⟩ = (#[.int .i32 1, .int .u32 0, .int .i64 S.n, .map (some ms), qv, .map (some ml), fv, .int .u64 S.st.reads, .int .u64 S.st.writes, .int .u64 S.st.bars, .int .u64 S.st.failed, .int .u64 S.st.crashes] : Array Value)[j]?) := fun W hW j => (HA1.out.later hW).rk.c j
  have HAll : Hid (∀ W, Below w1.drew.heap.size w1.drew W → W.cell? ⟨b, 2, none⟩ = some (.int .i64 S.n) ∧ W.cell? ⟨b, 3, none⟩ = some (.map (some ms)) ∧ W.cell? ⟨b, 4, none⟩ = some (qv) ∧ W.cell? ⟨b, 5, none⟩ = some (.map (some ml)) ∧ W.cell? ⟨b, 6, none⟩ = some (fv) ∧ W.cell? ⟨b, 7, none⟩ = some (.int .u64 S.st.reads) ∧ W.cell? ⟨b, 8, none⟩ = some (.int .u64 S.st.writes) ∧ W.cell? ⟨b, 9, none⟩ = some (.int .u64 S.st.bars) ∧ W.cell? ⟨b, 10, none⟩ = some (.int .u64 S.st.failed) ∧ W.cell? ⟨b, 11, none⟩ = some (.int .u64 S.st.crashes)) := fun W hW => ⟨HCs.out W hW 2, HCs.out W hW 3, HCs.out W hW 4, HCs.out W hW 5, HCs.out W hW 6, HCs.out W hW 7, HCs.out W hW 8, HCs.out W hW 9, HCs.out W hW 10, HCs.out W hW 11⟩
  have HB0 : Hid (Below w1.drew.heap.size w1.drew w1) := ⟨rfl, rfl, rfl, Nat.le_refl _, fun _ _ => rfl⟩
  have x2 : w1.cell? ⟨b, 2, none⟩ = some (.int .i64 S.n) := a1.rk.c 2
  have x3 : w1.cell? ⟨b, 3, none⟩ = some (.map (some ms)) := a1.rk.c 3
  have x4 : w1.cell? ⟨b, 4, none⟩ = some qv := a1.rk.c 4
  have x5 : w1.cell? ⟨b, 5, none⟩ = some (.map (some ml)) := a1.rk.c 5
  have x6 : w1.cell? ⟨b, 6, none⟩ = some fv := a1.rk.c 6
  have x7 : w1.cell? ⟨b, 7, none⟩ = some (.int .u64 S.st.reads) := a1.rk.c 7
  have x8 : w1.cell? ⟨b, 8, none⟩ = some (.int .u64 S.st.writes) := a1.rk.c 8
  have x9 : w1.cell? ⟨b, 9, none⟩ = some (.int .u64 S.st.bars) := a1.rk.c 9
  have x10 : w1.cell? ⟨b, 10, none⟩ = some (.int .u64 S.st.failed) := a1.rk.c 10
  have x11 : w1.cell? ⟨b, 11, none⟩ = some (.int .u64 S.st.crashes) := a1.rk.c 11
  have HF : Hid (FsOk S.fs) := hf
  have HQ : Hid (S.q.length ≤ 1048576) := hql
  clear h a1 hf hql hd1
  go_enter_defers Try.func40, Try.ntmps40
  go_wp2_with (first | (go_at_call 27; refine hus.mono ?_; rintro e w9 ⟨rfl, hw9⟩; rw [hw9]; clear hw9 hus) | (go_at_call 28; refine (lock_free Try.muLib ⟨b, 0, none⟩ _ c0 z0).mono ?_; rintro e w9 ⟨rfl, hw9⟩; rw [hw9, ← hw1]; clear hw9 hw1 c0 z0))
  go_region_held3 (fun w' => w'.cell? ⟨b, 2, none⟩ = some (.int .i64 S.n) ∧ w'.cell? ⟨b, 3, none⟩ = some (.map (some ms)) ∧ w'.cell? ⟨b, 4, none⟩ = some (qv) ∧ w'.cell? ⟨b, 5, none⟩ = some (.map (some ml)) ∧ w'.cell? ⟨b, 6, none⟩ = some (fv) ∧ w'.cell? ⟨b, 7, none⟩ = some (.int .u64 S.st.reads) ∧ w'.cell? ⟨b, 8, none⟩ = some (.int .u64 S.st.writes) ∧ w'.cell? ⟨b, 9, none⟩ = some (.int .u64 S.st.bars) ∧ w'.cell? ⟨b, 10, none⟩ = some (.int .u64 S.st.failed) ∧ w'.cell? ⟨b, 11, none⟩ = some (.int .u64 S.st.crashes)) (first | exact HAll.out _ HB0.out | exact HAll.out _ HB2.out | exact HAll.out _ HC3.out | exact HAll.out _ HC4.out | exact HAll.out _ HC5.out | go_keep) (first
      | (go_at_call 52; obtain ⟨Ds, hms, hso⟩ := HA1.out.rk.sm; refine (mclone_s hms).mono ?_; rintro r W2 ⟨rfl, hm2, hb2⟩; have HM2 : Hid (W2.ownsMap Try.prog TIn blkE w1.drew.heap.size (Maps.size Ds) Ds) := hm2; have HSO : Hid (SafeOk S.n S.safe Ds) := hso; have HB2 : Hid (Below w1.drew.heap.size w1.drew W2) := hb2; clear hms hso hm2 hb2)
      | (go_at_call 53; refine (pclone_any (HA1.out.later HB2.out).rk.qr (pcells_one _) HQ.out).mono ?_; rintro r W3 ⟨qv', rfl, ho3, hb3⟩; obtain ⟨qo, qc, rfl⟩ := own_slice ho3; have HO3 : Hid (W3.ownsRow W2.heap.size TPu 513 (.slice qo S.q.length qc) S.q.length (pcells S.q)) := ho3; have HB3 : Hid (Below W2.heap.size W2 W3) := hb3; have HC3 : Hid (Below w1.drew.heap.size w1.drew W3) := HB2.out.trans (hb3.mono HB2.out.size); clear ho3 hb3)
      | (go_at_call 54; obtain ⟨Dl, hml, hlo⟩ := (HA1.out.later HC3.out).rk.lm; refine (mclone_l hml).mono ?_; rintro r W4 ⟨rfl, hm4, hb4⟩; have HM4 : Hid (W4.ownsMap Try.prog TIn (plainElem Try.prog TIn) W3.heap.size (Maps.size Dl) Dl) := hm4; have HLO : Hid (LastOk S.n S.q Dl) := hlo; have HB4 : Hid (Below W3.heap.size W3 W4) := hb4; have HC4 : Hid (Below w1.drew.heap.size w1.drew W4) := HC3.out.trans (hb4.mono HC3.out.size); clear hml hlo hm4 hb4)
      | (go_at_call 55; refine (fclone_any (HA1.out.later HC4.out).rk.fr (fcells_one _) (Nat.le_trans HF.out.le (by decide))).mono ?_; rintro r W5 ⟨fv', rfl, ho5, hb5⟩; obtain ⟨fo, fc, rfl⟩ := own_slice ho5; have HO5 : Hid (W5.ownsRow W4.heap.size TFa 5 (.slice fo S.fs.length fc) S.fs.length (fcells S.fs)) := ho5; have HB5 : Hid (Below W4.heap.size W4 W5) := hb5; have HC5 : Hid (Below w1.drew.heap.size w1.drew W5) := HC4.out.trans (hb5.mono HC4.out.size); clear ho5 hb5))
  go_wp2
  obtain ⟨W6, hW6⟩ : ∃ W6, W6 = W5.alloc (.cells #[.int .i32 0, .int .u32 0, .int .i64 S.n, .map (some w1.heap.size), .slice qo S.q.length qc, .map (some W3.heap.size), .slice fo S.fs.length fc, .int .u64 S.st.reads, .int .u64 S.st.writes, .int .u64 S.st.bars, .int .u64 S.st.failed, .int .u64 S.st.crashes] TDk) := ⟨_, rfl⟩
  rw [← hW6]
  have hal : Below W5.heap.size W5 W6 := by rw [hW6]; exact (Below.refl _ W5).alloc (Nat.le_refl _) _
  have a6 : DAct w W6 1 b ms ml ms ml qv fv qv fv S := (HA1.out.later HC5.out).later hal
  have hbl : b < w.heap.size ∨ w.heap.size ≤ b := by omega
  have hb1 : b < w1.drew.heap.size := HA1.out.rk.lt b (by simp [fp])
  have s2 : w1.drew.heap.size < W2.heap.size := HM2.out.lt
  have s3 := HB3.out.size
  have s4 := HB4.out.size
  have s5 := HB5.out.size
  have s34 : W3.heap.size < W4.heap.size := HM4.out.lt
  have h6 : W6.heap[W5.heap.size]? = some (.cells #[.int .i32 0, .int .u32 0, .int .i64 S.n, .map (some w1.heap.size), .slice qo S.q.length qc, .map (some W3.heap.size), .slice fo S.fs.length fc, .int .u64 S.st.reads, .int .u64 S.st.writes, .int .u64 S.st.bars, .int .u64 S.st.failed, .int .u64 S.st.crashes] TDk) := by rw [hW6]; exact heap_alloc_new W5 _
  have hk : ∀ i, i < W5.heap.size → i ≠ b → (W6.setCell ⟨b, 0, none⟩ (.int .i32 0)).heap[i]? = W5.heap[i]? := fun i h1 h2 => (Below.heap_setCell _ _ _ _ h2).trans (hal.block i h1)
  refine leaves_cons (f := 29) (args := #[.pointer (some ⟨b, 0, none⟩)]) (by simp) (by simp [go_sem]) ?_
  refine (unlock_deferred Try.muLib ⟨b, 0, none⟩ .returning _ (a6.rk.c 0) (a6.rk.fz 0)).mono ?_
  rintro e u' w'' ⟨rfl, rfl, rfl⟩
  have hSz := HSz.out
  have hq3 := HO3.out.lt
  have hf5 := HO5.out.lt
  refine ⟨_, results_tmp rfl _ _ _, W5.heap.size, w1.heap.size, W3.heap.size, .slice qo S.q.length qc, .slice fo S.fs.length fc, rfl, ⟨?_, HA1.out.rk.n0, HA1.out.rk.n1, ⟨Ds, ownsMap_block HM2.out ?_, HSO.out⟩, ⟨Dl, ownsMap_block HM4.out ?_, HLO.out⟩, ownsRow_block (owns_mono HO3.out (Nat.zero_le _)) ?_, ownsRow_block (owns_mono HO5.out (Nat.zero_le _)) ?_, ?_, HA1.out.rk.qok⟩, ?_, a6.put 0 (.int .i32 0) 0 S.st rfl⟩
  · exact (Below.heap_setCell _ _ _ _ (by show W5.heap.size ≠ b; omega)).trans h6
  · show (W6.setCell ⟨b, 0, none⟩ (.int .i32 0)).heap[w1.drew.heap.size]? = _
    rw [hk _ (by omega) (by omega), HB5.out.block _ (by omega), HB4.out.block _ (by omega), HB3.out.block _ (by omega)]
    rfl
  · rw [hk _ (by omega) (by omega), HB5.out.block _ (by omega)]
  · intro g hg
    have h1 := hq3 g hg
    rw [hk _ (by omega) (by omega), HB5.out.block _ (by omega), HB4.out.block _ (by omega)]
  · intro g hg
    have h1 := hf5 g hg
    rw [hk _ (by omega) (by omega)]
  · show w1.drew.heap.size ≠ _
    omega
  · intro i hi
    have e1 : w1.heap.size = w1.drew.heap.size := rfl
    simp only [fp, List.mem_cons, List.mem_append, Option.mem_toList] at hi
    rcases hi with rfl | rfl | rfl | hi | hi
    · omega
    · omega
    · omega
    · have := hq3 i hi; omega
    · have := hf5 i hi; omega
end Go.Proofs.Ythmonfmpgjbhmaa.K
