import Derived.Test.YtlacligofhinmaaGreatV45
namespace Go.Proofs.YtlacligofhinmaaGreat.C
open Go.RowKit Go.Maps Go.Shelf Go.Proofs.YtlacligofhinmaaGreat
attribute [local go_sem] Oper.semAt_some
set_option linter.unusedVariables false
set_option linter.unusedSimpArgs false
set_option maxRecDepth 100000

/-- what made leaves: no cache, or the pair -/
def MqPost (w : World) (n : Nat) (k : Int) (l : List (Int × Int)) (r : Ending) (w' : World) : Prop :=
  ∃ x, r = .returned (.tuple #[.pointer (some ⟨x, 0, none⟩), .bool true]) ∧ Below w.heap.size w w' ∧ (w'.cell? ⟨x, 1, none⟩ = some (.pointer none) ∨ (newE n k l = 0 ∧ ∃ P A, Pq w.heap.size w' x P A (K.newDk n) (newCh k.toNat l) (K.newDk n) (newCh k.toNat l) ∧ A.pot (newCh k.toNat l) = 0))
set_option maxHeartbeats 4000000 in
theorem made_badq (w : World) (n k : Int) (v : Value) (h : n < 1 ∨ 65536 < n) : Calls Tryz.prog 9 #[.agg #[.int .i64 n, .int .i64 k, v]] w (MqPost w 0 k []) := by
  obtain ⟨W0, hW0⟩ : ∃ W0, W0 = w.alloc (.cells #[.int .i64 n, .int .i64 k, v] TSe) := ⟨_, rfl⟩
  have hB0 : Below w.heap.size w W0 := by rw [hW0]; exact (Below.refl _ w).alloc (Nat.le_refl _) _
  have hbx : W0.heap[w.heap.size]? = some (.cells #[.int .i64 n, .int .i64 k, v] TSe) := by rw [hW0]; exact heap_alloc_new w _
  have k0 : W0.cell? ⟨w.heap.size, 0, none⟩ = some (.int .i64 n) := (K.cell_of hbx).trans rfl
  have h1 := K.new_bad W0 n h
  have h2 := rnew_bad W0 n h
  have HB0 : Hid (Below w.heap.size w W0) := hB0
  clear hB0 hbx h
  go_enter Tryz.func9, Tryz.ntmps9
  go_wp2_with fail
  rw [← hW0]
  refine Calls.mono h1 ?_
  clear h1 hW0
  rintro e W1 ⟨rfl, hw1⟩
  rw [hw1]
  clear hw1
  go_wp2_with fail
  refine Calls.mono h2 ?_
  clear h2
  rintro e W2 ⟨rfl, hw2⟩
  rw [hw2]
  clear hw2
  go_wp2
  refine bodyPost_ret (results_tmp2 rfl _ _ _) rfl ?_
  exact ⟨_, rfl, HB0.out.alloc HB0.out.size _, .inl ((K.cell_of (heap_alloc_new W0 _)).trans rfl)⟩
set_option maxHeartbeats 1000000 in
theorem made_openq {w W0 W1 : World} {n b ms ml : Nat} (h0 : 1 ≤ n) (h1 : n ≤ 65536) (k : Int) {ao : Option Addr} {c0 : Nat} {l : List (Int × Int)} (hv : ArgS w (.slice ao l.length c0) l) (hl : l.length ≤ 1048576) (hw : ∀ p ∈ l, I64 p.1 ∧ I64 p.2)
    (hB0 : Below w.heap.size w W0) (hbx : W0.heap[w.heap.size]? = some (.cells #[.int .i64 n, .int .i64 k, .slice ao l.length c0] TSe)) (hs0 : W0.heap.size = w.heap.size + 1)
    (hrk : K.RK W1 0 b ms ml (.slice none 0 0) (.slice none 0 0) (K.newDk n)) (hb1 : Below W0.heap.size W0 W1) (hfp : ∀ i ∈ K.fp b ms ml (.slice none 0 0) (.slice none 0 0), W0.heap.size ≤ i) :
    W1.cell? ⟨w.heap.size, 0, none⟩ = some (.int .i64 n) ∧ Hid (Calls Tryz.prog 18 #[.int .i64 n] W1 fun r w' => r = .returned (.tuple #[.pointer (some ⟨W1.heap.size, 0, none⟩), .int .i64 0]) ∧ w' = W1.alloc (.cells (rdcells n) TRd)) ∧
      Hid (∀ W3, W3 = ((W1.alloc (.cells (rdcells n) TRd)).alloc (.cells #[.pointer (some ⟨b, 0, none⟩), .pointer none, .pointer (some ⟨W1.heap.size, 0, none⟩), .pointer none] TPa)) → (W3.cell? ⟨w.heap.size, 0, none⟩ = some (.int .i64 n) ∧ W3.cell? ⟨w.heap.size, 1, none⟩ = some (.int .i64 k) ∧ W3.cell? ⟨w.heap.size, 2, none⟩ = some (.slice ao l.length c0)) ∧
      Calls Tryz.prog 19 #[.pointer (some ⟨W1.heap.size + 1, 0, none⟩), .agg #[.int .i64 n, .int .i64 k, .slice ao l.length c0]] W3 fun r w' => r = .returned (.bool true) ∧ MqPost w n k l (.returned (.tuple #[.pointer (some ⟨W1.heap.size + 1, 0, none⟩), .bool true])) w') := by
  have k0 : W0.cell? ⟨w.heap.size, 0, none⟩ = some (.int .i64 n) := (K.cell_of hbx).trans rfl
  have hlt := hrk.lt
  have hbw : Below w.heap.size w W1 := hB0.trans (hb1.mono hB0.size)
  have hsz := hbw.size
  have hsz1 := hb1.size
  obtain ⟨W2, hW2⟩ : ∃ W2, W2 = W1.alloc (.cells (rdcells n) TRd) := ⟨_, rfl⟩
  have hs2 : W2.heap.size = W1.heap.size + 1 := by rw [hW2]; simp
  have hb2 : Below W1.heap.size W1 W2 := by rw [hW2]; exact (Below.refl _ W1).alloc (Nat.le_refl _) _
  refine ⟨cell_later hb1 k0, rnew_any W1 n h0 h1, fun W3 hW3 => ?_⟩
  rw [← hW2] at hW3
  have hb3 : Below W2.heap.size W2 W3 := by rw [hW3]; exact (Below.refl _ W2).alloc (Nat.le_refl _) _
  have hs3 : W3.heap.size = W2.heap.size + 1 := by rw [hW3]; simp
  have hx3 : W3.heap[W1.heap.size + 1]? = some (.cells #[.pointer (some ⟨b, 0, none⟩), .pointer none, .pointer (some ⟨W1.heap.size, 0, none⟩), .pointer none] TPa) := by rw [hW3, ← hs2]; exact heap_alloc_new W2 _
  have hb13 : Below W1.heap.size W1 W3 := hb2.trans (hb3.mono hb2.size)
  have hbw3 : Below w.heap.size w W3 := hbw.trans (hb13.mono hbw.size)
  have hrd : W2.heap[W1.heap.size]? = some (.cells (rdcells n) TRd) := by rw [hW2]; exact heap_alloc_new W1 _
  have hb03 : Below W0.heap.size W0 W3 := hb1.trans (hb13.mono hb1.size)
  have hbx3 := (hb03.block _ (by omega)).trans hbx
  clear hW3 hW2
  have hr3 : K.RR W3 W1.heap.size (.slice none 0 0) (.slice none 0 0) (.slice none 0 0) [] [] (K.newDk n) := by
    refine ⟨?_, h0, h1, World.ownsRow_nil _ _ _ _, World.ownsRow_nil _ _ _ _, World.ownsRow_nil _ _ _ _, by simp, by simp, fun g e => by simp [Value.ownBlock] at e, rfl, fun s hs => rfl, fun _ => rfl⟩
    exact (hb3.block _ (by omega)).trans hrd
  have hfr : ∀ i, i ∈ K.fr W1.heap.size (.slice none 0 0) (.slice none 0 0) (.slice none 0 0) (([] : List K.Pv) ++ []) → i = W1.heap.size := fun i hi => by
    rcases K.mem_fr.1 hi with rfl | hm | hm | hm | ⟨x, hx, _⟩
    · rfl
    · simp [Value.ownBlock] at hm
    · simp [Value.ownBlock] at hm
    · simp [Value.ownBlock] at hm
    · simp at hx
  have hopen := open_raw (n0 := w.heap.size) (hrk.later hb13) hr3 ⟨by simp [K.newDk], by simp [K.newDk]⟩ hx3 (fun i hi hm => by have h2 := hlt i hi; have h3 := hfr i hm; omega) (fun hm => by have := hlt _ hm; omega) (fun hm => by have := hfr _ hm; omega) (by omega) (fun i hi => by have := hfp i hi; omega) (fun i hi => by have := hfr i hi; omega) (hv.later hbw3) (fun hne b' off n' c e => hv.lt hne e) hl hw n k
  refine ⟨⟨(K.cell_of hbx3).trans rfl, (K.cell_of hbx3).trans rfl, (K.cell_of hbx3).trans rfl⟩, hopen.mono ?_⟩
  rintro r w' ⟨rfl, hb, hcase⟩
  refine ⟨rfl, _, rfl, hbw3.trans hb, ?_⟩
  rcases hcase with ⟨_, hx⟩ | ⟨h2, P, A, hpq, h3, h4⟩
  · exact .inl ((K.cell_of hx).trans rfl)
  · refine .inr ⟨h2, P, A, hpq, ?_⟩
    simp only [Qa.pot, h3, h4, newCh]
    rfl
set_option maxHeartbeats 2000000 in
theorem made_q (w : World) (n : Nat) (h0 : 1 ≤ n) (h1 : n ≤ 65536) (k : Int) {v : Value} {l : List (Int × Int)} (hv : ArgS w v l) (hl : l.length ≤ 1048576) (hw : ∀ p ∈ l, I64 p.1 ∧ I64 p.2) :
    Calls Tryz.prog 9 #[.agg #[.int .i64 n, .int .i64 k, v]] w (MqPost w n k l) := by
  obtain ⟨ao, c0, rfl, _⟩ := hv.form
  obtain ⟨W0, hW0⟩ : ∃ W0, W0 = w.alloc (.cells #[.int .i64 n, .int .i64 k, .slice ao l.length c0] TSe) := ⟨_, rfl⟩
  have hB0 : Below w.heap.size w W0 := by rw [hW0]; exact (Below.refl _ w).alloc (Nat.le_refl _) _
  have hbx : W0.heap[w.heap.size]? = some (.cells #[.int .i64 n, .int .i64 k, .slice ao l.length c0] TSe) := by rw [hW0]; exact heap_alloc_new w _
  have hs0 : W0.heap.size = w.heap.size + 1 := by rw [hW0]; simp
  have k0 : W0.cell? ⟨w.heap.size, 0, none⟩ = some (.int .i64 n) := (K.cell_of hbx).trans rfl
  have HN : Hid (Calls Tryz.prog 17 #[.int .i64 n] W0 fun r w' => ∃ b, r = .returned (.tuple #[.pointer (some ⟨b, 0, none⟩), .int .i64 0]) ∧ ∃ ms ml, K.RK w' 0 b ms ml (.slice none 0 0) (.slice none 0 0) (K.newDk n) ∧ Below W0.heap.size W0 w' ∧ ∀ i ∈ K.fp b ms ml (.slice none 0 0) (.slice none 0 0), W0.heap.size ≤ i) := K.new_any W0 n h0 h1
  have HM := fun (W1 : World) (b ms ml : Nat) hrk hb1 hfp => made_openq (W1 := W1) (b := b) (ms := ms) (ml := ml) h0 h1 k hv hl hw hB0 hbx hs0 hrk hb1 hfp
  have HMh : Hid (∀ (W1 : World) (b ms ml : Nat), K.RK W1 0 b ms ml (.slice none 0 0) (.slice none 0 0) (K.newDk n) → Below W0.heap.size W0 W1 → (∀ i ∈ K.fp b ms ml (.slice none 0 0) (.slice none 0 0), W0.heap.size ≤ i) → _) := HM
  clear hv hw hB0 hbx hl HM hs0
  have e1 : ∀ (w : World) (a : Addr), (binOp .eql 32 (.pointer (some a)) (.pointer none)).run Tryz.prog w = .ok (.bool false) w := fun _ _ => rfl
  have e2 : ∀ (w : World) (a : Addr), (binOp .eql 34 (.pointer (some a)) (.pointer none)).run Tryz.prog w = .ok (.bool false) w := fun _ _ => rfl
  go_enter Tryz.func9, Tryz.ntmps9
  go_wp2_with fail
  rw [← hW0]
  refine Calls.mono HN.out ?_
  clear HN hW0 k0
  rintro e W1 ⟨b, rfl, ms, ml, hrk, hb1, hfp⟩
  obtain ⟨k0, HR2, HOP⟩ := HMh.out W1 b ms ml hrk hb1 hfp
  clear HMh hrk hb1 hfp
  go_wp2_with fail
  refine Calls.mono HR2.out ?_
  clear HR2 k0
  rintro e W2 ⟨rfl, hw2⟩
  obtain ⟨⟨q0, q1, q2⟩, hop⟩ := HOP.out _ rfl
  have HP2 := HOP
  clear HOP
  rw [hw2]
  clear hw2
  have HO2 : Hid (Calls Tryz.prog 19 #[.pointer (some ⟨W1.heap.size + 1, 0, none⟩), .agg #[.int .i64 n, .int .i64 k, .slice ao l.length c0]] ((W1.alloc (.cells (rdcells n) TRd)).alloc (.cells #[.pointer (some ⟨b, 0, none⟩), .pointer none, .pointer (some ⟨W1.heap.size, 0, none⟩), .pointer none] TPa)) fun r w' => r = .returned (.bool true) ∧ MqPost w n k l (.returned (.tuple #[.pointer (some ⟨W1.heap.size + 1, 0, none⟩), .bool true])) w') := hop
  clear hop HP2
  go_wp2_with fail
  refine Calls.mono HO2.out ?_
  clear HO2 q0 q1 q2
  rintro e W4 ⟨rfl, hmp⟩
  have HMP : Hid (MqPost w n k l (.returned (.tuple #[.pointer (some ⟨W1.heap.size + 1, 0, none⟩), .bool true])) W4) := hmp
  clear hmp
  go_wp2
  refine bodyPost_ret (results_tmp2 rfl _ _ _) rfl ?_
  exact HMP.out
end Go.Proofs.YtlacligofhinmaaGreat.C
