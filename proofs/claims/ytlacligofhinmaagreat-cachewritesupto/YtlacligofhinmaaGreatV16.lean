import Derived.Test.YtlacligofhinmaaGreatV15
import Derived.Shelf.SlMaps.Clone
namespace Go.Proofs.YtlacligofhinmaaGreat.K
open Go.RowKit Go.Maps Go.Proofs.YtlacligofhinmaaGreat
attribute [local go_sem] Oper.semAt_some
set_option linter.unusedVariables false
set_option linter.unusedSimpArgs false
set_option maxRecDepth 100000

/-- a box of one's own is written -/
theorem DAct.box {w W : World} {lk : Int} {b ms ml ms' ml' : Nat} {qv fv qv' fv' : Value} {S : Dk} (h : DAct w W lk b ms ml ms' ml' qv fv qv' fv' S) {x : Nat} (hx : w.heap.size ≤ x) (hn : ∀ i ∈ fp b ms' ml' qv' fv', i ≠ x) (j : Nat) (v : Value) : DAct w (W.setCell ⟨x, j, none⟩ v) lk b ms ml ms' ml' qv fv qv' fv' S :=
  ⟨h.rk.same (fun i hi => Below.heap_setCell _ _ _ _ (hn i hi)), h.kp.set (.inr hx) _ _, h.sub⟩
/-- the faults have another slice over the same block -/
theorem RK.refv {w w' : World} {lk : Int} {b ms ml : Nat} {qv : Value} {g n cap m : Nat} {S : Dk} (h : RK w lk b ms ml qv (.slice (some ⟨g, 0, none⟩) n cap) S) {fs : List Flt} (hf : w'.ownsRow 0 TFa 5 (.slice (some ⟨g, 0, none⟩) m cap) fs.length (fcells fs)) (hk : Kp w w' [g]) :
    DAct w (w'.setCell ⟨b, 6, none⟩ (.slice (some ⟨g, 0, none⟩) m cap)) lk b ms ml ms ml qv (.slice (some ⟨g, 0, none⟩) n cap) qv (.slice (some ⟨g, 0, none⟩) m cap) { S with fs := fs } := by
  obtain ⟨a1, a2, a3, a4, a5, a6, a7, a8, a9⟩ := h.apart
  have hne : ∀ i, i ∈ [b, ms, ml] ∨ qv.ownBlock = some i → i ∉ [g] := fun i hi hm => by
    simp at hm
    subst hm
    rcases hi with hi | hi
    · simp at hi
      rcases hi with rfl | rfl | rfl
      · exact a4 rfl
      · exact a7 rfl
      · exact a8 rfl
    · exact a9 i hi rfl
  have hlt := h.lt
  have hgb : g ≠ b := fun e => a4 (by rw [e]; rfl)
  have hs : ∀ i, i ≠ b → (w'.setCell ⟨b, 6, none⟩ (.slice (some ⟨g, 0, none⟩) m cap)).heap[i]? = w'.heap[i]? := fun i hi => Below.heap_setCell _ _ _ _ hi
  obtain ⟨D, h1, h2⟩ := h.sm
  obtain ⟨D', h4, h5⟩ := h.lm
  have hbk : w'.heap[b]? = _ := (hk.block b (hlt b (by simp [fp])) (hne b (.inl (by simp)))).trans h.blk
  refine ⟨⟨blk_set hbk 6 _, h.n0, h.n1, ⟨D, ownsMap_block h1 ((hs ms (Ne.symm a1)).trans (hk.block ms (hlt ms (by simp [fp])) (hne ms (.inl (by simp))))), h2⟩, ⟨D', ownsMap_block h4 ((hs ml (Ne.symm a2)).trans (hk.block ml (hlt ml (by simp [fp])) (hne ml (.inl (by simp))))), h5⟩, ownsRow_block h.qr (fun x hx => (hs x (fun e => a3 (by rw [← e]; exact hx))).trans (hk.block x (hlt x (by simp [fp, hx])) (hne x (.inr hx)))), ownsRow_block hf (fun x hx => hs x (by simp [Value.ownBlock] at hx; rw [← hx]; exact hgb)), h.ne, h.qok⟩, ?_, fun i hi => .inl hi⟩
  exact ((hk.sub (fun i hi => .inl (by simp at hi; subst hi; simp [fp, Value.ownBlock]))).set (.inl (by simp [fp])) 6 _)
def failedS (S : Dk) (fs : List Flt) : Dk := { S with fs := fs, st := { S.st with failed := inc S.st.failed } }
set_option maxHeartbeats 4000000 in
theorem fail_any {w : World} {lk : Int} {b ms ml : Nat} {qv : Value} {g n cap : Nat} {S : Dk} (h : RK w lk b ms ml qv (.slice (some ⟨g, 0, none⟩) n cap) S) (hfl : S.fs.length = n) (hfk : ∀ f ∈ S.fs, FOk f) (h64 : n ≤ 64) (kind s : Int) :
    Calls Tryz.prog 97 #[.pointer (some ⟨b, 0, none⟩), .int .i64 kind, .int .i64 s] w fun r w' =>
      ((failL kind s S.fs).2 = none ∧ r = .returned (.tuple #[.agg zf.toArray, .bool false]) ∧ DAct w w' lk b ms ml ms ml qv (.slice (some ⟨g, 0, none⟩) n cap) qv (.slice (some ⟨g, 0, none⟩) n cap) { S with fs := (failL kind s S.fs).1 }) ∨
      ∃ f, (failL kind s S.fs).2 = some f ∧ r = .returned (.tuple #[.agg (fcell f).toArray, .bool true]) ∧ ∃ m, DAct w w' lk b ms ml ms ml qv (.slice (some ⟨g, 0, none⟩) n cap) qv (.slice (some ⟨g, 0, none⟩) m cap) (failedS S (failL kind s S.fs).1) := by
  have hB0 : Below w.heap.size w (w.alloc (.cells #[.int .i64 0, .int .i64 0, .int .i64 0, .int .i64 0, .bool false] TFa)) := (Below.refl _ w).alloc (Nat.le_refl _) _
  have HR0 : Hid (RK (w.alloc (.cells #[.int .i64 0, .int .i64 0, .int .i64 0, .int .i64 0, .bool false] TFa)) lk b ms ml qv (.slice (some ⟨g, 0, none⟩) n cap) S) := h.later hB0
  have HBx : Hid ((w.alloc (.cells #[.int .i64 0, .int .i64 0, .int .i64 0, .int .i64 0, .bool false] TFa)).heap[w.heap.size]? = some (.cells #[.int .i64 0, .int .i64 0, .int .i64 0, .int .i64 0, .bool false] TFa)) := heap_alloc_new w _
  have c6 : (w.alloc (.cells #[.int .i64 0, .int .i64 0, .int .i64 0, .int .i64 0, .bool false] TFa)).cell? ⟨b, 6, none⟩ = some (.slice (some ⟨g, 0, none⟩) n cap) := HR0.out.c 6
  have HH : Hid (RK w lk b ms ml qv (.slice (some ⟨g, 0, none⟩) n cap) S) := h
  have HF : Hid (∀ f ∈ S.fs, FOk f) := hfk
  have HFL : Hid (S.fs.length = n) := hfl
  clear h hfk hB0 hfl
  go_enter Tryz.func97, Tryz.ntmps97
  go_wp2
  go_loopw [16] (fun c wr => ∃ (i : Nat) (A B : List Flt), i ≤ n ∧ c = .int .i64 i ∧ Hid (S.fs = A ++ B ∧ A.length = i ∧ ∀ f ∈ A, touch f kind s = true → 0 < f.after) ∧ Hid (DAct w wr lk b ms ml ms ml qv (.slice (some ⟨g, 0, none⟩) n cap) qv (.slice (some ⟨g, 0, none⟩) n cap) { S with fs := A.map (passed kind s) ++ B }) ∧ Hid (wr.heap[w.heap.size]? = some (.cells #[.int .i64 0, .int .i64 0, .int .i64 0, .int .i64 0, .bool false] TFa))) (fun c _ => n - (intOf c).toNat)
  case atStart => exact ⟨0, [], S.fs, Nat.zero_le _, rfl, ⟨rfl, rfl, by simp⟩, (DAct.refl HH.out).later ((Below.refl _ w).alloc (Nat.le_refl _) _), HBx⟩
  case round =>
    obtain ⟨i, A, B, hi, rfl, HS, HD, HX⟩ := hrel
    clear c6
    by_cases hlt : i < n
    · obtain ⟨hs1, hs2, hs3⟩ := HS.out
      obtain ⟨f, B', rfl⟩ : ∃ f B', B = f :: B' := by
        cases B with
        | nil => exfalso; have := HFL.out; rw [hs1] at this; simp at this; omega
        | cons f B' => exact ⟨f, B', rfl⟩
      have hAl : (A.map (passed kind s)).length = i := by simp [hs2]
      have hrow : wr.ownsRow 0 TFa 5 (.slice (some ⟨g, 0, none⟩) n cap) n (fcells (A.map (passed kind s) ++ f :: B')) := by
        have h1 := HD.out.rk.fr
        have h2 : (A.map (passed kind s) ++ f :: B').length = n := by rw [List.length_append, List.length_map, ← List.length_append, ← hs1]; exact HFL.out
        simp only at h1
        rw [h2] at h1
        exact h1
      have HRow : Hid (wr.ownsRow 0 TFa 5 (.slice (some ⟨g, 0, none⟩) n cap) n (fcells (A.map (passed kind s) ++ f :: B'))) := hrow
      have HCs : Hid (∀ W, Below wr.heap.size wr W → ∀ j, j < 5 → W.cell? ⟨g, i * 5 + j, none⟩ = (fcell f)[j]? ∧ W.frozen? ⟨g, i * 5 + j, none⟩ = false) := fun W hW j hj => by
        rw [← hAl]
        exact frow_cells (ownsRow_block hrow (fun x hx => hW.block x (row_lt hrow x hx).1)) j hj
      have q0 : wr.cell? ⟨g, i * 5, none⟩ = some (.int .i64 f.kind) := (HCs.out wr (Below.refl _ _) 0 (by decide)).1
      have q1 : wr.cell? ⟨g, i * 5 + 1, none⟩ = some (.int .i64 f.sector) := (HCs.out wr (Below.refl _ _) 1 (by decide)).1
      have q2 : wr.cell? ⟨g, i * 5 + 2, none⟩ = some (.int .i64 f.after) := (HCs.out wr (Below.refl _ _) 2 (by decide)).1
      have q3 : wr.cell? ⟨g, i * 5 + 3, none⟩ = some (.int .i64 f.times) := (HCs.out wr (Below.refl _ _) 3 (by decide)).1
      have q4 : wr.cell? ⟨g, i * 5 + 4, none⟩ = some (.bool f.land) := (HCs.out wr (Below.refl _ _) 4 (by decide)).1
      have c6 : wr.cell? ⟨b, 6, none⟩ = some (.slice (some ⟨g, 0, none⟩) n cap) := HD.out.rk.c 6
      have hin : (i : Int) < (n : Int) := by omega
      have hto := touches_any wr f kind s
      have HAl : Hid ((A.map (passed kind s)).length = i) := hAl
      clear hs1 hs2 hs3 hAl hrow
      go_wp2_with fail
      by_cases ht : touch f kind s = true
      · rw [ht] at hto
        refine hto.mono ?_
        clear hto
        rintro e w2 ⟨rfl, hb2⟩
        have HB2 : Hid (Below wr.heap.size wr w2) := hb2
        have HT : Hid (touch f kind s = true) := ht
        have y2 : w2.cell? ⟨g, i * 5 + 2, none⟩ = some (.int .i64 f.after) := (HCs.out w2 hb2 2 (by decide)).1
        have y3 : w2.cell? ⟨g, i * 5 + 3, none⟩ = some (.int .i64 f.times) := (HCs.out w2 hb2 3 (by decide)).1
        have fz2 : w2.frozen? ⟨g, i * 5 + 2, none⟩ = false := (HCs.out w2 hb2 2 (by decide)).2
        have fz3 : w2.frozen? ⟨g, i * 5 + 3, none⟩ = false := (HCs.out w2 hb2 3 (by decide)).2
        have hok : FOk f := HF.out f (by rw [HS.out.1]; simp)
        have hXl : w.heap.size < wr.heap.size := (Array.getElem?_eq_some_iff.1 HX.out).1
        have hgl : g < w.heap.size := HH.out.lt g (by simp [fp, Value.ownBlock])
        have HX2 : Hid (w2.heap[w.heap.size]? = some (.cells #[.int .i64 0, .int .i64 0, .int .i64 0, .int .i64 0, .bool false] TFa)) := (hb2.block _ hXl).trans HX.out
        have HRow2 : Hid (w2.ownsRow 0 TFa 5 (.slice (some ⟨g, 0, none⟩) n cap) n (fcells (A.map (passed kind s) ++ f :: B'))) := ownsRow_block HRow.out (fun x hx => hb2.block x (row_lt HRow.out x hx).1)
        have HD2 : Hid (DAct w w2 lk b ms ml ms ml qv (.slice (some ⟨g, 0, none⟩) n cap) qv (.slice (some ⟨g, 0, none⟩) n cap) { S with fs := A.map (passed kind s) ++ f :: B' }) := HD.out.later hb2
        have HG : Hid (g < w.heap.size) := hgl
        clear ht hb2 hXl hgl q0 q1 q2 q3 q4 c6
        by_cases ha : 0 < f.after
        · have ha1 : f.after ≤ 9223372036854775807 := hok.a1
          have HD3 : Hid (DAct w (w2.setCell ⟨g, i * 5 + 2, none⟩ (.int .i64 (f.after - 1))) lk b ms ml ms ml qv (.slice (some ⟨g, 0, none⟩) n cap) qv (.slice (some ⟨g, 0, none⟩) n cap) { S with fs := (A ++ [f]).map (passed kind s) ++ B' }) := by
            have e : (A ++ [f]).map (passed kind s) ++ B' = A.map (passed kind s) ++ { f with after := f.after - 1 } :: B' := by
              simp [passed, HT.out]
            rw [e]
            have h1 := frow_after HRow2.out (f.after - 1)
            rw [HAl.out] at h1
            have h2 : (A.map (passed kind s) ++ { f with after := f.after - 1 } :: B').length = n := by
              have := HFL.out
              rw [HS.out.1] at this
              simp at this ⊢
              omega
            exact HD2.out.trans (RK.faulted HD2.out.rk (by rw [h2]; exact h1) ((Kp.refl w2 [g]).set (.inl (by simp)) _ _))
          have HX3 : Hid ((w2.setCell ⟨g, i * 5 + 2, none⟩ (.int .i64 (f.after - 1))).heap[w.heap.size]? = some (.cells #[.int .i64 0, .int .i64 0, .int .i64 0, .int .i64 0, .bool false] TFa)) := (Below.heap_setCell _ _ _ _ (by have := HG.out; show w.heap.size ≠ g; omega)).trans HX2.out
          have HA3 : Hid (0 < f.after) := ha
          clear hok
          go_wp2
          go_roundw
          case rel => exact ⟨i + 1, A ++ [f], B', by omega, by go_num, ⟨by rw [HS.out.1]; simp, by simp [HS.out.2.1], fun x hx => by
            simp at hx
            rcases hx with hx | rfl
            · exact HS.out.2.2 x hx
            · exact fun _ => HA3.out⟩, HD3, HX3⟩
          case measure => simp [intOf]; omega
        · have ht0 : 1 ≤ f.times := hok.t0
          have ht1 : f.times ≤ 9223372036854775807 := hok.t1
          have y0 : w2.cell? ⟨g, i * 5, none⟩ = some (.int .i64 f.kind) := (HCs.out w2 HB2.out 0 (by decide)).1
          have y1 : w2.cell? ⟨g, i * 5 + 1, none⟩ = some (.int .i64 f.sector) := (HCs.out w2 HB2.out 1 (by decide)).1
          have y4 : w2.cell? ⟨g, i * 5 + 4, none⟩ = some (.bool f.land) := (HCs.out w2 HB2.out 4 (by decide)).1
          have HA0 : Hid (¬ 0 < f.after) := ha
          have hD3 : DAct w (w2.setCell ⟨g, i * 5 + 3, none⟩ (.int .i64 (f.times - 1))) lk b ms ml ms ml qv (.slice (some ⟨g, 0, none⟩) n cap) qv (.slice (some ⟨g, 0, none⟩) n cap) { S with fs := A.map (passed kind s) ++ { f with times := f.times - 1 } :: B' } := by
            have h1 := frow_times HRow2.out (f.times - 1)
            rw [HAl.out] at h1
            have h2 : (A.map (passed kind s) ++ { f with times := f.times - 1 } :: B').length = n := by
              have := HFL.out
              rw [HS.out.1] at this
              simp at this ⊢
              omega
            exact HD2.out.trans (RK.faulted HD2.out.rk (by rw [h2]; exact h1) ((Kp.refl w2 [g]).set (.inl (by simp)) _ _))
          have HD3 : Hid (DAct w (w2.setCell ⟨g, i * 5 + 3, none⟩ (.int .i64 (f.times - 1))) lk b ms ml ms ml qv (.slice (some ⟨g, 0, none⟩) n cap) qv (.slice (some ⟨g, 0, none⟩) n cap) { S with fs := A.map (passed kind s) ++ { f with times := f.times - 1 } :: B' }) := hD3
          have hfl : failL kind s S.fs = (A.map (passed kind s) ++ (if f.times - 1 = 0 then B' else { f with times := f.times - 1 } :: B'), some { f with times := f.times - 1 }) := by
            rw [HS.out.1, failL_split kind s A _ HS.out.2.2, failL, if_neg (by rw [HT.out]; simp), if_neg HA0.out]
            split <;> simp
          have HFl : Hid (failL kind s S.fs = (A.map (passed kind s) ++ (if f.times - 1 = 0 then B' else { f with times := f.times - 1 } :: B'), some { f with times := f.times - 1 })) := hfl
          have hbg : b ≠ g := by have := HD2.out.rk.apart.2.2.2.1; simp [Value.ownBlock] at this; omega
          have c6 : w2.cell? ⟨b, 6, none⟩ = some (.slice (some ⟨g, 0, none⟩) n cap) := HD2.out.rk.c 6
          have c10 : w2.cell? ⟨b, 10, none⟩ = some (.int .u64 S.st.failed) := HD2.out.rk.c 10
          have z10 : w2.frozen? ⟨b, 10, none⟩ = false := HD2.out.rk.fz 10
          have z6 : w2.frozen? ⟨b, 6, none⟩ = false := HD2.out.rk.fz 6
          obtain ⟨t, hte⟩ : ∃ t : Int, f.times - 1 = t := ⟨_, rfl⟩
          rw [hte] at HD3 HFl
          have hb5 : Below (w2.setCell ⟨g, i * 5 + 3, none⟩ (.int .i64 t)).heap.size (w2.setCell ⟨g, i * 5 + 3, none⟩ (.int .i64 t)) ((w2.setCell ⟨g, i * 5 + 3, none⟩ (.int .i64 t)).alloc (.cells #[.int .i64 f.kind, .int .i64 f.sector, .int .i64 f.after, .int .i64 t, .bool f.land] TFa)) := (Below.refl _ _).alloc (Nat.le_refl _) _
          obtain ⟨W5, hW5⟩ : ∃ W5, W5 = (w2.setCell ⟨g, i * 5 + 3, none⟩ (.int .i64 t)).alloc (.cells #[.int .i64 f.kind, .int .i64 f.sector, .int .i64 f.after, .int .i64 t, .bool f.land] TFa) := ⟨_, rfl⟩
          have hD5 : DAct w W5 lk b ms ml ms ml qv (.slice (some ⟨g, 0, none⟩) n cap) qv (.slice (some ⟨g, 0, none⟩) n cap) { S with fs := A.map (passed kind s) ++ { f with times := t } :: B' } := by rw [hW5]; exact HD3.out.later hb5
          have hbx5 : W5.heap[w2.heap.size]? = some (.cells #[.int .i64 f.kind, .int .i64 f.sector, .int .i64 f.after, .int .i64 t, .bool f.land] TFa) := by
            have := heap_alloc_new (w2.setCell ⟨g, i * 5 + 3, none⟩ (.int .i64 t)) (.cells #[.int .i64 f.kind, .int .i64 f.sector, .int .i64 f.after, .int .i64 t, .bool f.land] TFa)
            rw [← hW5] at this
            simpa using this
          have hrow5 : W5.ownsRow 0 TFa 5 (.slice (some ⟨g, 0, none⟩) n cap) n (fcells (A.map (passed kind s) ++ { f with times := t } :: B')) := by
            have h1 := hD5.rk.fr
            have h2 : (A.map (passed kind s) ++ { f with times := t } :: B').length = n := by
              have := HFL.out
              rw [HS.out.1] at this
              simp at this ⊢
              omega
            simp only at h1
            rw [h2] at h1
            exact h1
          have x3 : W5.cell? ⟨g, i * 5 + 3, none⟩ = some (.int .i64 t) := by
            have := (frow_cells hrow5 3 (by decide)).1
            rw [HAl.out] at this
            exact this
          have x6 : W5.cell? ⟨b, 6, none⟩ = some (.slice (some ⟨g, 0, none⟩) n cap) := hD5.rk.c 6
          have x10 : W5.cell? ⟨b, 10, none⟩ = some (.int .u64 S.st.failed) := hD5.rk.c 10
          have HD5 : Hid (DAct w W5 lk b ms ml ms ml qv (.slice (some ⟨g, 0, none⟩) n cap) qv (.slice (some ⟨g, 0, none⟩) n cap) { S with fs := A.map (passed kind s) ++ { f with times := t } :: B' }) := hD5
          have HR5 : Hid (W5.ownsRow 0 TFa 5 (.slice (some ⟨g, 0, none⟩) n cap) n (fcells (A.map (passed kind s) ++ { f with times := t } :: B'))) := hrow5
          have HX5 : Hid (W5.heap[w2.heap.size]? = some (.cells #[.int .i64 f.kind, .int .i64 f.sector, .int .i64 f.after, .int .i64 t, .bool f.land] TFa)) := hbx5
          rw [hW5] at x3 x6 x10
          clear hok hD3 hfl hb5 hD5 hbx5 hrow5
          by_cases hd : t = 0
          · subst hd
            have hbl : b < w.heap.size := HH.out.lt b (by simp [fp])
            have hgl : g < w.heap.size := HG.out
            have hw2 : w.heap.size < w2.heap.size := (Array.getElem?_eq_some_iff.1 HX2.out).1
            have hbw : ¬ (w.heap.size = b) := by omega
            have hb2 : ¬ (w2.heap.size = b) := by omega
            have hX5w : W5.heap[w.heap.size]? = some (.cells #[.int .i64 0, .int .i64 0, .int .i64 0, .int .i64 0, .bool false] TFa) := by
              rw [hW5, Below.heap_alloc _ _ _ (by simp; exact hw2), Below.heap_setCell _ _ _ _ (by show w.heap.size ≠ g; omega)]
              exact HX2.out
            have hdl := delete_one HR5.out hlt (fcells_one _) h64
            have e := fcells_del (A.map (passed kind s)) B' { f with times := 0 }
            rw [HAl.out] at e
            rw [e] at hdl
            have HX5w : Hid (W5.heap[w.heap.size]? = some (.cells #[.int .i64 0, .int .i64 0, .int .i64 0, .int .i64 0, .bool false] TFa)) := hX5w
            have HW : Hid (w.heap.size < w2.heap.size ∧ g < w.heap.size ∧ b < w.heap.size) := ⟨hw2, hgl, hbl⟩
            clear e hX5w
            go_wp2_with fail
            rw [← hW5]
            refine hdl.mono ?_
            clear hdl
            rintro e w6 ⟨rfl, hrow6, hk6⟩
            have hl6 : (A.map (passed kind s) ++ B').length = n - 1 := by
              have := HFL.out
              rw [HS.out.1] at this
              simp at this ⊢
              omega
            have hDf := HD5.out.trans (RK.refv HD5.out.rk (fs := A.map (passed kind s) ++ B') (m := n - 1) (by rw [hl6]; exact hrow6) hk6)
            have hP := hDf.put 10 (.int .u64 (inc S.st.failed)) lk { S.st with failed := inc S.st.failed } rfl
            have hb6 : w6.heap[b]? = W5.heap[b]? := hk6.block b (by have := HD5.out.rk.lt b (by simp [fp]); omega) (by simp; omega)
            have kx6 : w6.cell? ⟨b, 6, none⟩ = some (.slice (some ⟨g, 0, none⟩) n cap) := by
              have := HD5.out.rk.c 6
              unfold World.cell? at this ⊢
              rw [hb6]
              exact this
            have kf6 : w6.frozen? ⟨b, 6, none⟩ = false := by
              have := HD5.out.rk.fz 6
              unfold World.frozen? at this ⊢
              rw [hb6]
              exact this
            have kx10 : (w6.setCell ⟨b, 6, none⟩ (.slice (some ⟨g, 0, none⟩) (n - 1) cap)).cell? ⟨b, 10, none⟩ = some (.int .u64 S.st.failed) := hDf.rk.c 10
            have kf10 : (w6.setCell ⟨b, 6, none⟩ (.slice (some ⟨g, 0, none⟩) (n - 1) cap)).frozen? ⟨b, 10, none⟩ = false := hDf.rk.fz 10
            have hbx : w6.heap[w2.heap.size]? = some (.cells #[.int .i64 f.kind, .int .i64 f.sector, .int .i64 f.after, .int .i64 0, .bool f.land] TFa) := (hk6.block _ (Array.getElem?_eq_some_iff.1 HX5.out).1 (by simp; omega)).trans HX5.out
            have hzx : w6.heap[w.heap.size]? = some (.cells #[.int .i64 0, .int .i64 0, .int .i64 0, .int .i64 0, .bool false] TFa) := (hk6.block _ (Array.getElem?_eq_some_iff.1 HX5w.out).1 (by simp; omega)).trans HX5w.out
            have v0 : w6.cell? ⟨w2.heap.size, 0, none⟩ = some (.int .i64 f.kind) := (cell_of hbx).trans rfl
            have v1 : w6.cell? ⟨w2.heap.size, 1, none⟩ = some (.int .i64 f.sector) := (cell_of hbx).trans rfl
            have v2 : w6.cell? ⟨w2.heap.size, 2, none⟩ = some (.int .i64 f.after) := (cell_of hbx).trans rfl
            have v3 : w6.cell? ⟨w2.heap.size, 3, none⟩ = some (.int .i64 0) := (cell_of hbx).trans rfl
            have v4 : w6.cell? ⟨w2.heap.size, 4, none⟩ = some (.bool f.land) := (cell_of hbx).trans rfl
            have z0 : w6.cell? ⟨w.heap.size, 0, none⟩ = some (.int .i64 0) := (cell_of hzx).trans rfl
            have z1 : w6.cell? ⟨w.heap.size, 1, none⟩ = some (.int .i64 0) := (cell_of hzx).trans rfl
            have z2 : w6.cell? ⟨w.heap.size, 2, none⟩ = some (.int .i64 0) := (cell_of hzx).trans rfl
            have z3 : w6.cell? ⟨w.heap.size, 3, none⟩ = some (.int .i64 0) := (cell_of hzx).trans rfl
            have z4 : w6.cell? ⟨w.heap.size, 4, none⟩ = some (.bool false) := (cell_of hzx).trans rfl
            have fz : ∀ j, w6.frozen? ⟨w.heap.size, j, none⟩ = false := fun j => frozen_of hzx
            have hne : ∀ x ∈ fp b ms ml qv (.slice (some ⟨g, 0, none⟩) (n - 1) cap), x ≠ w.heap.size := fun x hx => by have := HH.out.lt x hx; omega
            have HQ : Hid (∀ v0 v1 v2 v3 v4 : Value, DAct w (((((((w6.setCell ⟨b, 6, none⟩ (.slice (some ⟨g, 0, none⟩) (n - 1) cap)).setCell ⟨b, 10, none⟩ (.int .u64 (inc S.st.failed))).setCell ⟨w.heap.size, 0, none⟩ v0).setCell ⟨w.heap.size, 1, none⟩ v1).setCell ⟨w.heap.size, 2, none⟩ v2).setCell ⟨w.heap.size, 3, none⟩ v3).setCell ⟨w.heap.size, 4, none⟩ v4) lk b ms ml ms ml qv (.slice (some ⟨g, 0, none⟩) n cap) qv (.slice (some ⟨g, 0, none⟩) (n - 1) cap) (failedS S (A.map (passed kind s) ++ B'))) := fun v0 v1 v2 v3 v4 =>
              ((((DAct.box hP (Nat.le_refl _) hne 0 v0).box (Nat.le_refl _) hne 1 v1).box (Nat.le_refl _) hne 2 v2).box (Nat.le_refl _) hne 3 v3).box (Nat.le_refl _) hne 4 v4
            have HF2 : Hid (failL kind s S.fs = (A.map (passed kind s) ++ B', some { f with times := 0 })) := by
              have := HFl.out
              show _ = _
              simpa using this
            clear hne hP hDf hbx hzx hb6 hk6 hrow6 hl6 hW5 hbl hgl hw2 x3 x6 x10 y0 y1 y2 y3 y4 fz2 fz3 c6 c10 z10 z6
            go_wp2
            have hq := HQ.out (.int .i64 f.kind) (.int .i64 f.sector) (.int .i64 f.after) (.int .i64 0) (.bool f.land)
            refine bodyPost_ret (v := .tuple #[.agg (fcell { f with times := 0 }).toArray, .bool true]) ?_ rfl (.inr ⟨_, by rw [HF2.out], rfl, n - 1, by rw [HF2.out]; exact hq⟩)
            simp [results, Tryz.results97, asAddr, go_sem, fcell, z0, z1, z2, z3, z4]
          · have hbw : ¬ (w.heap.size = b) := by have := HH.out.lt b (by simp [fp]); omega
            have hX5w : W5.heap[w.heap.size]? = some (.cells #[.int .i64 0, .int .i64 0, .int .i64 0, .int .i64 0, .bool false] TFa) := by
              rw [hW5, Below.heap_alloc _ _ _ (by simp; exact (Array.getElem?_eq_some_iff.1 HX2.out).1), Below.heap_setCell _ _ _ _ (by have := HG.out; show w.heap.size ≠ g; omega)]
              exact HX2.out
            have z0 : W5.cell? ⟨w.heap.size, 0, none⟩ = some (.int .i64 0) := (cell_of hX5w).trans rfl
            have z1 : W5.cell? ⟨w.heap.size, 1, none⟩ = some (.int .i64 0) := (cell_of hX5w).trans rfl
            have z2 : W5.cell? ⟨w.heap.size, 2, none⟩ = some (.int .i64 0) := (cell_of hX5w).trans rfl
            have z3 : W5.cell? ⟨w.heap.size, 3, none⟩ = some (.int .i64 0) := (cell_of hX5w).trans rfl
            have z4 : W5.cell? ⟨w.heap.size, 4, none⟩ = some (.bool false) := (cell_of hX5w).trans rfl
            have fz : ∀ j, W5.frozen? ⟨w.heap.size, j, none⟩ = false := fun j => frozen_of hX5w
            have fb : W5.frozen? ⟨b, 10, none⟩ = false := HD5.out.rk.fz 10
            have hne : ∀ x ∈ fp b ms ml qv (.slice (some ⟨g, 0, none⟩) n cap), x ≠ w.heap.size := fun x hx => by have := HH.out.lt x hx; omega
            have hP := HD5.out.put 10 (.int .u64 (inc S.st.failed)) lk { S.st with failed := inc S.st.failed } rfl
            have HQ : Hid (∀ v0 v1 v2 v3 v4 : Value, DAct w ((((((W5.setCell ⟨b, 10, none⟩ (.int .u64 (inc S.st.failed))).setCell ⟨w.heap.size, 0, none⟩ v0).setCell ⟨w.heap.size, 1, none⟩ v1).setCell ⟨w.heap.size, 2, none⟩ v2).setCell ⟨w.heap.size, 3, none⟩ v3).setCell ⟨w.heap.size, 4, none⟩ v4) lk b ms ml ms ml qv (.slice (some ⟨g, 0, none⟩) n cap) qv (.slice (some ⟨g, 0, none⟩) n cap) (failedS S (A.map (passed kind s) ++ { f with times := t } :: B'))) := fun v0 v1 v2 v3 v4 =>
              ((((DAct.box hP (Nat.le_refl _) hne 0 v0).box (Nat.le_refl _) hne 1 v1).box (Nat.le_refl _) hne 2 v2).box (Nat.le_refl _) hne 3 v3).box (Nat.le_refl _) hne 4 v4
            have HF2 : Hid (failL kind s S.fs = (A.map (passed kind s) ++ { f with times := t } :: B', some { f with times := t })) := by
              have := HFl.out
              rw [if_neg hd] at this
              exact this
            rw [hW5] at z0 z1 z2 z3 z4 fz fb
            clear hne hP hX5w
            go_wp2
            have hq := HQ.out (.int .i64 f.kind) (.int .i64 f.sector) (.int .i64 f.after) (.int .i64 t) (.bool f.land)
            rw [hW5] at hq
            refine bodyPost_ret (v := .tuple #[.agg (fcell { f with times := t }).toArray, .bool true]) ?_ rfl (.inr ⟨_, by rw [HF2.out], rfl, n, by rw [HF2.out]; exact hq⟩)
            simp [results, Tryz.results97, asAddr, go_sem, fcell, z0, z1, z2, z3, z4]
      · have hf : touch f kind s = false := by simpa using ht
        rw [hf] at hto
        refine hto.mono ?_
        clear hto
        rintro e w2 ⟨rfl, hb2⟩
        have hXl : w.heap.size < wr.heap.size := (Array.getElem?_eq_some_iff.1 HX.out).1
        have HX2 : Hid (w2.heap[w.heap.size]? = some (.cells #[.int .i64 0, .int .i64 0, .int .i64 0, .int .i64 0, .bool false] TFa)) := (hb2.block _ hXl).trans HX.out
        have HT : Hid (touch f kind s = false) := hf
        have HD2 : Hid (DAct w w2 lk b ms ml ms ml qv (.slice (some ⟨g, 0, none⟩) n cap) qv (.slice (some ⟨g, 0, none⟩) n cap) { S with fs := (A ++ [f]).map (passed kind s) ++ B' }) := by
          have e : (A ++ [f]).map (passed kind s) ++ B' = A.map (passed kind s) ++ f :: B' := by simp [passed, HT.out]
          rw [e]
          exact HD.out.later hb2
        clear hf ht hb2 hXl q0 q1 q2 q3 q4 c6
        go_wp2
        go_roundw
        case rel => exact ⟨i + 1, A ++ [f], B', by omega, by go_num, ⟨by rw [HS.out.1]; simp, by simp [HS.out.2.1], fun x hx => by
          simp at hx
          rcases hx with hx | rfl
          · exact HS.out.2.2 x hx
          · intro h1; rw [HT.out] at h1; cases h1⟩, HD2, HX2⟩
        case measure => simp [intOf]; omega
    · have e : i = n := by omega
      subst e
      obtain ⟨hs1, hs2, hs3⟩ := HS.out
      have hB : B = [] := by
        have := HFL.out
        rw [hs1] at this
        simp [hs2] at this
        exact this
      subst hB
      have hfl : failL kind s S.fs = (A.map (passed kind s), none) := by
        rw [hs1, failL_split kind s A [] hs3]; simp [failL]
      have HFl : Hid (failL kind s S.fs = (A.map (passed kind s), none)) := hfl
      have HDz : Hid (DAct w wr lk b ms ml ms ml qv (.slice (some ⟨g, 0, none⟩) i cap) qv (.slice (some ⟨g, 0, none⟩) i cap) { S with fs := (failL kind s S.fs).1 }) := by
        show DAct _ _ _ _ _ _ _ _ _ _ _ _ _
        rw [hfl]
        have := HD.out
        rw [List.append_nil] at this
        exact this
      clear hfl hs1 hs2 hs3
      have hne : ∀ x ∈ fp b ms ml qv (.slice (some ⟨g, 0, none⟩) i cap), x ≠ w.heap.size := fun x hx => by have := HH.out.lt x hx; omega
      have z0 : wr.cell? ⟨w.heap.size, 0, none⟩ = some (.int .i64 0) := (cell_of HX.out).trans rfl
      have z1 : wr.cell? ⟨w.heap.size, 1, none⟩ = some (.int .i64 0) := (cell_of HX.out).trans rfl
      have z2 : wr.cell? ⟨w.heap.size, 2, none⟩ = some (.int .i64 0) := (cell_of HX.out).trans rfl
      have z3 : wr.cell? ⟨w.heap.size, 3, none⟩ = some (.int .i64 0) := (cell_of HX.out).trans rfl
      have z4 : wr.cell? ⟨w.heap.size, 4, none⟩ = some (.bool false) := (cell_of HX.out).trans rfl
      have fz : ∀ j, wr.frozen? ⟨w.heap.size, j, none⟩ = false := fun j => frozen_of HX.out
      have HQ : Hid (∀ v0 v1 v2 v3 v4 : Value, DAct w (((((wr.setCell ⟨w.heap.size, 0, none⟩ v0).setCell ⟨w.heap.size, 1, none⟩ v1).setCell ⟨w.heap.size, 2, none⟩ v2).setCell ⟨w.heap.size, 3, none⟩ v3).setCell ⟨w.heap.size, 4, none⟩ v4) lk b ms ml ms ml qv (.slice (some ⟨g, 0, none⟩) i cap) qv (.slice (some ⟨g, 0, none⟩) i cap) { S with fs := (failL kind s S.fs).1 }) := fun v0 v1 v2 v3 v4 =>
        ((((HDz.out.box (Nat.le_refl _) hne 0 v0).box (Nat.le_refl _) hne 1 v1).box (Nat.le_refl _) hne 2 v2).box (Nat.le_refl _) hne 3 v3).box (Nat.le_refl _) hne 4 v4
      clear hne
      go_wp2
      refine bodyPost_ret (v := .tuple #[.agg zf.toArray, .bool false]) ?_ rfl (.inl ⟨by rw [HFl.out], rfl, HQ.out _ _ _ _ _⟩)
      simp [results, Tryz.results97, asAddr, go_sem, zf, z0, z1, z2, z3, z4]
end Go.Proofs.YtlacligofhinmaaGreat.K

namespace Go.Proofs.YtlacligofhinmaaGreat.K
open Go.RowKit Go.Maps Go.Proofs.YtlacligofhinmaaGreat Go.MuLone
attribute [local go_sem] Oper.semAt_some
set_option linter.unusedVariables false
set_option linter.unusedSimpArgs false
set_option maxRecDepth 100000

/-- the faults of a disk -/
structure FsOk (l : List Flt) : Prop where
  ok : ∀ f ∈ l, FOk f
  le : l.length ≤ 64
def zF : Flt := ⟨0, 0, 0, 0, false⟩
def hitF (fs : List Flt) (k s : Int) : Bool := (failL k s fs).2.isSome
def landF (fs : List Flt) (k s : Int) : Bool := ((failL k s fs).2.getD zF).land
def failS (S : Dk) (k s : Int) : Dk := if hitF S.fs k s = true then failedS S (failL k s S.fs).1 else { S with fs := (failL k s S.fs).1 }
theorem failS_fs (S : Dk) (k s : Int) : (failS S k s).fs = (failL k s S.fs).1 := by unfold failS; split <;> rfl
theorem failS_q (S : Dk) (k s : Int) : (failS S k s).q = S.q := by unfold failS; split <;> rfl
theorem failS_n (S : Dk) (k s : Int) : (failS S k s).n = S.n := by unfold failS; split <;> rfl
theorem failS_safe (S : Dk) (k s : Int) : (failS S k s).safe = S.safe := by unfold failS; split <;> rfl
theorem failS_ok {S : Dk} (h : FsOk S.fs) (k s : Int) : FsOk (failS S k s).fs := by
  rw [failS_fs]
  exact ⟨failL_ok k s h.ok, Nat.le_trans (failL_len k s _) h.le⟩
theorem fail_gen {w : World} {lk : Int} {b ms ml : Nat} {qv fv : Value} {S : Dk} (h : RK w lk b ms ml qv fv S) (hf : FsOk S.fs) (kind s : Int) :
    Calls Tryz.prog 97 #[.pointer (some ⟨b, 0, none⟩), .int .i64 kind, .int .i64 s] w fun r w' => ∃ (a0 a1 a2 a3 : Int) (fv' : Value), r = .returned (.tuple #[.agg #[.int .i64 a0, .int .i64 a1, .int .i64 a2, .int .i64 a3, .bool (landF S.fs kind s)], .bool (hitF S.fs kind s)]) ∧ DAct w w' lk b ms ml ms ml qv fv qv fv' (failS S kind s) := by
  rcases h.fr.2 with ⟨hfv, h0⟩ | ⟨g, cap, cur, hfv, _⟩
  · have hn : S.fs = [] := List.length_eq_zero_iff.1 h0
    refine (fail_none h hn kind s).mono ?_
    rintro r w' ⟨rfl, hb⟩
    refine ⟨0, 0, 0, 0, fv, ?_, ?_⟩
    · simp [landF, hitF, hn, failL, zF]
    · have e : failS S kind s = S := by
        unfold failS hitF
        rw [hn]
        simp [failL]
        rw [← hn]
      rw [e]
      exact (DAct.refl h).later hb
  · subst hfv
    refine (fail_any h rfl hf.ok hf.le kind s).mono ?_
    rintro r w' (⟨hn, rfl, ha⟩ | ⟨f, hn, rfl, m, ha⟩)
    · refine ⟨0, 0, 0, 0, .slice (some ⟨g, 0, none⟩) S.fs.length cap, ?_, ?_⟩
      · simp [landF, hitF, hn, zF, zf]
      · have e : failS S kind s = { S with fs := (failL kind s S.fs).1 } := by unfold failS hitF; rw [hn]; rfl
        rw [e]; exact ha
    · refine ⟨f.kind, f.sector, f.after, f.times, .slice (some ⟨g, 0, none⟩) m cap, ?_, ?_⟩
      · simp [landF, hitF, hn, fcell]
      · have e : failS S kind s = failedS S (failL kind s S.fs).1 := by unfold failS hitF; rw [hn]; rfl
        rw [e]; exact ha
end Go.Proofs.YtlacligofhinmaaGreat.K

namespace Go.Proofs.YtlacligofhinmaaGreat.K
open Go.RowKit Go.Maps Go.Proofs.YtlacligofhinmaaGreat Go.MuLone
attribute [local go_sem] Oper.semAt_some
set_option linter.unusedVariables false
set_option linter.unusedSimpArgs false
set_option maxRecDepth 100000

theorem infoFa3 : (Tryz.prog.info? TFa).map (fun i => (i.zero, i.size, i.bytes)) = some (some (.agg #[.int .i64 0, .int .i64 0, .int .i64 0, .int .i64 0, .bool false]), 5, 40) := by kernel_rfl
theorem own_news {w : World} {B T size g n cap : Nat} {xs : List Value} (h : w.ownsRow B T size (.slice (some ⟨g, 0, none⟩) n cap) n xs) : ∀ j u, xs[j]? = some u → w.cell? ((⟨g, 0, none⟩ : Addr).add j) = some u := fun j u hu => by
  rw [add_plain, Nat.zero_add]
  have hj : j < n * size := by have := (List.getElem?_eq_some_iff.1 hu).1; rw [h.1] at this; exact this
  rw [h.cellAt j hj]; exact hu
end Go.Proofs.YtlacligofhinmaaGreat.K
