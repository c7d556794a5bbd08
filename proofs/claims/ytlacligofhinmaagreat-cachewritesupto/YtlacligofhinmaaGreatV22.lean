import Derived.Test.YtlacligofhinmaaGreatV21
namespace Go.Proofs.YtlacligofhinmaaGreat.K
open Go.RowKit Go.Maps Go.Proofs.YtlacligofhinmaaGreat
attribute [local go_sem] Oper.semAt_some
set_option linter.unusedVariables false
set_option linter.unusedSimpArgs false
set_option maxRecDepth 100000

theorem touch_three {f : Flt} {k s : Int} (h : touch f k s = true) : f.kind = k ∧ (k = 3 ∨ k ≠ 3 ∧ f.sector = -1 ∨ k ≠ 3 ∧ f.sector ≠ -1 ∧ f.sector = s) := by
  unfold touch at h
  simp only [Bool.and_eq_true, Bool.or_eq_true, decide_eq_true_eq] at h
  refine ⟨h.1, ?_⟩
  by_cases h3 : k = 3
  · exact .inl h3
  · by_cases h4 : f.sector = -1
    · exact .inr (.inl ⟨h3, h4⟩)
    · exact .inr (.inr ⟨h3, h4, by rcases h.2 with (h5 | h5) | h5; exact absurd h5 h3; exact absurd h5 h4; exact h5⟩)
theorem touch_not {f : Flt} {k s : Int} (h : touch f k s = false) : f.kind ≠ k ∨ f.kind = k ∧ k ≠ 3 ∧ f.sector ≠ -1 ∧ f.sector ≠ s := by
  unfold touch at h
  simp only [Bool.and_eq_false_iff, Bool.or_eq_false_iff, decide_eq_false_iff_not] at h
  by_cases h1 : f.kind = k
  · rcases h with h | h
    · exact absurd h1 h
    · exact .inr ⟨h1, h.1.1, h.1.2, h.2⟩
  · exact .inl h1
theorem wrap_id {z : Int} (h0 : -9223372036854775808 ≤ z) (h1 : z ≤ 9223372036854775807) : IntKind.i64.wrap z = z := by rw [IntKind.wrap_i64]; omega
theorem own_cap {w : World} {B T size g n m cap : Nat} {xs : List Value} (h : w.ownsRow B T size (.slice (some ⟨g, 0, none⟩) n cap) m xs) : m ≤ cap := by
  rcases h.2 with ⟨e, _⟩ | ⟨g', cap', cur, e, _, _, hc, _⟩
  · cases e
  · simp at e
    omega
theorem addr_block (a : Addr) (j : Nat) : (a.add j).block = a.block := by
  unfold Addr.add
  split <;> rfl
theorem below_drew (X : World) : Below X.heap.size X X.drew := ⟨rfl, rfl, rfl, Nat.le_refl _, fun _ _ => rfl⟩
theorem below_drewN (X : World) (q : Nat) : Below X.heap.size X (X.drewN q) := ⟨rfl, rfl, rfl, Nat.le_refl _, fun _ _ => rfl⟩
set_option maxHeartbeats 8000000 in
theorem rfails_some {w : World} {p : Nat} {dv qv : Value} {g n cap : Nat} {D Q : List Pv} {S : Dk} (h : RR w p dv qv (.slice (some ⟨g, 0, none⟩) n cap) D Q S) (hfl : S.fs.length = n) (hf : FsOk S.fs) (kind s : Int) :
    Calls Tryz.prog 102 #[.pointer (some ⟨p, 0, none⟩), .int .i64 kind, .int .i64 s] w fun r w' => r = .returned (.tuple #[.bool (hitF S.fs kind s), .bool (landF S.fs kind s)]) ∧ ∃ av', RAct w w' p dv qv (.slice (some ⟨g, 0, none⟩) n cap) D Q dv qv av' D Q (failS S kind s) := by
  have c4 : w.cell? ⟨p, 4, none⟩ = some (.slice (some ⟨g, 0, none⟩) n cap) := h.c 4
  have h64 : n ≤ 64 := by have := hf.le; omega
  have HF : Hid (∀ f ∈ S.fs, FOk f) := hf.ok
  have HFL : Hid (S.fs.length = n) := hfl
  have HH : Hid (RR w p dv qv (.slice (some ⟨g, 0, none⟩) n cap) D Q S) := h
  obtain ⟨i0, hi0, hz0, hz1, hz2⟩ := info_parts infoFa3
  clear h hf hfl
  go_enter Tryz.func102, Tryz.ntmps102
  go_wp2
  go_loopw [8] (fun c wr => ∃ (i : Nat) (A B : List Flt), i ≤ n ∧ c = .int .i64 i ∧ Hid (S.fs = A ++ B ∧ A.length = i ∧ ∀ f ∈ A, touch f kind s = true → 0 < f.after) ∧ Hid (RAct w wr p dv qv (.slice (some ⟨g, 0, none⟩) n cap) D Q dv qv (.slice (some ⟨g, 0, none⟩) n cap) D Q { S with fs := A.map (passed kind s) ++ B })) (fun c _ => n - (intOf c).toNat)
  case atStart => exact ⟨0, [], S.fs, Nat.zero_le _, rfl, ⟨rfl, rfl, by simp⟩, RAct.refl HH.out⟩
  case round =>
    obtain ⟨i, A, B, hi, rfl, HS, HD⟩ := hrel
    clear c4
    have c4 : wr.cell? ⟨p, 4, none⟩ = some (.slice (some ⟨g, 0, none⟩) n cap) := HD.out.rk.c 4
    by_cases hlt : i < n
    · obtain ⟨hs1, hs2, hs3⟩ := HS.out
      obtain ⟨f, B', rfl⟩ : ∃ f B', B = f :: B' := by
        cases B with
        | nil => exfalso; have := HFL.out; rw [hs1] at this; simp at this; omega
        | cons f B' => exact ⟨f, B', rfl⟩
      have hAl : (A.map (passed kind s)).length = i := by simp [hs2]
      have hrow : wr.ownsRow 0 TFa 5 (.slice (some ⟨g, 0, none⟩) n cap) n (fcells (A.map (passed kind s) ++ f :: B')) := by
        have h1 := HD.out.rk.fr
        have h2 : (A.map (passed kind s) ++ f :: B').length = n := by rw [List.length_append, List.length_map, ← List.length_append, ← hs1]; exact HFL.out
        simp only at h1
        rw [h2] at h1
        exact h1
      have HRow : Hid (wr.ownsRow 0 TFa 5 (.slice (some ⟨g, 0, none⟩) n cap) n (fcells (A.map (passed kind s) ++ f :: B'))) := hrow
      have hok : FOk f := HF.out f (by rw [hs1]; simp)
      obtain ⟨fk, fsec, fa, ft, fl⟩ := f
      obtain ⟨W1, hW1⟩ : ∃ W1, W1 = wr.alloc (.cells #[.int .i64 fk, .int .i64 fsec, .int .i64 fa, .int .i64 ft, .bool fl] TFa) := ⟨_, rfl⟩
      have hB1 : Below wr.heap.size wr W1 := by rw [hW1]; exact (Below.refl _ wr).alloc (Nat.le_refl _) _
      have hx1 : W1.heap[wr.heap.size]? = some (.cells #[.int .i64 fk, .int .i64 fsec, .int .i64 fa, .int .i64 ft, .bool fl] TFa) := by rw [hW1]; exact heap_alloc_new wr _
      have hq := frow_cells hrow
      rw [hAl] at hq
      have q0 : wr.cell? ⟨g, i * 5, none⟩ = some (.int .i64 fk) := (hq 0 (by decide)).1
      have q1 : wr.cell? ⟨g, i * 5 + 1, none⟩ = some (.int .i64 fsec) := (hq 1 (by decide)).1
      have q2 : wr.cell? ⟨g, i * 5 + 2, none⟩ = some (.int .i64 fa) := (hq 2 (by decide)).1
      have q3 : wr.cell? ⟨g, i * 5 + 3, none⟩ = some (.int .i64 ft) := (hq 3 (by decide)).1
      have q4 : wr.cell? ⟨g, i * 5 + 4, none⟩ = some (.bool fl) := (hq 4 (by decide)).1
      have hrow1 : W1.ownsRow 0 TFa 5 (.slice (some ⟨g, 0, none⟩) n cap) n (fcells (A.map (passed kind s) ++ ⟨fk, fsec, fa, ft, fl⟩ :: B')) := ownsRow_block hrow (fun g e => hB1.block g (row_lt hrow g e).1)
      have hq1 := frow_cells hrow1
      rw [hAl] at hq1
      have r2 : W1.cell? ⟨g, i * 5 + 2, none⟩ = some (.int .i64 fa) := (hq1 2 (by decide)).1
      have r3 : W1.cell? ⟨g, i * 5 + 3, none⟩ = some (.int .i64 ft) := (hq1 3 (by decide)).1
      have z2 : W1.frozen? ⟨g, i * 5 + 2, none⟩ = false := (hq1 2 (by decide)).2
      have z3 : W1.frozen? ⟨g, i * 5 + 3, none⟩ = false := (hq1 3 (by decide)).2
      have y2 : W1.cell? ⟨wr.heap.size, 2, none⟩ = some (.int .i64 fa) := (cell_of hx1).trans rfl
      have y3 : W1.cell? ⟨wr.heap.size, 3, none⟩ = some (.int .i64 ft) := (cell_of hx1).trans rfl
      have y4 : W1.cell? ⟨wr.heap.size, 4, none⟩ = some (.bool fl) := (cell_of hx1).trans rfl
      have d4 : W1.cell? ⟨p, 4, none⟩ = some (.slice (some ⟨g, 0, none⟩) n cap) := cell_later hB1 c4
      have HD1 : Hid (RAct w W1 p dv qv (.slice (some ⟨g, 0, none⟩) n cap) D Q dv qv (.slice (some ⟨g, 0, none⟩) n cap) D Q { S with fs := A.map (passed kind s) ++ ⟨fk, fsec, fa, ft, fl⟩ :: B' }) := HD.out.later hB1
      have HX1 : Hid (W1.heap[wr.heap.size]? = some (.cells #[.int .i64 fk, .int .i64 fsec, .int .i64 fa, .int .i64 ft, .bool fl] TFa)) := hx1
      have HAl : Hid ((A.map (passed kind s)).length = i) := hAl
      obtain ⟨o1, o2, o3, o4⟩ := hok
      simp only at o1 o2 o3 o4
      have e1 : ¬ g = p := fun e => HD.out.rk.pne.2.2.1 (by rw [e]; rfl)
      have e2 : ¬ p = g := fun e => e1 e.symm
      have hgl : g < wr.heap.size := (row_lt hrow g rfl).1
      have hpl : p < wr.heap.size := HD.out.rk.lt p (mem_fr.2 (.inl rfl))
      have e3 : ¬ g = wr.heap.size := by omega
      have e4 : ¬ wr.heap.size = g := by omega
      have e5 : ¬ p = wr.heap.size := by omega
      have e6 : ¬ wr.heap.size = p := by omega
      have hwt : IntKind.i64.wrap (ft - 1) = ft - 1 := wrap_id (by omega) (by omega)
      have HSf : Hid (S.fs = A ++ ⟨fk, fsec, fa, ft, fl⟩ :: B') := hs1
      clear hs1 hs2 hs3 hrow hq hAl hq1 hrow1 hB1 hx1
      by_cases ht : touch ⟨fk, fsec, fa, ft, fl⟩ kind s = true
      · have HTo : Hid (touch ⟨fk, fsec, fa, ft, fl⟩ kind s = true) := ht
        obtain ⟨t1, t2⟩ := touch_three ht
        simp only at t1 t2
        clear ht
        have hwa : IntKind.i64.wrap (fa - 1) = fa - 1 := wrap_id (by omega) (by omega)
        have hkp : ∀ (j : Nat) (v : Value) (W' : World), Below (W1.setCell ⟨g, j, none⟩ v).heap.size (W1.setCell ⟨g, j, none⟩ v) W' → Kp W1 W' ((.slice (some ⟨g, 0, none⟩) n cap) : Value).ownBlock.toList := fun j v W' hB => (((Kp.refl W1 [g]).set (.inl (by simp)) j v).trans (Kp.of_below hB []) (by simp))
        have hlen : ∀ f' : Flt, (A.map (passed kind s) ++ f' :: B').length = n := fun f' => by
          have := HFL.out
          rw [HSf.out] at this
          simp at this ⊢
          omega
        have HLen : Hid (∀ f' : Flt, (A.map (passed kind s) ++ f' :: B').length = n) := hlen
        have HPass : Hid (0 < fa → ∀ W', Below (W1.setCell ⟨g, i * 5 + 2, none⟩ (.int .i64 (fa - 1))).heap.size (W1.setCell ⟨g, i * 5 + 2, none⟩ (.int .i64 (fa - 1))) W' → RAct w W' p dv qv (.slice (some ⟨g, 0, none⟩) n cap) D Q dv qv (.slice (some ⟨g, 0, none⟩) n cap) D Q { S with fs := (A ++ [(⟨fk, fsec, fa, ft, fl⟩ : Flt)]).map (passed kind s) ++ B' }) := fun h0 W' hB => by
          have hr := frow_after (A := A.map (passed kind s)) (B := B') (f := (⟨fk, fsec, fa, ft, fl⟩ : Flt)) (by have := HD1.out.rk.fr; simp only at this; rw [hlen] at this; exact this) (fa - 1)
          rw [HAl.out] at hr
          have e : (A ++ [(⟨fk, fsec, fa, ft, fl⟩ : Flt)]).map (passed kind s) ++ B' = A.map (passed kind s) ++ ⟨fk, fsec, fa - 1, ft, fl⟩ :: B' := by simp [passed, HTo.out]
          rw [e]
          refine HD1.out.trans (RR.sameA HD1.out.rk (hkp _ _ W' hB) ?_)
          rw [hlen]
          exact ownsRow_block hr (fun x hx => hB.block x (row_lt hr x hx).1)
        have hr3 : (W1.setCell ⟨g, i * 5 + 3, none⟩ (.int .i64 (ft - 1))).ownsRow 0 TFa 5 (.slice (some ⟨g, 0, none⟩) n cap) n (fcells (A.map (passed kind s) ++ ⟨fk, fsec, fa, ft - 1, fl⟩ :: B')) := by
          have hr := frow_times (A := A.map (passed kind s)) (B := B') (f := (⟨fk, fsec, fa, ft, fl⟩ : Flt)) (by have := HD1.out.rk.fr; simp only at this; rw [hlen] at this; exact this) (ft - 1)
          rw [HAl.out] at hr
          exact hr
        have HRow3 : Hid (∀ W', Below (W1.setCell ⟨g, i * 5 + 3, none⟩ (.int .i64 (ft - 1))).heap.size (W1.setCell ⟨g, i * 5 + 3, none⟩ (.int .i64 (ft - 1))) W' → W'.ownsRow 0 TFa 5 (.slice (some ⟨g, 0, none⟩) n cap) n (fcells (A.map (passed kind s) ++ ⟨fk, fsec, fa, ft - 1, fl⟩ :: B'))) := fun W' hB => ownsRow_block hr3 (fun x hx => hB.block x (row_lt hr3 x hx).1)
        have HKp3 : Hid (∀ W', Below (W1.setCell ⟨g, i * 5 + 3, none⟩ (.int .i64 (ft - 1))).heap.size (W1.setCell ⟨g, i * 5 + 3, none⟩ (.int .i64 (ft - 1))) W' → Kp W1 W' ((.slice (some ⟨g, 0, none⟩) n cap) : Value).ownBlock.toList) := fun W' hB => hkp _ _ W' hB
        have HS3 : Hid (∀ W', Below (W1.setCell ⟨g, i * 5 + 3, none⟩ (.int .i64 (ft - 1))).heap.size (W1.setCell ⟨g, i * 5 + 3, none⟩ (.int .i64 (ft - 1))) W' → RAct w W' p dv qv (.slice (some ⟨g, 0, none⟩) n cap) D Q dv qv (.slice (some ⟨g, 0, none⟩) n cap) D Q { S with fs := A.map (passed kind s) ++ ⟨fk, fsec, fa, ft - 1, fl⟩ :: B' }) := fun W' hB => HD1.out.trans (RR.sameA HD1.out.rk (hkp _ _ W' hB) (by rw [hlen]; exact HRow3.out W' hB))
        have hcell3 : ∀ W', Below (W1.setCell ⟨g, i * 5 + 3, none⟩ (.int .i64 (ft - 1))).heap.size (W1.setCell ⟨g, i * 5 + 3, none⟩ (.int .i64 (ft - 1))) W' → W'.cell? ⟨wr.heap.size, 3, none⟩ = some (.int .i64 ft) ∧ W'.cell? ⟨wr.heap.size, 4, none⟩ = some (.bool fl) := fun W' hB => by
          have hb : W'.heap[wr.heap.size]? = some (.cells #[.int .i64 fk, .int .i64 fsec, .int .i64 fa, .int .i64 ft, .bool fl] TFa) := by
            refine (hB.block _ ?_).trans ((Below.heap_setCell _ _ _ _ (by show wr.heap.size ≠ g; omega)).trans HX1.out)
            simp
            exact (Array.getElem?_eq_some_iff.1 HX1.out).1
          exact ⟨(cell_of hb).trans rfl, (cell_of hb).trans rfl⟩
        have HC3 : Hid (∀ W', Below (W1.setCell ⟨g, i * 5 + 3, none⟩ (.int .i64 (ft - 1))).heap.size (W1.setCell ⟨g, i * 5 + 3, none⟩ (.int .i64 (ft - 1))) W' → W'.cell? ⟨wr.heap.size, 3, none⟩ = some (.int .i64 ft) ∧ W'.cell? ⟨wr.heap.size, 4, none⟩ = some (.bool fl)) := hcell3
        have hfail : ¬ 0 < fa → failL kind s S.fs = (A.map (passed kind s) ++ (if ft - 1 = 0 then B' else ⟨fk, fsec, fa, ft - 1, fl⟩ :: B'), some ⟨fk, fsec, fa, ft - 1, fl⟩) := fun h0 => by
          rw [HSf.out, failL_split kind s A _ HS.out.2.2]
          unfold failL
          rw [if_neg (by rw [HTo.out]; simp), if_neg h0]
          by_cases h1 : ft - 1 = 0
          · rw [if_pos h1, if_pos h1]
          · rw [if_neg h1, if_neg h1]
        have HFail : Hid (¬ 0 < fa → failL kind s S.fs = (A.map (passed kind s) ++ (if ft - 1 = 0 then B' else ⟨fk, fsec, fa, ft - 1, fl⟩ :: B'), some ⟨fk, fsec, fa, ft - 1, fl⟩)) := hfail
        have HTp : Hid (0 < fa → ∀ x ∈ A ++ [(⟨fk, fsec, fa, ft, fl⟩ : Flt)], touch x kind s = true → 0 < x.after) := fun h0 x hx h1 => by
          simp at hx
          rcases hx with hx | rfl
          · exact HS.out.2.2 x hx h1
          · exact h0
        clear hkp hlen hr3 hcell3 hfail
        obtain ⟨A', hA'⟩ : ∃ A', A' = A.map (passed kind s) := ⟨_, rfl⟩
        obtain ⟨F1, hF1⟩ : ∃ F1 : Flt, F1 = ⟨fk, fsec, fa, ft - 1, fl⟩ := ⟨_, rfl⟩
        have HLand : Hid (F1.land = fl) := by show _ = _; rw [hF1]
        rw [← hA'] at HLen HAl
        rw [← hA', ← hF1] at HRow3 HS3 HFail
        clear hA' hF1
        by_cases hfa : 0 < fa
        · rcases t2 with t2 | ⟨t2, t3⟩ | ⟨t2, t3, t4⟩
          · subst t2; subst t1
            go_wp2
            rw [← hW1]
            clear hW1
            go_region_held3 (fun w' => w'.cell? ⟨p, 4, none⟩ = some (.slice (some ⟨g, 0, none⟩) n cap) ∧ w'.cell? ⟨wr.heap.size, 2, none⟩ = some (.int .i64 fa)) (first | go_keep) (fail)
            go_wp2
            go_roundw
            case rel => exact ⟨i + 1, A ++ [_], B', by omega, by go_num, ⟨by rw [HSf.out]; simp, by simp [HS.out.2.1], HTp.out hfa⟩, HPass.out hfa _ (below_drew _)⟩
            case measure => simp [intOf]; omega
          · subst t1; subst t3
            go_wp2
            rw [← hW1]
            clear hW1
            go_region_held3 (fun w' => w'.cell? ⟨p, 4, none⟩ = some (.slice (some ⟨g, 0, none⟩) n cap) ∧ w'.cell? ⟨wr.heap.size, 2, none⟩ = some (.int .i64 fa)) (first | go_keep) (fail)
            go_wp2
            go_roundw
            case rel => exact ⟨i + 1, A ++ [_], B', by omega, by go_num, ⟨by rw [HSf.out]; simp, by simp [HS.out.2.1], HTp.out hfa⟩, HPass.out hfa _ (below_drew _)⟩
            case measure => simp [intOf]; omega
          · subst t1; subst t4
            go_wp2
            rw [← hW1]
            clear hW1
            go_region_held3 (fun w' => w'.cell? ⟨p, 4, none⟩ = some (.slice (some ⟨g, 0, none⟩) n cap) ∧ w'.cell? ⟨wr.heap.size, 2, none⟩ = some (.int .i64 fa)) (first | go_keep) (fail)
            go_wp2
            go_roundw
            case rel => exact ⟨i + 1, A ++ [_], B', by omega, by go_num, ⟨by rw [HSf.out]; simp, by simp [HS.out.2.1], HTp.out hfa⟩, HPass.out hfa _ (below_drew _)⟩
            case measure => simp [intOf]; omega
        · have HFa : Hid (¬ 0 < fa) := hfa
          by_cases hft : ft ≤ 1
          · rcases t2 with t2 | ⟨t2, t3⟩ | ⟨t2, t3, t4⟩
            · subst t2; subst t1
              go_wp2
              rw [← hW1]
              clear hW1
              go_region_held3 (fun w' => w'.cell? ⟨p, 4, none⟩ = some (.slice (some ⟨g, 0, none⟩) n cap) ∧ w'.cell? ⟨wr.heap.size, 3, none⟩ = some (.int .i64 ft)) (first | go_keep) (fail)
              obtain ⟨W2, hW2⟩ : ∃ W2, W2 = (W1.setCell ⟨g, i * 5 + 3, none⟩ (.int .i64 (ft - 1))).drew := ⟨_, rfl⟩
              have hb2 : Below (W1.setCell ⟨g, i * 5 + 3, none⟩ (.int .i64 (ft - 1))).heap.size (W1.setCell ⟨g, i * 5 + 3, none⟩ (.int .i64 (ft - 1))) W2 := by rw [hW2]; exact below_drew _
              rw [← hW2]
              have HA2 : Hid (RAct w W2 p dv qv (.slice (some ⟨g, 0, none⟩) n cap) D Q dv qv (.slice (some ⟨g, 0, none⟩) n cap) D Q { S with fs := A' ++ F1 :: B' }) := HS3.out W2 hb2
              have x3 := (HC3.out W2 hb2).1
              have x4 := (HC3.out W2 hb2).2
              have d42 : W2.cell? ⟨p, 4, none⟩ = some (.slice (some ⟨g, 0, none⟩) n cap) := HA2.out.rk.c 4
              have d8 : W2.cell? ⟨p, 8, none⟩ = some (.int .u64 S.st.failed) := HA2.out.rk.c 8
              have f4 : W2.frozen? ⟨p, 4, none⟩ = false := HA2.out.rk.fz 4
              have f8 : W2.frozen? ⟨p, 8, none⟩ = false := HA2.out.rk.fz 8
              have HRow2 := HRow3.out W2 hb2
              have HR2 : Hid (W2.ownsRow 0 TFa 5 (.slice (some ⟨g, 0, none⟩) n cap) n (fcells (A' ++ F1 :: B'))) := HRow2
              have HK2 : Hid (Kp W1 W2 ((.slice (some ⟨g, 0, none⟩) n cap) : Value).ownBlock.toList) := HKp3.out W2 hb2
              clear hW2 hb2 HRow2 HS3 HC3 HRow3 HKp3 HPass d4 y2 y3 y4 r2 r3 z2 z3 q1 q2 q3 q4
              have hft1 : ft - 1 = 0 := by omega
              have hfl := HFail.out HFa.out
              rw [if_pos hft1] at hfl
              have HFl : Hid (failL _ _ S.fs = (A' ++ B', some F1)) := hfl
              have hAl := HAl.out
              have HL1 : Hid ((fcells (A')).length = i * 5) := by show _ = _; rw [fcells_len, hAl]
              have hBl : B'.length = n - (i + 1) := by
                have := HLen.out F1
                rw [List.length_append, hAl] at this
                simp at this
                omega
              have HL2 : Hid ((fcells B').length = (n - (i + 1)) * 5) := by show _ = _; rw [fcells_len, hBl]
              have HLn : Hid ((A' ++ B').length = i + (n - (i + 1))) := by show _ = _; rw [List.length_append, hAl, hBl]
              have HN1 : Hid (∀ j u, (fcells (A'))[j]? = some u → W2.cell? ((⟨g, 0, none⟩ : Addr).add j) = some u) := fun j u hu => own_news HR2.out j u (by rw [fcells_append, List.getElem?_append_left (List.getElem?_eq_some_iff.1 hu).1]; exact hu)
              obtain ⟨AD, hAD, HN2a⟩ : ∃ AD : Addr, (if cap = i + 1 then some (⟨g, 0, none⟩ : Addr) else some ⟨g, (i + 1) * 5, none⟩) = some AD ∧ Hid (AD.block = g ∧ ∀ j u, (fcells B')[j]? = some u → W2.cell? (AD.add j) = some u) := by
                have hcp : n ≤ cap := own_cap HR2.out
                by_cases hc : cap = i + 1
                · refine ⟨⟨g, 0, none⟩, by simp [hc], rfl, fun t u hu => ?_⟩
                  have h0 : (fcells B').length = 0 := by rw [fcells_len, hBl]; omega
                  rw [List.length_eq_zero_iff.1 h0] at hu
                  simp at hu
                · refine ⟨⟨g, (i + 1) * 5, none⟩, by simp [hc], rfl, fun j u hu => ?_⟩
                  have h1 := own_news HR2.out ((i + 1) * 5 + j) u (by
                    have e : fcells (A' ++ F1 :: B') = fcells (A' ++ [F1]) ++ fcells B' := by rw [← fcells_append]; simp
                    rw [e, List.getElem?_append_right (by rw [fcells_len, List.length_append, hAl]; simp), fcells_len, List.length_append, hAl]
                    simpa using hu)
                  rw [add_plain] at h1 ⊢
                  simpa using h1
              have b1 : (i : Int) + 1 ≤ (n : Int) := by omega
              have b3 : ((i : Int) + 1).toNat = i + 1 := by omega
              have b4 : (0 : Int) ≤ (i : Int) + 1 := by omega
              have HP2 : Hid (p < W2.heap.size) := HA2.out.rk.lt p (mem_fr.2 (.inl rfl))
              have HG2 : Hid (g < W2.heap.size) := (row_lt HR2.out g rfl).1
              have HX2 : Hid (wr.heap.size < W2.heap.size) := by have h1 := (Array.getElem?_eq_some_iff.1 HX1.out).1; have h2 := HK2.out.size; show _ < _; omega
              have HX4 : Hid (W2.cell? ⟨wr.heap.size, 4, none⟩ = some (.bool fl)) := x4
              have hcap : n ≤ cap := own_cap HR2.out
              have b2 : (n : Int) ≤ (cap : Int) := by omega
              have b9 : (i : Int) + 1 ≤ (cap : Int) := by omega
              have b8 : (i : Int) ≤ (cap : Int) := by omega
              clear hfl hAl hBl HFail hft1 f4 f8 d8
              go_wp2_with (first | (at_builtin; refine wpList_append_own W2 rfl _ _ TFas rfl W2.heap.size TFa i0 _ 5 40 Tryz.underlying123 hi0 hz0 hz1 hz2 rfl (by decide) (.slice none 0 0) 0 [] rfl (World.ownsRow_nil _ _ _ _) ⟨g, 0, none⟩ i cap (fcells (A')) rfl HL1.out HN1.out (fcells_one _) (by unfold maxLen; omega) (by omega) (Nat.le_refl _) ?_; intro v1 W3 ho1 hg1 hf1; rw [List.nil_append, Nat.zero_add] at ho1; have HO1 : Hid (W3.ownsRow W2.heap.size TFa 5 v1 i (fcells (A'))) := ho1; have hkk : ∀ j, j < W2.heap.size → W3.heap[j]? = W2.heap[j]? := (fun j hj => hg1.block j hj (by simp [Value.ownBlock])); have HK3 : Hid (Kp W2 W3 []) := ⟨hg1.os, hg1.tape, hg1.output, hg1.size, fun j hj _ => hkk j hj⟩; have d43 : W3.cell? ⟨p, 4, none⟩ = some (.slice (some ⟨g, 0, none⟩) n cap) := (World.cell?_of_block (a := ⟨p, 4, none⟩) (hkk p HP2.out)).trans d42; have HN2 : Hid (∀ j u, (fcells B')[j]? = some u → W3.cell? (AD.add j) = some u) := (fun j u hu => (World.cell?_of_block (a := AD.add j) (by rw [addr_block, HN2a.out.1]; exact hkk g HG2.out)).trans (HN2a.out.2 j u hu)); clear ho1 hg1 hf1 hkk) | (at_builtin; refine wpList_append_own W3 rfl _ _ TFas rfl W2.heap.size TFa i0 _ 5 40 Tryz.underlying123 hi0 hz0 hz1 hz2 rfl (by decide) v1 i (fcells (A')) rfl HO1.out AD (n - (i + 1)) (cap - (i + 1)) (fcells B') rfl HL2.out HN2.out (fcells_one _) (by unfold maxLen; omega) (by omega) HK3.out.size ?_; intro v2 W4 ho2 hg2 hf2; obtain ⟨o2, c2, rfl⟩ := own_slice ho2; have HFin : Hid (W4.heap[p]? = W1.heap[p]? ∧ RAct W1 (W4.setCell ⟨p, 4, none⟩ (.slice o2 (i + (n - (i + 1))) c2)) p dv qv (.slice (some ⟨g, 0, none⟩) n cap) D Q dv qv (.slice o2 (i + (n - (i + 1))) c2) D Q { S with fs := A' ++ B' }) := RR.newA (w5 := W1) HD1.out.rk (((HK2.out.trans HK3.out (by simp)).grown hg2 (fun k e => .inr (by have := (HO1.out.lt k e).1; have := HK2.out.size; omega)))) (by have e9 : (A' ++ B').length = i + (n - (i + 1)) := HLn.out; rw [e9, fcells_append]; exact owns_mono ho2 (Nat.zero_le _)) (fun g' e => .inr (by have := (ho2.lt g' e).1; have := HK2.out.size; omega)); have HB4 : Hid (W4.heap[wr.heap.size]? = W2.heap[wr.heap.size]?) := (by have h1 := hg2.block wr.heap.size (Nat.lt_of_lt_of_le HX2.out HK3.out.size) (fun e => by have := (HO1.out.lt _ e.symm).1; have := HX2.out; omega); exact h1.trans (HK3.out.block _ HX2.out (by simp))); have d44 : W4.cell? ⟨p, 4, none⟩ = some (.slice (some ⟨g, 0, none⟩) n cap) := (World.cell?_of_block (a := ⟨p, 4, none⟩) HFin.out.1).trans (HD1.out.rk.c 4); have f44 : W4.frozen? ⟨p, 4, none⟩ = false := frozen_of (HFin.out.1.trans HD1.out.rk.blk); have d84 : (W4.setCell ⟨p, 4, none⟩ (.slice o2 (i + (n - (i + 1))) c2)).cell? ⟨p, 8, none⟩ = some (.int .u64 S.st.failed) := HFin.out.2.rk.c 8; have f84 : (W4.setCell ⟨p, 4, none⟩ (.slice o2 (i + (n - (i + 1))) c2)).frozen? ⟨p, 8, none⟩ = false := HFin.out.2.rk.fz 8; have x44 : ((W4.setCell ⟨p, 4, none⟩ (.slice o2 (i + (n - (i + 1))) c2)).setCell ⟨p, 8, none⟩ (.int .u64 (IntKind.u64.wrap (S.st.failed + 1)))).cell? ⟨wr.heap.size, 4, none⟩ = some (.bool fl) := (World.cell?_of_block (a := ⟨wr.heap.size, 4, none⟩) ((Below.heap_setCell _ _ _ _ (by show wr.heap.size ≠ p; omega)).trans ((Below.heap_setCell _ _ _ _ (by show wr.heap.size ≠ p; omega)).trans HB4.out))).trans HX4.out; clear ho2 hg2 hf2 d43 HN2))
              go_quiet (fail)
              have hF := (HD1.out.trans HFin.out.2).put 8 (.int .u64 (IntKind.u64.wrap (S.st.failed + 1))) { S.st with failed := inc S.st.failed } rfl
              go_wp2
              refine bodyPost_ret (results_tmp2 rfl _ _ _) rfl ⟨?_, (.slice o2 (i + (n - (i + 1))) c2), ?_⟩
              · unfold hitF landF; rw [HFl.out, ← HLand.out]; rfl
              · unfold failS hitF; rw [HFl.out]; exact hF.later (below_drewN _ _)
            · subst t1; subst t3
              go_wp2
              rw [← hW1]
              clear hW1
              go_region_held3 (fun w' => w'.cell? ⟨p, 4, none⟩ = some (.slice (some ⟨g, 0, none⟩) n cap) ∧ w'.cell? ⟨wr.heap.size, 3, none⟩ = some (.int .i64 ft)) (first | go_keep) (fail)
              obtain ⟨W2, hW2⟩ : ∃ W2, W2 = (W1.setCell ⟨g, i * 5 + 3, none⟩ (.int .i64 (ft - 1))).drew := ⟨_, rfl⟩
              have hb2 : Below (W1.setCell ⟨g, i * 5 + 3, none⟩ (.int .i64 (ft - 1))).heap.size (W1.setCell ⟨g, i * 5 + 3, none⟩ (.int .i64 (ft - 1))) W2 := by rw [hW2]; exact below_drew _
              rw [← hW2]
              have HA2 : Hid (RAct w W2 p dv qv (.slice (some ⟨g, 0, none⟩) n cap) D Q dv qv (.slice (some ⟨g, 0, none⟩) n cap) D Q { S with fs := A' ++ F1 :: B' }) := HS3.out W2 hb2
              have x3 := (HC3.out W2 hb2).1
              have x4 := (HC3.out W2 hb2).2
              have d42 : W2.cell? ⟨p, 4, none⟩ = some (.slice (some ⟨g, 0, none⟩) n cap) := HA2.out.rk.c 4
              have d8 : W2.cell? ⟨p, 8, none⟩ = some (.int .u64 S.st.failed) := HA2.out.rk.c 8
              have f4 : W2.frozen? ⟨p, 4, none⟩ = false := HA2.out.rk.fz 4
              have f8 : W2.frozen? ⟨p, 8, none⟩ = false := HA2.out.rk.fz 8
              have HRow2 := HRow3.out W2 hb2
              have HR2 : Hid (W2.ownsRow 0 TFa 5 (.slice (some ⟨g, 0, none⟩) n cap) n (fcells (A' ++ F1 :: B'))) := HRow2
              have HK2 : Hid (Kp W1 W2 ((.slice (some ⟨g, 0, none⟩) n cap) : Value).ownBlock.toList) := HKp3.out W2 hb2
              clear hW2 hb2 HRow2 HS3 HC3 HRow3 HKp3 HPass d4 y2 y3 y4 r2 r3 z2 z3 q1 q2 q3 q4
              have hft1 : ft - 1 = 0 := by omega
              have hfl := HFail.out HFa.out
              rw [if_pos hft1] at hfl
              have HFl : Hid (failL _ _ S.fs = (A' ++ B', some F1)) := hfl
              have hAl := HAl.out
              have HL1 : Hid ((fcells (A')).length = i * 5) := by show _ = _; rw [fcells_len, hAl]
              have hBl : B'.length = n - (i + 1) := by
                have := HLen.out F1
                rw [List.length_append, hAl] at this
                simp at this
                omega
              have HL2 : Hid ((fcells B').length = (n - (i + 1)) * 5) := by show _ = _; rw [fcells_len, hBl]
              have HLn : Hid ((A' ++ B').length = i + (n - (i + 1))) := by show _ = _; rw [List.length_append, hAl, hBl]
              have HN1 : Hid (∀ j u, (fcells (A'))[j]? = some u → W2.cell? ((⟨g, 0, none⟩ : Addr).add j) = some u) := fun j u hu => own_news HR2.out j u (by rw [fcells_append, List.getElem?_append_left (List.getElem?_eq_some_iff.1 hu).1]; exact hu)
              obtain ⟨AD, hAD, HN2a⟩ : ∃ AD : Addr, (if cap = i + 1 then some (⟨g, 0, none⟩ : Addr) else some ⟨g, (i + 1) * 5, none⟩) = some AD ∧ Hid (AD.block = g ∧ ∀ j u, (fcells B')[j]? = some u → W2.cell? (AD.add j) = some u) := by
                have hcp : n ≤ cap := own_cap HR2.out
                by_cases hc : cap = i + 1
                · refine ⟨⟨g, 0, none⟩, by simp [hc], rfl, fun t u hu => ?_⟩
                  have h0 : (fcells B').length = 0 := by rw [fcells_len, hBl]; omega
                  rw [List.length_eq_zero_iff.1 h0] at hu
                  simp at hu
                · refine ⟨⟨g, (i + 1) * 5, none⟩, by simp [hc], rfl, fun j u hu => ?_⟩
                  have h1 := own_news HR2.out ((i + 1) * 5 + j) u (by
                    have e : fcells (A' ++ F1 :: B') = fcells (A' ++ [F1]) ++ fcells B' := by rw [← fcells_append]; simp
                    rw [e, List.getElem?_append_right (by rw [fcells_len, List.length_append, hAl]; simp), fcells_len, List.length_append, hAl]
                    simpa using hu)
                  rw [add_plain] at h1 ⊢
                  simpa using h1
              have b1 : (i : Int) + 1 ≤ (n : Int) := by omega
              have b3 : ((i : Int) + 1).toNat = i + 1 := by omega
              have b4 : (0 : Int) ≤ (i : Int) + 1 := by omega
              have HP2 : Hid (p < W2.heap.size) := HA2.out.rk.lt p (mem_fr.2 (.inl rfl))
              have HG2 : Hid (g < W2.heap.size) := (row_lt HR2.out g rfl).1
              have HX2 : Hid (wr.heap.size < W2.heap.size) := by have h1 := (Array.getElem?_eq_some_iff.1 HX1.out).1; have h2 := HK2.out.size; show _ < _; omega
              have HX4 : Hid (W2.cell? ⟨wr.heap.size, 4, none⟩ = some (.bool fl)) := x4
              have hcap : n ≤ cap := own_cap HR2.out
              have b2 : (n : Int) ≤ (cap : Int) := by omega
              have b9 : (i : Int) + 1 ≤ (cap : Int) := by omega
              have b8 : (i : Int) ≤ (cap : Int) := by omega
              clear hfl hAl hBl HFail hft1 f4 f8 d8
              go_wp2_with (first | (at_builtin; refine wpList_append_own W2 rfl _ _ TFas rfl W2.heap.size TFa i0 _ 5 40 Tryz.underlying123 hi0 hz0 hz1 hz2 rfl (by decide) (.slice none 0 0) 0 [] rfl (World.ownsRow_nil _ _ _ _) ⟨g, 0, none⟩ i cap (fcells (A')) rfl HL1.out HN1.out (fcells_one _) (by unfold maxLen; omega) (by omega) (Nat.le_refl _) ?_; intro v1 W3 ho1 hg1 hf1; rw [List.nil_append, Nat.zero_add] at ho1; have HO1 : Hid (W3.ownsRow W2.heap.size TFa 5 v1 i (fcells (A'))) := ho1; have hkk : ∀ j, j < W2.heap.size → W3.heap[j]? = W2.heap[j]? := (fun j hj => hg1.block j hj (by simp [Value.ownBlock])); have HK3 : Hid (Kp W2 W3 []) := ⟨hg1.os, hg1.tape, hg1.output, hg1.size, fun j hj _ => hkk j hj⟩; have d43 : W3.cell? ⟨p, 4, none⟩ = some (.slice (some ⟨g, 0, none⟩) n cap) := (World.cell?_of_block (a := ⟨p, 4, none⟩) (hkk p HP2.out)).trans d42; have HN2 : Hid (∀ j u, (fcells B')[j]? = some u → W3.cell? (AD.add j) = some u) := (fun j u hu => (World.cell?_of_block (a := AD.add j) (by rw [addr_block, HN2a.out.1]; exact hkk g HG2.out)).trans (HN2a.out.2 j u hu)); clear ho1 hg1 hf1 hkk) | (at_builtin; refine wpList_append_own W3 rfl _ _ TFas rfl W2.heap.size TFa i0 _ 5 40 Tryz.underlying123 hi0 hz0 hz1 hz2 rfl (by decide) v1 i (fcells (A')) rfl HO1.out AD (n - (i + 1)) (cap - (i + 1)) (fcells B') rfl HL2.out HN2.out (fcells_one _) (by unfold maxLen; omega) (by omega) HK3.out.size ?_; intro v2 W4 ho2 hg2 hf2; obtain ⟨o2, c2, rfl⟩ := own_slice ho2; have HFin : Hid (W4.heap[p]? = W1.heap[p]? ∧ RAct W1 (W4.setCell ⟨p, 4, none⟩ (.slice o2 (i + (n - (i + 1))) c2)) p dv qv (.slice (some ⟨g, 0, none⟩) n cap) D Q dv qv (.slice o2 (i + (n - (i + 1))) c2) D Q { S with fs := A' ++ B' }) := RR.newA (w5 := W1) HD1.out.rk (((HK2.out.trans HK3.out (by simp)).grown hg2 (fun k e => .inr (by have := (HO1.out.lt k e).1; have := HK2.out.size; omega)))) (by have e9 : (A' ++ B').length = i + (n - (i + 1)) := HLn.out; rw [e9, fcells_append]; exact owns_mono ho2 (Nat.zero_le _)) (fun g' e => .inr (by have := (ho2.lt g' e).1; have := HK2.out.size; omega)); have HB4 : Hid (W4.heap[wr.heap.size]? = W2.heap[wr.heap.size]?) := (by have h1 := hg2.block wr.heap.size (Nat.lt_of_lt_of_le HX2.out HK3.out.size) (fun e => by have := (HO1.out.lt _ e.symm).1; have := HX2.out; omega); exact h1.trans (HK3.out.block _ HX2.out (by simp))); have d44 : W4.cell? ⟨p, 4, none⟩ = some (.slice (some ⟨g, 0, none⟩) n cap) := (World.cell?_of_block (a := ⟨p, 4, none⟩) HFin.out.1).trans (HD1.out.rk.c 4); have f44 : W4.frozen? ⟨p, 4, none⟩ = false := frozen_of (HFin.out.1.trans HD1.out.rk.blk); have d84 : (W4.setCell ⟨p, 4, none⟩ (.slice o2 (i + (n - (i + 1))) c2)).cell? ⟨p, 8, none⟩ = some (.int .u64 S.st.failed) := HFin.out.2.rk.c 8; have f84 : (W4.setCell ⟨p, 4, none⟩ (.slice o2 (i + (n - (i + 1))) c2)).frozen? ⟨p, 8, none⟩ = false := HFin.out.2.rk.fz 8; have x44 : ((W4.setCell ⟨p, 4, none⟩ (.slice o2 (i + (n - (i + 1))) c2)).setCell ⟨p, 8, none⟩ (.int .u64 (IntKind.u64.wrap (S.st.failed + 1)))).cell? ⟨wr.heap.size, 4, none⟩ = some (.bool fl) := (World.cell?_of_block (a := ⟨wr.heap.size, 4, none⟩) ((Below.heap_setCell _ _ _ _ (by show wr.heap.size ≠ p; omega)).trans ((Below.heap_setCell _ _ _ _ (by show wr.heap.size ≠ p; omega)).trans HB4.out))).trans HX4.out; clear ho2 hg2 hf2 d43 HN2))
              go_quiet (fail)
              have hF := (HD1.out.trans HFin.out.2).put 8 (.int .u64 (IntKind.u64.wrap (S.st.failed + 1))) { S.st with failed := inc S.st.failed } rfl
              go_wp2
              refine bodyPost_ret (results_tmp2 rfl _ _ _) rfl ⟨?_, (.slice o2 (i + (n - (i + 1))) c2), ?_⟩
              · unfold hitF landF; rw [HFl.out, ← HLand.out]; rfl
              · unfold failS hitF; rw [HFl.out]; exact hF.later (below_drewN _ _)
            · subst t1; subst t4
              go_wp2
              rw [← hW1]
              clear hW1
              go_region_held3 (fun w' => w'.cell? ⟨p, 4, none⟩ = some (.slice (some ⟨g, 0, none⟩) n cap) ∧ w'.cell? ⟨wr.heap.size, 3, none⟩ = some (.int .i64 ft)) (first | go_keep) (fail)
              obtain ⟨W2, hW2⟩ : ∃ W2, W2 = (W1.setCell ⟨g, i * 5 + 3, none⟩ (.int .i64 (ft - 1))).drew := ⟨_, rfl⟩
              have hb2 : Below (W1.setCell ⟨g, i * 5 + 3, none⟩ (.int .i64 (ft - 1))).heap.size (W1.setCell ⟨g, i * 5 + 3, none⟩ (.int .i64 (ft - 1))) W2 := by rw [hW2]; exact below_drew _
              rw [← hW2]
              have HA2 : Hid (RAct w W2 p dv qv (.slice (some ⟨g, 0, none⟩) n cap) D Q dv qv (.slice (some ⟨g, 0, none⟩) n cap) D Q { S with fs := A' ++ F1 :: B' }) := HS3.out W2 hb2
              have x3 := (HC3.out W2 hb2).1
              have x4 := (HC3.out W2 hb2).2
              have d42 : W2.cell? ⟨p, 4, none⟩ = some (.slice (some ⟨g, 0, none⟩) n cap) := HA2.out.rk.c 4
              have d8 : W2.cell? ⟨p, 8, none⟩ = some (.int .u64 S.st.failed) := HA2.out.rk.c 8
              have f4 : W2.frozen? ⟨p, 4, none⟩ = false := HA2.out.rk.fz 4
              have f8 : W2.frozen? ⟨p, 8, none⟩ = false := HA2.out.rk.fz 8
              have HRow2 := HRow3.out W2 hb2
              have HR2 : Hid (W2.ownsRow 0 TFa 5 (.slice (some ⟨g, 0, none⟩) n cap) n (fcells (A' ++ F1 :: B'))) := HRow2
              have HK2 : Hid (Kp W1 W2 ((.slice (some ⟨g, 0, none⟩) n cap) : Value).ownBlock.toList) := HKp3.out W2 hb2
              clear hW2 hb2 HRow2 HS3 HC3 HRow3 HKp3 HPass d4 y2 y3 y4 r2 r3 z2 z3 q1 q2 q3 q4
              have hft1 : ft - 1 = 0 := by omega
              have hfl := HFail.out HFa.out
              rw [if_pos hft1] at hfl
              have HFl : Hid (failL _ _ S.fs = (A' ++ B', some F1)) := hfl
              have hAl := HAl.out
              have HL1 : Hid ((fcells (A')).length = i * 5) := by show _ = _; rw [fcells_len, hAl]
              have hBl : B'.length = n - (i + 1) := by
                have := HLen.out F1
                rw [List.length_append, hAl] at this
                simp at this
                omega
              have HL2 : Hid ((fcells B').length = (n - (i + 1)) * 5) := by show _ = _; rw [fcells_len, hBl]
              have HLn : Hid ((A' ++ B').length = i + (n - (i + 1))) := by show _ = _; rw [List.length_append, hAl, hBl]
              have HN1 : Hid (∀ j u, (fcells (A'))[j]? = some u → W2.cell? ((⟨g, 0, none⟩ : Addr).add j) = some u) := fun j u hu => own_news HR2.out j u (by rw [fcells_append, List.getElem?_append_left (List.getElem?_eq_some_iff.1 hu).1]; exact hu)
              obtain ⟨AD, hAD, HN2a⟩ : ∃ AD : Addr, (if cap = i + 1 then some (⟨g, 0, none⟩ : Addr) else some ⟨g, (i + 1) * 5, none⟩) = some AD ∧ Hid (AD.block = g ∧ ∀ j u, (fcells B')[j]? = some u → W2.cell? (AD.add j) = some u) := by
                have hcp : n ≤ cap := own_cap HR2.out
                by_cases hc : cap = i + 1
                · refine ⟨⟨g, 0, none⟩, by simp [hc], rfl, fun t u hu => ?_⟩
                  have h0 : (fcells B').length = 0 := by rw [fcells_len, hBl]; omega
                  rw [List.length_eq_zero_iff.1 h0] at hu
                  simp at hu
                · refine ⟨⟨g, (i + 1) * 5, none⟩, by simp [hc], rfl, fun j u hu => ?_⟩
                  have h1 := own_news HR2.out ((i + 1) * 5 + j) u (by
                    have e : fcells (A' ++ F1 :: B') = fcells (A' ++ [F1]) ++ fcells B' := by rw [← fcells_append]; simp
                    rw [e, List.getElem?_append_right (by rw [fcells_len, List.length_append, hAl]; simp), fcells_len, List.length_append, hAl]
                    simpa using hu)
                  rw [add_plain] at h1 ⊢
                  simpa using h1
              have b1 : (i : Int) + 1 ≤ (n : Int) := by omega
              have b3 : ((i : Int) + 1).toNat = i + 1 := by omega
              have b4 : (0 : Int) ≤ (i : Int) + 1 := by omega
              have HP2 : Hid (p < W2.heap.size) := HA2.out.rk.lt p (mem_fr.2 (.inl rfl))
              have HG2 : Hid (g < W2.heap.size) := (row_lt HR2.out g rfl).1
              have HX2 : Hid (wr.heap.size < W2.heap.size) := by have h1 := (Array.getElem?_eq_some_iff.1 HX1.out).1; have h2 := HK2.out.size; show _ < _; omega
              have HX4 : Hid (W2.cell? ⟨wr.heap.size, 4, none⟩ = some (.bool fl)) := x4
              have hcap : n ≤ cap := own_cap HR2.out
              have b2 : (n : Int) ≤ (cap : Int) := by omega
              have b9 : (i : Int) + 1 ≤ (cap : Int) := by omega
              have b8 : (i : Int) ≤ (cap : Int) := by omega
              clear hfl hAl hBl HFail hft1 f4 f8 d8
              go_wp2_with (first | (at_builtin; refine wpList_append_own W2 rfl _ _ TFas rfl W2.heap.size TFa i0 _ 5 40 Tryz.underlying123 hi0 hz0 hz1 hz2 rfl (by decide) (.slice none 0 0) 0 [] rfl (World.ownsRow_nil _ _ _ _) ⟨g, 0, none⟩ i cap (fcells (A')) rfl HL1.out HN1.out (fcells_one _) (by unfold maxLen; omega) (by omega) (Nat.le_refl _) ?_; intro v1 W3 ho1 hg1 hf1; rw [List.nil_append, Nat.zero_add] at ho1; have HO1 : Hid (W3.ownsRow W2.heap.size TFa 5 v1 i (fcells (A'))) := ho1; have hkk : ∀ j, j < W2.heap.size → W3.heap[j]? = W2.heap[j]? := (fun j hj => hg1.block j hj (by simp [Value.ownBlock])); have HK3 : Hid (Kp W2 W3 []) := ⟨hg1.os, hg1.tape, hg1.output, hg1.size, fun j hj _ => hkk j hj⟩; have d43 : W3.cell? ⟨p, 4, none⟩ = some (.slice (some ⟨g, 0, none⟩) n cap) := (World.cell?_of_block (a := ⟨p, 4, none⟩) (hkk p HP2.out)).trans d42; have HN2 : Hid (∀ j u, (fcells B')[j]? = some u → W3.cell? (AD.add j) = some u) := (fun j u hu => (World.cell?_of_block (a := AD.add j) (by rw [addr_block, HN2a.out.1]; exact hkk g HG2.out)).trans (HN2a.out.2 j u hu)); clear ho1 hg1 hf1 hkk) | (at_builtin; refine wpList_append_own W3 rfl _ _ TFas rfl W2.heap.size TFa i0 _ 5 40 Tryz.underlying123 hi0 hz0 hz1 hz2 rfl (by decide) v1 i (fcells (A')) rfl HO1.out AD (n - (i + 1)) (cap - (i + 1)) (fcells B') rfl HL2.out HN2.out (fcells_one _) (by unfold maxLen; omega) (by omega) HK3.out.size ?_; intro v2 W4 ho2 hg2 hf2; obtain ⟨o2, c2, rfl⟩ := own_slice ho2; have HFin : Hid (W4.heap[p]? = W1.heap[p]? ∧ RAct W1 (W4.setCell ⟨p, 4, none⟩ (.slice o2 (i + (n - (i + 1))) c2)) p dv qv (.slice (some ⟨g, 0, none⟩) n cap) D Q dv qv (.slice o2 (i + (n - (i + 1))) c2) D Q { S with fs := A' ++ B' }) := RR.newA (w5 := W1) HD1.out.rk (((HK2.out.trans HK3.out (by simp)).grown hg2 (fun k e => .inr (by have := (HO1.out.lt k e).1; have := HK2.out.size; omega)))) (by have e9 : (A' ++ B').length = i + (n - (i + 1)) := HLn.out; rw [e9, fcells_append]; exact owns_mono ho2 (Nat.zero_le _)) (fun g' e => .inr (by have := (ho2.lt g' e).1; have := HK2.out.size; omega)); have HB4 : Hid (W4.heap[wr.heap.size]? = W2.heap[wr.heap.size]?) := (by have h1 := hg2.block wr.heap.size (Nat.lt_of_lt_of_le HX2.out HK3.out.size) (fun e => by have := (HO1.out.lt _ e.symm).1; have := HX2.out; omega); exact h1.trans (HK3.out.block _ HX2.out (by simp))); have d44 : W4.cell? ⟨p, 4, none⟩ = some (.slice (some ⟨g, 0, none⟩) n cap) := (World.cell?_of_block (a := ⟨p, 4, none⟩) HFin.out.1).trans (HD1.out.rk.c 4); have f44 : W4.frozen? ⟨p, 4, none⟩ = false := frozen_of (HFin.out.1.trans HD1.out.rk.blk); have d84 : (W4.setCell ⟨p, 4, none⟩ (.slice o2 (i + (n - (i + 1))) c2)).cell? ⟨p, 8, none⟩ = some (.int .u64 S.st.failed) := HFin.out.2.rk.c 8; have f84 : (W4.setCell ⟨p, 4, none⟩ (.slice o2 (i + (n - (i + 1))) c2)).frozen? ⟨p, 8, none⟩ = false := HFin.out.2.rk.fz 8; have x44 : ((W4.setCell ⟨p, 4, none⟩ (.slice o2 (i + (n - (i + 1))) c2)).setCell ⟨p, 8, none⟩ (.int .u64 (IntKind.u64.wrap (S.st.failed + 1)))).cell? ⟨wr.heap.size, 4, none⟩ = some (.bool fl) := (World.cell?_of_block (a := ⟨wr.heap.size, 4, none⟩) ((Below.heap_setCell _ _ _ _ (by show wr.heap.size ≠ p; omega)).trans ((Below.heap_setCell _ _ _ _ (by show wr.heap.size ≠ p; omega)).trans HB4.out))).trans HX4.out; clear ho2 hg2 hf2 d43 HN2))
              go_quiet (fail)
              have hF := (HD1.out.trans HFin.out.2).put 8 (.int .u64 (IntKind.u64.wrap (S.st.failed + 1))) { S.st with failed := inc S.st.failed } rfl
              go_wp2
              refine bodyPost_ret (results_tmp2 rfl _ _ _) rfl ⟨?_, (.slice o2 (i + (n - (i + 1))) c2), ?_⟩
              · unfold hitF landF; rw [HFl.out, ← HLand.out]; rfl
              · unfold failS hitF; rw [HFl.out]; exact hF.later (below_drewN _ _)
          · rcases t2 with t2 | ⟨t2, t3⟩ | ⟨t2, t3, t4⟩
            · subst t2; subst t1
              go_wp2
              rw [← hW1]
              clear hW1
              go_region_held3 (fun w' => w'.cell? ⟨p, 4, none⟩ = some (.slice (some ⟨g, 0, none⟩) n cap) ∧ w'.cell? ⟨wr.heap.size, 3, none⟩ = some (.int .i64 ft)) (first | go_keep) (fail)
              obtain ⟨W2, hW2⟩ : ∃ W2, W2 = (W1.setCell ⟨g, i * 5 + 3, none⟩ (.int .i64 (ft - 1))).drew := ⟨_, rfl⟩
              have hb2 : Below (W1.setCell ⟨g, i * 5 + 3, none⟩ (.int .i64 (ft - 1))).heap.size (W1.setCell ⟨g, i * 5 + 3, none⟩ (.int .i64 (ft - 1))) W2 := by rw [hW2]; exact below_drew _
              rw [← hW2]
              have HA2 : Hid (RAct w W2 p dv qv (.slice (some ⟨g, 0, none⟩) n cap) D Q dv qv (.slice (some ⟨g, 0, none⟩) n cap) D Q { S with fs := A' ++ F1 :: B' }) := HS3.out W2 hb2
              have x3 := (HC3.out W2 hb2).1
              have x4 := (HC3.out W2 hb2).2
              have d42 : W2.cell? ⟨p, 4, none⟩ = some (.slice (some ⟨g, 0, none⟩) n cap) := HA2.out.rk.c 4
              have d8 : W2.cell? ⟨p, 8, none⟩ = some (.int .u64 S.st.failed) := HA2.out.rk.c 8
              have f4 : W2.frozen? ⟨p, 4, none⟩ = false := HA2.out.rk.fz 4
              have f8 : W2.frozen? ⟨p, 8, none⟩ = false := HA2.out.rk.fz 8
              have HRow2 := HRow3.out W2 hb2
              have HR2 : Hid (W2.ownsRow 0 TFa 5 (.slice (some ⟨g, 0, none⟩) n cap) n (fcells (A' ++ F1 :: B'))) := HRow2
              have HK2 : Hid (Kp W1 W2 ((.slice (some ⟨g, 0, none⟩) n cap) : Value).ownBlock.toList) := HKp3.out W2 hb2
              clear hW2 hb2 HRow2 HS3 HC3 HRow3 HKp3 HPass d4 y2 y3 y4 r2 r3 z2 z3 q1 q2 q3 q4
              have x4b : (W2.setCell ⟨p, 8, none⟩ (.int .u64 (IntKind.u64.wrap (S.st.failed + 1)))).cell? ⟨wr.heap.size, 4, none⟩ = some (.bool fl) := (World.cell?_of_block (a := ⟨wr.heap.size, 4, none⟩) (Below.heap_setCell _ _ _ _ (by show wr.heap.size ≠ p; omega))).trans x4
              have hq : ¬ ft - 1 = 0 := by omega
              have hfl := HFail.out HFa.out
              rw [if_neg hq] at hfl
              have HFl : Hid (failL _ _ S.fs = (A' ++ F1 :: B', some F1)) := hfl
              clear hfl hq HFail
              go_wp2
              go_quiet (fail)
              have hF := HA2.out.put 8 (.int .u64 (IntKind.u64.wrap (S.st.failed + 1))) { S.st with failed := inc S.st.failed } rfl
              go_wp2
              refine bodyPost_ret (results_tmp2 rfl _ _ _) rfl ⟨?_, (.slice (some ⟨g, 0, none⟩) n cap), ?_⟩
              · unfold hitF landF; rw [HFl.out, ← HLand.out]; rfl
              · unfold failS hitF; rw [HFl.out]; exact hF.later (below_drewN _ _)
            · subst t1; subst t3
              go_wp2
              rw [← hW1]
              clear hW1
              go_region_held3 (fun w' => w'.cell? ⟨p, 4, none⟩ = some (.slice (some ⟨g, 0, none⟩) n cap) ∧ w'.cell? ⟨wr.heap.size, 3, none⟩ = some (.int .i64 ft)) (first | go_keep) (fail)
              obtain ⟨W2, hW2⟩ : ∃ W2, W2 = (W1.setCell ⟨g, i * 5 + 3, none⟩ (.int .i64 (ft - 1))).drew := ⟨_, rfl⟩
              have hb2 : Below (W1.setCell ⟨g, i * 5 + 3, none⟩ (.int .i64 (ft - 1))).heap.size (W1.setCell ⟨g, i * 5 + 3, none⟩ (.int .i64 (ft - 1))) W2 := by rw [hW2]; exact below_drew _
              rw [← hW2]
              have HA2 : Hid (RAct w W2 p dv qv (.slice (some ⟨g, 0, none⟩) n cap) D Q dv qv (.slice (some ⟨g, 0, none⟩) n cap) D Q { S with fs := A' ++ F1 :: B' }) := HS3.out W2 hb2
              have x3 := (HC3.out W2 hb2).1
              have x4 := (HC3.out W2 hb2).2
              have d42 : W2.cell? ⟨p, 4, none⟩ = some (.slice (some ⟨g, 0, none⟩) n cap) := HA2.out.rk.c 4
              have d8 : W2.cell? ⟨p, 8, none⟩ = some (.int .u64 S.st.failed) := HA2.out.rk.c 8
              have f4 : W2.frozen? ⟨p, 4, none⟩ = false := HA2.out.rk.fz 4
              have f8 : W2.frozen? ⟨p, 8, none⟩ = false := HA2.out.rk.fz 8
              have HRow2 := HRow3.out W2 hb2
              have HR2 : Hid (W2.ownsRow 0 TFa 5 (.slice (some ⟨g, 0, none⟩) n cap) n (fcells (A' ++ F1 :: B'))) := HRow2
              have HK2 : Hid (Kp W1 W2 ((.slice (some ⟨g, 0, none⟩) n cap) : Value).ownBlock.toList) := HKp3.out W2 hb2
              clear hW2 hb2 HRow2 HS3 HC3 HRow3 HKp3 HPass d4 y2 y3 y4 r2 r3 z2 z3 q1 q2 q3 q4
              have x4b : (W2.setCell ⟨p, 8, none⟩ (.int .u64 (IntKind.u64.wrap (S.st.failed + 1)))).cell? ⟨wr.heap.size, 4, none⟩ = some (.bool fl) := (World.cell?_of_block (a := ⟨wr.heap.size, 4, none⟩) (Below.heap_setCell _ _ _ _ (by show wr.heap.size ≠ p; omega))).trans x4
              have hq : ¬ ft - 1 = 0 := by omega
              have hfl := HFail.out HFa.out
              rw [if_neg hq] at hfl
              have HFl : Hid (failL _ _ S.fs = (A' ++ F1 :: B', some F1)) := hfl
              clear hfl hq HFail
              go_wp2
              go_quiet (fail)
              have hF := HA2.out.put 8 (.int .u64 (IntKind.u64.wrap (S.st.failed + 1))) { S.st with failed := inc S.st.failed } rfl
              go_wp2
              refine bodyPost_ret (results_tmp2 rfl _ _ _) rfl ⟨?_, (.slice (some ⟨g, 0, none⟩) n cap), ?_⟩
              · unfold hitF landF; rw [HFl.out, ← HLand.out]; rfl
              · unfold failS hitF; rw [HFl.out]; exact hF.later (below_drewN _ _)
            · subst t1; subst t4
              go_wp2
              rw [← hW1]
              clear hW1
              go_region_held3 (fun w' => w'.cell? ⟨p, 4, none⟩ = some (.slice (some ⟨g, 0, none⟩) n cap) ∧ w'.cell? ⟨wr.heap.size, 3, none⟩ = some (.int .i64 ft)) (first | go_keep) (fail)
              obtain ⟨W2, hW2⟩ : ∃ W2, W2 = (W1.setCell ⟨g, i * 5 + 3, none⟩ (.int .i64 (ft - 1))).drew := ⟨_, rfl⟩
              have hb2 : Below (W1.setCell ⟨g, i * 5 + 3, none⟩ (.int .i64 (ft - 1))).heap.size (W1.setCell ⟨g, i * 5 + 3, none⟩ (.int .i64 (ft - 1))) W2 := by rw [hW2]; exact below_drew _
              rw [← hW2]
              have HA2 : Hid (RAct w W2 p dv qv (.slice (some ⟨g, 0, none⟩) n cap) D Q dv qv (.slice (some ⟨g, 0, none⟩) n cap) D Q { S with fs := A' ++ F1 :: B' }) := HS3.out W2 hb2
              have x3 := (HC3.out W2 hb2).1
              have x4 := (HC3.out W2 hb2).2
              have d42 : W2.cell? ⟨p, 4, none⟩ = some (.slice (some ⟨g, 0, none⟩) n cap) := HA2.out.rk.c 4
              have d8 : W2.cell? ⟨p, 8, none⟩ = some (.int .u64 S.st.failed) := HA2.out.rk.c 8
              have f4 : W2.frozen? ⟨p, 4, none⟩ = false := HA2.out.rk.fz 4
              have f8 : W2.frozen? ⟨p, 8, none⟩ = false := HA2.out.rk.fz 8
              have HRow2 := HRow3.out W2 hb2
              have HR2 : Hid (W2.ownsRow 0 TFa 5 (.slice (some ⟨g, 0, none⟩) n cap) n (fcells (A' ++ F1 :: B'))) := HRow2
              have HK2 : Hid (Kp W1 W2 ((.slice (some ⟨g, 0, none⟩) n cap) : Value).ownBlock.toList) := HKp3.out W2 hb2
              clear hW2 hb2 HRow2 HS3 HC3 HRow3 HKp3 HPass d4 y2 y3 y4 r2 r3 z2 z3 q1 q2 q3 q4
              have x4b : (W2.setCell ⟨p, 8, none⟩ (.int .u64 (IntKind.u64.wrap (S.st.failed + 1)))).cell? ⟨wr.heap.size, 4, none⟩ = some (.bool fl) := (World.cell?_of_block (a := ⟨wr.heap.size, 4, none⟩) (Below.heap_setCell _ _ _ _ (by show wr.heap.size ≠ p; omega))).trans x4
              have hq : ¬ ft - 1 = 0 := by omega
              have hfl := HFail.out HFa.out
              rw [if_neg hq] at hfl
              have HFl : Hid (failL _ _ S.fs = (A' ++ F1 :: B', some F1)) := hfl
              clear hfl hq HFail
              go_wp2
              go_quiet (fail)
              have hF := HA2.out.put 8 (.int .u64 (IntKind.u64.wrap (S.st.failed + 1))) { S.st with failed := inc S.st.failed } rfl
              go_wp2
              refine bodyPost_ret (results_tmp2 rfl _ _ _) rfl ⟨?_, (.slice (some ⟨g, 0, none⟩) n cap), ?_⟩
              · unfold hitF landF; rw [HFl.out, ← HLand.out]; rfl
              · unfold failS hitF; rw [HFl.out]; exact hF.later (below_drewN _ _)
      · have hnt : touch ⟨fk, fsec, fa, ft, fl⟩ kind s = false := by simpa using ht
        have HNt : Hid (touch ⟨fk, fsec, fa, ft, fl⟩ kind s = false) := hnt
        have HPass : Hid (RAct w W1 p dv qv (.slice (some ⟨g, 0, none⟩) n cap) D Q dv qv (.slice (some ⟨g, 0, none⟩) n cap) D Q { S with fs := (A ++ [(⟨fk, fsec, fa, ft, fl⟩ : Flt)]).map (passed kind s) ++ B' }) := by
          have e : (A ++ [(⟨fk, fsec, fa, ft, fl⟩ : Flt)]).map (passed kind s) ++ B' = A.map (passed kind s) ++ ⟨fk, fsec, fa, ft, fl⟩ :: B' := by simp [passed, HNt.out]
          show RAct _ _ _ _ _ _ _ _ _ _ _ _ _ _
          rw [e]
          exact HD1.out
        have HTp : Hid (∀ x ∈ A ++ [(⟨fk, fsec, fa, ft, fl⟩ : Flt)], touch x kind s = true → 0 < x.after) := fun x hx h1 => by
          simp at hx
          rcases hx with hx | rfl
          · exact HS.out.2.2 x hx h1
          · rw [HNt.out] at h1; cases h1
        have t2 := touch_not hnt
        simp only at t2
        clear ht hnt
        rcases t2 with t2 | ⟨t1, t2, t3, t4⟩
        · have t2' : (fk == kind) = false := by simpa using t2
          go_wp2
          rw [← hW1]
          clear hW1
          go_roundw
          case rel => exact ⟨i + 1, A ++ [_], B', by omega, by go_num, ⟨by rw [HSf.out]; simp, by simp [HS.out.2.1], HTp.out⟩, HPass⟩
          case measure => simp [intOf]; omega
        · subst t1
          have t2' : (fk == 3) = false := by simpa using t2
          have t3' : (fsec == -1) = false := by simpa using t3
          have t4' : (fsec == s) = false := by simpa using t4
          have u2 : (fk != 3) = true := by simpa using t2
          have u3 : (fsec != -1) = true := by simpa using t3
          have u4 : (fsec != s) = true := by simpa using t4
          go_wp2
          rw [← hW1]
          clear hW1
          go_roundw
          case rel => exact ⟨i + 1, A ++ [_], B', by omega, by go_num, ⟨by rw [HSf.out]; simp, by simp [HS.out.2.1], HTp.out⟩, HPass⟩
          case measure => simp [intOf]; omega
    · have e : i = n := by omega
      subst e
      obtain ⟨hs1, hs2, hs3⟩ := HS.out
      have hB : B = [] := by
        have := HFL.out
        rw [hs1] at this
        simp [hs2] at this
        exact this
      subst hB
      have hfl : failL kind s S.fs = (A.map (passed kind s), none) := by
        rw [hs1, failL_split kind s A [] hs3]; simp [failL]
      have HFl : Hid (failL kind s S.fs = (A.map (passed kind s), none)) := hfl
      have hD := HD.out
      rw [List.append_nil] at hD
      have HD2 : Hid (RAct w wr p dv qv (.slice (some ⟨g, 0, none⟩) i cap) D Q dv qv (.slice (some ⟨g, 0, none⟩) i cap) D Q { S with fs := A.map (passed kind s) }) := hD
      clear hfl hs1 hs2 hs3 hD
      go_wp2
      refine bodyPost_ret (results_tmp2 rfl _ _ _) rfl ⟨?_, (.slice (some ⟨g, 0, none⟩) i cap), ?_⟩
      · unfold hitF landF; rw [HFl.out]; rfl
      · unfold failS hitF; rw [HFl.out]; exact HD2.out
theorem rfails_any {w : World} {p : Nat} {dv qv av : Value} {D Q : List Pv} {S : Dk} (h : RR w p dv qv av D Q S) (hf : FsOk S.fs) (kind s : Int) :
    Calls Tryz.prog 102 #[.pointer (some ⟨p, 0, none⟩), .int .i64 kind, .int .i64 s] w fun r w' => r = .returned (.tuple #[.bool (hitF S.fs kind s), .bool (landF S.fs kind s)]) ∧ ∃ av', RAct w w' p dv qv av D Q dv qv av' D Q (failS S kind s) := by
  rcases h.fr.2 with ⟨rfl, h0⟩ | ⟨g, cap, cur, rfl, _⟩
  · have hn : S.fs = [] := List.length_eq_zero_iff.1 h0
    have c4 : w.cell? ⟨p, 4, none⟩ = some (.slice none 0 0) := h.c 4
    have e1 : hitF S.fs kind s = false := by rw [hn]; rfl
    have e2 : landF S.fs kind s = false := by rw [hn]; rfl
    have e3 : failS S kind s = S := by
      unfold failS
      rw [e1, hn]
      simp [failL]
      rw [← hn]
    rw [e1, e2, e3]
    have HH : Hid (RR w p dv qv (.slice none 0 0) D Q S) := h
    clear h hf hn e1 e2 e3 h0
    go_enter Tryz.func102, Tryz.ntmps102
    go_wp2
    go_loopw [8] (fun i wr => i = .int .i64 0 ∧ Hid (wr = w) ∧ wr.cell? ⟨p, 4, none⟩ = some (.slice none 0 0)) (fun i _ => 0)
    case atStart => exact ⟨rfl, rfl, c4⟩
    case round =>
      obtain ⟨rfl, HW, hc4⟩ := hrel
      go_wp2
      refine bodyPost_ret (results_tmp2 rfl _ _ _) rfl ⟨rfl, .slice none 0 0, ?_⟩
      rw [HW.out]
      exact RAct.refl HH.out
  · exact rfails_some h rfl hf kind s
end Go.Proofs.YtlacligofhinmaaGreat.K

namespace Go.Proofs.YtlacligofhinmaaGreat.K
open Go.RowKit Go.Maps Go.Proofs.YtlacligofhinmaaGreat
attribute [local go_sem] Oper.semAt_some
set_option linter.unusedVariables false
set_option linter.unusedSimpArgs false
set_option maxRecDepth 100000

section
variable {w : World} {p : Nat} {dv qv av : Value} {D Q : List Pv} {S : Dk}
set_option maxHeartbeats 2000000 in
theorem rRead_any (h : RR w p dv qv av D Q S) (hf : FsOk S.fs) (hl : D.length ≤ 1048576) (hq : Q.length ≤ 1048576) (s : Int) :
    Calls Tryz.prog 52 #[.pointer (some ⟨p, 0, none⟩), .int .i64 s] w fun r w' => ∃ v av', r = .returned (.tuple #[v, .int .i64 (rdE S s)]) ∧ w'.ownsRow w.heap.size 5 1 v (rdL S s).length ((rdL S s).map bv) ∧ RAct w w' p dv qv av D Q dv qv av' D Q (rdS S s) := by
  have hha := rHas_any h s
  have hfa := rfails_any h hf 1 s
  unfold rdE rdL rdS
  by_cases hr : 0 ≤ s ∧ s < S.n
  · have hi : inD S.n s = true := decide_eq_true hr
    rw [hi] at hha
    rw [if_pos hi, if_pos hi, if_pos hi]
    obtain ⟨t, rfl⟩ : ∃ t : Nat, s = t := ⟨s.toNat, by omega⟩
    have ht : t < S.n := by omega
    by_cases hh : hitF S.fs 1 t = true
    · rw [if_pos hh, if_pos hh, if_pos hh]
      rw [hh] at hfa
      clear h hf hl hq hr hi ht hh
      go_enter Tryz.func52, Tryz.ntmps52
      go_wp2_with (first | (go_at_call 47; refine hha.mono ?_; rintro e w9 ⟨rfl, hw9⟩; rw [hw9]; clear hw9 hha) | (go_at_call 102; refine hfa.mono ?_; rintro e w2 ⟨rfl, av', ha⟩; have HA : Hid (RAct w w2 p dv qv av D Q dv qv av' D Q (failS S 1 t)) := ha; clear hfa ha))
      exact bodyPost_ret (results_tmp2 rfl _ _ _) rfl ⟨_, av', rfl, World.ownsRow_nil _ _ _ _, HA.out⟩
    · rw [if_neg hh, if_neg hh, if_neg hh]
      have hh' : hitF S.fs 1 t = false := by simpa using hh
      rw [hh'] at hfa
      have HL : Hid (D.length ≤ 1048576 ∧ Q.length ≤ 1048576 ∧ t < (failS S 1 t).n) := ⟨hl, hq, by rw [failS_n]; exact ht⟩
      have hlk : look (readS (failS S 1 t)) t = look S t := by unfold look readS; rw [show (failS S 1 t).q = S.q from failS_q S 1 t, show (failS S 1 t).safe = S.safe from failS_safe S 1 t]
      have hlen : (look S t).length = 512 := by
        unfold look
        cases hl2 : lastQ t S.q with
        | some l => obtain ⟨i, hi2, _⟩ := lastQ_some hl2; rw [← h.q, List.getElem?_map] at hi2; obtain ⟨x, hx, e⟩ := Option.map_eq_some_iff.1 hi2; have h2 := (h.ok x (by simp [List.mem_of_getElem? hx])).2; simp [bare] at e; rw [← e.2]; exact h2.len
        | none =>
          show (S.safe t).length = 512
          rw [h.sf t ht]
          cases hl3 : lastQ t (D.map bare) with
          | some l => obtain ⟨i, hi2, _⟩ := lastQ_some hl3; rw [List.getElem?_map] at hi2; obtain ⟨x, hx, e⟩ := Option.map_eq_some_iff.1 hi2; have h2 := (h.ok x (by simp [List.mem_of_getElem? hx])).2; simp [bare] at e; rw [← e.2]; exact h2.len
          | none => exact okZ.len
      rw [Int.toNat_natCast, hlen, ← hlk]
      obtain ⟨S1, hS1⟩ : ∃ S1, S1 = failS S 1 t := ⟨_, rfl⟩
      rw [← hS1] at hfa HL ⊢
      clear h hf hl hq hr hi ht hh hh' hlk hlen hS1
      go_enter Tryz.func52, Tryz.ntmps52
      go_wp2_with (first | (go_at_call 47; refine hha.mono ?_; rintro e w9 ⟨rfl, hw9⟩; rw [hw9]; clear hw9 hha) | (go_at_call 102; refine hfa.mono ?_; rintro e w2 ⟨rfl, av', ha⟩; have c5 : w2.cell? ⟨p, 5, none⟩ = some (.int .u64 S1.st.reads) := ha.rk.c 5; have f5 := ha.rk.fz 5; have HA : Hid (RAct w (w2.setCell ⟨p, 5, none⟩ (.int .u64 (IntKind.u64.wrap (S1.st.reads + 1)))) p dv qv av D Q dv qv av' D Q (readS S1)) := ha.put 5 _ { S1.st with reads := inc S1.st.reads } rfl; clear hfa ha) | (go_at_call 103; refine (rLook_any HA.out.rk HL.out.1 HL.out.2.1 HL.out.2.2).mono ?_; rintro e w3 ⟨v, rfl, ho, hb⟩; have HO : Hid (w3.ownsRow w.heap.size 5 1 v 512 ((look (readS S1) t).map bv)) := owns_mono ho HA.out.kp.size; have HB : Hid (RAct w w3 p dv qv av D Q dv qv av' D Q (readS S1)) := HA.out.later hb; clear ho hb))
      exact bodyPost_ret (results_tmp2 rfl _ _ _) rfl ⟨v, av', rfl, HO.out, HB.out⟩
  · have hi : ¬ inD S.n s = true := by unfold inD; simpa using hr
    have hi' : inD S.n s = false := by simpa using hi
    rw [hi'] at hha
    rw [if_neg hi, if_neg hi, if_neg hi]
    have HH : Hid (RR w p dv qv av D Q S) := h
    clear h hf hl hq hr hi hi' hfa
    go_enter Tryz.func52, Tryz.ntmps52
    go_wp2_with (first | (go_at_call 47; refine hha.mono ?_; rintro e w9 ⟨rfl, hw9⟩; rw [hw9]; clear hw9 hha))
    exact bodyPost_ret (results_tmp2 rfl _ _ _) rfl ⟨_, av, rfl, World.ownsRow_nil _ _ _ _, RAct.refl HH.out⟩
end
end Go.Proofs.YtlacligofhinmaaGreat.K
