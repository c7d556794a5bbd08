import Derived.Test.YtoabigjajnikcaaTZc
namespace Go.Proofs.Ytoabigjajnikcaa
open Go.RowKit Go.Maps
attribute [local go_sem] Oper.semAt_some
set_option linter.unusedVariables false
set_option linter.unusedSimpArgs false
set_option maxRecDepth 100000

section
variable {w : World} {n0 : Nat} {F G : Nat → Prop} {b bm p : Nat} {V U : Int → Value} {v : Value} {S : St}
theorem row_later {w w' : World} {B T size n : Nat} {v : Value} {xs : List Value} (h : w.ownsRow B T size v n xs) (hb : Below w.heap.size w w') : w'.ownsRow B T size v n xs := row_same h (fun g hg => hb.block g (row_lt h g hg).1)
theorem iv_cell {w : World} {B g n c : Nat} {l : List Int} (h : w.ownsRow B TIn 1 (.slice (some ⟨g, 0, none⟩) n c) n (l.map iv)) (hl : l.length = n) (k : Nat) (hk : k < n) : w.cell? ⟨g, k, none⟩ = some (.int .i64 (l[k]?.getD 0)) := by
  rw [h.cellAt k (by omega)]; simp [iv, hl, hk]
set_option maxHeartbeats 1000000 in
theorem sameInts_any (w : World) (l : List Int) (n : Nat) (HN : Hid (l.length = n)) (hn : n ≤ 64) (a a' : Option Addr) (c c' B B' : Nat) (h1 : w.ownsRow B TIn 1 (.slice a n c) n (l.map iv)) (h2 : w.ownsRow B' TIn 1 (.slice a' n c') n (l.map iv)) :
    Calls Try.prog 48 #[.slice a n c, .slice a' n c'] w fun e w' => e = .returned (.bool true) ∧ ∃ q, w' = w.drewN q := by
  cases n with
  | zero =>
    clear h1 h2
    go_enter Try.func48, Try.ntmps48
    go_wp2
    refine wp_loop_rounds 1 ?_
    rw [rounds_succ]
    go_wp2
    go_ret
    exact ⟨rfl, 0, rfl⟩
  | succ m =>
    obtain ⟨g, rfl⟩ : ∃ g, a = some ⟨g, 0, none⟩ := by
      rcases h1.2 with ⟨_, h0⟩ | ⟨g, c, cur, hv, _⟩
      · omega
      · simp only [Value.slice.injEq] at hv; exact ⟨g, hv.1⟩
    obtain ⟨g', rfl⟩ : ∃ g, a' = some ⟨g, 0, none⟩ := by
      rcases h2.2 with ⟨_, h0⟩ | ⟨g, c, cur, hv, _⟩
      · omega
      · simp only [Value.slice.injEq] at hv; exact ⟨g, hv.1⟩
    obtain ⟨n, hnn⟩ : ∃ n, m + 1 = n := ⟨_, rfl⟩
    rw [hnn] at h1 h2 hn HN ⊢
    clear hnn m
    have HC : Hid _ := iv_cell h1 HN.out
    have HD : Hid _ := iv_cell h2 HN.out
    clear h1 h2
    go_enter Try.func48, Try.ntmps48
    go_wp2
    go_loopw [5] (fun i wr => ∃ k q : Nat, k ≤ n ∧ i = .int .i64 k ∧ wr = w.drewN q) (fun i _ => n - (intOf i).toNat)
    case atStart => exact ⟨0, 0, Nat.zero_le _, rfl, rfl⟩
    case round =>
      obtain ⟨k, q, hk, rfl, rfl⟩ := hrel
      by_cases hlt : k < n
      · have hc := HC.out k hlt
        have hd := HD.out k hlt
        generalize l[k]?.getD 0 = x at *
        go_wp2
        go_quiet (fail)
        go_wp2
        go_roundw
        case rel => exact ⟨k + 1, _, by omega, by go_num, rfl⟩
        case measure => simp [intOf]; omega
      · go_wp2
        go_ret
        exact ⟨rfl, _, rfl⟩
theorem those_len (hok : SOk S) (r : Bool) : (those S r).length ≤ 64 := by
  have h1 : (those S r).length ≤ S.L.length := by
    unfold those ids; rw [List.length_map]; exact List.length_filter_le _ _
  have := hok.len
  have := hok.m2
  omega
set_option maxHeartbeats 8000000 in
theorem as_those (h : P2 w n0 F G b bm p V v U S S) (o : OpF) (ho : o.kind = 6) (n1 n2 : Nat) (da aa : Option Addr) (dc ac : Nat) : Calls Try.prog 42 #[.pointer (some ⟨b, 0, none⟩), .pointer (some ⟨p, 0, none⟩), .agg (opl o n1 n2 da dc aa ac)] w fun r w' => r = .returned (.bool true) ∧ Below w.heap.size w w' := by
  have B2 := mkb1 w (opl o n1 n2 da dc aa ac) 46
  have HB2 : Hid _ := B2
  have HP : Hid _ := h.later B2.bel
  simp only [opl, ho] at HB2 HP ⊢
  obtain ⟨m1, hm1⟩ : ∃ n, (those S false).length = n := ⟨_, rfl⟩
  obtain ⟨m2, hm2⟩ : ∃ n, (those S true).length = n := ⟨_, rfl⟩
  have hl1 : m1 ≤ 64 := by rw [← hm1]; exact those_len h.t.ok false
  have hl2 : m2 ≤ 64 := by rw [← hm2]; exact those_len h.t.ok true
  have HM1 : Hid _ := hm1
  have HM2 : Hid _ := hm2
  clear h B2 ho hm1 hm2
  go_enter Try.func42, Try.ntmps42
  go_wp2_with fail
  have HA1 := pending_any HP.out.t
  rw [HM1.out] at HA1
  refine Calls.mono HA1 ?_
  rintro r w1 ⟨v1, rfl, ho1, hb1⟩
  have HP1 : Hid _ := HP.out.later hb1
  have HB1 : Hid _ := HB2.out.bel.trans (hb1.mono (by rw [size1]; omega))
  obtain ⟨a1, c1, rfl⟩ := owns_form9 ho1
  rw [size1] at ho1
  have HO1 : Hid _ := owns_mono ho1 (Nat.le_succ w.heap.size)
  clear HA1 hb1 HP HB2 ho1
  go_wp2_with fail
  have HA2 := ready_any HP1.out.t
  rw [HM2.out] at HA2
  refine Calls.mono HA2 ?_
  rintro r w2 ⟨v2, rfl, ho2, hb2⟩
  have HP2 : Hid _ := HP1.out.later hb2
  have HB2 : Hid _ := HB1.out.trans (hb2.mono HB1.out.size)
  obtain ⟨a2, c2, rfl⟩ := owns_form9 ho2
  have HO12 : Hid _ := row_later HO1.out hb2
  have HNe : Hid (∀ x, (Value.slice a1 m1 c1).ownBlock = some x → (Value.slice a2 m2 c2).ownBlock ≠ some x) := fun x hx hy => by
    have h1 := row_lt HO1.out x hx
    have h2 := row_lt ho2 x hy
    omega
  have HO2 : Hid _ := owns_mono ho2 HB1.out.size
  clear HA2 hb2 HP1 HB1 ho2 HO1
  go_wp2_with fail
  have HA3 := rthose_any HP2.out.r false
  rw [HM1.out] at HA3
  refine Calls.mono HA3 ?_
  rintro r w3 ⟨v3, rfl, ho3, hb3⟩
  have HP3 : Hid _ := HP2.out.later hb3
  have HB3 : Hid _ := HB2.out.trans (hb3.mono HB2.out.size)
  obtain ⟨a3, c3, rfl⟩ := owns_form9 ho3
  have HO13 : Hid _ := row_later HO12.out hb3
  have HO23 : Hid _ := row_later HO2.out hb3
  have HO3 : Hid _ := ho3
  clear HA3 hb3 HP2 HB2 ho3 HO12 HO2
  go_wp2_with fail
  refine Calls.mono (sameInts_any w3 (those S false) m1 HM1 hl1 a1 a3 c1 c3 _ _ HO13.out HO3.out) ?_
  rintro r w4 ⟨rfl, q4, hw4⟩
  have HD4 : Hid (Below w3.heap.size w3 w4) := by show Below _ _ _; rw [hw4]; exact below_drewN _ q4
  have HP4 : Hid _ := HP3.out.later HD4.out
  have HB4 : Hid _ := HB3.out.trans (HD4.out.mono HB3.out.size)
  have HO14 : Hid _ := row_later HO13.out HD4.out
  have HO24 : Hid _ := row_later HO23.out HD4.out
  clear hw4 HD4 HP3 HB3 HO13 HO23 HO3
  go_wp2_with fail
  have HA5 := rthose_any HP4.out.r true
  rw [HM2.out] at HA5
  refine Calls.mono HA5 ?_
  rintro r w5 ⟨v5, rfl, ho5, hb5⟩
  have HB5 : Hid _ := HB4.out.trans (hb5.mono HB4.out.size)
  obtain ⟨a5, c5, rfl⟩ := owns_form9 ho5
  have HO15 : Hid _ := row_later HO14.out hb5
  have HO25 : Hid _ := row_later HO24.out hb5
  have HO5 : Hid _ := ho5
  clear HA5 hb5 HP4 HB4 ho5 HO14 HO24
  go_wp2_with fail
  refine Calls.mono (sameInts_any w5 (those S true) m2 HM2 hl2 a2 a5 c2 c5 _ _ HO25.out HO5.out) ?_
  rintro r w6 ⟨rfl, q6, hw6⟩
  have HD6 : Hid (Below w5.heap.size w5 w6) := by show Below _ _ _; rw [hw6]; exact below_drewN _ q6
  have HB6 : Hid (Below w.heap.size w w6) := HB5.out.trans (HD6.out.mono HB5.out.size)
  have HO16 : Hid (w6.ownsRow w.heap.size TIn 1 (.slice a1 m1 c1) m1 ((those S false).map iv)) := row_later HO15.out HD6.out
  have HO26 : Hid (w6.ownsRow w.heap.size TIn 1 (.slice a2 m2 c2) m2 ((those S true).map iv)) := row_later HO25.out HD6.out
  clear hw6 HD6 HB5 HO15 HO25 HO5
  go_wp2
  go_loopw [15] (fun i wr => ∃ j : Nat, j ≤ m1 ∧ i = .int .i64 (j : Int) ∧ ∃ C : List Int, Hid (C.length = m1 ∧ wr.ownsRow w.heap.size TIn 1 (.slice a1 m1 c1) m1 (C.map iv) ∧ wr.ownsRow w.heap.size TIn 1 (.slice a2 m2 c2) m2 ((those S true).map iv) ∧ Below w.heap.size w wr)) (fun i _ => m1 - (intOf i).toNat)
  case atStart => exact ⟨0, Nat.zero_le _, rfl, those S false, HM1.out, HO16.out, HO26.out, HB6.out⟩
  case round =>
    obtain ⟨j, hj, rfl, C, HC⟩ := hrel
    by_cases hlt : j < m1
    · have hC := HC.out.1
      have ho := HC.out.2.1
      have hjz : (j : Int) < (m1 : Int) := by omega
      obtain ⟨g, rfl⟩ : ∃ g, a1 = some ⟨g, 0, none⟩ := by
        rcases ho.2 with ⟨_, h0⟩ | ⟨g, c, cur, hv, _⟩
        · omega
        · simp only [Value.slice.injEq] at hv; exact ⟨g, hv.1⟩
      have hc0 := iv_cell ho hC j hlt
      generalize C[j]?.getD 0 = x at hc0
      have hf0 := ho.frozenAt j
      obtain ⟨hs1, hg1'⟩ := ho.stored j (iv (-9))
      have H2 : Hid ((C.set j (-9)).length = m1 ∧ (wr.setCell ⟨g, j, none⟩ (.int .i64 (-9))).ownsRow w.heap.size TIn 1 (.slice (some ⟨g, 0, none⟩) m1 c1) m1 ((C.set j (-9)).map iv) ∧ (wr.setCell ⟨g, j, none⟩ (.int .i64 (-9))).ownsRow w.heap.size TIn 1 (.slice a2 m2 c2) m2 ((those S true).map iv) ∧ Below w.heap.size w (wr.setCell ⟨g, j, none⟩ (.int .i64 (-9)))) := by
        refine ⟨by simp [hC], by rw [List.map_set]; exact hs1, row_same HC.out.2.2.1 (fun x hx => Below.heap_setCell _ _ _ _ (fun e => HNe.out g rfl (by rw [hx, e]))), HC.out.2.2.2.setCell (row_lt ho g rfl).2.1 _⟩
      clear hs1 hg1' ho HC hC
      go_wp2
      go_roundw
      case rel => exact ⟨j + 1, by omega, by go_num, _, H2⟩
      case measure => simp [intOf]; omega
    · have HR2 : Hid _ := HC.out.2.2
      clear HO16 HO26 HC
      go_wp2
      go_loopw [16] (fun i wr => ∃ j : Nat, j ≤ m2 ∧ i = .int .i64 (j : Int) ∧ ∃ C : List Int, Hid (C.length = m2 ∧ wr.ownsRow w.heap.size TIn 1 (.slice a2 m2 c2) m2 (C.map iv) ∧ Below w.heap.size w wr)) (fun i _ => m2 - (intOf i).toNat)
      case atStart => exact ⟨0, Nat.zero_le _, rfl, those S true, HM2.out, HR2.out.1, HR2.out.2⟩
      case round =>
        obtain ⟨j', hj', rfl, C', HC'⟩ := hrel
        by_cases hlt' : j' < m2
        · have hC := HC'.out.1
          have ho := HC'.out.2.1
          have hjz : (j' : Int) < (m2 : Int) := by omega
          obtain ⟨g, rfl⟩ : ∃ g, a2 = some ⟨g, 0, none⟩ := by
            rcases ho.2 with ⟨_, h0⟩ | ⟨g, c, cur, hv, _⟩
            · omega
            · simp only [Value.slice.injEq] at hv; exact ⟨g, hv.1⟩
          have hc0 := iv_cell ho hC j' hlt'
          generalize C'[j']?.getD 0 = x at hc0
          have hf0 := ho.frozenAt j'
          obtain ⟨hs1, hg1'⟩ := ho.stored j' (iv (-9))
          have H2 : Hid ((C'.set j' (-9)).length = m2 ∧ (wr.setCell ⟨g, j', none⟩ (.int .i64 (-9))).ownsRow w.heap.size TIn 1 (.slice (some ⟨g, 0, none⟩) m2 c2) m2 ((C'.set j' (-9)).map iv) ∧ Below w.heap.size w (wr.setCell ⟨g, j', none⟩ (.int .i64 (-9)))) := by
            refine ⟨by simp [hC], by rw [List.map_set]; exact hs1, HC'.out.2.2.setCell (row_lt ho g rfl).2.1 _⟩
          clear hs1 hg1' ho HC' hC
          go_wp2
          go_roundw
          case rel => exact ⟨j' + 1, by omega, by go_num, _, H2⟩
          case measure => simp [intOf]; omega
        · have HR3 : Hid _ := HC'.out.2.2
          clear HC'
          go_wp2
          go_ret
          exact ⟨rfl, HR3.out⟩
end
end Go.Proofs.Ytoabigjajnikcaa
