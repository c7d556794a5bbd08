import Derived.Test.YtpkobgnbjmefnaaDoorWrI
namespace Go.Proofs.YtpkobgnbjmefnaaDoor
open Go.RowKit
set_option linter.unusedVariables false
set_option maxRecDepth 100000

theorem belowE (w : World) (q : Nat) : Below w.heap.size w (w.drewN q) := ⟨rfl, rfl, rfl, Nat.le_refl _, fun _ _ => rfl⟩
theorem news_pair (W : World) (a b : Value) (e : TypeId) : ∀ ad, some (⟨W.heap.size, 0, none⟩ : Addr) = some ad → ∀ j u, [a, b][j]? = some u → (W.alloc (.cells #[a, b] e)).cell? (ad.add j) = some u := by
  intro ad had j u hu
  cases had
  rw [add_plain, Nat.zero_add, World.cell?_alloc_mark]
  simpa using hu
theorem some_of_row {w : World} {B e n : Nat} {v : Value} {xs : List Value} (h : w.ownsRow B e 1 v n xs) (hn : 0 < n) : ∃ g cap, v = .slice (some ⟨g, 0, none⟩) n cap := by
  rcases h.2 with ⟨_, h0⟩ | ⟨g, cap, cur, hv, _⟩
  · omega
  · exact ⟨g, cap, hv⟩
theorem same_own {w : World} {B1 B2 : Nat} {a1 a2 : Option Addr} {c1 c2 : Nat} {l : List Nat} {n : Nat} (hl : l.length = n) (h1 : w.ownsRow B1 5 1 (.slice a1 n c1) n (l.map bv)) (h2 : w.ownsRow B2 5 1 (.slice a2 n c2) n (l.map bv)) (hlt : ∀ x ∈ l, x < 256) (hn : n ≤ 140737488351232) :
    Calls Tryd.prog 11 #[.slice a1 n c1, .slice a2 n c2] w fun e w' => e = .returned (.bool true) ∧ ∃ q, w' = w.drewN q := by
  subst hl
  obtain ⟨b1, d1, e1, r1⟩ := BRow.own h1 hlt hn
  obtain ⟨b2, d2, e2, r2⟩ := BRow.own h2 hlt hn
  simp only [Value.slice.injEq] at e1 e2
  obtain ⟨rfl, _, rfl⟩ := e1
  obtain ⟨rfl, _, rfl⟩ := e2
  have := same_any _ _ _ _ l l w r1 r2
  rwa [decide_eq_true rfl] at this

set_option maxHeartbeats 8000000 in
theorem writesLaw_any (sao : Option Addr) (m scap : Nat) (X : Nat → Item) (w : World) (hm : m ≤ 1048576) (hT : Tabs w)
    (HS : Hid (∀ i, i < m → ∃ sb so, sao = some ⟨sb, so, none⟩ ∧ ∀ i, i < m → (∀ j u, (X i).cells[j]? = some u → w.cell? ⟨sb, so + i * 5 + j, none⟩ = some u) ∧ BRow w (X i).ao (X i).cap (X i).b ∧ (X i).v < 18446744073709551616 ∧ (X i).s.size ≤ 1048576 ∧ (X i).b.length ≤ 1048576)) :
    Calls Tryd.prog 3 #[.slice sao m scap] w fun e w' => e = .returned (.bool true) ∧ Below w.heap.size w w' := by
  obtain ⟨i0, hi, hz0, hz1, hz2⟩ := info_parts Tryd.info5
  obtain ⟨i1, hi', hz0', hz1', hz2'⟩ := info_parts infoBS
  have HT : Hid (Tabs w) := hT
  have HLe : Hid (∀ k, k ≤ m → (wrAll X k).length ≤ 2199023255552) := fun k hk => by
    refine Nat.le_trans (wrAll_len X k (fun i hi => ?_)) (by omega)
    obtain ⟨_, _, _, h⟩ := HS.out i (by omega)
    exact (h i (by omega)).2.2.2.2
  have HI0 : Hid (WI w (w.alloc (.cells #[.bool true, .slice none 0 0] 73)) w.heap.size (.slice none 0 0) (.slice none 0 0) (.slice none 0 0) [] [] []) := WI.start w
  have HN : Hid (Calls Tryd.prog 7 #[] w fun e w' => e = .returned (.pointer (some ⟨w.heap.size, 0, none⟩)) ∧ w' = w.alloc (.cells #[.bool true, .slice none 0 0] 73)) := newWriter_any w
  clear hT
  generalize w.alloc (.cells #[.bool true, .slice none 0 0] 73) = W1 at *
  go_enter Tryd.func3, Tryd.ntmps3
  go_wp2_with fail
  refine HN.out.mono ?_
  rintro e w1 ⟨rfl, hw⟩
  rw [hw]; clear hw
  go_wp2
  go_loopw [4, 5, 6] (fun all u i wr => ∃ k : Nat, ∃ v : Value, ∃ T : List (Value × Nat), k ≤ m ∧ i = .int .i64 k ∧ T.length ≤ 6 ∧ WI w wr w.heap.size v all u (wrAll X k) (wrAll X k) T) (fun _ _ i _ => m - (intOf i).toNat)
  case atStart => exact ⟨0, .slice none 0 0, [], Nat.zero_le _, rfl, by simp, HI0.out⟩
  case round =>
    obtain ⟨k, v, T, hk, rfl, hT6, hinv⟩ := hrel
    obtain ⟨aa, ca, hall⟩ := owns_form hinv.alls
    obtain ⟨ua, uc, hu⟩ := owns_form hinv.row
    subst hall
    subst hu
    have HI : Hid (WI w wr w.heap.size v (.slice aa (wrAll X k).length ca) (.slice ua T.length uc) (wrAll X k) (wrAll X k) T) := hinv
    clear hinv
    have hLk := HLe.out k hk
    by_cases hlt : k < m
    · obtain ⟨sb, so, rfl, hc⟩ := HS.out k hlt
      obtain ⟨hcell, hbr, hv64, hs, hbl⟩ := hc k hlt
      have HCe : Hid (∀ W, Below w.heap.size w W → W.cell? ⟨sb, so + k * 5, none⟩ = some (.int .i64 (X k).kind)) := fun W hW => cell_later hW (hcell 0 _ rfl)
      have hx0 := HCe.out wr HI.out.bel
      have hx1 : wr.cell? ⟨sb, so + k * 5 + 1, none⟩ = some (.int .u64 ((X k).v : Int)) := cell_later HI.out.bel (hcell 1 _ rfl)
      have hx2 : wr.cell? ⟨sb, so + k * 5 + 2, none⟩ = some (.int .i64 (X k).n) := cell_later HI.out.bel (hcell 2 _ rfl)
      have hx3 : wr.cell? ⟨sb, so + k * 5 + 3, none⟩ = some (.slice (X k).ao (X k).b.length (X k).cap) := cell_later HI.out.bel (hcell 3 _ rfl)
      have hx4 : wr.cell? ⟨sb, so + k * 5 + 4, none⟩ = some (.string (X k).s) := cell_later HI.out.bel (hcell 4 _ rfl)
      have HWr : Hid (Calls Tryd.prog 8 #[.pointer (some ⟨w.heap.size, 0, none⟩), .agg #[.int .i64 (X k).kind, .int .u64 ((X k).v : Int), .int .i64 (X k).n, .slice (X k).ao (X k).b.length (X k).cap, .string (X k).s]] wr fun e w' => ∃ ao' cap' v', e = .returned (.tuple #[.slice ao' (X k).wr.length cap', .bool true]) ∧ w'.ownsRow wr.heap.size 5 1 (.slice ao' (X k).wr.length cap') (X k).wr.length ((X k).wr.map bv) ∧ WPost wr w' w.heap.size w.heap.size v v' (wrAll X k ++ (X k).wr) ∧ Sep v' (.slice ao' (X k).wr.length cap')) :=
        written_any w wr w.heap.size v (wrAll X k) (X k) HI.out.wok HI.out.bel HT.out hbr hv64 hs hbl (by omega)
      have hml : (X k).wr.length ≤ 2097152 := wr_len (X k) hbl
      have HLt : Hid (∀ y ∈ (X k).wr, y < 256) := wr_lt (X k) hbr.lt
      have HSu : Hid (wrAll X (k + 1) = wrAll X k ++ (X k).wr) := rfl
      have HL1 : Hid ((wrAll X (k + 1)).length ≤ 2199023255552) := HLe.out (k + 1) (by omega)
      clear hc hcell hbr hv64 hs hbl
      generalize hn : (wrAll X k).length = n at *
      have HNn : Hid ((wrAll X k).length = n) := hn
      clear hn
      generalize hd : (X k).wr.length = d at *
      have HDd : Hid ((X k).wr.length = d) := hd
      clear hd
      have HSl : Hid ((wrAll X (k + 1)).length = n + d) := by show (wrAll X (k + 1)).length = n + d; rw [HSu.out, List.length_append, HNn.out, HDd.out]
      go_wp2_with fail
      refine HWr.out.mono ?_
      rintro e w2 ⟨ab, cb, v2, rfl, ho2, hp2, hs2⟩
      have H2 : Hid (WI w w2 w.heap.size v2 (.slice aa n ca) (.slice ua T.length uc) (wrAll X (k + 1)) (wrAll X k) T) := HI.out.wrote hp2
      have HB2 : Hid (BRow w2 ab cb (X k).wr) := by
        obtain ⟨b1, d1, e1, r1⟩ := BRow.own (l := (X k).wr) (by rw [HDd.out]; exact ho2) HLt.out (by rw [HDd.out]; omega)
        simp only [Value.slice.injEq] at e1
        obtain ⟨rfl, _, rfl⟩ := e1
        exact r1
      have HA2 : Hid (w2.ownsRow w.heap.size 5 1 (.slice aa n ca) n ((wrAll X k).map bv)) := by have := H2.out.alls; rwa [HNn.out] at this
      have HZ2 : Hid (w.heap.size ≤ w2.heap.size) := H2.out.bel.size
      clear ho2 hp2 hs2 hx0 hx1 hx2 hx3 hx4
      go_wp2_with (at_builtin; refine wpList_append_two _ rfl _ _ 25 rfl w.heap.size 5 i0 (.int .u8 0) 1 Tryd.underlying25 hi hz0 hz1 hz2 rfl (.slice aa n ca) n ((wrAll X k).map bv) rfl HA2.out ab d cb ((X k).wr.map bv) rfl (by have := HB2.out.nil'; rwa [HDd.out] at this) (by rw [List.length_map]; exact HDd.out) HB2.out.news (bv_one _) (by unfold maxLen; omega) (by omega) HZ2.out ?_)
      intro all3 w3 ho3 hg3 hf3
      obtain ⟨a3, c3, hall3⟩ := owns_form ho3
      subst hall3
      have H3 : Hid (WI w w3 w.heap.size v2 (.slice a3 (n + d) c3) (.slice ua T.length uc) (wrAll X (k + 1)) (wrAll X (k + 1)) T) := by
        have := H2.out.more (m := (X k).wr) hg3 (by rw [HNn.out, HDd.out]; exact ho3) hf3
        rwa [← HSu.out] at this
      clear ho3 hg3 hf3
      have HLn : Hid (Calls Tryd.prog 9 #[.pointer (some ⟨w.heap.size, 0, none⟩)] w3 fun e w' => e = .returned (.int .i64 ((n + d : Nat) : Int)) ∧ w' = w3) := wlen_any _ _ v2 _ (n + d) w3 H3.out.wok HSl
      have y0 := HCe.out w3 H3.out.bel
      go_wp2_with fail
      refine HLn.out.mono ?_
      rintro e w4 ⟨rfl, hw⟩
      rw [hw]; clear hw
      by_cases hk8 : (X k).kind = 8
      · have t8 : ((X k).kind == 8) = true := by rw [beq_iff_eq]; exact hk8
        have HOut : Hid (Calls Tryd.prog 10 #[.pointer (some ⟨w.heap.size, 0, none⟩)] w3 fun e w' => ∃ ao' cap', e = .returned (.slice ao' (n + d) cap') ∧ w'.ownsRow w3.heap.size 5 1 (.slice ao' (n + d) cap') (n + d) ((wrAll X (k + 1)).map bv) ∧ Below w3.heap.size w3 w') := by
          have := wout_any _ _ v2 _ w3 H3.out.wok (by rw [HSl.out]; have := HL1.out; rw [HSl.out] at this; omega)
          rwa [HSl.out] at this
        generalize (X k).kind = kd at *
        clear hk8
        go_wp2_with fail
        refine HOut.out.mono ?_
        rintro e w5 ⟨ao5, co5, rfl, ho5, hb5⟩
        have HO5 : Hid (w5.ownsRow w3.heap.size 5 1 (.slice ao5 (n + d) co5) (n + d) ((wrAll X (k + 1)).map bv)) := ho5
        have H5 : Hid (WI w w5 w.heap.size v2 (.slice a3 (n + d) c3) (.slice ua T.length uc) (wrAll X (k + 1)) (wrAll X (k + 1)) T) := H3.out.below hb5
        clear ho5 hb5
        have HSm : Hid (Calls Tryd.prog 11 #[.slice ao5 (n + d) co5, .slice a3 (n + d) c3] w5 fun e w' => e = .returned (.bool true) ∧ ∃ q, w' = w5.drewN q) := by
          have hA := H5.out.alls
          rw [HSl.out] at hA
          exact same_own HSl.out HO5.out hA H5.out.wok.lt (by have := HL1.out; rw [HSl.out] at this; omega)
        go_wp2_with fail
        refine HSm.out.mono ?_
        rintro e w6 ⟨rfl, q, hw⟩
        rw [hw]; clear hw
        have H6 : Hid (WI w (w5.drewN q) w.heap.size v2 (.slice a3 (n + d) c3) (.slice ua T.length uc) (wrAll X (k + 1)) (wrAll X (k + 1)) T) := H5.out.below (belowE w5 q)
        have HO6 : Hid ((w5.drewN q).ownsRow w3.heap.size 5 1 (.slice ao5 (n + d) co5) (n + d) ((wrAll X (k + 1)).map bv)) := owns_same HO5.out (fun _ _ => rfl)
        by_cases h6 : T.length < 6
        · have HR6 : Hid (∀ o, ((w5.drewN q).alloc o).ownsRow w.heap.size 25 1 (.slice ua T.length uc) T.length (T.map Prod.fst)) := fun o => H6.out.row.alloc _
          have HZ6 : Hid (w.heap.size ≤ (w5.drewN q).heap.size) := H6.out.bel.size
          have HPu : Hid (∀ u' w7, w7.ownsRow w.heap.size 25 1 u' (T.length + 1) (T.map Prod.fst ++ [.slice ao5 (n + d) co5]) → ((w5.drewN q).alloc (.cells #[.slice ao5 (n + d) co5] 25)).grownBy w7 (Value.slice ua T.length uc).ownBlock → WI w w7 w.heap.size v2 (.slice a3 (n + d) c3) u' (wrAll X (k + 1)) (wrAll X (k + 1)) (T ++ [(.slice ao5 (n + d) co5, n + d)])) := fun u' w7 h1 h2 =>
            H3.out.push H6.out HO6.out (by have := HL1.out; rw [HSl.out] at this; omega) ((Below.refl _ _).alloc (Nat.le_refl _) _) h1 h2
          generalize w5.drewN q = W6 at *
          go_wp2_with (at_builtin; refine wpList_append_two _ rfl _ _ 26 rfl w.heap.size 25 i1 (.slice none 0 0) 24 Tryd.underlying26 hi' hz0' hz1' hz2' rfl (.slice ua T.length uc) T.length (T.map Prod.fst) rfl (HR6.out _) (some ⟨W6.heap.size, 0, none⟩) 1 1 [.slice ao5 (n + d) co5] rfl (by simp) rfl (news_one W6 _ _) (by simp [Value.oneCell']) (by unfold maxLen; omega) (by omega) (by have := HZ6.out; simp; omega) ?_)
          intro u7 w7 ho7 hg7 hf7
          have H7 : Hid (WI w w7 w.heap.size v2 (.slice a3 (n + d) c3) u7 (wrAll X (k + 1)) (wrAll X (k + 1)) (T ++ [(.slice ao5 (n + d) co5, n + d)])) := HPu.out u7 w7 ho7 hg7
          clear ho7 hg7 hf7
          go_wp2
          go_roundw
          case rel => exact ⟨k + 1, v2, _, by omega, by go_num, by simp; omega, H7.out⟩
          case measure => simp [intOf]; omega
        · go_wp2
          go_roundw
          case rel => exact ⟨k + 1, v2, T, by omega, by go_num, hT6, H6.out⟩
          case measure => simp [intOf]; omega
      · have t8 : ((X k).kind == 8) = false := by rw [beq_eq_false_iff_ne]; exact hk8
        generalize (X k).kind = kd at *
        clear hk8
        go_wp2
        go_roundw
        case rel => exact ⟨k + 1, v2, T, by omega, by go_num, hT6, H3.out⟩
        case measure => simp [intOf]; omega
    · generalize hn : (wrAll X k).length = n at *
      have HNn : Hid ((wrAll X k).length = n) := hn
      clear hn
      have HOut : Hid (∀ W v', WOk W w.heap.size w.heap.size v' (wrAll X k) → Calls Tryd.prog 10 #[.pointer (some ⟨w.heap.size, 0, none⟩)] W fun e w' => ∃ ao' cap', e = .returned (.slice ao' n cap') ∧ w'.ownsRow W.heap.size 5 1 (.slice ao' n cap') n ((wrAll X k).map bv) ∧ Below W.heap.size W w') := fun W v' hW => by
        have := wout_any _ _ v' _ W hW (by rw [HNn.out]; omega)
        rwa [HNn.out] at this
      have HSa : Hid (∀ W B1 B2 a1 c1 a2 c2, W.ownsRow B1 5 1 (.slice a1 n c1) n ((wrAll X k).map bv) → W.ownsRow B2 5 1 (.slice a2 n c2) n ((wrAll X k).map bv) → Calls Tryd.prog 11 #[.slice a1 n c1, .slice a2 n c2] W fun e w' => e = .returned (.bool true) ∧ ∃ q, w' = W.drewN q) := fun W B1 B2 a1 c1 a2 c2 h1 h2 => same_own HNn.out h1 h2 HI.out.wok.lt (by omega)
      have HHd : Hid (∀ W, Below w.heap.size w W → Calls Tryd.prog 13 #[] W fun e w' => e = .returned (.bool true) ∧ Below w.heap.size w w') := fun W hb =>
        (heads_any _ (HT.out.later hb)).mono fun e w' hh => ⟨hh.1, hb.trans (hh.2.mono hb.size)⟩
      go_wp2_with fail
      refine (HOut.out wr v HI.out.wok).mono ?_
      rintro e w2 ⟨ao2, co2, rfl, ho2, hb2⟩
      have H2 : Hid (WI w w2 w.heap.size v (.slice aa n ca) (.slice ua T.length uc) (wrAll X k) (wrAll X k) T) := HI.out.below hb2
      have HO2 : Hid (w2.ownsRow wr.heap.size 5 1 (.slice ao2 n co2) n ((wrAll X k).map bv)) := ho2
      clear ho2 hb2
      go_wp2_with fail
      refine (HOut.out w2 v H2.out.wok).mono ?_
      rintro e w3 ⟨ao3, co3, rfl, ho3, hb3⟩
      have H3 : Hid (WI w w3 w.heap.size v (.slice aa n ca) (.slice ua T.length uc) (wrAll X k) (wrAll X k) T) := H2.out.below hb3
      have HO3 : Hid (w3.ownsRow w2.heap.size 5 1 (.slice ao3 n co3) n ((wrAll X k).map bv)) := ho3
      have HO23 : Hid (w3.ownsRow wr.heap.size 5 1 (.slice ao2 n co2) n ((wrAll X k).map bv)) := owns_same HO2.out fun g hg => hb3.block g (owns_lt HO2.out g hg).1
      have HA3 : Hid (w3.ownsRow w.heap.size 5 1 (.slice aa n ca) n ((wrAll X k).map bv)) := by have := H3.out.alls; rwa [HNn.out] at this
      clear ho3 hb3
      go_wp2_with fail
      refine (HSa.out w3 _ _ _ _ _ _ HO23.out HA3.out).mono ?_
      rintro e w4 ⟨rfl, q1, hw⟩
      rw [hw]; clear hw
      go_wp2_with fail
      refine (HSa.out (w3.drewN q1) _ _ _ _ _ _ (owns_same HO3.out (fun _ _ => rfl)) (owns_same HA3.out (fun _ _ => rfl))).mono ?_
      rintro e w4 ⟨rfl, q2, hw⟩
      rw [hw]; clear hw
      have H4 : Hid (WI w ((w3.drewN q1).drewN q2) w.heap.size v (.slice aa n ca) (.slice ua T.length uc) (wrAll X k) (wrAll X k) T) := (H3.out.below (belowE w3 q1)).below (belowE _ q2)
      have HO4 : Hid (((w3.drewN q1).drewN q2).ownsRow wr.heap.size 5 1 (.slice ao2 n co2) n ((wrAll X k).map bv)) := owns_same HO23.out (fun _ _ => rfl)
      have HO4' : Hid (((w3.drewN q1).drewN q2).ownsRow w2.heap.size 5 1 (.slice ao3 n co3) n ((wrAll X k).map bv)) := owns_same HO3.out (fun _ _ => rfl)
      generalize (w3.drewN q1).drewN q2 = W4 at *
      have HR4 : Hid (∀ o, (W4.alloc o).ownsRow w.heap.size 25 1 (.slice ua T.length uc) T.length (T.map Prod.fst)) := fun o => H4.out.row.alloc _
      have HZ4 : Hid (w.heap.size ≤ W4.heap.size) := H4.out.bel.size
      have HPu : Hid (∀ u' w7, w7.ownsRow w.heap.size 25 1 u' (T.length + 2) (T.map Prod.fst ++ [.slice ao2 n co2, .slice ao3 n co3]) → (W4.alloc (.cells #[.slice ao2 n co2, .slice ao3 n co3] 25)).grownBy w7 (Value.slice ua T.length uc).ownBlock → WI w w7 w.heap.size v (.slice aa n ca) u' (wrAll X k) (wrAll X k) (T ++ [(.slice ao2 n co2, n), (.slice ao3 n co3, n)])) := fun u' w7 h1 h2 =>
        HI.out.push2 H2.out H4.out HO4.out (fun g hg => (owns_lt HO2.out g hg).1) HO4'.out (by omega) (by omega) ((Below.refl _ _).alloc (Nat.le_refl _) _) h1 h2
      go_wp2_with (at_builtin; refine wpList_append_two _ rfl _ _ 26 rfl w.heap.size 25 i1 (.slice none 0 0) 24 Tryd.underlying26 hi' hz0' hz1' hz2' rfl (.slice ua T.length uc) T.length (T.map Prod.fst) rfl (HR4.out _) (some ⟨W4.heap.size, 0, none⟩) 2 2 [.slice ao2 n co2, .slice ao3 n co3] rfl (by simp) rfl (news_pair W4 _ _ _) (by simp [Value.oneCell']) (by unfold maxLen; omega) (by omega) (by have := HZ4.out; simp; omega) ?_)
      intro u7 w7 ho7 hg7 hf7
      obtain ⟨lb, lc, hu7⟩ := some_of_row ho7 (by omega)
      subst hu7
      have H7 : Hid (WI w w7 w.heap.size v (.slice aa n ca) (.slice (some ⟨lb, 0, none⟩) (T.length + 2) lc) (wrAll X k) (wrAll X k) (T ++ [(.slice ao2 n co2, n), (.slice ao3 n co3, n)])) := HPu.out _ w7 ho7 hg7
      clear ho7 hg7 hf7
      have HOw : Hid (Calls Tryd.prog 12 #[.slice (some ⟨lb, 0, none⟩) (T.length + 2) lc] w7 fun e w' => e = .returned (.bool true) ∧ (WOk w' w.heap.size w.heap.size v (wrAll X k) ∧ w'.ownsRow w.heap.size 5 1 (.slice aa n ca) n ((wrAll X k).map bv) ∧ Below w.heap.size w w')) := by
        have hl := H7.out.lists (lb := lb) (cap := lc) (by simp)
        have := own_some w.heap.size lb 0 _ lc _ _ w7 (by simp; omega) hl
        rw [show (T ++ [((.slice ao2 n co2 : Value), n), (.slice ao3 n co3, n)]).length = T.length + 2 by simp] at this
        refine this.mono fun e w' hh => ⟨hh.1, ?_⟩
        have h9 := H7.out.owned (w' := w') (by simpa using hh.2)
        rwa [HNn.out] at h9
      go_wp2_with fail
      refine HOw.out.mono ?_
      rintro e w8 ⟨rfl, hk8, ha8, hb8⟩
      have HA8 : Hid (w8.ownsRow w.heap.size 5 1 (.slice aa n ca) n ((wrAll X k).map bv)) := ha8
      have HB8 : Hid (Below w.heap.size w w8) := hb8
      have HK8 : Hid (WOk w8 w.heap.size w.heap.size v (wrAll X k)) := hk8
      clear hk8 ha8 hb8
      go_wp2_with fail
      refine (HOut.out w8 v HK8.out).mono ?_
      rintro e w9 ⟨ao9, co9, rfl, ho9, hb9⟩
      have HO9 : Hid (w9.ownsRow w8.heap.size 5 1 (.slice ao9 n co9) n ((wrAll X k).map bv)) := ho9
      have HA9 : Hid (w9.ownsRow w.heap.size 5 1 (.slice aa n ca) n ((wrAll X k).map bv)) := owns_same HA8.out fun g hg => hb9.block g (owns_lt HA8.out g hg).1
      have HB9 : Hid (Below w.heap.size w w9) := HB8.out.trans (hb9.mono HB8.out.size)
      clear ho9 hb9
      go_wp2_with fail
      refine (HSa.out w9 _ _ _ _ _ _ HO9.out HA9.out).mono ?_
      rintro e w10 ⟨rfl, q3, hw⟩
      rw [hw]; clear hw
      go_wp2_with fail
      refine (HHd.out _ (HB9.out.trans ((belowE w9 q3).mono HB9.out.size))).mono ?_
      rintro e w11 ⟨rfl, hb11⟩
      have HB11 : Hid (Below w.heap.size w w11) := hb11
      clear hb11
      go_wp2
      go_ret
      exact ⟨rfl, HB11.out⟩
end Go.Proofs.YtpkobgnbjmefnaaDoor
