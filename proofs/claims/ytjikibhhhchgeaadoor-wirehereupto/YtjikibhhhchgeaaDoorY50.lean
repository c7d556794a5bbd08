import Derived.Test.YtjikibhhhchgeaaDoorY34
import Derived.Deep.RegionHeld3
import Derived.Test.YtjikibhhhchgeaaDoorY35
import Derived.Test.YtjikibhhhchgeaaDoorY16
import Derived.Deep.Slices
import Derived.Deep.SlicePairs
namespace Go.Proofs.YtjikibhhhchgeaaDoor
open Go.RowKit
set_option linter.unusedVariables false
set_option linter.unusedSimpArgs false
set_option maxRecDepth 100000
set_option maxHeartbeats 400000 in
theorem same08_any (ao bo : Option Addr) (cap cap' n n' : Nat) (l l' : List Nat) (w : World) (h : BRow w ao cap l) (h' : BRow w bo cap' l') (hn : l.length = n) (hn' : l'.length = n') :
    Calls Tryd.prog 47 #[.slice ao n cap, .slice bo n' cap'] w fun e w' => e = .returned (.bool (decide (l = l'))) ∧ Below w.heap.size w w' := by
  have H1 : Hid (Calls Tryd.prog 98 #[.slice ao n cap, .slice bo n' cap'] w fun e w' => e = .returned (.bool (decide (l = l'))) ∧ ∃ q, w' = w.drewN q) := by
    have := same_any ao bo cap cap' l l' w h h'
    rw [hn, hn'] at this
    exact this
  clear h h'
  go_enter Tryd.func47, Tryd.ntmps47
  go_wp2_with fail
  refine H1.out.mono ?_
  rintro e w1 ⟨rfl, q, hw⟩
  rw [hw]; clear hw
  go_wp2
  go_ret
  exact ⟨rfl, below_drewN _ _⟩
set_option maxHeartbeats 4000000 in
theorem sameInfo_any (k sz fl : Nat) (s : ByteArray) (mn pf mx : Nat) (da : Option Addr) (n dc : Nat) (d : List Nat) (sz2 fl2 : Nat) (s2 : ByteArray) (mn2 pf2 mx2 : Nat) (eb : Option Addr) (m ec : Nat) (d2 : List Nat) (c1 c2 c3 c4 c5 c6 : Bool) (w : World) (hr : BRow w da dc d) (hd : d.length = n) (hr2 : BRow w eb ec d2) (hd2 : d2.length = m) (e1 : ((sz : Int) == (sz2 : Int)) = c1) (e2 : ((fl : Int) == (fl2 : Int)) = c2) (e3 : (s.toList == s2.toList) = c3) (e4 : ((mn : Int) == (mn2 : Int)) = c4) (e5 : ((pf : Int) == (pf2 : Int)) = c5) (e6 : ((mx : Int) == (mx2 : Int)) = c6) :
    Calls Tryd.prog 13 #[.agg #[.int .u16 (k : Int), .int .u64 (sz : Int), .int .u16 (fl : Int), .string s, .int .u32 (mn : Int), .int .u32 (pf : Int), .int .u32 (mx : Int), .slice da n dc], .agg #[.int .u16 (k : Int), .int .u64 (sz2 : Int), .int .u16 (fl2 : Int), .string s2, .int .u32 (mn2 : Int), .int .u32 (pf2 : Int), .int .u32 (mx2 : Int), .slice eb m ec]] w fun e w' => e = .returned (.bool (c1 && (c2 && (c3 && (c4 && (c5 && (c6 && decide (d = d2)))))))) ∧ Below w.heap.size w w' := by
  obtain ⟨c7, h7⟩ : ∃ c, decide (d = d2) = c := ⟨_, rfl⟩
  have HS : Hid (∀ W, Below w.heap.size w W → Calls Tryd.prog 47 #[.slice da n dc, .slice eb m ec] W fun e w' => e = .returned (.bool c7) ∧ Below W.heap.size W w') := fun W hb => by have h := same08_any da eb dc ec n m d d2 W (hr.later hb) (hr2.later hb) hd hd2; rw [h7] at h; exact h
  rw [h7]
  clear hr hd hr2 hd2 h7
  have hx := mkb2 w #[.int .u16 (k : Int), .int .u64 (sz : Int), .int .u16 (fl : Int), .string s, .int .u32 (mn : Int), .int .u32 (pf : Int), .int .u32 (mx : Int), .slice da n dc] #[.int .u16 (k : Int), .int .u64 (sz2 : Int), .int .u16 (fl2 : Int), .string s2, .int .u32 (mn2 : Int), .int .u32 (pf2 : Int), .int .u32 (mx2 : Int), .slice eb m ec] 27 27
  go_enter Tryd.func13, Tryd.ntmps13
  go_upto_region 1 with fail
  generalize (w.alloc (Obj.cells #[.int .u16 (k : Int), .int .u64 (sz : Int), .int .u16 (fl : Int), .string s, .int .u32 (mn : Int), .int .u32 (pf : Int), .int .u32 (mx : Int), .slice da n dc] 27)).alloc (Obj.cells #[.int .u16 (k : Int), .int .u64 (sz2 : Int), .int .u16 (fl2 : Int), .string s2, .int .u32 (mn2 : Int), .int .u32 (pf2 : Int), .int .u32 (mx2 : Int), .slice eb m ec] 27) = W1 at *
  have HY : Hid (Bx2 w W1 #[.int .u16 (k : Int), .int .u64 (sz : Int), .int .u16 (fl : Int), .string s, .int .u32 (mn : Int), .int .u32 (pf : Int), .int .u32 (mx : Int), .slice da n dc] #[.int .u16 (k : Int), .int .u64 (sz2 : Int), .int .u16 (fl2 : Int), .string s2, .int .u32 (mn2 : Int), .int .u32 (pf2 : Int), .int .u32 (mx2 : Int), .slice eb m ec] 27 27) := hx
  clear hx
  have q0 := blk_at HY.out.a 0
  have r0 := blk_at HY.out.b 0
  have q1 := blk_at HY.out.a 1
  have r1 := blk_at HY.out.b 1
  have q2 := blk_at HY.out.a 2
  have r2 := blk_at HY.out.b 2
  have q3 := blk_at HY.out.a 3
  have r3 := blk_at HY.out.b 3
  have q4 := blk_at HY.out.a 4
  have r4 := blk_at HY.out.b 4
  have q5 := blk_at HY.out.a 5
  have r5 := blk_at HY.out.b 5
  have q6 := blk_at HY.out.a 6
  have r6 := blk_at HY.out.b 6
  have q7 := blk_at HY.out.a 7
  have r7 := blk_at HY.out.b 7
  simp at q0 r0 q1 r1 q2 r2 q3 r3 q4 r4 q5 r5 q6 r6 q7 r7
  cases c1 with
  | false =>
    go_wp2
    go_ret
    exact ⟨by simp, HY.out.bel⟩
  | true =>
    cases c2 with
    | false =>
      go_wp2
      go_ret
      exact ⟨by simp, HY.out.bel⟩
    | true =>
      cases c3 with
      | false =>
        go_wp2
        go_ret
        exact ⟨by simp, HY.out.bel⟩
      | true =>
        cases c4 with
        | false =>
          go_wp2
          go_ret
          exact ⟨by simp, HY.out.bel⟩
        | true =>
          cases c5 with
          | false =>
            go_wp2
            go_ret
            exact ⟨by simp, HY.out.bel⟩
          | true =>
            cases c6 with
            | false =>
              go_wp2
              go_ret
              exact ⟨by simp, HY.out.bel⟩
            | true =>
              go_wp2_with fail
              refine (HS.out _ HY.out.bel).mono ?_
              rintro e W5 ⟨rfl, hb5⟩
              have HB5 : Hid (Below w.heap.size w W5) := HY.out.bel.trans (hb5.mono HY.out.bel.size)
              clear hb5
              go_wp2
              go_ret
              exact ⟨by simp, HB5.out⟩
end Go.Proofs.YtjikibhhhchgeaaDoor

namespace Go.Proofs.YtjikibhhhchgeaaDoor
open Go.RowKit
set_option linter.unusedVariables false
set_option linter.unusedSimpArgs false
set_option maxRecDepth 100000
theorem small_info (k sz fl : Nat) (s : ByteArray) (mn pf mx : Nat) (d : List Nat) (hd : d.length ≤ 1048576) : (rInfoC k sz fl s mn pf mx d).1.length ≤ 140737488351232 := by
  unfold rInfoC
  split
  · rename_i h
    show (inL k sz fl s mn pf mx d).length ≤ _
    unfold inL
    unfold ifB at h
    by_cases h0 : k = 0
    · simp only [if_pos h0]; simp [bigTo_length]
    · by_cases h1 : k = 1 ∨ k = 2
      · simp only [if_neg h0, if_pos h1, Bool.and_eq_true] at h ⊢
        have ht := (tx_true h.2.1).1
        simp [bigTo_length, sbytes_length]; omega
      · by_cases h3 : k = 3
        · simp only [if_neg h0, if_neg h1, if_pos h3]; simp [bigTo_length]
        · simp only [if_neg h0, if_neg h1, if_neg h3]; simp [bigTo_length]; omega
  · simp
theorem small_ask (s : ByteArray) (ks : List Nat) : (rAskC s ks).1.length ≤ 140737488351232 := by
  unfold rAskC
  split
  · rename_i h
    have ht := (tx_true h).1
    split
    · simp [irL, bigTo_length, sbytes_length, u16L_len]; omega
    · simp
  · simp
theorem small_metas (s : ByteArray) (qs : List ByteArray) : (rMetasC s qs).1.length ≤ 140737488351232 := by
  unfold rMetasC
  split
  · rename_i h
    have ht := (tx_true h).1
    split
    · rename_i hq
      have h1 := strL_len qs hq
      split
      · simp [mqL, bigTo_length, sbytes_length]; omega
      · simp
    · simp
  · simp
theorem small_meta (c : Nat) (s : ByteArray) : (rMetaC c s).1.length ≤ 140737488351232 := by
  unfold rMetaC
  split
  · rename_i h
    have ht := (tx_true h).1
    simp [meL, bigTo_length, sbytes_length]; omega
  · simp
theorem small_server (s : ByteArray) (m : List Nat) (hm : m.length ≤ 1048576) : (rServerC s m).1.length ≤ 140737488351232 := by
  unfold rServerC
  split
  · rename_i h
    have ht := (tx_true h).1
    simp [seL, bigTo_length, sbytes_length]; omega
  · simp
theorem small_status (wide : Bool) (cx : Nat) (rs : List (Nat × Nat)) (hm : rs.length ≤ 1048576) : (rStatusC wide cx rs).1.length ≤ 140737488351232 := by
  unfold rStatusC
  split
  · have h1 := runL_len wide rs
    show (stL wide cx rs).length ≤ _
    unfold stL
    split <;> simp [bigTo_length] <;> omega
  · simp
theorem small_error (c : Nat) (s : ByteArray) (pl : Bool) (a : Nat) : (rErrorC c s pl a).1.length ≤ 140737488351232 := by
  unfold rErrorC
  split
  · rename_i h
    have ht := (tx_true h).1
    split
    · simp [erL1, bigTo_length, sbytes_length]; omega
    · split
      · simp [erL0, bigTo_length, sbytes_length]; omega
      · simp
  · simp
theorem small_data (off : Nat) (m : List Nat) (hm : m.length ≤ 1048576) : (rDataC off m).1.length ≤ 140737488351232 := by
  unfold rDataC
  split
  · simp
  · simp [daL, bigTo_length]; omega
theorem res_small {x : Bod} {w : World} (h : x.ok w) : ∀ r ∈ x.res, r.1.length ≤ 140737488351232 := by
  intro r hr
  have b1 := h.b1; have b5 := h.b5; have b6 := h.b6; have b8 := h.b8
  have l1 := h.l1; have l5 := h.l5; have l6 := h.l6; have l8 := h.l8
  simp only [Bod.res, List.mem_cons, List.not_mem_nil, or_false] at hr
  rcases hr with rfl | rfl | rfl | rfl | rfl | rfl | rfl | rfl | rfl
  · exact small_info _ _ _ _ _ _ _ _ (by omega)
  · exact small_ask _ _
  · exact small_metas _ _
  · exact small_meta _ _
  · exact small_server _ _ (by omega)
  · exact small_status _ _ _ (by omega)
  · exact small_error _ _ _ _
  · exact small_data _ _ (by omega)
  · simp [hoL, bigTo_length]
end Go.Proofs.YtjikibhhhchgeaaDoor

namespace Go.Proofs.YtjikibhhhchgeaaDoor
open Go.ChangeShapes Go.WideShapes Go.ChangeAt Go.RowKit Go.Lib
open Go.Deep
set_option linter.unusedVariables false
set_option linter.unusedSimpArgs false
set_option maxRecDepth 100000
theorem open_u16s {H : Type} {enc : TypeId × Value → H} {w : World} {base : Nat} {fuel : Nat} {cs : List Value} {d : DataW H} {p : List MemPlace} (h : DataW.trod enc Tryd.prog w base (fun _ => true) true fuel 28 cs = some (d, p)) (hb : Rows.uptoBulk d ≤ 1048576) : ∃ (ao : Option Addr) (cap : Nat) (l : List Nat), cs = [.slice ao l.length cap] ∧ U16s w ao l ∧ l.length ≤ 1048576 := by
  rcases open_slice1 Tryd.underlying28 (by kernel_rfl) h with ⟨hcs, _⟩ | ⟨x, len, cap, m, n, V, D, Pl, hcs, _, hl, hm, hmm, hx, hel⟩
  · exact ⟨none, 0, [], hcs, ⟨by simp, fun h => absurd rfl h⟩, by simp⟩
  · have hmc : m = cap := by simpa using hmm
    have hd : d = .slice ((List.range len).map D) ((List.range (m - len)).map fun j => D (len + j)) := (Prod.mk.inj hx).1
    have hlen : len ≤ 1048576 := by
      have b1 := bulk_slice ((List.range len).map D) ((List.range (m - len)).map fun j => D (len + j))
      have b2 := length_le_bulk ((List.range len).map D)
      rw [← hd] at b1
      simp at b2
      omega
    have hel' : ∀ i, ∃ o : Nat, o < 65536 ∧ (i < len → w.cell? (x.add i) = some (.int .u16 (o : Int))) := by
      intro i
      by_cases hi : i < len
      · obtain ⟨h1, h2⟩ := hel i (by omega)
        obtain ⟨z, e, _, wf⟩ := DataW.trod_int Tryd.underlying22 h2
        obtain ⟨n0, rfl⟩ := Int.eq_ofNat_of_zero_le (bounds_u16 wf).1
        have b0 := (bounds_u16 wf).2
        have hv : V i = .int .u16 (n0 : Int) := by simpa using e
        exact ⟨n0, by omega, fun _ => by rw [h1, hv]⟩
      · exact ⟨0, by decide, fun h => absurd h hi⟩
    obtain ⟨T, hT⟩ := Classical.axiomOfChoice hel'
    refine ⟨some x, cap, (List.range len).map T, by rw [hcs]; simp, ⟨fun o ho => ?_, fun hne => ?_⟩, by simpa using hlen⟩
    · obtain ⟨i, _, rfl⟩ := List.mem_map.1 ho
      exact (hT i).1
    · have h0 : 0 < len := by
        rcases Nat.eq_zero_or_pos len with h | h
        · subst h; simp at hne
        · exact h
      obtain ⟨pb, po, rfl⟩ : ∃ pb po, x = ⟨pb, po, none⟩ := by
        have h2 := World.cell?_spot ((hT 0).2 h0)
        obtain ⟨b, off, spot⟩ := x
        have : spot = none := by simpa [Addr.add] using h2
        exact ⟨b, off, by rw [this]⟩
      refine ⟨pb, po, rfl, fun k hk => ?_⟩
      have hk2 : k < len := by simpa using hk
      have h1 := (hT k).2 hk2
      rw [add_plain] at h1
      simpa using h1
theorem open_strs {H : Type} {enc : TypeId × Value → H} {w : World} {base : Nat} {fuel : Nat} {cs : List Value} {d : DataW H} {p : List MemPlace} (h : DataW.trod enc Tryd.prog w base (fun _ => true) true fuel 31 cs = some (d, p)) (hb : Rows.uptoBulk d ≤ 1048576) : ∃ (ao : Option Addr) (cap : Nat) (l : List ByteArray), cs = [.slice ao l.length cap] ∧ Strs w ao l ∧ l.length ≤ 1048576 := by
  rcases open_slice1 Tryd.underlying31 (by kernel_rfl) h with ⟨hcs, _⟩ | ⟨x, len, cap, m, n, V, D, Pl, hcs, _, hl, hm, hmm, hx, hel⟩
  · exact ⟨none, 0, [], hcs, ⟨by simp, fun h => absurd rfl h⟩, by simp⟩
  · have hmc : m = cap := by simpa using hmm
    have hd : d = .slice ((List.range len).map D) ((List.range (m - len)).map fun j => D (len + j)) := (Prod.mk.inj hx).1
    have hlen : len ≤ 1048576 := by
      have b1 := bulk_slice ((List.range len).map D) ((List.range (m - len)).map fun j => D (len + j))
      have b2 := length_le_bulk ((List.range len).map D)
      rw [← hd] at b1
      simp at b2
      omega
    have hel' : ∀ i, ∃ o : ByteArray, o.size ≤ 9223372036854775807 ∧ (i < len → w.cell? (x.add i) = some (.string o)) := by
      intro i
      by_cases hi : i < len
      · obtain ⟨h1, h2⟩ := hel i (by omega)
        obtain ⟨z, e, _, hz⟩ := DataW.trod_string Tryd.underlying9 h2
        have hv : V i = .string z := by simpa using e
        exact ⟨z, hz, fun _ => by rw [h1, hv]⟩
      · exact ⟨ByteArray.empty, by decide, fun h => absurd h hi⟩
    obtain ⟨T, hT⟩ := Classical.axiomOfChoice hel'
    refine ⟨some x, cap, (List.range len).map T, by rw [hcs]; simp, ⟨fun o ho => ?_, fun hne => ?_⟩, by simpa using hlen⟩
    · obtain ⟨i, _, rfl⟩ := List.mem_map.1 ho
      exact (hT i).1
    · have h0 : 0 < len := by
        rcases Nat.eq_zero_or_pos len with h | h
        · subst h; simp at hne
        · exact h
      obtain ⟨pb, po, rfl⟩ : ∃ pb po, x = ⟨pb, po, none⟩ := by
        have h2 := World.cell?_spot ((hT 0).2 h0)
        obtain ⟨b, off, spot⟩ := x
        have : spot = none := by simpa [Addr.add] using h2
        exact ⟨b, off, by rw [this]⟩
      refine ⟨pb, po, rfl, fun k hk => ?_⟩
      have hk2 : k < len := by simpa using hk
      have h1 := (hT k).2 hk2
      rw [add_plain] at h1
      simpa using h1
theorem open_runs {H : Type} {enc : TypeId × Value → H} {w : World} {base : Nat} {fuel : Nat} {cs : List Value} {d : DataW H} {p : List MemPlace} (h : DataW.trod enc Tryd.prog w base (fun _ => true) true fuel 38 cs = some (d, p)) (hb : Rows.uptoBulk d ≤ 1048576) : ∃ (ao : Option Addr) (cap : Nat) (l : List (Nat × Nat)), cs = [.slice ao l.length cap] ∧ Runs w ao l ∧ l.length ≤ 1048576 := by
  rcases open_slice_pairs Tryd.underlying38 Tryd.underlying135 (by kernel_rfl) rfl rfl (by kernel_rfl) (by kernel_rfl) h with ⟨hcs, _⟩ | ⟨x, len, cap, m, n, V0, V1, D0, D1, P0, P1, hcs, _, hl, hm, hmm, hx, hel⟩
  · exact ⟨none, 0, [], hcs, ⟨by simp, fun h => absurd rfl h⟩, by simp⟩
  · have hmc : m = cap := by simpa using hmm
    have hd : d = .slice ((List.range len).map fun i => .agg [D0 i, D1 i]) ((List.range (m - len)).map fun j => .agg [D0 (len + j), D1 (len + j)]) := (Prod.mk.inj hx).1
    have hlen : len ≤ 1048576 := by
      have b1 := bulk_slice ((List.range len).map fun i => DataW.agg [D0 i, D1 i]) ((List.range (m - len)).map fun j => .agg [D0 (len + j), D1 (len + j)])
      have b2 := length_le_bulk ((List.range len).map fun i => DataW.agg [D0 i, D1 i])
      rw [← hd] at b1
      simp at b2
      omega
    have hel' : ∀ i, ∃ o : Nat × Nat, (o.1 < 18446744073709551616 ∧ o.2 < 18446744073709551616) ∧ (i < len → w.cell? (x.add (i * 2)) = some (.int .u64 (o.1 : Int)) ∧ w.cell? (x.add (i * 2 + 1)) = some (.int .u64 (o.2 : Int))) := by
      intro i
      by_cases hi : i < len
      · obtain ⟨g1, g2, h2, h3⟩ := hel i (by omega)
        obtain ⟨z, e, _, wf⟩ := DataW.trod_int Tryd.underlying23 h2
        obtain ⟨n0, rfl⟩ := Int.eq_ofNat_of_zero_le (bounds_u64 wf).1
        obtain ⟨z', e', _, wf'⟩ := DataW.trod_int Tryd.underlying23 h3
        obtain ⟨n1, rfl⟩ := Int.eq_ofNat_of_zero_le (bounds_u64 wf').1
        have b0 := (bounds_u64 wf).2
        have b1 := (bounds_u64 wf').2
        have hv : V0 i = .int .u64 (n0 : Int) := by simpa using e
        have hv' : V1 i = .int .u64 (n1 : Int) := by simpa using e'
        exact ⟨(n0, n1), ⟨by show n0 < _; omega, by show n1 < _; omega⟩, fun _ => ⟨by rw [g1, hv], by rw [g2, hv']⟩⟩
      · exact ⟨(0, 0), by decide, fun h => absurd h hi⟩
    obtain ⟨T, hT⟩ := Classical.axiomOfChoice hel'
    refine ⟨some x, cap, (List.range len).map T, by rw [hcs]; simp, ⟨fun o ho => ?_, fun hne => ?_⟩, by simpa using hlen⟩
    · obtain ⟨i, _, rfl⟩ := List.mem_map.1 ho
      exact (hT i).1
    · have h0 : 0 < len := by
        rcases Nat.eq_zero_or_pos len with h | h
        · subst h; simp at hne
        · exact h
      obtain ⟨pb, po, rfl⟩ : ∃ pb po, x = ⟨pb, po, none⟩ := by
        have h2 := World.cell?_spot ((hT 0).2 h0).1
        obtain ⟨b, off, spot⟩ := x
        have : spot = none := by simpa [Addr.add] using h2
        exact ⟨b, off, by rw [this]⟩
      refine ⟨pb, po, rfl, fun k hk => ?_⟩
      have hk2 : k < len := by simpa using hk
      have h1 := (hT k).2 hk2
      rw [add_plain, add_plain] at h1
      simpa [Nat.add_assoc] using h1
theorem open_inf {H : Type} {enc : TypeId × Value → H} {w : World} {base : Nat} {fuel : Nat} {cs : List Value} {d : DataW H} {p : List MemPlace} (h : DataW.trod enc Tryd.prog w base (fun _ => true) true fuel 27 cs = some (d, p)) (hb : Rows.uptoBulk d ≤ 1048576) : ∃ (x0 : Nat) (x1 : Nat) (x2 : Nat) (x3 : ByteArray) (x4 : Nat) (x5 : Nat) (x6 : Nat) (a7 : Option Addr) (c7 : Nat) (l7 : List Nat), cs = [.int .u16 (x0 : Int), .int .u64 (x1 : Int), .int .u16 (x2 : Int), .string x3, .int .u32 (x4 : Int), .int .u32 (x5 : Int), .int .u32 (x6 : Int), .slice a7 l7.length c7] ∧ x0 < 65536 ∧ x1 < 18446744073709551616 ∧ x2 < 65536 ∧ x3.size ≤ 9223372036854775807 ∧ x4 < 4294967296 ∧ x5 < 4294967296 ∧ x6 < 4294967296 ∧ BRow w a7 c7 l7 ∧ l7.length ≤ 1048576 := by
  obtain ⟨xs, n, rfl, hx, hl, hxl, hall⟩ := DataW.trod_struct Tryd.underlying27 h
  have hl' : cs.length = 8 := hl.trans (by kernel_rfl)
  have h0 := hall 0 _ rfl
  obtain ⟨⟨y0, yp0⟩, hy0⟩ : ∃ y, xs[0]? = some y := ⟨_, List.getElem?_eq_getElem (by rw [hxl]; decide)⟩
  have k0 : Tryd.prog.cellsOf 22 = 1 := by kernel_rfl
  simp only [k0, hy0] at h0
  obtain ⟨a0, e0, _, w0⟩ := DataW.trod_int Tryd.underlying22 h0
  obtain ⟨n0, rfl⟩ := Int.eq_ofNat_of_zero_le (bounds_u16 w0).1
  have b0 := (bounds_u16 w0).2
  have z0 := take1 e0
  have h1 := hall 1 _ rfl
  obtain ⟨⟨y1, yp1⟩, hy1⟩ : ∃ y, xs[1]? = some y := ⟨_, List.getElem?_eq_getElem (by rw [hxl]; decide)⟩
  have k1 : Tryd.prog.cellsOf 23 = 1 := by kernel_rfl
  simp only [k1, hy1] at h1
  obtain ⟨a1, e1, _, w1⟩ := DataW.trod_int Tryd.underlying23 h1
  obtain ⟨n1, rfl⟩ := Int.eq_ofNat_of_zero_le (bounds_u64 w1).1
  have b1 := (bounds_u64 w1).2
  have z1 := take1 e1
  have h2 := hall 2 _ rfl
  obtain ⟨⟨y2, yp2⟩, hy2⟩ : ∃ y, xs[2]? = some y := ⟨_, List.getElem?_eq_getElem (by rw [hxl]; decide)⟩
  have k2 : Tryd.prog.cellsOf 22 = 1 := by kernel_rfl
  simp only [k2, hy2] at h2
  obtain ⟨a2, e2, _, w2⟩ := DataW.trod_int Tryd.underlying22 h2
  obtain ⟨n2, rfl⟩ := Int.eq_ofNat_of_zero_le (bounds_u16 w2).1
  have b2 := (bounds_u16 w2).2
  have z2 := take1 e2
  have h3 := hall 3 _ rfl
  obtain ⟨⟨y3, yp3⟩, hy3⟩ : ∃ y, xs[3]? = some y := ⟨_, List.getElem?_eq_getElem (by rw [hxl]; decide)⟩
  have k3 : Tryd.prog.cellsOf 9 = 1 := by kernel_rfl
  simp only [k3, hy3] at h3
  obtain ⟨n3, e3, _, b3⟩ := DataW.trod_string Tryd.underlying9 h3
  have z3 := take1 e3
  have h4 := hall 4 _ rfl
  obtain ⟨⟨y4, yp4⟩, hy4⟩ : ∃ y, xs[4]? = some y := ⟨_, List.getElem?_eq_getElem (by rw [hxl]; decide)⟩
  have k4 : Tryd.prog.cellsOf 24 = 1 := by kernel_rfl
  simp only [k4, hy4] at h4
  obtain ⟨a4, e4, _, w4⟩ := DataW.trod_int Tryd.underlying24 h4
  obtain ⟨n4, rfl⟩ := Int.eq_ofNat_of_zero_le (bounds_u32 w4).1
  have b4 := (bounds_u32 w4).2
  have z4 := take1 e4
  have h5 := hall 5 _ rfl
  obtain ⟨⟨y5, yp5⟩, hy5⟩ : ∃ y, xs[5]? = some y := ⟨_, List.getElem?_eq_getElem (by rw [hxl]; decide)⟩
  have k5 : Tryd.prog.cellsOf 24 = 1 := by kernel_rfl
  simp only [k5, hy5] at h5
  obtain ⟨a5, e5, _, w5⟩ := DataW.trod_int Tryd.underlying24 h5
  obtain ⟨n5, rfl⟩ := Int.eq_ofNat_of_zero_le (bounds_u32 w5).1
  have b5 := (bounds_u32 w5).2
  have z5 := take1 e5
  have h6 := hall 6 _ rfl
  obtain ⟨⟨y6, yp6⟩, hy6⟩ : ∃ y, xs[6]? = some y := ⟨_, List.getElem?_eq_getElem (by rw [hxl]; decide)⟩
  have k6 : Tryd.prog.cellsOf 24 = 1 := by kernel_rfl
  simp only [k6, hy6] at h6
  obtain ⟨a6, e6, _, w6⟩ := DataW.trod_int Tryd.underlying24 h6
  obtain ⟨n6, rfl⟩ := Int.eq_ofNat_of_zero_le (bounds_u32 w6).1
  have b6 := (bounds_u32 w6).2
  have z6 := take1 e6
  have h7 := hall 7 _ rfl
  obtain ⟨⟨y7, yp7⟩, hy7⟩ : ∃ y, xs[7]? = some y := ⟨_, List.getElem?_eq_getElem (by rw [hxl]; decide)⟩
  have k7 : Tryd.prog.cellsOf 25 = 1 := by kernel_rfl
  simp only [k7, hy7] at h7
  have hbk7 : Rows.uptoBulk y7 ≤ 1048576 := by
    have hd : d = .agg (xs.map (·.1)) := (Prod.mk.inj hx).1
    have hm : y7 ∈ xs.map (·.1) := List.mem_map.2 ⟨_, List.mem_of_getElem? hy7, rfl⟩
    have h1 := bulk_le_all hm
    rw [hd] at hb
    simp only [Rows.uptoBulk] at hb
    omega
  obtain ⟨ao7, cap7, l7, e7, hbr7, hll7⟩ := open_bytes h7 hbk7
  have z7 := take1 e7
  refine ⟨n0, n1, n2, n3, n4, n5, n6, ao7, cap7, l7, ?_, by omega, by omega, by omega, b3, by omega, by omega, by omega, hbr7, by omega⟩
  apply List.ext_getElem?
  intro i
  match i with
  | 0 => exact z0
  | 1 => exact z1
  | 2 => exact z2
  | 3 => exact z3
  | 4 => exact z4
  | 5 => exact z5
  | 6 => exact z6
  | 7 => exact z7
  | i + 8 => rw [List.getElem?_eq_none (by omega)]; rfl
theorem open_ask {H : Type} {enc : TypeId × Value → H} {w : World} {base : Nat} {fuel : Nat} {cs : List Value} {d : DataW H} {p : List MemPlace} (h : DataW.trod enc Tryd.prog w base (fun _ => true) true fuel 30 cs = some (d, p)) (hb : Rows.uptoBulk d ≤ 1048576) : ∃ (x0 : ByteArray) (a1 : Option Addr) (c1 : Nat) (l1 : List Nat), cs = [.string x0, .slice a1 l1.length c1] ∧ x0.size ≤ 9223372036854775807 ∧ U16s w a1 l1 ∧ l1.length ≤ 1048576 := by
  obtain ⟨xs, n, rfl, hx, hl, hxl, hall⟩ := DataW.trod_struct Tryd.underlying30 h
  have hl' : cs.length = 2 := hl.trans (by kernel_rfl)
  have h0 := hall 0 _ rfl
  obtain ⟨⟨y0, yp0⟩, hy0⟩ : ∃ y, xs[0]? = some y := ⟨_, List.getElem?_eq_getElem (by rw [hxl]; decide)⟩
  have k0 : Tryd.prog.cellsOf 9 = 1 := by kernel_rfl
  simp only [k0, hy0] at h0
  obtain ⟨n0, e0, _, b0⟩ := DataW.trod_string Tryd.underlying9 h0
  have z0 := take1 e0
  have h1 := hall 1 _ rfl
  obtain ⟨⟨y1, yp1⟩, hy1⟩ : ∃ y, xs[1]? = some y := ⟨_, List.getElem?_eq_getElem (by rw [hxl]; decide)⟩
  have k1 : Tryd.prog.cellsOf 28 = 1 := by kernel_rfl
  simp only [k1, hy1] at h1
  have hbk1 : Rows.uptoBulk y1 ≤ 1048576 := by
    have hd : d = .agg (xs.map (·.1)) := (Prod.mk.inj hx).1
    have hm : y1 ∈ xs.map (·.1) := List.mem_map.2 ⟨_, List.mem_of_getElem? hy1, rfl⟩
    have h1 := bulk_le_all hm
    rw [hd] at hb
    simp only [Rows.uptoBulk] at hb
    omega
  obtain ⟨ao1, cap1, l1, e1, hbr1, hll1⟩ := open_u16s h1 hbk1
  have z1 := take1 e1
  refine ⟨n0, ao1, cap1, l1, ?_, b0, hbr1, by omega⟩
  apply List.ext_getElem?
  intro i
  match i with
  | 0 => exact z0
  | 1 => exact z1
  | i + 2 => rw [List.getElem?_eq_none (by omega)]; rfl
theorem open_mts {H : Type} {enc : TypeId × Value → H} {w : World} {base : Nat} {fuel : Nat} {cs : List Value} {d : DataW H} {p : List MemPlace} (h : DataW.trod enc Tryd.prog w base (fun _ => true) true fuel 33 cs = some (d, p)) (hb : Rows.uptoBulk d ≤ 1048576) : ∃ (x0 : ByteArray) (a1 : Option Addr) (c1 : Nat) (l1 : List ByteArray), cs = [.string x0, .slice a1 l1.length c1] ∧ x0.size ≤ 9223372036854775807 ∧ Strs w a1 l1 ∧ l1.length ≤ 1048576 := by
  obtain ⟨xs, n, rfl, hx, hl, hxl, hall⟩ := DataW.trod_struct Tryd.underlying33 h
  have hl' : cs.length = 2 := hl.trans (by kernel_rfl)
  have h0 := hall 0 _ rfl
  obtain ⟨⟨y0, yp0⟩, hy0⟩ : ∃ y, xs[0]? = some y := ⟨_, List.getElem?_eq_getElem (by rw [hxl]; decide)⟩
  have k0 : Tryd.prog.cellsOf 9 = 1 := by kernel_rfl
  simp only [k0, hy0] at h0
  obtain ⟨n0, e0, _, b0⟩ := DataW.trod_string Tryd.underlying9 h0
  have z0 := take1 e0
  have h1 := hall 1 _ rfl
  obtain ⟨⟨y1, yp1⟩, hy1⟩ : ∃ y, xs[1]? = some y := ⟨_, List.getElem?_eq_getElem (by rw [hxl]; decide)⟩
  have k1 : Tryd.prog.cellsOf 31 = 1 := by kernel_rfl
  simp only [k1, hy1] at h1
  have hbk1 : Rows.uptoBulk y1 ≤ 1048576 := by
    have hd : d = .agg (xs.map (·.1)) := (Prod.mk.inj hx).1
    have hm : y1 ∈ xs.map (·.1) := List.mem_map.2 ⟨_, List.mem_of_getElem? hy1, rfl⟩
    have h1 := bulk_le_all hm
    rw [hd] at hb
    simp only [Rows.uptoBulk] at hb
    omega
  obtain ⟨ao1, cap1, l1, e1, hbr1, hll1⟩ := open_strs h1 hbk1
  have z1 := take1 e1
  refine ⟨n0, ao1, cap1, l1, ?_, b0, hbr1, by omega⟩
  apply List.ext_getElem?
  intro i
  match i with
  | 0 => exact z0
  | 1 => exact z1
  | i + 2 => rw [List.getElem?_eq_none (by omega)]; rfl
theorem open_met {H : Type} {enc : TypeId × Value → H} {w : World} {base : Nat} {fuel : Nat} {cs : List Value} {d : DataW H} {p : List MemPlace} (h : DataW.trod enc Tryd.prog w base (fun _ => true) true fuel 35 cs = some (d, p)) (hb : Rows.uptoBulk d ≤ 1048576) : ∃ (x0 : Nat) (x1 : ByteArray), cs = [.int .u32 (x0 : Int), .string x1] ∧ x0 < 4294967296 ∧ x1.size ≤ 9223372036854775807 := by
  obtain ⟨xs, n, rfl, hx, hl, hxl, hall⟩ := DataW.trod_struct Tryd.underlying35 h
  have hl' : cs.length = 2 := hl.trans (by kernel_rfl)
  have h0 := hall 0 _ rfl
  obtain ⟨⟨y0, yp0⟩, hy0⟩ : ∃ y, xs[0]? = some y := ⟨_, List.getElem?_eq_getElem (by rw [hxl]; decide)⟩
  have k0 : Tryd.prog.cellsOf 24 = 1 := by kernel_rfl
  simp only [k0, hy0] at h0
  obtain ⟨a0, e0, _, w0⟩ := DataW.trod_int Tryd.underlying24 h0
  obtain ⟨n0, rfl⟩ := Int.eq_ofNat_of_zero_le (bounds_u32 w0).1
  have b0 := (bounds_u32 w0).2
  have z0 := take1 e0
  have h1 := hall 1 _ rfl
  obtain ⟨⟨y1, yp1⟩, hy1⟩ : ∃ y, xs[1]? = some y := ⟨_, List.getElem?_eq_getElem (by rw [hxl]; decide)⟩
  have k1 : Tryd.prog.cellsOf 9 = 1 := by kernel_rfl
  simp only [k1, hy1] at h1
  obtain ⟨n1, e1, _, b1⟩ := DataW.trod_string Tryd.underlying9 h1
  have z1 := take1 e1
  refine ⟨n0, n1, ?_, by omega, b1⟩
  apply List.ext_getElem?
  intro i
  match i with
  | 0 => exact z0
  | 1 => exact z1
  | i + 2 => rw [List.getElem?_eq_none (by omega)]; rfl
theorem open_srv {H : Type} {enc : TypeId × Value → H} {w : World} {base : Nat} {fuel : Nat} {cs : List Value} {d : DataW H} {p : List MemPlace} (h : DataW.trod enc Tryd.prog w base (fun _ => true) true fuel 37 cs = some (d, p)) (hb : Rows.uptoBulk d ≤ 1048576) : ∃ (x0 : ByteArray) (a1 : Option Addr) (c1 : Nat) (l1 : List Nat), cs = [.string x0, .slice a1 l1.length c1] ∧ x0.size ≤ 9223372036854775807 ∧ BRow w a1 c1 l1 ∧ l1.length ≤ 1048576 := by
  obtain ⟨xs, n, rfl, hx, hl, hxl, hall⟩ := DataW.trod_struct Tryd.underlying37 h
  have hl' : cs.length = 2 := hl.trans (by kernel_rfl)
  have h0 := hall 0 _ rfl
  obtain ⟨⟨y0, yp0⟩, hy0⟩ : ∃ y, xs[0]? = some y := ⟨_, List.getElem?_eq_getElem (by rw [hxl]; decide)⟩
  have k0 : Tryd.prog.cellsOf 9 = 1 := by kernel_rfl
  simp only [k0, hy0] at h0
  obtain ⟨n0, e0, _, b0⟩ := DataW.trod_string Tryd.underlying9 h0
  have z0 := take1 e0
  have h1 := hall 1 _ rfl
  obtain ⟨⟨y1, yp1⟩, hy1⟩ : ∃ y, xs[1]? = some y := ⟨_, List.getElem?_eq_getElem (by rw [hxl]; decide)⟩
  have k1 : Tryd.prog.cellsOf 25 = 1 := by kernel_rfl
  simp only [k1, hy1] at h1
  have hbk1 : Rows.uptoBulk y1 ≤ 1048576 := by
    have hd : d = .agg (xs.map (·.1)) := (Prod.mk.inj hx).1
    have hm : y1 ∈ xs.map (·.1) := List.mem_map.2 ⟨_, List.mem_of_getElem? hy1, rfl⟩
    have h1 := bulk_le_all hm
    rw [hd] at hb
    simp only [Rows.uptoBulk] at hb
    omega
  obtain ⟨ao1, cap1, l1, e1, hbr1, hll1⟩ := open_bytes h1 hbk1
  have z1 := take1 e1
  refine ⟨n0, ao1, cap1, l1, ?_, b0, hbr1, by omega⟩
  apply List.ext_getElem?
  intro i
  match i with
  | 0 => exact z0
  | 1 => exact z1
  | i + 2 => rw [List.getElem?_eq_none (by omega)]; rfl
theorem open_sta {H : Type} {enc : TypeId × Value → H} {w : World} {base : Nat} {fuel : Nat} {cs : List Value} {d : DataW H} {p : List MemPlace} (h : DataW.trod enc Tryd.prog w base (fun _ => true) true fuel 40 cs = some (d, p)) (hb : Rows.uptoBulk d ≤ 1048576) : ∃ (x0 : Nat) (a1 : Option Addr) (c1 : Nat) (l1 : List (Nat × Nat)), cs = [.int .u32 (x0 : Int), .slice a1 l1.length c1] ∧ x0 < 4294967296 ∧ Runs w a1 l1 ∧ l1.length ≤ 1048576 := by
  obtain ⟨xs, n, rfl, hx, hl, hxl, hall⟩ := DataW.trod_struct Tryd.underlying40 h
  have hl' : cs.length = 2 := hl.trans (by kernel_rfl)
  have h0 := hall 0 _ rfl
  obtain ⟨⟨y0, yp0⟩, hy0⟩ : ∃ y, xs[0]? = some y := ⟨_, List.getElem?_eq_getElem (by rw [hxl]; decide)⟩
  have k0 : Tryd.prog.cellsOf 24 = 1 := by kernel_rfl
  simp only [k0, hy0] at h0
  obtain ⟨a0, e0, _, w0⟩ := DataW.trod_int Tryd.underlying24 h0
  obtain ⟨n0, rfl⟩ := Int.eq_ofNat_of_zero_le (bounds_u32 w0).1
  have b0 := (bounds_u32 w0).2
  have z0 := take1 e0
  have h1 := hall 1 _ rfl
  obtain ⟨⟨y1, yp1⟩, hy1⟩ : ∃ y, xs[1]? = some y := ⟨_, List.getElem?_eq_getElem (by rw [hxl]; decide)⟩
  have k1 : Tryd.prog.cellsOf 38 = 1 := by kernel_rfl
  simp only [k1, hy1] at h1
  have hbk1 : Rows.uptoBulk y1 ≤ 1048576 := by
    have hd : d = .agg (xs.map (·.1)) := (Prod.mk.inj hx).1
    have hm : y1 ∈ xs.map (·.1) := List.mem_map.2 ⟨_, List.mem_of_getElem? hy1, rfl⟩
    have h1 := bulk_le_all hm
    rw [hd] at hb
    simp only [Rows.uptoBulk] at hb
    omega
  obtain ⟨ao1, cap1, l1, e1, hbr1, hll1⟩ := open_runs h1 hbk1
  have z1 := take1 e1
  refine ⟨n0, ao1, cap1, l1, ?_, by omega, hbr1, by omega⟩
  apply List.ext_getElem?
  intro i
  match i with
  | 0 => exact z0
  | 1 => exact z1
  | i + 2 => rw [List.getElem?_eq_none (by omega)]; rfl
theorem open_err {H : Type} {enc : TypeId × Value → H} {w : World} {base : Nat} {fuel : Nat} {cs : List Value} {d : DataW H} {p : List MemPlace} (h : DataW.trod enc Tryd.prog w base (fun _ => true) true fuel 42 cs = some (d, p)) (hb : Rows.uptoBulk d ≤ 1048576) : ∃ (x0 : Nat) (x1 : ByteArray) (x2 : Bool) (x3 : Nat), cs = [.int .u32 (x0 : Int), .string x1, .bool x2, .int .u64 (x3 : Int)] ∧ x0 < 4294967296 ∧ x1.size ≤ 9223372036854775807 ∧ x3 < 18446744073709551616 := by
  obtain ⟨xs, n, rfl, hx, hl, hxl, hall⟩ := DataW.trod_struct Tryd.underlying42 h
  have hl' : cs.length = 4 := hl.trans (by kernel_rfl)
  have h0 := hall 0 _ rfl
  obtain ⟨⟨y0, yp0⟩, hy0⟩ : ∃ y, xs[0]? = some y := ⟨_, List.getElem?_eq_getElem (by rw [hxl]; decide)⟩
  have k0 : Tryd.prog.cellsOf 24 = 1 := by kernel_rfl
  simp only [k0, hy0] at h0
  obtain ⟨a0, e0, _, w0⟩ := DataW.trod_int Tryd.underlying24 h0
  obtain ⟨n0, rfl⟩ := Int.eq_ofNat_of_zero_le (bounds_u32 w0).1
  have b0 := (bounds_u32 w0).2
  have z0 := take1 e0
  have h1 := hall 1 _ rfl
  obtain ⟨⟨y1, yp1⟩, hy1⟩ : ∃ y, xs[1]? = some y := ⟨_, List.getElem?_eq_getElem (by rw [hxl]; decide)⟩
  have k1 : Tryd.prog.cellsOf 9 = 1 := by kernel_rfl
  simp only [k1, hy1] at h1
  obtain ⟨n1, e1, _, b1⟩ := DataW.trod_string Tryd.underlying9 h1
  have z1 := take1 e1
  have h2 := hall 2 _ rfl
  obtain ⟨⟨y2, yp2⟩, hy2⟩ : ∃ y, xs[2]? = some y := ⟨_, List.getElem?_eq_getElem (by rw [hxl]; decide)⟩
  have k2 : Tryd.prog.cellsOf 4 = 1 := by kernel_rfl
  simp only [k2, hy2] at h2
  obtain ⟨n2, e2, _⟩ := DataW.trod_bool Tryd.underlying4 h2
  have z2 := take1 e2
  have h3 := hall 3 _ rfl
  obtain ⟨⟨y3, yp3⟩, hy3⟩ : ∃ y, xs[3]? = some y := ⟨_, List.getElem?_eq_getElem (by rw [hxl]; decide)⟩
  have k3 : Tryd.prog.cellsOf 23 = 1 := by kernel_rfl
  simp only [k3, hy3] at h3
  obtain ⟨a3, e3, _, w3⟩ := DataW.trod_int Tryd.underlying23 h3
  obtain ⟨n3, rfl⟩ := Int.eq_ofNat_of_zero_le (bounds_u64 w3).1
  have b3 := (bounds_u64 w3).2
  have z3 := take1 e3
  refine ⟨n0, n1, n2, n3, ?_, by omega, b1, by omega⟩
  apply List.ext_getElem?
  intro i
  match i with
  | 0 => exact z0
  | 1 => exact z1
  | 2 => exact z2
  | 3 => exact z3
  | i + 4 => rw [List.getElem?_eq_none (by omega)]; rfl
theorem open_dat {H : Type} {enc : TypeId × Value → H} {w : World} {base : Nat} {fuel : Nat} {cs : List Value} {d : DataW H} {p : List MemPlace} (h : DataW.trod enc Tryd.prog w base (fun _ => true) true fuel 44 cs = some (d, p)) (hb : Rows.uptoBulk d ≤ 1048576) : ∃ (x0 : Nat) (a1 : Option Addr) (c1 : Nat) (l1 : List Nat), cs = [.int .u64 (x0 : Int), .slice a1 l1.length c1] ∧ x0 < 18446744073709551616 ∧ BRow w a1 c1 l1 ∧ l1.length ≤ 1048576 := by
  obtain ⟨xs, n, rfl, hx, hl, hxl, hall⟩ := DataW.trod_struct Tryd.underlying44 h
  have hl' : cs.length = 2 := hl.trans (by kernel_rfl)
  have h0 := hall 0 _ rfl
  obtain ⟨⟨y0, yp0⟩, hy0⟩ : ∃ y, xs[0]? = some y := ⟨_, List.getElem?_eq_getElem (by rw [hxl]; decide)⟩
  have k0 : Tryd.prog.cellsOf 23 = 1 := by kernel_rfl
  simp only [k0, hy0] at h0
  obtain ⟨a0, e0, _, w0⟩ := DataW.trod_int Tryd.underlying23 h0
  obtain ⟨n0, rfl⟩ := Int.eq_ofNat_of_zero_le (bounds_u64 w0).1
  have b0 := (bounds_u64 w0).2
  have z0 := take1 e0
  have h1 := hall 1 _ rfl
  obtain ⟨⟨y1, yp1⟩, hy1⟩ : ∃ y, xs[1]? = some y := ⟨_, List.getElem?_eq_getElem (by rw [hxl]; decide)⟩
  have k1 : Tryd.prog.cellsOf 25 = 1 := by kernel_rfl
  simp only [k1, hy1] at h1
  have hbk1 : Rows.uptoBulk y1 ≤ 1048576 := by
    have hd : d = .agg (xs.map (·.1)) := (Prod.mk.inj hx).1
    have hm : y1 ∈ xs.map (·.1) := List.mem_map.2 ⟨_, List.mem_of_getElem? hy1, rfl⟩
    have h1 := bulk_le_all hm
    rw [hd] at hb
    simp only [Rows.uptoBulk] at hb
    omega
  obtain ⟨ao1, cap1, l1, e1, hbr1, hll1⟩ := open_bytes h1 hbk1
  have z1 := take1 e1
  refine ⟨n0, ao1, cap1, l1, ?_, by omega, hbr1, by omega⟩
  apply List.ext_getElem?
  intro i
  match i with
  | 0 => exact z0
  | 1 => exact z1
  | i + 2 => rw [List.getElem?_eq_none (by omega)]; rfl
theorem open_hol {H : Type} {enc : TypeId × Value → H} {w : World} {base : Nat} {fuel : Nat} {cs : List Value} {d : DataW H} {p : List MemPlace} (h : DataW.trod enc Tryd.prog w base (fun _ => true) true fuel 46 cs = some (d, p)) (hb : Rows.uptoBulk d ≤ 1048576) : ∃ (x0 : Nat) (x1 : Nat), cs = [.int .u64 (x0 : Int), .int .u32 (x1 : Int)] ∧ x0 < 18446744073709551616 ∧ x1 < 4294967296 := by
  obtain ⟨xs, n, rfl, hx, hl, hxl, hall⟩ := DataW.trod_struct Tryd.underlying46 h
  have hl' : cs.length = 2 := hl.trans (by kernel_rfl)
  have h0 := hall 0 _ rfl
  obtain ⟨⟨y0, yp0⟩, hy0⟩ : ∃ y, xs[0]? = some y := ⟨_, List.getElem?_eq_getElem (by rw [hxl]; decide)⟩
  have k0 : Tryd.prog.cellsOf 23 = 1 := by kernel_rfl
  simp only [k0, hy0] at h0
  obtain ⟨a0, e0, _, w0⟩ := DataW.trod_int Tryd.underlying23 h0
  obtain ⟨n0, rfl⟩ := Int.eq_ofNat_of_zero_le (bounds_u64 w0).1
  have b0 := (bounds_u64 w0).2
  have z0 := take1 e0
  have h1 := hall 1 _ rfl
  obtain ⟨⟨y1, yp1⟩, hy1⟩ : ∃ y, xs[1]? = some y := ⟨_, List.getElem?_eq_getElem (by rw [hxl]; decide)⟩
  have k1 : Tryd.prog.cellsOf 24 = 1 := by kernel_rfl
  simp only [k1, hy1] at h1
  obtain ⟨a1, e1, _, w1⟩ := DataW.trod_int Tryd.underlying24 h1
  obtain ⟨n1, rfl⟩ := Int.eq_ofNat_of_zero_le (bounds_u32 w1).1
  have b1 := (bounds_u32 w1).2
  have z1 := take1 e1
  refine ⟨n0, n1, ?_, by omega, by omega⟩
  apply List.ext_getElem?
  intro i
  match i with
  | 0 => exact z0
  | 1 => exact z1
  | i + 2 => rw [List.getElem?_eq_none (by omega)]; rfl
theorem takeN {cs L : List Value} {o n : Nat} (h : (cs.drop o).take n = L) (j : Nat) (hj : j < n) : cs[o + j]? = L[j]? := by
  rw [← h, List.getElem?_take, if_pos hj, List.getElem?_drop]
theorem open_bod {H : Type} {enc : TypeId × Value → H} {w : World} {base : Nat} {fuel : Nat} {cs : List Value} {d : DataW H} {p : List MemPlace} (h : DataW.trod enc Tryd.prog w base (fun _ => true) true fuel 48 cs = some (d, p)) (hb : Rows.uptoBulk d ≤ 1048576) : ∃ x : Bod, cs = x.cells.toList ∧ x.ok w := by
  obtain ⟨xs, n, rfl, hx, hl, hxl, hall⟩ := DataW.trod_struct Tryd.underlying48 h
  have hl' : cs.length = 27 := hl.trans (by kernel_rfl)
  have h0 := hall 0 _ rfl
  obtain ⟨⟨y0, yp0⟩, hy0⟩ : ∃ y, xs[0]? = some y := ⟨_, List.getElem?_eq_getElem (by rw [hxl]; decide)⟩
  have k0 : Tryd.prog.cellsOf 27 = 8 := by kernel_rfl
  simp only [k0, hy0] at h0
  have hbk0 : Rows.uptoBulk y0 ≤ 1048576 := by
    have hd : d = .agg (xs.map (·.1)) := (Prod.mk.inj hx).1
    have hm : y0 ∈ xs.map (·.1) := List.mem_map.2 ⟨_, List.mem_of_getElem? hy0, rfl⟩
    have h1 := bulk_le_all hm
    rw [hd] at hb
    simp only [Rows.uptoBulk] at hb
    omega
  obtain ⟨ix0, ix1, ix2, ix3, ix4, ix5, ix6, ia7, ic7, il7, e0, ib0, ib1, ib2, ib3, ib4, ib5, ib6, ir7, in7⟩ := open_inf h0 hbk0
  have h1 := hall 1 _ rfl
  obtain ⟨⟨y1, yp1⟩, hy1⟩ : ∃ y, xs[1]? = some y := ⟨_, List.getElem?_eq_getElem (by rw [hxl]; decide)⟩
  have k1 : Tryd.prog.cellsOf 30 = 2 := by kernel_rfl
  simp only [k1, hy1] at h1
  have hbk1 : Rows.uptoBulk y1 ≤ 1048576 := by
    have hd : d = .agg (xs.map (·.1)) := (Prod.mk.inj hx).1
    have hm : y1 ∈ xs.map (·.1) := List.mem_map.2 ⟨_, List.mem_of_getElem? hy1, rfl⟩
    have h1 := bulk_le_all hm
    rw [hd] at hb
    simp only [Rows.uptoBulk] at hb
    omega
  obtain ⟨qx0, qa1, qc1, ql1, e1, qb0, qr1, qn1⟩ := open_ask h1 hbk1
  have h2 := hall 2 _ rfl
  obtain ⟨⟨y2, yp2⟩, hy2⟩ : ∃ y, xs[2]? = some y := ⟨_, List.getElem?_eq_getElem (by rw [hxl]; decide)⟩
  have k2 : Tryd.prog.cellsOf 33 = 2 := by kernel_rfl
  simp only [k2, hy2] at h2
  have hbk2 : Rows.uptoBulk y2 ≤ 1048576 := by
    have hd : d = .agg (xs.map (·.1)) := (Prod.mk.inj hx).1
    have hm : y2 ∈ xs.map (·.1) := List.mem_map.2 ⟨_, List.mem_of_getElem? hy2, rfl⟩
    have h1 := bulk_le_all hm
    rw [hd] at hb
    simp only [Rows.uptoBulk] at hb
    omega
  obtain ⟨rx0, ra1, rc1, rl1, e2, rb0, rr1, rn1⟩ := open_mts h2 hbk2
  have h3 := hall 3 _ rfl
  obtain ⟨⟨y3, yp3⟩, hy3⟩ : ∃ y, xs[3]? = some y := ⟨_, List.getElem?_eq_getElem (by rw [hxl]; decide)⟩
  have k3 : Tryd.prog.cellsOf 35 = 2 := by kernel_rfl
  simp only [k3, hy3] at h3
  have hbk3 : Rows.uptoBulk y3 ≤ 1048576 := by
    have hd : d = .agg (xs.map (·.1)) := (Prod.mk.inj hx).1
    have hm : y3 ∈ xs.map (·.1) := List.mem_map.2 ⟨_, List.mem_of_getElem? hy3, rfl⟩
    have h1 := bulk_le_all hm
    rw [hd] at hb
    simp only [Rows.uptoBulk] at hb
    omega
  obtain ⟨mx0, mx1, e3, mb0, mb1⟩ := open_met h3 hbk3
  have h4 := hall 4 _ rfl
  obtain ⟨⟨y4, yp4⟩, hy4⟩ : ∃ y, xs[4]? = some y := ⟨_, List.getElem?_eq_getElem (by rw [hxl]; decide)⟩
  have k4 : Tryd.prog.cellsOf 37 = 2 := by kernel_rfl
  simp only [k4, hy4] at h4
  have hbk4 : Rows.uptoBulk y4 ≤ 1048576 := by
    have hd : d = .agg (xs.map (·.1)) := (Prod.mk.inj hx).1
    have hm : y4 ∈ xs.map (·.1) := List.mem_map.2 ⟨_, List.mem_of_getElem? hy4, rfl⟩
    have h1 := bulk_le_all hm
    rw [hd] at hb
    simp only [Rows.uptoBulk] at hb
    omega
  obtain ⟨sx0, sa1, sc1, sl1, e4, sb0, sr1, sn1⟩ := open_srv h4 hbk4
  have h5 := hall 5 _ rfl
  obtain ⟨⟨y5, yp5⟩, hy5⟩ : ∃ y, xs[5]? = some y := ⟨_, List.getElem?_eq_getElem (by rw [hxl]; decide)⟩
  have k5 : Tryd.prog.cellsOf 40 = 2 := by kernel_rfl
  simp only [k5, hy5] at h5
  have hbk5 : Rows.uptoBulk y5 ≤ 1048576 := by
    have hd : d = .agg (xs.map (·.1)) := (Prod.mk.inj hx).1
    have hm : y5 ∈ xs.map (·.1) := List.mem_map.2 ⟨_, List.mem_of_getElem? hy5, rfl⟩
    have h1 := bulk_le_all hm
    rw [hd] at hb
    simp only [Rows.uptoBulk] at hb
    omega
  obtain ⟨tx0, ta1, tc1, tl1, e5, tb0, tr1, tn1⟩ := open_sta h5 hbk5
  have h6 := hall 6 _ rfl
  obtain ⟨⟨y6, yp6⟩, hy6⟩ : ∃ y, xs[6]? = some y := ⟨_, List.getElem?_eq_getElem (by rw [hxl]; decide)⟩
  have k6 : Tryd.prog.cellsOf 4 = 1 := by kernel_rfl
  simp only [k6, hy6] at h6
  obtain ⟨bx0, e6, _⟩ := DataW.trod_bool Tryd.underlying4 h6
  have h7 := hall 7 _ rfl
  obtain ⟨⟨y7, yp7⟩, hy7⟩ : ∃ y, xs[7]? = some y := ⟨_, List.getElem?_eq_getElem (by rw [hxl]; decide)⟩
  have k7 : Tryd.prog.cellsOf 42 = 4 := by kernel_rfl
  simp only [k7, hy7] at h7
  have hbk7 : Rows.uptoBulk y7 ≤ 1048576 := by
    have hd : d = .agg (xs.map (·.1)) := (Prod.mk.inj hx).1
    have hm : y7 ∈ xs.map (·.1) := List.mem_map.2 ⟨_, List.mem_of_getElem? hy7, rfl⟩
    have h1 := bulk_le_all hm
    rw [hd] at hb
    simp only [Rows.uptoBulk] at hb
    omega
  obtain ⟨fx0, fx1, fx2, fx3, e7, fb0, fb1, fb3⟩ := open_err h7 hbk7
  have h8 := hall 8 _ rfl
  obtain ⟨⟨y8, yp8⟩, hy8⟩ : ∃ y, xs[8]? = some y := ⟨_, List.getElem?_eq_getElem (by rw [hxl]; decide)⟩
  have k8 : Tryd.prog.cellsOf 44 = 2 := by kernel_rfl
  simp only [k8, hy8] at h8
  have hbk8 : Rows.uptoBulk y8 ≤ 1048576 := by
    have hd : d = .agg (xs.map (·.1)) := (Prod.mk.inj hx).1
    have hm : y8 ∈ xs.map (·.1) := List.mem_map.2 ⟨_, List.mem_of_getElem? hy8, rfl⟩
    have h1 := bulk_le_all hm
    rw [hd] at hb
    simp only [Rows.uptoBulk] at hb
    omega
  obtain ⟨gx0, ga1, gc1, gl1, e8, gb0, gr1, gn1⟩ := open_dat h8 hbk8
  have h9 := hall 9 _ rfl
  obtain ⟨⟨y9, yp9⟩, hy9⟩ : ∃ y, xs[9]? = some y := ⟨_, List.getElem?_eq_getElem (by rw [hxl]; decide)⟩
  have k9 : Tryd.prog.cellsOf 46 = 2 := by kernel_rfl
  simp only [k9, hy9] at h9
  have hbk9 : Rows.uptoBulk y9 ≤ 1048576 := by
    have hd : d = .agg (xs.map (·.1)) := (Prod.mk.inj hx).1
    have hm : y9 ∈ xs.map (·.1) := List.mem_map.2 ⟨_, List.mem_of_getElem? hy9, rfl⟩
    have h1 := bulk_le_all hm
    rw [hd] at hb
    simp only [Rows.uptoBulk] at hb
    omega
  obtain ⟨vx0, vx1, e9, vb0, vb1⟩ := open_hol h9 hbk9
  refine ⟨⟨ix0, ix1, ix2, ix3, ix4, ix5, ix6, ia7, il7.length, ic7, il7, qx0, qa1, ql1.length, qc1, ql1, rx0, ra1, rl1.length, rc1, rl1, mx0, mx1, sx0, sa1, sl1.length, sc1, sl1, tx0, ta1, tl1.length, tc1, tl1, bx0, fx0, fx1, fx2, fx3, gx0, ga1, gl1.length, gc1, gl1, vx0, vx1⟩, ?_, ⟨ib0, ib1, ib2, ib3, ib4, ib5, ib6, ir7, rfl, in7, qb0, qr1, rfl, rb0, rr1, rfl, rn1, mb0, mb1, sb0, sr1, rfl, sn1, tb0, tr1, rfl, tn1, fb0, fb1, fb3, gb0, gr1, rfl, gn1, vb0, vb1⟩⟩
  apply List.ext_getElem?
  intro i
  match i with
  | 0 => exact takeN e0 0 (by decide)
  | 1 => exact takeN e0 1 (by decide)
  | 2 => exact takeN e0 2 (by decide)
  | 3 => exact takeN e0 3 (by decide)
  | 4 => exact takeN e0 4 (by decide)
  | 5 => exact takeN e0 5 (by decide)
  | 6 => exact takeN e0 6 (by decide)
  | 7 => exact takeN e0 7 (by decide)
  | 8 => exact takeN e1 0 (by decide)
  | 9 => exact takeN e1 1 (by decide)
  | 10 => exact takeN e2 0 (by decide)
  | 11 => exact takeN e2 1 (by decide)
  | 12 => exact takeN e3 0 (by decide)
  | 13 => exact takeN e3 1 (by decide)
  | 14 => exact takeN e4 0 (by decide)
  | 15 => exact takeN e4 1 (by decide)
  | 16 => exact takeN e5 0 (by decide)
  | 17 => exact takeN e5 1 (by decide)
  | 18 => exact takeN e6 0 (by decide)
  | 19 => exact takeN e7 0 (by decide)
  | 20 => exact takeN e7 1 (by decide)
  | 21 => exact takeN e7 2 (by decide)
  | 22 => exact takeN e7 3 (by decide)
  | 23 => exact takeN e8 0 (by decide)
  | 24 => exact takeN e8 1 (by decide)
  | 25 => exact takeN e9 0 (by decide)
  | 26 => exact takeN e9 1 (by decide)
  | i + 27 => rw [List.getElem?_eq_none (by omega)]; rfl
end Go.Proofs.YtjikibhhhchgeaaDoor
