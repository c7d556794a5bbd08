import Derived.Test.YtoabigjajnikcaaTL
namespace Go.Proofs.Ytoabigjajnikcaa
open Go.RowKit Go.Maps
attribute [local go_sem] Oper.semAt_some
set_option linter.unusedVariables false
set_option linter.unusedSimpArgs false
set_option maxRecDepth 100000

section
variable {w : World} {G : Nat → Prop} {p : Nat} {v : Value} {V : Int → Value} {S : St}
theorem copy_any (ao : Option Addr) (cap n : Nat) (l : List Nat) (w : World) (h : BRow w ao cap l) (hn : l.length = n) :
    Calls Try.prog 20 #[.slice ao n cap] w fun e w' => ∃ ao' cap', e = .returned (.slice ao' n cap') ∧ w'.ownsRow w.heap.size 5 1 (.slice ao' n cap') n (l.map bv) ∧ Below w.heap.size w w' := by
  subst hn
  cases ao with
  | none =>
    obtain ⟨rfl, rfl⟩ := h.nil rfl
    refine (copy_none w).mono ?_
    rintro e w' ⟨rfl, rfl⟩
    exact ⟨none, 0, rfl, World.ownsRow_nil _ _ _ _, Below.refl _ _⟩
  | some ad =>
    refine (copy_some ad cap l w h).mono ?_
    rintro e w' ⟨v, rfl, ho, hb⟩
    obtain ⟨ao', cap', rfl⟩ := owns_form ho
    exact ⟨ao', cap', rfl, ho, hb⟩
set_option maxHeartbeats 2000000 in
theorem request_any (q : Rq) (da : Option Addr) (dc n : Nat) (hq : BRow w da dc q.data) (HN : Hid (q.data.length = n)) : Calls Try.prog 18 #[.agg #[.int .u16 q.fl, .int .u16 q.ty, .int .u64 q.ck, .int .u64 q.off, .int .u64 q.len, .slice da n dc]] w fun r w' => ∃ a1 c1, r = .returned (.agg #[.int .u16 q.fl, .int .u16 q.ty, .int .u64 q.ck, .int .u64 q.off, .int .u64 q.len, .slice a1 n c1]) ∧ w'.ownsRow w.heap.size 5 1 (.slice a1 n c1) n (q.data.map bv) ∧ Below w.heap.size w w' := by
  have HQ : Hid _ := hq
  clear hq
  go_enter Try.func18, Try.ntmps18
  go_wp2_with fail
  have B0 := mkb2 w #[.int .u16 q.fl, .int .u16 q.ty, .int .u64 q.ck, .int .u64 q.off, .int .u64 q.len, .slice da n dc] #[.int .u16 0, .int .u16 0, .int .u64 0, .int .u64 0, .int .u64 0, .slice none 0 0] 44 44
  refine (copy_any da dc n q.data _ (HQ.out.later B0.bel) HN.out).mono ?_
  rintro r w1 ⟨a1, c1, rfl, ho1, hb1⟩
  have B1 := B0.later hb1
  have x5 : w1.frozen? ⟨w.heap.size, 5, none⟩ = false := blk_free B1.a 5
  have y5 : w1.cell? ⟨w.heap.size, 5, none⟩ = some (.slice da n dc) := (blk_at B1.a 5).trans rfl
  have HO1 : Hid (w1.ownsRow (w.heap.size + 2) 5 1 (.slice a1 n c1) n (q.data.map bv)) := by
    show World.ownsRow _ _ _ _ _ _ _
    have := ho1
    rwa [size1, size1] at this
  have HB2 : Hid _ := B1.put 5 (.slice a1 n c1) (A' := #[.int .u16 q.fl, .int .u16 q.ty, .int .u64 q.ck, .int .u64 q.off, .int .u64 q.len, .slice a1 n c1]) rfl
  clear B0 B1 ho1 hb1
  go_wp2_with (first | (refine wpList_load_row rfl 44 _ rfl w.heap.size rfl 44 #[.int .u16 q.fl, .int .u16 q.ty, .int .u64 q.ck, .int .u64 q.off, .int .u64 q.len, .slice a1 n c1] (0, 0) _ HB2.out.a Try.underlying44 rfl infoRq ?_) | (refine wpList_store_row rfl 44 _ _ rfl (w.heap.size + 1) #[.int .u16 q.fl, .int .u16 q.ty, .int .u64 q.ck, .int .u64 q.off, .int .u64 q.len, .slice a1 n c1] rfl rfl 44 _ HB2.out.b infoRq rfl (by simp [Value.oneCell']) ?_))
  refine bodyPost_ret (results_cell_one rfl _ _ (w.heap.size + 1) 44 #[.int .u16 q.fl, .int .u16 q.ty, .int .u64 q.ck, .int .u64 q.off, .int .u64 q.len, .slice a1 n c1] (0, 0) _ rfl (setRow_heap _ _ _ _ _ _ HB2.out.b) Try.underlying44 rfl infoRq) rfl ?_
  refine ⟨a1, c1, rfl, ?_, below_row HB2.out.bel (by omega) _⟩
  refine owns_mono (owns_same HO1.out fun g hg => ?_) (b' := w.heap.size) (by omega)
  have := owns_lt HO1.out g hg
  rw [setRow_other _ _ _ _ (by omega), Below.heap_setCell _ _ _ _ (by simp; omega)]
/-- where the entries lie -/
theorem RR.at (h : RR w G p v V S) (k : Nat) (e : En) (he : S.L[k]? = some e) : ∃ g cap, v = .slice (some ⟨g, 0, none⟩) S.L.length cap ∧ S.L.length ≤ cap ∧ cap ≤ maxLen ∧ w.rangeAt g (k * 9) (vcl (V e.id)) ∧ ∃ cur, w.heap[g]? = some (.cells cur TEn (0, 0)) ∧ cur.size = cap * 9 := by
  have hk := (List.getElem?_eq_some_iff.1 he).1
  rcases h.row.2 with ⟨_, h0⟩ | ⟨g, cap, cur, hv, _, hg, h1, h2, h3, _⟩
  · omega
  · subst hv
    exact ⟨g, cap, rfl, h1, h2, own_range _ S.L h.row (fun e he => vcl_len (h.pv e he)) rfl k e he, cur, hg, h3⟩
theorem RR.cells (h : RR w G p v V S) (k : Nat) (e : En) (he : S.L[k]? = some e) : ∃ g cap da dc aa ac, v = .slice (some ⟨g, 0, none⟩) S.L.length cap ∧ S.L.length ≤ cap ∧ cap ≤ 9223372036854775807 ∧ w.rangeAt g (k * 9) (ecl e da dc aa ac) ∧ FRow w G da dc e.rq.data ∧ FRow w G aa ac e.an ∧ V e.id = .agg (ecl e da dc aa ac).toArray ∧ ∃ cur, w.heap[g]? = some (.cells cur TEn (0, 0)) ∧ cur.size = cap * 9 := by
  obtain ⟨g, cap, hv, h1, h2, hr, hc⟩ := h.at k e he
  obtain ⟨da, dc, aa, ac, hV, r1, r2⟩ := (h.pv e (List.mem_of_getElem? he)).ex
  rw [hV] at hr
  unfold maxLen at h2
  exact ⟨g, cap, da, dc, aa, ac, hv, h1, by omega, hr, r1, r2, hV, hc⟩
theorem len_slice (v : Value) {n : Nat} {xs : List Value} (h : w.ownsRow 0 TEn 9 v n xs) : ∃ ao cap, v = .slice ao n cap := owns_form9 h
set_option maxHeartbeats 2000000 in
theorem rfind_any (h : RR w G p v V S) (id : Int) (kk : Nat) (hkk : kk ≤ S.L.length) (hlo : ∀ j e, j < kk → S.L[j]? = some e → e.id ≠ id) (hhi : kk < S.L.length → ∃ e, S.L[kk]? = some e ∧ e.id = id) (res : Int) (hres : res = if kk < S.L.length then (kk : Int) else -1) : Calls Try.prog 45 #[.pointer (some ⟨p, 0, none⟩), .int .i64 id] w fun r w' => r = .returned (.int .i64 res) ∧ w' = w := by
  have hlen : S.L.length ≤ 64 := Nat.le_trans h.ok.len h.ok.m2
  obtain ⟨ao, cap, hv⟩ := owns_form9 h.row
  have hc2 : w.cell? ⟨p, 2, none⟩ = some (.slice ao S.L.length cap) := (h.c 2).trans (by rw [hv]; rfl)
  have HC : Hid (∀ k e, S.L[k]? = some e → ∃ g, ao = some ⟨g, 0, none⟩ ∧ w.cell? ⟨g, k * 9, none⟩ = some (.int .i64 e.id)) := fun k e he => by
    obtain ⟨g, cap', da, dc, aa, ac, hv', _, _, hr, _⟩ := h.cells k e he
    rw [hv] at hv'
    simp only [Value.slice.injEq] at hv'
    exact ⟨g, hv'.1, hr 0 _ rfl⟩
  obtain ⟨n, hn⟩ : ∃ n, S.L.length = n := ⟨_, rfl⟩
  have HN : Hid _ := hn
  rw [hn] at hlen hc2 hkk hhi hres
  have HLo : Hid _ := hlo
  have HHi : Hid _ := hhi
  have HRes : Hid _ := hres
  clear h hn hv hlo hhi hres
  go_enter Try.func45, Try.ntmps45
  go_wp2
  go_loopw [5] (fun i wr => ∃ k : Nat, k ≤ kk ∧ i = .int .i64 (k : Int) ∧ wr = w) (fun i _ => n - (intOf i).toNat)
  case atStart => exact ⟨0, Nat.zero_le _, rfl, rfl⟩
  case round =>
    obtain ⟨k, hk, rfl, rfl⟩ := hrel
    by_cases hlt : k < n
    · obtain ⟨e, he⟩ : ∃ e, S.L[k]? = some e := ⟨_, List.getElem?_eq_getElem (by rw [HN.out]; exact hlt)⟩
      obtain ⟨g, rfl, hce⟩ := HC.out k e he
      have hkz : (k : Int) < (n : Int) := by omega
      by_cases heq : k = kk
      · subst heq
        obtain ⟨e', he', hid⟩ := HHi.out hlt
        rw [he] at he'
        simp only [Option.some.injEq] at he'
        subst he'
        rw [hid] at hce
        have hr : res = (k : Int) := by rw [HRes.out, if_pos hlt]
        clear HRes HHi HLo HC
        go_wp2
        go_ret
        exact ⟨by rw [hr]; rfl, rfl⟩
      · have hne := HLo.out k e (by omega) he
        have hne2 : (e.id == id) = false := by simp [hne]
        have hne3 : decide (e.id = id) = false := by simp [hne]
        go_wp2
        go_roundw
        case rel => exact ⟨k + 1, by omega, by go_num, by first | trivial | rfl⟩
        case measure => simp [intOf]; omega
    · have hr : res = -1 := by rw [HRes.out, if_neg (by omega)]
      obtain rfl : k = n := by omega
      clear HRes HHi HLo HC
      go_wp2
      go_ret
      exact ⟨by rw [hr]; rfl, rfl⟩
theorem rfind_yes (h : RR w G p v V S) (k : Nat) (e : En) (he : S.L[k]? = some e) : Calls Try.prog 45 #[.pointer (some ⟨p, 0, none⟩), .int .i64 e.id] w fun r w' => r = .returned (.int .i64 (k : Int)) ∧ w' = w := by
  have hk := (List.getElem?_eq_some_iff.1 he).1
  refine rfind_any h e.id k (by omega) (fun j e' hj he' hid => ?_) (fun _ => ⟨e, he, rfl⟩) k (by rw [if_pos hk])
  have h1 : (ids S.L)[j]? = some e'.id := ids_at he'
  have h2 : (ids S.L)[k]? = some e.id := ids_at he
  have hr := h.ok.rise
  rw [List.pairwise_iff_getElem] at hr
  have hl : (ids S.L).length = S.L.length := by simp [ids]
  have h3 := hr j k (by omega) (by omega) hj
  rw [List.getElem?_eq_getElem (by omega)] at h1 h2
  simp only [Option.some.injEq] at h1 h2
  omega
theorem rfind_no (h : RR w G p v V S) (id : Int) (hid : id ∉ ids S.L) : Calls Try.prog 45 #[.pointer (some ⟨p, 0, none⟩), .int .i64 id] w fun r w' => r = .returned (.int .i64 (-1)) ∧ w' = w :=
  rfind_any h id S.L.length (Nat.le_refl _) (fun j e _ he e1 => hid (e1 ▸ ids_mem (List.mem_of_getElem? he))) (fun h => by omega) (-1) (by rw [if_neg (by omega)])
end
end Go.Proofs.Ytoabigjajnikcaa
