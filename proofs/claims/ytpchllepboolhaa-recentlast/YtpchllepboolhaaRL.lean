import Derived.Test.YtpchllepboolhaaRH
import Derived.Test.YtpchllepboolhaaRVIA
import Derived.Test.YtpchllepboolhaaRPins
import Derived.Test.YtpchllepboolhaaRBDI
namespace Go.Proofs.Ytpchllepboolhaa.I
open Go.RowKit Go.Maps
attribute [local go_sem] Oper.semAt_some
set_option linter.unusedVariables false
set_option linter.unusedSimpArgs false
set_option maxRecDepth 100000

/-- an order without pins, in memory of one's own -/
def Ho (w W : World) (bo bm g : Nat) (K : List Int) : Prop := ∃ L, RO W bo bm g L ∧ L.map (·.key) = K ∧ (∀ e ∈ L, e.pins = 0) ∧ Below w.heap.size w W ∧ ∀ i ∈ fp bo bm g L, w.heap.size ≤ i
theorem Ho.below {w W : World} {bo bm g : Nat} {K : List Int} (h : Ho w W bo bm g K) : Below w.heap.size w W := by obtain ⟨L, _, _, _, h, _⟩ := h; exact h
theorem Ho.later {w W W' : World} {bo bm g : Nat} {K : List Int} (h : Ho w W bo bm g K) (hb : Below W.heap.size W W') : Ho w W' bo bm g K := by
  obtain ⟨L, h1, h2, h3, h4, h5⟩ := h
  exact ⟨L, h1.later hb, h2, h3, h4.trans (hb.mono h4.size), h5⟩
theorem Ho.act {w W W' : World} {bo bm g : Nat} {L L' : List Ent} (ha : Act W W' bo bm g L L') (hp : ∀ e ∈ L', e.pins = 0) (h4 : Below w.heap.size w W) (h5 : ∀ i ∈ fp bo bm g L, w.heap.size ≤ i) : Ho w W' bo bm g (L'.map (·.key)) := by
  obtain ⟨a1, a2⟩ := ha.below h5 h4.size
  exact ⟨L', ha.ro, rfl, hp, h4.trans a1, a2⟩
theorem map_split {L : List Ent} {K1 K2 : List Int} {u : Int} (h : L.map (·.key) = K1 ++ u :: K2) : ∃ L1 e L2, L = L1 ++ e :: L2 ∧ L1.map (·.key) = K1 ∧ e.key = u ∧ L2.map (·.key) = K2 := by
  rw [List.map_eq_append_iff] at h
  obtain ⟨L1, L3, rfl, h1, h2⟩ := h
  rw [List.map_eq_cons_iff] at h2
  obtain ⟨e, L2, rfl, h3, h4⟩ := h2
  exact ⟨L1, e, L2, rfl, h1, h3, h4⟩
theorem Ho.touch_in {w W : World} {bo bm g : Nat} {K K1 K2 : List Int} {u : Int} (h : Ho w W bo bm g K) (e : K = K1 ++ u :: K2) :
    Calls Try.prog 30 #[.pointer (some ⟨bo, 0, none⟩), .int .i64 u] W fun r W' => r = .returned (.bool true) ∧ Ho w W' bo bm g (K1 ++ K2 ++ [u]) := by
  obtain ⟨L, h1, h2, h3, h4, h5⟩ := h
  rw [e] at h2
  obtain ⟨L1, x, L2, rfl, rfl, rfl, rfl⟩ := map_split h2
  refine (touch_any h1).mono ?_
  rintro r W' ⟨rfl, ha⟩
  have := Ho.act ha (fun y hy => h3 y (perm_mem.1 hy)) h4 h5
  exact ⟨rfl, by simpa using this⟩
theorem Ho.keys {w W : World} {bo bm g : Nat} {L : List Ent} {K : List Int} {u : Int} (h2 : L.map (·.key) = K) (hu : u ∉ K) : ∀ e ∈ L, e.key ≠ u := fun e he hk => hu (by rw [← h2, ← hk]; exact List.mem_map.2 ⟨e, he, rfl⟩)
theorem Ho.touch_out {w W : World} {bo bm g : Nat} {K : List Int} {u : Int} (h : Ho w W bo bm g K) (hu : u ∉ K) (hw : wfK u) :
    Calls Try.prog 30 #[.pointer (some ⟨bo, 0, none⟩), .int .i64 u] W fun r W' => r = .returned (.bool false) ∧ W' = W := by
  obtain ⟨L, h1, h2, h3, h4, h5⟩ := h
  exact touch_no h1 hw (Ho.keys (w := w) (W := W) (bo := bo) (bm := bm) (g := g) h2 hu)
theorem Ho.len {w W : World} {bo bm g : Nat} {K : List Int} (h : Ho w W bo bm g K) :
    Calls Try.prog 31 #[.pointer (some ⟨bo, 0, none⟩)] W fun r W' => r = .returned (.int .i64 K.length) ∧ W' = W := by
  obtain ⟨L, h1, h2, h3, h4, h5⟩ := h
  have := len_any h1
  rw [← h2, List.length_map]; exact this
theorem Ho.oldest {w W : World} {bo bm g : Nat} {k : Int} {K : List Int} (h : Ho w W bo bm g (k :: K)) :
    Calls Try.prog 32 #[.pointer (some ⟨bo, 0, none⟩)] W fun r W' => r = .returned (.tuple #[.int .i64 k, .bool true]) ∧ Ho w W' bo bm g (k :: K) := by
  have h0 := h
  obtain ⟨L, h1, h2, h3, h4, h5⟩ := h
  refine (oldest_any h1).mono ?_
  rintro r W' ⟨rfl, hb⟩
  refine ⟨?_, h0.later hb⟩
  rw [List.map_eq_cons_iff] at h2
  obtain ⟨e, L2, rfl, rfl, rfl⟩ := h2
  have := h3 e (by simp)
  simp [I.oldest, this]
theorem Ho.drop {w W : World} {bo bm g : Nat} {k : Int} {K : List Int} (h : Ho w W bo bm g (k :: K)) :
    Calls Try.prog 33 #[.pointer (some ⟨bo, 0, none⟩), .int .i64 k] W fun r W' => r = .returned (.bool true) ∧ Ho w W' bo bm g K := by
  obtain ⟨L, h1, h2, h3, h4, h5⟩ := h
  rw [List.map_eq_cons_iff] at h2
  obtain ⟨e, L2, rfl, rfl, rfl⟩ := h2
  refine (drop_any (L1 := []) h1).mono ?_
  rintro r W' ⟨rfl, ha⟩
  exact ⟨rfl, Ho.act ha (fun y hy => h3 y (List.mem_cons_of_mem _ hy)) h4 h5⟩
theorem Ho.add {w W : World} {bo bm g : Nat} {K : List Int} {u : Int} (h : Ho w W bo bm g K) (hu : u ∉ K) (hw : wfK u) (hl : K.length < maxLen) :
    Calls Try.prog 34 #[.pointer (some ⟨bo, 0, none⟩), .int .i64 u] W fun r W' => r = .returned (.bool true) ∧ Ho w W' bo bm g (K ++ [u]) := by
  obtain ⟨L, h1, h2, h3, h4, h5⟩ := h
  refine (add_new h1 hw (Ho.keys (w := w) (W := W) (bo := bo) (bm := bm) (g := g) h2 hu) (by rw [← h2, List.length_map] at hl; exact hl)).mono ?_
  rintro r W' ⟨rfl, p, ha⟩
  have := Ho.act ha (fun y hy => by
    rcases List.mem_append.1 hy with hy | hy
    · exact h3 y hy
    · simp at hy; subst hy; rfl) h4 h5
  exact ⟨rfl, by rw [← h2]; simpa using this⟩
theorem Ho.all {w W : World} {bo bm g : Nat} {K : List Int} (h : Ho w W bo bm g K) (hl : K.length * 8 ≤ 140737488355328) :
    Calls Try.prog 36 #[.pointer (some ⟨bo, 0, none⟩)] W fun r W' => ∃ v, r = .returned v ∧ W'.ownsRow W.heap.size TIn 1 v K.length (iv K) ∧ Below W.heap.size W W' := by
  obtain ⟨L, h1, h2, h3, h4, h5⟩ := h
  have e : A.picked L = K := by
    unfold A.picked
    have e1 : L.filter A.sel = L := List.filter_eq_self.2 (fun x _ => rfl)
    rw [← h2, e1]
  have := A.law_any h1 (by rw [← h2, List.length_map] at hl; exact hl)
  rw [e] at this
  exact this

set_option maxHeartbeats 8000000 in
theorem lawLast_any (n : Int) (ao : Option Addr) (c m : Nat) (us : List Int) (w : World) (hn0 : -9223372036854775808 ≤ n) (hn2 : n ≤ 9223372036854775807) (HM : Hid (m = us.length)) (hl : m ≤ 17592186044416) (HU : Hid (IRow w ao us)) (HW : Hid (∀ u ∈ us, wfK u)) :
    Calls Try.prog 5 #[.int .i64 n, .slice ao m c] w fun e w' => e = .returned (.bool true) ∧ Below w.heap.size w w' := by
  by_cases hn1 : n < 1
  · go_enter Try.func5, Try.ntmps5
    go_wp2_with (first | (go_at_call 9; refine (new_any _).mono ?_; rintro e w0 ⟨bo, bm, g, rfl, h0, hb0, hf0⟩) | (go_at_call 12; refine (S.alive_any _).mono ?_; rintro e w1 ⟨rfl, hb1⟩))
    go_ret
    exact ⟨rfl, hb0.trans (hb1.mono hb0.size)⟩
  · have hn1' : 1 ≤ n := by omega
    go_enter Try.func5, Try.ntmps5
    go_wp2_with (go_at_call 9; refine (new_any _).mono ?_; rintro e w0 ⟨bo, bm, g, rfl, h0, hb0, hf0⟩; have H0 : Hid (Ho w w0 bo bm g []) := ⟨[], h0, rfl, by simp, hb0, hf0⟩; clear h0 hb0 hf0)
    go_loopw [6] (fun i wr => ∃ (k : Nat), k ≤ m ∧ i = .int .i64 k ∧ Hid (Ho w wr bo bm g (held n.toNat (us.take k)))) (fun i _ => m - (intOf i).toNat)
    case atStart => exact ⟨0, Nat.zero_le _, rfl, by rw [List.take_zero, held_nil]; exact H0⟩
    case round =>
      obtain ⟨k, hk, rfl, HK⟩ := hrel
      by_cases hlt : k < m
      · obtain ⟨u, hu⟩ : ∃ u, us[k]? = some u := ⟨_, List.getElem?_eq_getElem (by have := HM.out; omega)⟩
        have HT : Hid (us.take (k + 1) = us.take k ++ [u]) := take_snoc hu
        obtain ⟨b, off, rfl, hcu⟩ := HU.out.c _ _ hu
        have hwf : Hid (wfK u) := HW.out u (List.mem_of_getElem? hu)
        have HC : Hid (∀ W, Below w.heap.size w W → W.cell? ⟨b, off + k, none⟩ = some (.int .i64 u)) := fun W hW => cell_later hW hcu
        have hcr := HC.out wr HK.out.below
        have d1 : (k : Int) < (m : Int) := by omega
        have hkl : Hid ((held n.toNat (us.take k)).length ≤ n.toNat ∧ (held n.toNat (us.take k)).length ≤ k) := ⟨held_length _ _, by have := held_length2 n.toNat (us.take k); rw [List.length_take] at this; omega⟩
        clear hcu hu
        by_cases hin : u ∈ held n.toNat (us.take k)
        · obtain ⟨K1, K2, hK⟩ := List.append_of_mem hin
          have HN : Hid (held n.toNat (us.take (k + 1)) = K1 ++ K2 ++ [u]) := by show _ = _; rw [HT.out]; exact held_in hK
          have htc := HK.out.touch_in hK
          have hlen : Hid (((K1 ++ K2 ++ [u]).length : Int) ≤ n) := by
            have h1 := held_length n.toNat (us.take (k + 1))
            rw [HN.out] at h1; show _ ≤ _; omega
          clear hin hK
          go_wp2_with (first | (go_at_call 30; refine htc.mono ?_; rintro e w1 ⟨rfl, h1⟩; have hln := h1.len; have hle := hlen.out; have H1 : Hid (Ho w w1 bo bm g (K1 ++ K2 ++ [u])) := h1; clear h1; generalize (K1 ++ K2 ++ [u]).length = kl at hln hle) | (go_at_call 31; refine hln.mono ?_; rintro e w9 ⟨rfl, hw9⟩; rw [hw9]; clear hw9))
          go_roundw
          case rel => exact ⟨k + 1, by omega, by go_num, by rw [HN.out]; exact H1⟩
          case measure => simp [intOf]; omega
        · have htc := HK.out.touch_out hin hwf.out
          have hln := HK.out.len
          have HI : Hid (u ∉ held n.toNat (us.take k)) := hin
          clear hin
          by_cases hfull : (held n.toNat (us.take k)).length < n.toNat
          · have HN : Hid (held n.toNat (us.take (k + 1)) = held n.toNat (us.take k) ++ [u]) := by show _ = _; rw [HT.out]; exact held_room HI.out hfull
            have hadd := HK.out.add HI.out hwf.out (by have := hkl.out; unfold maxLen; omega)
            have hlen : Hid ((((held n.toNat (us.take k)) ++ [u]).length : Int) ≤ n) := by
              have h1 := held_length n.toNat (us.take (k + 1))
              rw [HN.out] at h1; show _ ≤ _; omega
            have hlo : ((held n.toNat (us.take k)).length : Int) < n := by omega
            clear hfull
            generalize held n.toNat (us.take k) = K at *
            generalize hkle : K.length = kl at hln hlo
            clear hkle
            go_wp2_with (first | (go_at_call 30; refine htc.mono ?_; rintro e w9 ⟨rfl, hw9⟩; rw [hw9]; clear hw9) | (go_at_call 31; refine hln.mono ?_; rintro e w9 ⟨rfl, hw9⟩; rw [hw9]; clear hw9) | (go_at_call 34; refine hadd.mono ?_; clear hln; rintro e w1 ⟨rfl, h1⟩; have hln := h1.len; have hle := hlen.out; have H1 : Hid (Ho w w1 bo bm g (K ++ [u])) := h1; clear h1; generalize (K ++ [u]).length = kl2 at hln hle))
            go_roundw
            case rel => exact ⟨k + 1, by omega, by go_num, by rw [HN.out]; exact H1⟩
            case measure => simp [intOf]; omega
          · obtain ⟨k0, K, hK⟩ : ∃ k0 K, held n.toNat (us.take k) = k0 :: K := by
              cases e : held n.toNat (us.take k) with
              | nil => rw [e] at hfull; simp at hfull; omega
              | cons a l => exact ⟨a, l, rfl⟩
            have HN : Hid (held n.toNat (us.take (k + 1)) = K ++ [u]) := by show _ = _; rw [HT.out]; exact held_full HI.out (by omega) hK
            have hlo : n ≤ ((held n.toNat (us.take k)).length : Int) := by omega
            have hlen : Hid (((K ++ [u]).length : Int) ≤ n) := by
              have h1 := held_length n.toNat (us.take (k + 1))
              rw [HN.out] at h1; show _ ≤ _; omega
            rw [hK] at HK HI hln hlo hkl
            have hold := HK.out.oldest
            have HI2 : Hid (u ∉ K) := fun e => HI.out (by simp [e])
            have HL2 : Hid (K.length < maxLen) := by have := hkl.out; simp at this; show _ < _; unfold maxLen; omega
            clear hfull hK hkl
            generalize hkle : (k0 :: K).length = kl at hln hlo
            clear hkle
            go_wp2_with (first | (go_at_call 30; refine htc.mono ?_; rintro e w9 ⟨rfl, hw9⟩; rw [hw9]; clear hw9) | (go_at_call 31; refine hln.mono ?_; rintro e w9 ⟨rfl, hw9⟩; rw [hw9]; clear hw9) | (go_at_call 32; refine hold.mono ?_; rintro e w1 ⟨rfl, h1⟩; have hdr := h1.drop; clear h1) | (go_at_call 33; refine hdr.mono ?_; rintro e w2 ⟨rfl, h2⟩; have hadd := h2.add HI2.out hwf.out HL2.out; have hc2 := HC.out w2 h2.below; clear h2) | (go_at_call 34; refine hadd.mono ?_; clear hln; rintro e w3 ⟨rfl, h1⟩; have hln := h1.len; have hle := hlen.out; have H1 : Hid (Ho w w3 bo bm g (K ++ [u])) := h1; clear h1; generalize (K ++ [u]).length = kl2 at hln hle))
            go_roundw
            case rel => exact ⟨k + 1, by omega, by go_num, by rw [HN.out]; exact H1⟩
            case measure => simp [intOf]; omega
      · have e : k = m := by omega
        subst e
        have HT : Hid (us.take k = us) := by rw [HM.out]; exact List.take_length
        rw [HT.out] at HK
        have hb := HK.out.below
        have hll : (held n.toNat us).length ≤ k := by have := held_length2 n.toNat us; have := HM.out; omega
        have hall := HK.out.all (by omega)
        have HHe : Hid (∀ W, Below w.heap.size w W → Calls Try.prog 37 #[.int .i64 n, .slice ao k c] W fun e w' => ∃ v, e = .returned v ∧ w'.ownsRow W.heap.size TIn 1 v (held n.toNat us).length (iv (held n.toNat us)) ∧ Below W.heap.size W w') := fun W hW => held_any n ao c k us W hn1' hn2 HM hl (HU.out.later hW)
        have HB : Hid (Below w.heap.size w wr) := hb
        have HSa : Hid (∀ (W : World) (a1 a2 : Option Addr) (c1 c2 : Nat), IRow W a1 (held n.toNat us) → IRow W a2 (held n.toNat us) → Calls Try.prog 35 #[.slice a1 (held n.toNat us).length c1, .slice a2 (held n.toNat us).length c2] W fun e w' => e = .returned (.bool true) ∧ ∃ q, w' = W.drewN q) := fun W a1 a2 c1 c2 h1 h2 => by
          have := same_any a1 a2 c1 c2 _ _ W (by omega) (by omega) h1 h2
          simpa using this
        clear hb hll HK HT hlt
        generalize held n.toNat us = K at *
        go_wp2_with (first | (go_at_call 36; refine hall.mono ?_; rintro e w1 ⟨v1, rfl, ho1, hb1⟩; obtain ⟨a1, c1, rfl, hi1⟩ := irow_of ho1; have HB1 : Hid (Below w.heap.size w w1) := HB.out.trans (hb1.mono HB.out.size); have hhe := HHe.out w1 HB1.out; clear ho1 hb1) | (go_at_call 37; refine hhe.mono ?_; rintro e w2 ⟨v2, rfl, ho2, hb2⟩; obtain ⟨a2, c2, rfl, hi2⟩ := irow_of ho2; have HB2 : Hid (Below w.heap.size w w2) := HB1.out.trans (hb2.mono HB1.out.size); have hsa := HSa.out w2 a1 a2 c1 c2 (hi1.later hb2) hi2; clear ho2 hb2) | (go_at_call 35; refine hsa.mono ?_; rintro e w3 ⟨rfl, q, rfl⟩) | (go_at_call 12; refine (S.alive_any _).mono ?_; rintro e w4 ⟨rfl, hb4⟩))
        go_ret
        have hbq := (below_drewN w2 q).mono HB2.out.size
        exact ⟨rfl, (HB2.out.trans hbq).trans (hb4.mono (HB2.out.trans hbq).size)⟩
end Go.Proofs.Ytpchllepboolhaa.I
