import Derived.Test.YtfifaaopdhcaaaaGreatDoorY28
import Derived.Test.YtfifaaopdhcaaaaGreatDoorY29
import Derived.Test.YtfifaaopdhcaaaaGreatDoorY40
import Derived.Test.YtfifaaopdhcaaaaGreatDoorY35
import Derived.Test.YtfifaaopdhcaaaaGreatDoorY36
namespace Go.Proofs.YtfifaaopdhcaaaaGreatDoor
open Go.RowKit
set_option linter.unusedVariables false
set_option linter.unusedSimpArgs false
set_option maxRecDepth 100000
theorem both_hole (l : List Nat) (hl : ∀ x ∈ l, x < 256) (hs : l.length ≤ 1048576) : ∃ (o k er : Nat), 
    (∀ W ao cap n, BRow W ao cap l → l.length = n → Calls Tryz.prog 27 #[.slice ao n cap] W fun e w' => e = .returned (.tuple #[.agg #[.int .u64 (o : Int), .int .u32 (k : Int)], .int .i64 (er : Int)]) ∧ Below W.heap.size W w') ∧
    (∀ W ao cap n, CRow W ao cap l → l.length = n → Calls Tryz.prog 28 #[.slice ao n cap] W fun e w' => e = .returned (.tuple #[.agg #[.int .u64 (o : Int), .int .u32 (k : Int)], .int .i64 (er : Int)]) ∧ Below W.heap.size W w') := by
  by_cases h12 : l.length = 12
  · refine ⟨rvV l 0 8, rvV l (raA l 0 8) 4, 0, fun W ao cap n h hn => unpackHole_ok ao cap n l W h hn h12, fun W ao cap n h hn => ?_⟩
    obtain ⟨b, off, rfl⟩ := h.some (by omega)
    obtain rfl : n = 12 := hn.symm.trans h12
    rw [ra_t (show 0 + 8 ≤ l.length by omega), rv_t (show 0 + 8 ≤ l.length by omega), rv_t (show 0 + 8 + 4 ≤ l.length by omega)]
    exact rHoleU_ok b off cap l W h hn
  · exact ⟨0, 0, 81, fun W ao cap n h hn => unpackHole_no ao cap n l W h hn h12, fun W ao cap n h hn => rHoleU_no ao cap n W (by omega)⟩
theorem both_meta (l : List Nat) (hl : ∀ x ∈ l, x < 256) (hs : l.length ≤ 1048576) : ∃ (c : Nat) (s : ByteArray) (er : Nat), 
    (∀ W ao cap n, BRow W ao cap l → l.length = n → Tabs W → Calls Tryz.prog 15 #[.slice ao n cap] W fun e w' => e = .returned (.tuple #[.agg #[.int .u32 (c : Int), .string s], .int .i64 (er : Int)]) ∧ Below W.heap.size W w') ∧
    (∀ W ao cap n, CRow W ao cap l → l.length = n → Calls Tryz.prog 16 #[.slice ao n cap] W fun e w' => e = .returned (.tuple #[.agg #[.int .u32 (c : Int), .string s], .int .i64 (er : Int)]) ∧ Below W.heap.size W w') := by
  by_cases h4 : 4 ≤ l.length
  · cases ht : tx (bstr (l.drop 4)) with
    | true =>
      refine ⟨valB (l.take 4), bstr (l.drop 4), 0, fun W ao cap n h hn hT => ?_, fun W ao cap n h hn => ?_⟩
      · have h1 := unpackMeta_ok ao cap n l W h hn hT (mt_ok h4 ht)
        rw [ra_t (show 0 + 4 ≤ l.length by omega), Nat.zero_add, rr_rest h4, rv_t (show 0 + 4 ≤ l.length by omega)] at h1
        exact h1
      · obtain ⟨b, off, rfl⟩ := h.some (by omega)
        exact rMetaU_ok b off cap n l W h hn (by omega) (by omega) _ rfl ht _ rfl
    | false =>
      refine ⟨0, ⟨#[]⟩, 81, fun W ao cap n h hn hT => unpackMeta_no ao cap n l W h hn hT (mt_bad h4 ht), fun W ao cap n h hn => ?_⟩
      obtain ⟨b, off, rfl⟩ := h.some (by omega)
      exact rMetaU_bad b off cap n l W h hn (by omega) (by omega) _ rfl ht
  · exact ⟨0, ⟨#[]⟩, 81, fun W ao cap n h hn hT => unpackMeta_no ao cap n l W h hn hT (mt_short (by omega)), fun W ao cap n h hn => rMetaU_short ao cap n W (by omega)⟩
theorem both_server (l : List Nat) (hl : ∀ x ∈ l, x < 256) (hs : l.length ≤ 1048576) : ∃ (s : ByteArray) (m : List Nat) (er dn : Nat), m.length = dn ∧ 
    (∀ W ao cap n, BRow W ao cap l → l.length = n → Tabs W → Calls Tryz.prog 17 #[.slice ao n cap] W fun e w' => ∃ da dc, e = .returned (.tuple #[.agg #[.string s, .slice da dn dc], .int .i64 (er : Int)]) ∧ BRow w' da dc m ∧ Below W.heap.size W w') ∧
    (∀ W ao cap n, CRow W ao cap l → l.length = n → Calls Tryz.prog 18 #[.slice ao n cap] W fun e w' => ∃ da dc, e = .returned (.tuple #[.agg #[.string s, .slice da dn dc], .int .i64 (er : Int)]) ∧ BRow w' da dc m ∧ Below W.heap.size W w') := by
  cases ht : okT l 0 with
  | true =>
    have hT0 : taA l 0 ≤ l.length := taA_le (Nat.zero_le _)
    refine ⟨tvS l 0, l.drop (taA l 0), 0, l.length - taA l 0, List.length_drop, fun W ao cap n h hn hT => ?_, fun W ao cap n h hn => ?_⟩
    · refine Calls.mono (unpackServer_ok ao cap n l W h hn hT (sv_ok ht)) ?_
      rintro e w' ⟨da, dc, n', rfl, hn', hr⟩
      rw [rr_rest hT0] at hn' hr
      rw [List.length_drop] at hn'
      subst hn'
      exact ⟨da, dc, rfl, hr.brow (by rw [List.length_drop]; omega), hr.bel⟩
    · subst hn
      exact rServerU_ok ao cap _ l W h rfl hs ht
  | false =>
    refine ⟨⟨#[]⟩, [], 81, 0, rfl, fun W ao cap n h hn hT => ?_, fun W ao cap n h hn => ?_⟩
    · refine Calls.mono (unpackServer_no ao cap n l W h hn hT (sv_no ht)) ?_
      rintro e w' ⟨rfl, hb⟩
      exact ⟨none, 0, rfl, brow_nil' _, hb⟩
    · refine Calls.mono (rServerU_no ao cap n l W h hn (by omega) ht) ?_
      rintro e w' ⟨rfl, hb⟩
      exact ⟨none, 0, rfl, brow_nil' _, hb⟩
theorem both_data (l : List Nat) (hl : ∀ x ∈ l, x < 256) (hs : l.length ≤ 1048576) : ∃ (o : Nat) (m : List Nat) (er dn : Nat), m.length = dn ∧ 
    (∀ W ao cap n, BRow W ao cap l → l.length = n → Calls Tryz.prog 25 #[.slice ao n cap] W fun e w' => ∃ da dc, e = .returned (.tuple #[.agg #[.int .u64 (o : Int), .slice da dn dc], .int .i64 (er : Int)]) ∧ BRow w' da dc m ∧ Below W.heap.size W w') ∧
    (∀ W ao cap n, CRow W ao cap l → l.length = n → Calls Tryz.prog 26 #[.slice ao n cap] W fun e w' => ∃ da dc, e = .returned (.tuple #[.agg #[.int .u64 (o : Int), .slice da dn dc], .int .i64 (er : Int)]) ∧ BRow w' da dc m ∧ Below W.heap.size W w') := by
  by_cases h9 : 9 ≤ l.length
  · refine ⟨valB (l.take 8), l.drop 8, 0, l.length - 8, List.length_drop, fun W ao cap n h hn => ?_, fun W ao cap n h hn => ?_⟩
    · refine Calls.mono (unpackData_ok ao cap n l W h hn h9) ?_
      rintro e w' ⟨da, dc, n', rfl, hn', hr⟩
      rw [ra_t (show 0 + 8 ≤ l.length by omega), Nat.zero_add, rr_rest (by omega)] at hn' hr
      rw [List.length_drop] at hn'
      subst hn'
      rw [rv_t (show 0 + 8 ≤ l.length by omega)]
      exact ⟨da, dc, rfl, hr.brow (by rw [List.length_drop]; omega), hr.bel⟩
    · obtain ⟨b, off, rfl⟩ := h.some (by omega)
      subst hn
      exact rDataU_ok b off cap _ l W h rfl hs h9 _ rfl
  · refine ⟨0, [], 81, 0, rfl, fun W ao cap n h hn => ?_, fun W ao cap n h hn => ?_⟩
    · refine Calls.mono (unpackData_no ao cap n l W h hn (by omega)) ?_
      rintro e w' ⟨rfl, hb⟩
      exact ⟨none, 0, rfl, brow_nil' _, hb⟩
    · refine Calls.mono (rDataU_no ao cap n W (by omega)) ?_
      rintro e w' ⟨rfl, hb⟩
      exact ⟨none, 0, rfl, brow_nil' _, hb⟩
end Go.Proofs.YtfifaaopdhcaaaaGreatDoor

namespace Go.Proofs.YtfifaaopdhcaaaaGreatDoor
open Go.RowKit
set_option linter.unusedVariables false
set_option linter.unusedSimpArgs false
set_option maxRecDepth 100000
theorem tV_lenU (l : List Nat) (a : Nat) : ∀ k, (tV l a k).length = k
  | 0 => rfl
  | k + 1 => by show (tV l a k ++ _).length = _; simp [tV_lenU l a k]
theorem tE_or (l : List Nat) (a : Nat) : ∀ k, tE l a 0 k = 0 ∨ tE l a 0 k = 81
  | 0 => .inl rfl
  | k + 1 => ndE_01 _ (tE_or l a k)
theorem hm_of {l : List Nat} {ao : Option Addr} {cap n : Nat} {w : World} (h : CRow w ao cap l) (hn : l.length = n) (hs : l.length ≤ 1048576) (ht : okT l 0 = true) : Hid (∀ W, Below w.heap.size w W → Calls Tryz.prog 46 #[.slice ao n cap] W fun e w' => ∃ ar, e = .returned (.tuple #[.string (tvS l 0), .slice ar (n - taA l 0) (cap - taA l 0), .bool true]) ∧ CRow w' ar (cap - taA l 0) (l.drop (taA l 0)) ∧ Below W.heap.size W w') := fun W hb => rnamed_yes ao cap n l W (h.later hb) hn (by omega) ht
theorem both_ask (l : List Nat) (hl : ∀ x ∈ l, x < 256) (hs : l.length ≤ 1048576) : ∃ (s : ByteArray) (ks : List Nat) (er dn : Nat), (ks.length = dn ∧ dn ≤ 64) ∧ 
    (∀ W ao cap n, BRow W ao cap l → l.length = n → Tabs W → Calls Tryz.prog 9 #[.slice ao n cap] W fun e w' => ∃ da dc, e = .returned (.tuple #[.agg #[.string s, .slice da dn dc], .int .i64 (er : Int)]) ∧ U16s w' da ks ∧ Below W.heap.size W w') ∧
    (∀ W ao cap n, CRow W ao cap l → l.length = n → Calls Tryz.prog 10 #[.slice ao n cap] W fun e w' => ∃ da dc, e = .returned (.tuple #[.agg #[.string s, .slice da dn dc], .int .i64 (er : Int)]) ∧ U16s w' da ks ∧ Below W.heap.size W w') := by
  cases ht : okT l 0 with
  | true =>
    have hT0 : taA l 0 ≤ l.length := taA_le (Nat.zero_le _)
    have hdl : (l.drop (taA l 0)).length = l.length - taA l 0 := List.length_drop
    by_cases h2 : taA l 0 + 2 ≤ l.length
    · obtain ⟨v, hv⟩ : ∃ v, valB ((l.drop (taA l 0)).take 2) = v := ⟨_, rfl⟩
      have hvb : v < 65536 := by rw [← hv]; exact val_lt hl _ 2 _ (by decide)
      by_cases h64 : v ≤ 64
      · by_cases h4 : l.length = taA l 0 + 2 + 2 * v
        · have hc := u_cnt ht h2 hv h64
          have hk : uVal l = kU (l.drop (taA l 0)) v := hc.2.2.trans (kU_uV v (by omega))
          refine ⟨tvS l 0, kU (l.drop (taA l 0)) v, 0, v, ⟨kU_len _ _, h64⟩, fun W ao cap n h hn hT => ?_, fun W ao cap n h hn => ?_⟩
          · refine Calls.mono (unpackAsk_ok ao cap n l W h hn hT (u_okay ht h2 hv h64 h4)) ?_
            rintro e w' ⟨ia, ic, rfl, hr, hb⟩
            rw [hc.1]
            rw [hk] at hr
            exact ⟨ia, ic, rfl, hr, hb⟩
          · have hm := hm_of h hn hs ht
            rw [show n - taA l 0 = 2 + 2 * v by omega] at hm
            exact rAskU_ok ao cap n W (tvS l 0) _ v (l.drop (taA l 0)) hm (show _ = _ by rw [hdl]; omega) hv h64 (fun x hx => hl x (List.mem_of_mem_drop hx))
        · refine ⟨⟨#[]⟩, [], 81, 0, ⟨rfl, by decide⟩, fun W ao cap n h hn hT => ?_, fun W ao cap n h hn => ?_⟩
          · refine Calls.mono (unpackAsk_no ao cap n l W h hn hT 81 (by decide) (u_form ht h2 hv h64 h4)) ?_
            rintro e w' ⟨rfl, hb⟩
            exact ⟨none, 0, rfl, ⟨by simp, fun h => absurd rfl h⟩, hb⟩
          · refine Calls.mono (rAskU_form ao cap n W (tvS l 0) _ _ v (l.drop (taA l 0)) (hm_of h hn hs ht) (show _ = _ by rw [hdl, hn]) (by omega) (by omega) hv h64 (by omega)) ?_
            rintro e w' ⟨rfl, hb⟩
            exact ⟨none, 0, rfl, ⟨by simp, fun h => absurd rfl h⟩, hb⟩
      · refine ⟨⟨#[]⟩, [], 170, 0, ⟨rfl, by decide⟩, fun W ao cap n h hn hT => ?_, fun W ao cap n h hn => ?_⟩
        · refine Calls.mono (unpackAsk_no ao cap n l W h hn hT 170 (by decide) (u_many ht h2 (by omega))) ?_
          rintro e w' ⟨rfl, hb⟩
          exact ⟨none, 0, rfl, ⟨by simp, fun h => absurd rfl h⟩, hb⟩
        · refine Calls.mono (rAskU_many ao cap n W (tvS l 0) _ _ v (l.drop (taA l 0)) (hm_of h hn hs ht) (show _ = _ by rw [hdl, hn]) (by omega) (by omega) hv (by omega) hvb) ?_
          rintro e w' ⟨rfl, hb⟩
          exact ⟨none, 0, rfl, ⟨by simp, fun h => absurd rfl h⟩, hb⟩
    · refine ⟨⟨#[]⟩, [], 81, 0, ⟨rfl, by decide⟩, fun W ao cap n h hn hT => ?_, fun W ao cap n h hn => ?_⟩
      · refine Calls.mono (unpackAsk_no ao cap n l W h hn hT 81 (by decide) (u_short ht (by omega))) ?_
        rintro e w' ⟨rfl, hb⟩
        exact ⟨none, 0, rfl, ⟨by simp, fun h => absurd rfl h⟩, hb⟩
      · refine Calls.mono (rAskU_short ao cap n W (tvS l 0) _ _ (l.drop (taA l 0)) (hm_of h hn hs ht) (by omega)) ?_
        rintro e w' ⟨rfl, hb⟩
        exact ⟨none, 0, rfl, ⟨by simp, fun h => absurd rfl h⟩, hb⟩
  | false =>
    refine ⟨⟨#[]⟩, [], 81, 0, ⟨rfl, by decide⟩, fun W ao cap n h hn hT => ?_, fun W ao cap n h hn => ?_⟩
    · refine Calls.mono (unpackAsk_no ao cap n l W h hn hT 81 (by decide) (u_noT ht)) ?_
      rintro e w' ⟨rfl, hb⟩
      exact ⟨none, 0, rfl, ⟨by simp, fun h => absurd rfl h⟩, hb⟩
    · refine Calls.mono (rAskU_noT ao cap n l W h hn (by omega) ht) ?_
      rintro e w' ⟨rfl, hb⟩
      exact ⟨none, 0, rfl, ⟨by simp, fun h => absurd rfl h⟩, hb⟩
theorem both_metas (l : List Nat) (hl : ∀ x ∈ l, x < 256) (hs : l.length ≤ 1048576) : ∃ (s : ByteArray) (qs : List ByteArray) (er dn : Nat), (qs.length = dn ∧ dn ≤ 16) ∧ 
    (∀ W ao cap n, BRow W ao cap l → l.length = n → Tabs W → Calls Tryz.prog 12 #[.slice ao n cap] W fun e w' => ∃ da dc, e = .returned (.tuple #[.agg #[.string s, .slice da dn dc], .int .i64 (er : Int)]) ∧ Strs w' da qs ∧ Below W.heap.size W w') ∧
    (∀ W ao cap n, CRow W ao cap l → l.length = n → Calls Tryz.prog 13 #[.slice ao n cap] W fun e w' => ∃ da dc, e = .returned (.tuple #[.agg #[.string s, .slice da dn dc], .int .i64 (er : Int)]) ∧ Strs w' da qs ∧ Below W.heap.size W w') := by
  cases ht : okT l 0 with
  | true =>
    have hT0 : taA l 0 ≤ l.length := taA_le (Nat.zero_le _)
    have hdl : (l.drop (taA l 0)).length = l.length - taA l 0 := List.length_drop
    by_cases h2 : taA l 0 + 4 ≤ l.length
    · obtain ⟨v, hv⟩ : ∃ v, valB ((l.drop (taA l 0)).take 4) = v := ⟨_, rfl⟩
      have hvb : v < 4294967296 := by rw [← hv]; exact val_lt hl _ 4 _ (by decide)
      by_cases h16 : v ≤ 16
      · have hc := t_cnt ht h2 hv h16
        have hlp : ∀ W ao cap n, CRow W ao cap l → l.length = n → _ := fun W ao cap n h hn => rMetasU_loop ao cap n W (tvS l 0) (n - taA l 0) (cap - taA l 0) v (taA l 0 + 4) l (l.drop (taA l 0)) (hm_of h hn hs ht) (show _ = _ by rw [hdl, hn]) (by omega) (by omega) hv h16 (show _ = _ by rw [List.drop_drop]) h2 hs
        by_cases hok : tE l (taA l 0 + 4) 0 v = 0 ∧ tA l (taA l 0 + 4) v = l.length
        · have hF : tFin l = 0 := by rw [hc.2.1, hok.1, decide_eq_true hok.2]; rfl
          refine ⟨tvS l 0, tV l (taA l 0 + 4) v, 0, v, ⟨tV_lenU _ _ _, h16⟩, fun W ao cap n h hn hT => ?_, fun W ao cap n h hn => ?_⟩
          · refine Calls.mono (unpackMetas_ok ao cap n l W h hn hT hF) ?_
            rintro e w' ⟨ia, ic, rfl, hr, hb⟩
            rw [hc.1]
            rw [hc.2.2] at hr
            exact ⟨ia, ic, rfl, hr, hb⟩
          · refine Calls.mono (hlp W ao cap n h hn) ?_
            rintro e w' ⟨hb, h9 | h9⟩
            · obtain ⟨_, _, ia, ic, rfl, hr⟩ := h9
              exact ⟨ia, ic, rfl, hr, hb⟩
            · rw [hok.1, decide_eq_true hok.2] at h9
              exact absurd h9.1 (by decide)
        · have hF : tFin l = 81 := by
            rw [hc.2.1]
            rcases tE_or l (taA l 0 + 4) v with h5 | h5
            · rw [h5, decide_eq_false (fun e => hok ⟨h5, e⟩)]; rfl
            · rw [h5, nd_81]
          refine ⟨⟨#[]⟩, [], 81, 0, ⟨rfl, by decide⟩, fun W ao cap n h hn hT => ?_, fun W ao cap n h hn => ?_⟩
          · refine Calls.mono (unpackMetas_no ao cap n l W h hn hT 81 (by decide) hF) ?_
            rintro e w' ⟨rfl, hb⟩
            exact ⟨none, 0, rfl, ⟨by simp, fun h => absurd rfl h⟩, hb⟩
          · refine Calls.mono (hlp W ao cap n h hn) ?_
            rintro e w' ⟨hb, h9 | h9⟩
            · exact absurd ⟨h9.1, h9.2.1⟩ hok
            · obtain ⟨_, rfl⟩ := h9
              exact ⟨none, 0, rfl, ⟨by simp, fun h => absurd rfl h⟩, hb⟩
      · refine ⟨⟨#[]⟩, [], 170, 0, ⟨rfl, by decide⟩, fun W ao cap n h hn hT => ?_, fun W ao cap n h hn => ?_⟩
        · refine Calls.mono (unpackMetas_no ao cap n l W h hn hT 170 (by decide) (t_many ht h2 (by omega))) ?_
          rintro e w' ⟨rfl, hb⟩
          exact ⟨none, 0, rfl, ⟨by simp, fun h => absurd rfl h⟩, hb⟩
        · refine Calls.mono (rMetasU_many ao cap n W (tvS l 0) _ _ v (l.drop (taA l 0)) (hm_of h hn hs ht) (show _ = _ by rw [hdl, hn]) (by omega) (by omega) hv (by omega) hvb) ?_
          rintro e w' ⟨rfl, hb⟩
          exact ⟨none, 0, rfl, ⟨by simp, fun h => absurd rfl h⟩, hb⟩
    · refine ⟨⟨#[]⟩, [], 81, 0, ⟨rfl, by decide⟩, fun W ao cap n h hn hT => ?_, fun W ao cap n h hn => ?_⟩
      · refine Calls.mono (unpackMetas_no ao cap n l W h hn hT 81 (by decide) (t_short ht (by omega))) ?_
        rintro e w' ⟨rfl, hb⟩
        exact ⟨none, 0, rfl, ⟨by simp, fun h => absurd rfl h⟩, hb⟩
      · refine Calls.mono (rMetasU_short ao cap n W (tvS l 0) _ _ (l.drop (taA l 0)) (hm_of h hn hs ht) (by omega)) ?_
        rintro e w' ⟨rfl, hb⟩
        exact ⟨none, 0, rfl, ⟨by simp, fun h => absurd rfl h⟩, hb⟩
  | false =>
    refine ⟨⟨#[]⟩, [], 81, 0, ⟨rfl, by decide⟩, fun W ao cap n h hn hT => ?_, fun W ao cap n h hn => ?_⟩
    · refine Calls.mono (unpackMetas_no ao cap n l W h hn hT 81 (by decide) (t_noT ht)) ?_
      rintro e w' ⟨rfl, hb⟩
      exact ⟨none, 0, rfl, ⟨by simp, fun h => absurd rfl h⟩, hb⟩
    · refine Calls.mono (rMetasU_noT ao cap n l W h hn (by omega) ht) ?_
      rintro e w' ⟨rfl, hb⟩
      exact ⟨none, 0, rfl, ⟨by simp, fun h => absurd rfl h⟩, hb⟩
end Go.Proofs.YtfifaaopdhcaaaaGreatDoor

namespace Go.Proofs.YtfifaaopdhcaaaaGreatDoor
open Go.RowKit
set_option linter.unusedVariables false
set_option linter.unusedSimpArgs false
set_option maxRecDepth 100000
section
variable {l : List Nat}
/-- what is read ahead of a text's end -/
theorem er_in (h6 : 6 ≤ l.length) {v : Nat} (hv : valB ((l.drop 4).take 2) = v) : (ndE (tx (bstr (rrL l (raA l (raA l 0 4) 2) (rvV l (raA l 0 4) 2)))) (ndE (okR l (raA l (raA l 0 4) 2) (rvV l (raA l 0 4) 2)) (ndE (okR l (raA l 0 4) 2) (ndE (okR l 0 4) 0)))) = ndE (tx (bstr (rrL l 6 v))) (ndE (okR l 6 v) 0) ∧ (raA l (raA l (raA l 0 4) 2) (rvV l (raA l 0 4) 2)) = raA l 6 v ∧ rvV l 0 4 = valB (l.take 4) ∧ rrL l (raA l (raA l 0 4) 2) (rvV l (raA l 0 4) 2) = rrL l 6 v := by
  rw [ra_t (show 0 + 4 ≤ l.length by omega), Nat.zero_add, ra_t (show 4 + 2 ≤ l.length by omega), rv_t (show 4 + 2 ≤ l.length by omega), hv, ok_t (show 4 + 2 ≤ l.length by omega), ok_t (show 0 + 4 ≤ l.length by omega), rv_t (show 0 + 4 ≤ l.length by omega)]
  exact ⟨rfl, rfl, rfl, rfl⟩
theorem er_sh (h6 : l.length < 6) : (ndE (tx (bstr (rrL l (raA l (raA l 0 4) 2) (rvV l (raA l 0 4) 2)))) (ndE (okR l (raA l (raA l 0 4) 2) (rvV l (raA l 0 4) 2)) (ndE (okR l (raA l 0 4) 2) (ndE (okR l 0 4) 0)))) = 81 := by
  rcases Nat.lt_or_ge l.length 4 with h4 | h4
  · rw [ok_f (show l.length < 0 + 4 by omega), nd_f0, nd_81, nd_81, nd_81]
  · rw [ra_t (show 0 + 4 ≤ l.length by omega), Nat.zero_add, ok_t (show 0 + 4 ≤ l.length by omega), ok_f (show l.length < 4 + 2 by omega)]
    rw [show ndE false (ndE true 0) = 81 from rfl, nd_81, nd_81]
end
theorem both_error0 (l : List Nat) (hl : ∀ x ∈ l, x < 256) (hs : l.length ≤ 1048576) : ∃ (c : Nat) (s : ByteArray) (pl : Bool) (a er : Nat), 
    (∀ W ao cap n, BRow W ao cap l → l.length = n → Tabs W → Calls Tryz.prog 23 #[.slice ao n cap, .bool false] W fun e w' => e = .returned (.tuple #[.agg #[.int .u32 (c : Int), .string s, .bool pl, .int .u64 (a : Int)], .int .i64 (er : Int)]) ∧ Below W.heap.size W w') ∧
    (∀ W ao cap n, CRow W ao cap l → l.length = n → Calls Tryz.prog 24 #[.slice ao n cap, .bool false] W fun e w' => e = .returned (.tuple #[.agg #[.int .u32 (c : Int), .string s, .bool pl, .int .u64 (a : Int)], .int .i64 (er : Int)]) ∧ Below W.heap.size W w') := by
  have hno : ndE (decide (raA l (raA l (raA l 0 4) 2) (rvV l (raA l 0 4) 2) = l.length)) (ndE (tx (bstr (rrL l (raA l (raA l 0 4) 2) (rvV l (raA l 0 4) 2)))) (ndE (okR l (raA l (raA l 0 4) 2) (rvV l (raA l 0 4) 2)) (ndE (okR l (raA l 0 4) 2) (ndE (okR l 0 4) 0)))) = 81 → ∀ W ao cap n, BRow W ao cap l → l.length = n → Tabs W → Calls Tryz.prog 23 #[.slice ao n cap, .bool false] W fun e w' => e = .returned (.tuple #[.agg #[.int .u32 ((0 : Nat) : Int), .string ⟨#[]⟩, .bool false, .int .u64 ((0 : Nat) : Int)], .int .i64 ((81 : Nat) : Int)]) ∧ Below W.heap.size W w' := fun hf W ao cap n h hn hT => unpackError_no0 ao cap n l W h hn hT _ _ _ _ _ _ _ _ _ ⟨rfl, rfl, rfl⟩ ⟨rfl, rfl, rfl⟩ ⟨rfl, rfl, rfl⟩ hf
  by_cases h6 : 6 ≤ l.length
  · obtain ⟨v, hv⟩ : ∃ v, valB ((l.drop 4).take 2) = v := ⟨_, rfl⟩
    obtain ⟨i1, i2, i3, i4⟩ := er_in h6 hv
    by_cases hw : l.length = 6 + v
    · have hk : 6 + v ≤ l.length := by omega
      have hr : rrL l 6 v = (l.drop 6).take v := rr_t hk
      have ha : raA l 6 v = 6 + v := ra_t hk
      cases ht : tx (bstr ((l.drop 6).take v)) with
      | true =>
        have hf : ndE (decide (raA l (raA l (raA l 0 4) 2) (rvV l (raA l 0 4) 2) = l.length)) (ndE (tx (bstr (rrL l (raA l (raA l 0 4) 2) (rvV l (raA l 0 4) 2)))) (ndE (okR l (raA l (raA l 0 4) 2) (rvV l (raA l 0 4) 2)) (ndE (okR l (raA l 0 4) 2) (ndE (okR l 0 4) 0)))) = 0 := by
          rw [i1, i2, ok_t hk, hr, ht, ha, decide_eq_true (by omega)]; rfl
        refine ⟨valB (l.take 4), bstr ((l.drop 6).take v), false, 0, 0, fun W ao cap n h hn hT => ?_, fun W ao cap n h hn => ?_⟩
        · have h1 := unpackError_ok0 ao cap n l W h hn hT _ _ _ _ _ _ _ _ _ ⟨rfl, rfl, rfl⟩ ⟨rfl, rfl, rfl⟩ ⟨rfl, rfl, rfl⟩ hf
          rw [i3, i4, hr] at h1
          exact h1
        · obtain ⟨b, off, rfl⟩ := h.some (by omega)
          obtain rfl : n = 6 + v := hn.symm.trans hw
          exact rErrU0_ok b off cap v l W h hn (by omega) hv _ rfl ht _ rfl
      | false =>
        refine ⟨0, ⟨#[]⟩, false, 0, 81, hno (by rw [i1, i2, ok_t hk, hr, ht, show ndE false (ndE true 0) = 81 from rfl, nd_81]), fun W ao cap n h hn => ?_⟩
        obtain ⟨b, off, rfl⟩ := h.some (by omega)
        obtain rfl : n = 6 + v := hn.symm.trans hw
        exact rErrU0_bad b off cap v l W h hn (by omega) hv _ rfl ht
    · refine ⟨0, ⟨#[]⟩, false, 0, 81, hno ?_, fun W ao cap n h hn => ?_⟩
      · rw [i1, i2]
        rcases Nat.lt_or_ge l.length (6 + v) with h5 | h5
        · rw [ok_f h5, nd_f0, nd_81, nd_81]
        · rw [ra_t h5, ok_t h5, show ndE true 0 = 0 from rfl]
          rw [decide_eq_false (by omega)]
          rcases ndE_01 (tx (bstr (rrL l 6 v))) (.inl rfl : (0 : Nat) = 0 ∨ (0 : Nat) = 81) with e | e <;> rw [e] <;> rfl
      · obtain ⟨b, off, rfl⟩ := h.some (by omega)
        exact rErrU0_len b off cap n v l W h hn (by omega) (by omega) hv (by omega)
  · exact ⟨0, ⟨#[]⟩, false, 0, 81, hno (by rw [er_sh (by omega), nd_81]), fun W ao cap n h hn => rErrU0_short ao cap n W (by omega)⟩
theorem both_error1 (l : List Nat) (hl : ∀ x ∈ l, x < 256) (hs : l.length ≤ 1048576) : ∃ (c : Nat) (s : ByteArray) (pl : Bool) (a er : Nat), 
    (∀ W ao cap n, BRow W ao cap l → l.length = n → Tabs W → Calls Tryz.prog 23 #[.slice ao n cap, .bool true] W fun e w' => e = .returned (.tuple #[.agg #[.int .u32 (c : Int), .string s, .bool pl, .int .u64 (a : Int)], .int .i64 (er : Int)]) ∧ Below W.heap.size W w') ∧
    (∀ W ao cap n, CRow W ao cap l → l.length = n → Calls Tryz.prog 24 #[.slice ao n cap, .bool true] W fun e w' => e = .returned (.tuple #[.agg #[.int .u32 (c : Int), .string s, .bool pl, .int .u64 (a : Int)], .int .i64 (er : Int)]) ∧ Below W.heap.size W w') := by
  have hno : ndE (decide (raA l (raA l (raA l (raA l 0 4) 2) (rvV l (raA l 0 4) 2)) 8 = l.length)) (ndE (okR l (raA l (raA l (raA l 0 4) 2) (rvV l (raA l 0 4) 2)) 8) (ndE (tx (bstr (rrL l (raA l (raA l 0 4) 2) (rvV l (raA l 0 4) 2)))) (ndE (okR l (raA l (raA l 0 4) 2) (rvV l (raA l 0 4) 2)) (ndE (okR l (raA l 0 4) 2) (ndE (okR l 0 4) 0))))) = 81 → ∀ W ao cap n, BRow W ao cap l → l.length = n → Tabs W → Calls Tryz.prog 23 #[.slice ao n cap, .bool true] W fun e w' => e = .returned (.tuple #[.agg #[.int .u32 ((0 : Nat) : Int), .string ⟨#[]⟩, .bool false, .int .u64 ((0 : Nat) : Int)], .int .i64 ((81 : Nat) : Int)]) ∧ Below W.heap.size W w' := fun hf W ao cap n h hn hT => unpackError_no1 ao cap n l W h hn hT _ _ _ _ _ _ _ _ _ ⟨rfl, rfl, rfl⟩ ⟨rfl, rfl, rfl⟩ ⟨rfl, rfl, rfl⟩ _ _ _ ⟨rfl, rfl, rfl⟩ hf
  by_cases h6 : 6 ≤ l.length
  · obtain ⟨v, hv⟩ : ∃ v, valB ((l.drop 4).take 2) = v := ⟨_, rfl⟩
    obtain ⟨i1, i2, i3, i4⟩ := er_in h6 hv
    by_cases hw : l.length = 6 + v + 8
    · have hk : 6 + v ≤ l.length := by omega
      have hr : rrL l 6 v = (l.drop 6).take v := rr_t hk
      have ha : raA l 6 v = 6 + v := ra_t hk
      cases ht : tx (bstr ((l.drop 6).take v)) with
      | true =>
        have hf : ndE (decide (raA l (raA l (raA l (raA l 0 4) 2) (rvV l (raA l 0 4) 2)) 8 = l.length)) (ndE (okR l (raA l (raA l (raA l 0 4) 2) (rvV l (raA l 0 4) 2)) 8) (ndE (tx (bstr (rrL l (raA l (raA l 0 4) 2) (rvV l (raA l 0 4) 2)))) (ndE (okR l (raA l (raA l 0 4) 2) (rvV l (raA l 0 4) 2)) (ndE (okR l (raA l 0 4) 2) (ndE (okR l 0 4) 0))))) = 0 := by
          rw [i1, i2, ok_t hk, hr, ht, ha, ok_t (show 6 + v + 8 ≤ l.length by omega), ra_t (show 6 + v + 8 ≤ l.length by omega), decide_eq_true (by omega)]; rfl
        refine ⟨valB (l.take 4), bstr ((l.drop 6).take v), true, valB ((l.drop (6 + v)).take 8), 0, fun W ao cap n h hn hT => ?_, fun W ao cap n h hn => ?_⟩
        · have h1 := unpackError_ok1 ao cap n l W h hn hT _ _ _ _ _ _ _ _ _ ⟨rfl, rfl, rfl⟩ ⟨rfl, rfl, rfl⟩ ⟨rfl, rfl, rfl⟩ _ _ _ ⟨rfl, rfl, rfl⟩ hf
          rw [i3, i4, hr, i2, ha, rv_t (show 6 + v + 8 ≤ l.length by omega)] at h1
          exact h1
        · obtain ⟨b, off, rfl⟩ := h.some (by omega)
          obtain rfl : n = 6 + v + 8 := hn.symm.trans hw
          exact rErrU1_ok b off cap v l W h hn (by omega) hv _ rfl ht _ rfl _ rfl
      | false =>
        refine ⟨0, ⟨#[]⟩, false, 0, 81, hno (by rw [i1, i2, ok_t hk, hr, ht, show ndE false (ndE true 0) = 81 from rfl, nd_81, nd_81]), fun W ao cap n h hn => ?_⟩
        obtain ⟨b, off, rfl⟩ := h.some (by omega)
        obtain rfl : n = 6 + v + 8 := hn.symm.trans hw
        exact rErrU1_bad b off cap v l W h hn (by omega) hv _ rfl ht
    · refine ⟨0, ⟨#[]⟩, false, 0, 81, hno ?_, fun W ao cap n h hn => ?_⟩
      · rw [i1, i2]
        rcases Nat.lt_or_ge l.length (6 + v) with h5 | h5
        · rw [ok_f h5, nd_f0, nd_81, nd_81, nd_81]
        · rw [ra_t h5, ok_t h5, show ndE true 0 = 0 from rfl]
          rcases Nat.lt_or_ge l.length (6 + v + 8) with h8 | h8
          · rw [ok_f h8]
            rcases ndE_01 (tx (bstr (rrL l 6 v))) (.inl rfl : (0 : Nat) = 0 ∨ (0 : Nat) = 81) with e | e <;> rw [e]
            · rw [nd_f0, nd_81]
            · rw [nd_81, nd_81]
          · rw [ra_t h8, decide_eq_false (by omega)]
            rcases ndE_01 (okR l (6 + v) 8) (ndE_01 (tx (bstr (rrL l 6 v))) (.inl rfl : (0 : Nat) = 0 ∨ (0 : Nat) = 81)) with e | e <;> rw [e] <;> rfl
      · obtain ⟨b, off, rfl⟩ := h.some (by omega)
        exact rErrU1_len b off cap n v l W h hn (by omega) (by omega) hv (by omega)
  · exact ⟨0, ⟨#[]⟩, false, 0, 81, hno (by rw [er_sh (by omega), nd_81, nd_81]), fun W ao cap n h hn => rErrU1_short ao cap n W (by omega)⟩
end Go.Proofs.YtfifaaopdhcaaaaGreatDoor
