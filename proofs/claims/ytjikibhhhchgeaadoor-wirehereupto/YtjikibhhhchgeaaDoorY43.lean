import Derived.Test.YtjikibhhhchgeaaDoorY42
import Derived.Test.YtjikibhhhchgeaaDoorY36
import Derived.Test.YtjikibhhhchgeaaDoorY27
namespace Go.Proofs.YtjikibhhhchgeaaDoor
open Go.RowKit
set_option linter.unusedVariables false
set_option linter.unusedSimpArgs false
set_option maxRecDepth 100000
def E3 (e : Nat) : Prop := e = 0 ∨ e = 81 ∨ e = 170
theorem E3.nd {e : Nat} (b : Bool) (h : E3 e) : E3 (ndE b e) := by
  unfold E3 at *; rcases h with rfl | rfl | rfl <;> cases b <;> simp [ndE]
theorem E3.cn {e : Nat} (n m : Nat) (h : E3 e) : E3 (cnE n m e) := by
  unfold E3 at *; unfold cnE; split
  · rcases h with rfl | rfl | rfl <;> simp
  · exact h
theorem E3.uE {e : Nat} (l : List Nat) (a : Nat) (h : E3 e) : ∀ k, E3 (uE l a e k)
  | 0 => h
  | k + 1 => (E3.uE l a h k).nd _
theorem E3.tE {e : Nat} (l : List Nat) (a : Nat) (h : E3 e) : ∀ k, E3 (tE l a e k)
  | 0 => h
  | k + 1 => (E3.tE l a h k).nd _
theorem E3.sE {e : Nat} (l : List Nat) (z a : Nat) (h : E3 e) : ∀ k, E3 (sE l z a e k)
  | 0 => h
  | k + 1 => ((E3.sE l z a h k).nd _).nd _
theorem uFin_or (l : List Nat) : E3 (uFin l) := ((((E3.nd _ (E3.nd _ (.inl rfl))).cn _ _).uE _ _ _)).nd _
theorem tFin_or (l : List Nat) : E3 (tFin l) := ((((E3.nd _ (E3.nd _ (.inl rfl))).cn _ _).tE _ _ _)).nd _
theorem cn_zero {n m e : Nat} (h : cnE n m e = 0) : n ≤ m ∧ e = 0 ∧ cnV n m e = n := by
  have h0 := h
  unfold cnE at h
  split at h
  · split at h <;> simp_all
  · exact ⟨by omega, h, by unfold cnV; rw [h0, if_pos rfl]⟩
theorem here_ask {l : List Nat} (s : ByteArray) (ks : List Nat) (ht : tx s = true) (hk : ks.length ≤ 64) (i : l = bigTo s.size 4 4 ++ sbytes s ++ (bigTo ks.length 2 2 ++ (u16L ks ++ []))) : rAskC s ks = (l, 0) := by
  subst i; unfold rAskC; rw [if_pos ht, if_pos hk]; simp [irL]
theorem here_metas {l : List Nat} (s : ByteArray) (qs : List ByteArray) (ht : tx s = true) (hq : txs qs = true) (hk : qs.length ≤ 16) (i : l = bigTo s.size 4 4 ++ sbytes s ++ (bigTo qs.length 4 4 ++ (strL qs ++ []))) : rMetasC s qs = (l, 0) := by
  subst i; unfold rMetasC; rw [if_pos ht, if_pos hq, if_pos hk]; simp [mqL]
theorem here_meta {l : List Nat} (c : Nat) (s : ByteArray) (ht : tx s = true) (i : l = bigTo c 4 4 ++ (sbytes s ++ [])) : rMetaC c s = (l, 0) := by
  subst i; unfold rMetaC; rw [if_pos ht]; simp [meL]
theorem here_server {l : List Nat} (s : ByteArray) (m : List Nat) (ht : tx s = true) (i : l = bigTo s.size 4 4 ++ sbytes s ++ (m ++ [])) : rServerC s m = (l, 0) := by
  subst i; unfold rServerC; rw [if_pos ht]; simp [seL]
theorem here_data {l : List Nat} (o : Nat) (m : List Nat) (hm : m ≠ []) (i : l = bigTo o 8 8 ++ (m ++ [])) : rDataC o m = (l, 0) := by
  subst i; unfold rDataC; rw [if_neg hm]; simp [daL]
theorem un_ask (ao : Option Addr) (cap n : Nat) (l : List Nat) (w : World) (h : BRow w ao cap l) (hn : l.length = n) (hT : Tabs w) :
    Calls Tryd.prog 14 #[.slice ao n cap] w fun e w' => ∃ (s : ByteArray) (ia : Option Addr) (m ic : Nat) (ks : List Nat) (er : Nat), e = .returned (.tuple #[.agg #[.string s, .slice ia m ic], .int .i64 (er : Int)]) ∧ ks.length = m ∧ U16s w' ia ks ∧ (∀ ad, ia = some ad → w.heap.size ≤ ad.block) ∧ Below w.heap.size w w' ∧ E3 er ∧ s.size ≤ 4096 ∧ (er = 0 → rAskC s ks = (l, 0)) := by
  have hl := h.lt
  by_cases hf : uFin l = 0
  · refine (unpackAsk_new ao cap n l w h hn hT hf).mono ?_
    rintro e w' ⟨ia, ic, rfl, hfr, hu, hb⟩
    refine ⟨_, ia, _, ic, uVal l, 0, rfl, uV_len _ _ _, hu, hfr, hb, .inl rfl, tvS_size _ _, fun _ => ?_⟩
    obtain ⟨f1, f2⟩ := ndE_zero (show ndE _ _ = 0 from hf)
    obtain ⟨f3, f4⟩ := u_inv hl _ _ _ f2
    obtain ⟨g1, g2, g3⟩ := cn_zero f3
    obtain ⟨f5, f6⟩ := ndE_zero g2
    obtain ⟨f7, _⟩ := ndE_zero f6
    obtain ⟨i1, i2⟩ := inv_tx hl f7
    have i3 := inv_rd hl f5
    have hlen := of_decide_eq_true f1
    rw [drN hlen] at f4
    rw [← ra_ok f5, f4] at i3
    rw [dr0, i3] at i1
    have hc : uCnt l = rvV l (taA l 0) 2 := g3
    have hv : uVal l = uV l (raA l (taA l 0) 2) (cnV (rvV l (taA l 0) 2) 64 (ndE (okR l (taA l 0) 2) (ndE (okT l 0) 0))) := rfl
    have hk : (uVal l).length = rvV l (taA l 0) 2 := (uV_len _ _ _).trans hc
    rw [← hv, ← hk] at i1
    exact here_ask _ _ i2 (by rw [hk]; exact g1) i1
  · refine (unpackAsk_no ao cap n l w h hn hT (uFin l) hf rfl).mono ?_
    rintro e w' ⟨rfl, hb⟩
    exact ⟨⟨#[]⟩, none, 0, 0, [], uFin l, rfl, rfl, u16s_nil _ _, fun ad e => (by cases e), hb, uFin_or l, Nat.zero_le _, fun h => absurd h hf⟩
theorem un_metas (ao : Option Addr) (cap n : Nat) (l : List Nat) (w : World) (h : BRow w ao cap l) (hn : l.length = n) (hT : Tabs w) :
    Calls Tryd.prog 16 #[.slice ao n cap] w fun e w' => ∃ (s : ByteArray) (ia : Option Addr) (m ic : Nat) (qs : List ByteArray) (er : Nat), e = .returned (.tuple #[.agg #[.string s, .slice ia m ic], .int .i64 (er : Int)]) ∧ qs.length = m ∧ Strs w' ia qs ∧ (∀ ad, ia = some ad → w.heap.size ≤ ad.block) ∧ Below w.heap.size w w' ∧ E3 er ∧ (s.size ≤ 4096 ∧ m ≤ 16) ∧ (er = 0 → rMetasC s qs = (l, 0)) := by
  have hl := h.lt
  by_cases hf : tFin l = 0
  · refine (unpackMetas_new ao cap n l w h hn hT hf).mono ?_
    rintro e w' ⟨ia, ic, rfl, hfr, hu, hb⟩
    refine ⟨_, ia, _, ic, tVal l, 0, rfl, tV_len _ _ _, hu, hfr, hb, .inl rfl, ⟨tvS_size _ _, cnV_let _ _ _⟩, fun _ => ?_⟩
    obtain ⟨f1, f2⟩ := ndE_zero (show ndE _ _ = 0 from hf)
    obtain ⟨f3, f4, f4t⟩ := t_inv hl _ _ _ f2
    obtain ⟨g1, g2, g3⟩ := cn_zero f3
    obtain ⟨f5, f6⟩ := ndE_zero g2
    obtain ⟨f7, _⟩ := ndE_zero f6
    obtain ⟨i1, i2⟩ := inv_tx hl f7
    have i3 := inv_rd hl f5
    have hlen := of_decide_eq_true f1
    rw [drN hlen] at f4
    rw [← ra_ok f5, f4] at i3
    rw [dr0, i3] at i1
    have hc : tCnt l = rvV l (taA l 0) 4 := g3
    have hv : tVal l = tV l (raA l (taA l 0) 4) (cnV (rvV l (taA l 0) 4) 16 (ndE (okR l (taA l 0) 4) (ndE (okT l 0) 0))) := rfl
    have hk : (tVal l).length = rvV l (taA l 0) 4 := (tV_len _ _ _).trans hc
    rw [← hv, ← hk] at i1
    exact here_metas _ _ i2 f4t (by rw [hk]; exact g1) i1
  · refine (unpackMetas_no ao cap n l w h hn hT (tFin l) hf rfl).mono ?_
    rintro e w' ⟨rfl, hb⟩
    exact ⟨⟨#[]⟩, none, 0, 0, [], tFin l, rfl, rfl, strs_nil _ _, fun ad e => (by cases e), hb, tFin_or l, ⟨Nat.zero_le _, Nat.zero_le _⟩, fun h => absurd h hf⟩
theorem un_meta (ao : Option Addr) (cap n : Nat) (l : List Nat) (w : World) (h : BRow w ao cap l) (hn : l.length = n) (hT : Tabs w) :
    Calls Tryd.prog 18 #[.slice ao n cap] w fun e w' => ∃ (c : Nat) (s : ByteArray) (er : Nat), e = .returned (.tuple #[.agg #[.int .u32 (c : Int), .string s], .int .i64 (er : Int)]) ∧ Below w.heap.size w w' ∧ E3 er ∧ (c < 4294967296 ∧ s.size ≤ l.length) ∧ (er = 0 → rMetaC c s = (l, 0)) := by
  have hl := h.lt
  rcases mtE_or l with hf | hf
  · refine (unpackMeta_ok ao cap n l w h hn hT hf).mono ?_
    rintro e w' ⟨rfl, hb⟩
    refine ⟨_, _, 0, rfl, hb, .inl rfl, ⟨rvV_lt2 _ _ _ _ hl (by decide) (by decide), by rw [bstr_size]; exact rr_len _ _ _⟩, fun _ => ?_⟩
    obtain ⟨f1, f2⟩ := ndE_zero (show ndE _ _ = 0 from hf)
    obtain ⟨f3, f4⟩ := ndE_zero f2
    obtain ⟨f5, f6⟩ := ndE_zero f4
    obtain ⟨f7, _⟩ := ndE_zero f6
    have i1 := inv_rd hl f7
    have i2 := inv_rr f5
    have hlen := of_decide_eq_true f1
    rw [ra_ok f5] at hlen
    rw [dr0, ← ra_ok f7, i2, drN hlen] at i1
    have hm : ∀ x ∈ rrL l (raA l 0 4) (l.length - raA l 0 4), x < 256 := fun x hx => hl x (by unfold rrL at hx; rw [if_pos f5] at hx; exact List.mem_of_mem_drop (List.mem_of_mem_take hx))
    exact here_meta _ _ f3 (by rw [sbytes_bstr _ hm]; exact i1)
  · refine (unpackMeta_no ao cap n l w h hn hT hf).mono ?_
    rintro e w' ⟨rfl, hb⟩
    exact ⟨0, ⟨#[]⟩, 81, rfl, hb, .inr (.inl rfl), ⟨by decide, Nat.zero_le _⟩, fun h => absurd h (by decide)⟩
theorem un_server (ao : Option Addr) (cap n : Nat) (l : List Nat) (w : World) (h : BRow w ao cap l) (hn : l.length = n) (hT : Tabs w) :
    Calls Tryd.prog 19 #[.slice ao n cap] w fun e w' => ∃ (s : ByteArray) (da : Option Addr) (dn dc : Nat) (m : List Nat) (er : Nat), e = .returned (.tuple #[.agg #[.string s, .slice da dn dc], .int .i64 (er : Int)]) ∧ m.length = dn ∧ BRow w' da dc m ∧ (∀ ad, da = some ad → w.heap.size ≤ ad.block) ∧ Below w.heap.size w w' ∧ E3 er ∧ (s.size ≤ 4096 ∧ dn ≤ l.length) ∧ (er = 0 → rServerC s m = (l, 0)) := by
  have hl := h.lt
  rcases svE_or l with hf | hf
  · refine (unpackServer_ok ao cap n l w h hn hT hf).mono ?_
    rintro e w' ⟨da, dc, dn, rfl, hdn, hr⟩
    have hdl := rr_len l (taA l 0) (l.length - taA l 0)
    refine ⟨_, da, dn, dc, _, 0, rfl, hdn, hr.brow (Nat.le_trans hdl h.len), fun ad e => (owns_typeU hr.own ad.block (by rw [e]; rfl)).2.1, hr.bel, .inl rfl, ⟨tvS_size _ _, by rw [← hdn]; exact hdl⟩, fun _ => ?_⟩
    obtain ⟨f1, f2⟩ := ndE_zero (show ndE _ _ = 0 from hf)
    obtain ⟨f5, f6⟩ := ndE_zero f2
    obtain ⟨f7, _⟩ := ndE_zero f6
    obtain ⟨i1, it⟩ := inv_tx hl f7
    have i2 := inv_rr f5
    have hlen := of_decide_eq_true f1
    rw [ra_ok f5] at hlen
    rw [dr0, i2, drN hlen] at i1
    exact here_server _ _ it i1
  · refine (unpackServer_no ao cap n l w h hn hT hf).mono ?_
    rintro e w' ⟨rfl, hb⟩
    exact ⟨⟨#[]⟩, none, 0, 0, [], 81, rfl, rfl, brow_nil _, fun ad e => (by cases e), hb, .inr (.inl rfl), ⟨Nat.zero_le _, Nat.zero_le _⟩, fun h => absurd h (by decide)⟩
theorem un_data (ao : Option Addr) (cap n : Nat) (l : List Nat) (w : World) (h : BRow w ao cap l) (hn : l.length = n) :
    Calls Tryd.prog 23 #[.slice ao n cap] w fun e w' => ∃ (o : Nat) (da : Option Addr) (dn dc : Nat) (m : List Nat) (er : Nat), e = .returned (.tuple #[.agg #[.int .u64 (o : Int), .slice da dn dc], .int .i64 (er : Int)]) ∧ m.length = dn ∧ BRow w' da dc m ∧ (∀ ad, da = some ad → w.heap.size ≤ ad.block) ∧ Below w.heap.size w w' ∧ E3 er ∧ (o < 18446744073709551616 ∧ dn ≤ l.length) ∧ (er = 0 → rDataC o m = (l, 0)) ∧ (er = 0 ↔ 8 < l.length) := by
  have hl := h.lt
  by_cases h9 : 9 ≤ l.length
  · refine (unpackData_ok ao cap n l w h hn h9).mono ?_
    rintro e w' ⟨da, dc, dn, rfl, hdn, hr⟩
    have f7 : okR l 0 8 = true := by simp [okR]; omega
    have ha := ra_ok f7
    have f5 : okR l (raA l 0 8) (l.length - raA l 0 8) = true := by rw [ha]; simp [okR]; omega
    have hdl := rr_len l (raA l 0 8) (l.length - raA l 0 8)
    refine ⟨_, da, dn, dc, _, 0, rfl, hdn, hr.brow (Nat.le_trans hdl h.len), fun ad e => (owns_typeU hr.own ad.block (by rw [e]; rfl)).2.1, hr.bel, .inl rfl, ⟨rvV_lt2 _ _ _ _ hl (by decide) (by decide), by rw [← hdn]; exact hdl⟩, fun _ => ?_, ⟨fun _ => by omega, fun _ => rfl⟩⟩
    have i1 := inv_rd hl f7
    have i2 := inv_rr f5
    rw [dr0, ← ha, i2, drN (by rw [ha]; omega)] at i1
    have hne : rrL l (raA l 0 8) (l.length - raA l 0 8) ≠ [] := by
      intro e
      have := congrArg List.length i1
      rw [e] at this
      simp [bigTo_length] at this
      omega
    exact here_data _ _ hne i1
  · refine (unpackData_no ao cap n l w h hn (by omega)).mono ?_
    rintro e w' ⟨rfl, hb⟩
    exact ⟨0, none, 0, 0, [], 81, rfl, rfl, brow_nil _, fun ad e => (by cases e), hb, .inr (.inl rfl), ⟨by decide, Nat.zero_le _⟩, fun h => absurd h (by decide), ⟨fun h => absurd h (by decide), fun h => by omega⟩⟩
end Go.Proofs.YtjikibhhhchgeaaDoor
