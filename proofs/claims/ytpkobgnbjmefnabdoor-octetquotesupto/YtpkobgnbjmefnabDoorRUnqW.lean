import Derived.Test.YtpkobgnbjmefnabDoorRUnqM
import Derived.Test.YtpkobgnbjmefnabDoorRQuoteW
import Derived.Test.YtpkobgnbjmefnabDoorUnqQ
namespace Go.Proofs.YtpkobgnbjmefnabDoor
open Go.RowKit
set_option linter.unusedVariables false
set_option maxRecDepth 100000

theorem halfV_none (c : Nat) (h : (hv c).isSome = false) : halfV c = -1 := by
  unfold halfV
  cases h1 : hv c with
  | none => rfl
  | some v => rw [h1] at h; simp at h
theorem halfV_some (c : Nat) (h : (hv c).isSome = true) : halfV c = (((hv c).getD 0 : Nat) : Int) := by
  unfold halfV
  cases h1 : hv c with
  | none => rw [h1] at h; simp at h
  | some v => rfl
/-- what the reference's reading of a quoted text comes to -/
def RuRes (t : ByteArray) (x : ByteArray) (c : Nat) : Prop :=
  (¬ (2 ≤ t.size ∧ sb t 0 = 34 ∧ sb t (t.size - 1) = 34) ∧ x = ⟨#[]⟩ ∧ c = 16) ∨
  ((2 ≤ t.size ∧ sb t 0 = 34 ∧ sb t (t.size - 1) = 34) ∧
    ((rUn (bt t 1) = none ∧ x = ⟨#[]⟩ ∧ c = 16) ∨ ∃ l, rUn (bt t 1) = some l ∧
      ((quoteL (bstr l).data.toList = t.data.toList ∧ x = bstr l ∧ c = 0) ∨ (quoteL (bstr l).data.toList ≠ t.data.toList ∧ x = ⟨#[]⟩ ∧ c = 16))))

set_option maxHeartbeats 8000000 in
theorem runquote_any (t : ByteArray) (w : World) (hs : t.size ≤ 16777216) :
    Calls Tryd.prog 14 #[.string t] w fun e w' => (∃ (x : ByteArray) (c : Nat), e = .returned (.tuple #[.string x, .int .i64 (c : Int)]) ∧ RuRes t x c) ∧ Below w.heap.size w w' := by
  obtain ⟨i0, hi, hz0, hz1, hz2⟩ := info_parts Tryd.info5
  have g0 := sb_elem t 0
  have g1 := sb_elem t (t.size - 1)
  by_cases h2 : 2 ≤ t.size
  · have t1 : decide ((t.size : Int) < 2) = false := by simp; omega
    have hi1 : ((t.size : Int) - 1).toNat = t.size - 1 := by omega
    have hw : IntKind.i64.wrap ((t.size : Int) - 1) = (t.size : Int) - 1 := by rw [IntKind.wrap_i64]; omega
    by_cases ha : sb t 0 = 34
    · have t2 : ((sb t 0 : Int) != 34) = false := by rw [bne_eq_false_iff_eq]; omega
      by_cases hb : sb t (t.size - 1) = 34
      · have t3 : ((sb t (t.size - 1) : Int) != 34) = false := by rw [bne_eq_false_iff_eq]; omega
        have HMk : Hid (2 ≤ t.size ∧ sb t 0 = 34 ∧ sb t (t.size - 1) = 34) := ⟨h2, ha, hb⟩
        clear ha hb
        go_enter Tryd.func14, Tryd.ntmps14
        go_wp2
        go_loopw [4, 5] (fun v i wr => ∃ (k : Nat) (acc : List Nat), 1 ≤ k ∧ k ≤ t.size - 1 ∧ i = .int .i64 k ∧ acc.length ≤ k ∧ RowSt w wr v acc ∧ rUn (bt t 1) = (rUn (bt t k)).map (acc ++ ·)) (fun _ i _ => t.size - (intOf i).toNat)
        case atStart => exact ⟨1, [], Nat.le_refl _, by omega, rfl, by simp, ⟨World.ownsRow_nil _ _ _ _, Below.refl _ _⟩, by simp⟩
        case round =>
          clear g0 g1 t2 t3
          obtain ⟨k, acc, hk1, hk, rfl, hal, hrow, hacc⟩ := hrel
          obtain ⟨ao, cp, hv⟩ := owns_form hrow.1
          subst hv
          have HR : Hid (RowSt w wr (.slice ao acc.length cp) acc) := hrow
          have HA : Hid (rUn (bt t 1) = (rUn (bt t k)).map (acc ++ ·)) := hacc
          have HZ : Hid (w.heap.size ≤ wr.heap.size) := hrow.2.size
          clear hrow hacc
          by_cases hlt : k < t.size - 1
          · have gk := sb_elem t k
            have lk := sb_lt t k
            have tl : decide ((k : Int) < (t.size : Int) - 1) = true := by simp; omega
            have HPl : Hid (sb t k ≠ 92 → fBR (bt t k) = some (sb t k, 1)) := fr_plain t k hlt
            have HEd : Hid (sb t k = 92 → t.size - 1 ≤ k + 1 → rUn (bt t k) = none) := fr_end t k hlt
            by_cases hc : sb t k = 92
            · have t4 : ((sb t k : Int) != 92) = false := by rw [bne_eq_false_iff_eq]; omega
              by_cases he : t.size - 1 ≤ k + 1
              · have HN : Hid (rUn (bt t 1) = none) := by show _ = _; rw [HA.out, HEd.out hc he]; rfl
                have t5 : decide ((t.size : Int) - 1 ≤ (k : Int) + 1) = true := by simp; omega
                clear HPl HEd HA hc
                generalize sb t k = c at *
                go_wp2
                go_ret2
                exact ⟨⟨_, 16, rfl, .inr ⟨HMk.out, .inl ⟨HN.out, rfl, rfl⟩⟩⟩, HR.out.2⟩
              · have t5 : decide ((t.size : Int) - 1 ≤ (k : Int) + 1) = false := by simp; omega
                have gd := sb_elem t (k + 1)
                have ld := sb_lt t (k + 1)
                have HFn : Hid (sb t (k + 1) = 110 → fBR (bt t k) = some (10, 2)) := fr_n t k (by omega) hc
                have HFd : Hid (sb t (k + 1) ≠ 110 → ¬ (sb t (k + 1) = 120 ∧ k + 4 ≤ t.size - 1 ∧ (hv (sb t (k + 2))).isSome = true ∧ (hv (sb t (k + 3))).isSome = true) → fBR (bt t k) = some (sb t (k + 1), 2)) := fr_d t k (by omega) hc
                have HFx : Hid (∀ x y, k + 4 ≤ t.size - 1 → sb t (k + 1) = 120 → hv (sb t (k + 2)) = some x → hv (sb t (k + 3)) = some y → fBR (bt t k) = some (16 * x + y, 4)) := fun x y h4 hd hx hy => fr_x t k x y h4 hc hd hx hy
                have HSt : Hid (∀ b j, fBR (bt t k) = some (b, j) → rUn (bt t 1) = (rUn (bt t (k + j))).map ((acc ++ [b]) ++ ·)) := fun b j hf => ru_step t k b j acc HA.out hf
                clear hc HPl HEd HA
                generalize sb t k = c at *
                by_cases hn : sb t (k + 1) = 110
                · have HS : Hid (rUn (bt t 1) = (rUn (bt t (k + 2))).map ((acc ++ [10]) ++ ·)) := HSt.out _ _ (HFn.out hn)
                  have t6 : ((sb t (k + 1) : Int) == 110) = true := by rw [beq_iff_eq]; omega
                  clear HFn HFd HFx HSt hn
                  generalize sb t (k + 1) = d at *
                  go_wp2_with (at_builtin; refine wpList_append_two _ rfl _ _ 37 rfl w.heap.size 5 i0 (.int .u8 0) 1 Tryd.underlying37 hi hz0 hz1 hz2 rfl (.slice ao acc.length cp) acc.length (acc.map bv) rfl (HR.out.1.alloc _) (some ⟨wr.heap.size, 0, none⟩) 1 1 [.int .u8 10] rfl (by simp) rfl (news_many wr _ _) (by simp [Value.oneCell']) (by unfold maxLen; omega) (by omega) (by have := HZ.out; simp; omega) ?_)
                  intro v1 w1 ho1 hg1 hf1
                  have HR1 : Hid (RowSt w w1 v1 (acc ++ [10])) := HR.out.grow ((Below.refl _ _).alloc (Nat.le_refl _) _) (by simp) ho1 hg1 rfl
                  clear ho1 hg1 hf1
                  go_wp2
                  go_roundw
                  case rel => exact ⟨k + 2, acc ++ [10], by omega, by omega, by go_num, by simp; omega, HR1.out, HS.out⟩
                  case measure => simp [intOf]; omega
                have t6 : ((sb t (k + 1) : Int) == 110) = false := by rw [beq_eq_false_iff_ne]; omega
                by_cases hx : sb t (k + 1) = 120
                · have t7 : ((sb t (k + 1) : Int) == 120) = true := by rw [beq_iff_eq]; omega
                  by_cases h4 : k + 4 ≤ t.size - 1
                  · have t8 : decide ((k : Int) + 1 + 1 + 2 ≤ (t.size : Int) - 1) = true := by simp; omega
                    have t8' : decide ((k : Int) + 2 + 2 ≤ (t.size : Int) - 1) = true := by simp; omega
                    have t8'' : decide ((k : Int) + 4 ≤ (t.size : Int) - 1) = true := by simp; omega
                    have gx := sb_elem t (k + 2)
                    have gy := sb_elem t (k + 3)
                    have HH : Hid (∀ W : World, Calls Tryd.prog 37 #[.int .u8 ((sb t (k + 2) : Nat) : Int)] W fun e w' => e = .returned (.int .i64 (halfV (sb t (k + 2)))) ∧ w' = W) := fun W => half_any _ W (sb_lt t (k + 2))
                    have HL : Hid (∀ W : World, Calls Tryd.prog 37 #[.int .u8 ((sb t (k + 3) : Nat) : Int)] W fun e w' => e = .returned (.int .i64 (halfV (sb t (k + 3)))) ∧ w' = W) := fun W => half_any _ W (sb_lt t (k + 3))
                    cases hX : hv (sb t (k + 2)) with
                    | none =>
                      have HS : Hid (rUn (bt t 1) = (rUn (bt t (k + 2))).map ((acc ++ [sb t (k + 1)]) ++ ·)) := HSt.out _ _ (HFd.out hn (fun h => by rw [hX] at h; cases h.2.2.1))
                      rw [halfV_none _ (by rw [hX]; rfl)] at HH
                      clear HFn HFd HFx HSt hn hx hX HL
                      generalize sb t (k + 1) = d at *
                      generalize sb t (k + 2) = c2 at *
                      go_wp2_with fail
                      refine (HH.out _).mono ?_
                      rintro e w' ⟨rfl, hw'⟩
                      rw [hw']; clear hw'
                      go_wp2_with (at_builtin; refine wpList_append_two _ rfl _ _ 37 rfl w.heap.size 5 i0 (.int .u8 0) 1 Tryd.underlying37 hi hz0 hz1 hz2 rfl (.slice ao acc.length cp) acc.length (acc.map bv) rfl (HR.out.1.alloc _) (some ⟨wr.heap.size, 0, none⟩) 1 1 [.int .u8 ((d : Nat) : Int)] rfl (by simp) rfl (news_many wr _ _) (by simp [Value.oneCell']) (by unfold maxLen; omega) (by omega) (by have := HZ.out; simp; omega) ?_)
                      intro v1 w1 ho1 hg1 hf1
                      have HR1 : Hid (RowSt w w1 v1 (acc ++ [d])) := HR.out.grow ((Below.refl _ _).alloc (Nat.le_refl _) _) (by simp) ho1 hg1 rfl
                      clear ho1 hg1 hf1
                      go_wp2
                      go_roundw
                      case rel => exact ⟨k + 2, acc ++ [d], by omega, by omega, by go_num, by simp; omega, HR1.out, HS.out⟩
                      case measure => simp [intOf]; omega
                    | some x =>
                      have hx16 := hv_lt _ _ hX
                      rw [halfV_some _ (by rw [hX]; rfl), hX, Option.getD_some] at HH
                      cases hY : hv (sb t (k + 3)) with
                      | none =>
                        have HS : Hid (rUn (bt t 1) = (rUn (bt t (k + 2))).map ((acc ++ [sb t (k + 1)]) ++ ·)) := HSt.out _ _ (HFd.out hn (fun h => by rw [hY] at h; cases h.2.2.2))
                        rw [halfV_none _ (by rw [hY]; rfl)] at HL
                        clear HFn HFd HFx HSt hn hx hX hY
                        generalize sb t (k + 1) = d at *
                        generalize sb t (k + 2) = c2 at *
                        generalize sb t (k + 3) = c3 at *
                        go_wp2_with fail
                        refine (HH.out _).mono ?_
                        rintro e w' ⟨rfl, hw'⟩
                        rw [hw']; clear hw'
                        go_wp2_with fail
                        refine (HL.out _).mono ?_
                        rintro e w' ⟨rfl, hw'⟩
                        rw [hw']; clear hw'
                        go_wp2_with (at_builtin; refine wpList_append_two _ rfl _ _ 37 rfl w.heap.size 5 i0 (.int .u8 0) 1 Tryd.underlying37 hi hz0 hz1 hz2 rfl (.slice ao acc.length cp) acc.length (acc.map bv) rfl (HR.out.1.alloc _) (some ⟨wr.heap.size, 0, none⟩) 1 1 [.int .u8 ((d : Nat) : Int)] rfl (by simp) rfl (news_many wr _ _) (by simp [Value.oneCell']) (by unfold maxLen; omega) (by omega) (by have := HZ.out; simp; omega) ?_)
                        intro v1 w1 ho1 hg1 hf1
                        have HR1 : Hid (RowSt w w1 v1 (acc ++ [d])) := HR.out.grow ((Below.refl _ _).alloc (Nat.le_refl _) _) (by simp) ho1 hg1 rfl
                        clear ho1 hg1 hf1
                        go_wp2
                        go_roundw
                        case rel => exact ⟨k + 2, acc ++ [d], by omega, by omega, by go_num, by simp; omega, HR1.out, HS.out⟩
                        case measure => simp [intOf]; omega
                      | some y =>
                        have hy16 := hv_lt _ _ hY
                        rw [halfV_some _ (by rw [hY]; rfl), hY, Option.getD_some] at HL
                        have HS : Hid (rUn (bt t 1) = (rUn (bt t (k + 4))).map ((acc ++ [16 * x + y]) ++ ·)) := HSt.out _ _ (HFx.out x y h4 hx hX hY)
                        have hwa : IntKind.u8.wrap (16 * (x : Int) + (y : Int)) = ((16 * x + y : Nat) : Int) := by rw [IntKind.wrap_u8]; omega
                        have hx0 : decide ((0 : Int) ≤ (x : Int)) = true := by simp
                        have hy0 : decide ((0 : Int) ≤ (y : Int)) = true := by simp
                        clear HFn HFd HFx HSt hn hx hX hY
                        generalize sb t (k + 1) = d at *
                        generalize sb t (k + 2) = c2 at *
                        generalize sb t (k + 3) = c3 at *
                        have e2 : ((k : Int) + 1 + 1).toNat = k + 2 := by omega
                        have e3 : ((k : Int) + 1 + 1 + 1).toNat = k + 3 := by omega
                        have gx' : ∀ h : ((k : Int) + 1 + 1).toNat < t.size, (t[((k : Int) + 1 + 1).toNat]'h).toNat = c2 := fun h => by simp only [e2]; exact gx (by omega)
                        have gy' : ∀ h : ((k : Int) + 1 + 1 + 1).toNat < t.size, (t[((k : Int) + 1 + 1 + 1).toNat]'h).toNat = c3 := fun h => by simp only [e3]; exact gy (by omega)
                        have hb2a : (0 : Int) ≤ (k : Int) + 1 + 1 := by omega
                        have hb2b : (k : Int) + 1 + 1 < (t.size : Int) := by omega
                        have hb3a : (0 : Int) ≤ (k : Int) + 1 + 1 + 1 := by omega
                        have hb3b : (k : Int) + 1 + 1 + 1 < (t.size : Int) := by omega
                        have hw3 : IntKind.i64.wrap ((k : Int) + 1 + 1 + 1) = (k : Int) + 1 + 1 + 1 := by rw [IntKind.wrap_i64]; omega
                        have hwm : IntKind.i64.wrap (16 * (x : Int)) = 16 * (x : Int) := by rw [IntKind.wrap_i64]; omega
                        have hws : IntKind.i64.wrap (16 * (x : Int) + (y : Int)) = 16 * (x : Int) + (y : Int) := by rw [IntKind.wrap_i64]; omega
                        have hnm : ¬ Tryd.f37.name = "runtime.NumGoroutine" := by decide
                        have hbd : ¬ Tryd.f37.body = none := fun h => by cases h
                        go_wp2_with fail
                        refine (HH.out _).mono ?_
                        rintro e w' ⟨rfl, hw'⟩
                        rw [hw']; clear hw'
                        go_wp2_with fail
                        refine (HL.out _).mono ?_
                        rintro e w' ⟨rfl, hw'⟩
                        rw [hw']; clear hw'
                        go_wp2
                        go_region_law (first | (refine step_call_pure rfl 37 (.tmp 89) 5 rfl Tryd.f37 Tryd.func37 hnm hbd (.int .u8 (c2 : Int)) _ (by first | (simp [Act.eval]; done) | simp [Act.eval, Act.put] | simp [Act.eval, gx']) (HH.out _) ?_) | (refine step_call_pure rfl 37 (.tmp 95) 5 rfl Tryd.f37 Tryd.func37 hnm hbd (.int .u8 (c3 : Int)) _ (by first | (simp [Act.eval]; done) | simp [Act.eval, Act.put] | simp [Act.eval, gy']) (HL.out _) ?_) | (refine step_append_two rfl (.tmp 86) (.tmp 99) 37 rfl w.heap.size 5 i0 (.int .u8 0) 1 Tryd.underlying37 hi hz0 hz1 hz2 rfl (.slice ao acc.length cp) acc.length (acc.map bv) (by simp [Act.eval]) (HR.out.1.drew.alloc _) ⟨wr.heap.size, 0, none⟩ 1 1 [.int .u8 ((16 * x + y : Nat) : Int)] (by simp [Act.eval]) rfl (news_many wr.drew _ _ _ rfl) (by simp [Value.oneCell']) (by unfold maxLen; omega) (by omega) (by have := HZ.out; simp; omega) ?_; intro ao2 cp2 w2 ho2 hg2 hf2; have HR2 : Hid (RowSt w w2 (.slice ao2 (acc.length + 1) cp2) (acc ++ [16 * x + y])) := HR.out.grow ((Below.refl _ _).drew.alloc (Nat.le_refl _) _) (by simp) ho2 hg2 rfl; clear ho2 hg2 hf2))
                        all_goals
                          go_wp2
                          go_roundw
                          case rel => exact ⟨k + 4, acc ++ [16 * x + y], by omega, by omega, by go_num, by simp; omega, HR2.out, HS.out⟩
                          case measure => simp [intOf]; omega
                  · have t8 : decide ((k : Int) + 1 + 1 + 2 ≤ (t.size : Int) - 1) = false := by simp; omega
                    have t8' : decide ((k : Int) + 2 + 2 ≤ (t.size : Int) - 1) = false := by simp; omega
                    have t8'' : decide ((k : Int) + 4 ≤ (t.size : Int) - 1) = false := by simp; omega
                    have HS : Hid (rUn (bt t 1) = (rUn (bt t (k + 2))).map ((acc ++ [sb t (k + 1)]) ++ ·)) := HSt.out _ _ (HFd.out hn (fun h => h4 h.2.1))
                    clear HFn HFd HFx HSt hn hx
                    generalize sb t (k + 1) = d at *
                    go_wp2_with (at_builtin; refine wpList_append_two _ rfl _ _ 37 rfl w.heap.size 5 i0 (.int .u8 0) 1 Tryd.underlying37 hi hz0 hz1 hz2 rfl (.slice ao acc.length cp) acc.length (acc.map bv) rfl (HR.out.1.alloc _) (some ⟨wr.heap.size, 0, none⟩) 1 1 [.int .u8 ((d : Nat) : Int)] rfl (by simp) rfl (news_many wr _ _) (by simp [Value.oneCell']) (by unfold maxLen; omega) (by omega) (by have := HZ.out; simp; omega) ?_)
                    intro v1 w1 ho1 hg1 hf1
                    have HR1 : Hid (RowSt w w1 v1 (acc ++ [d])) := HR.out.grow ((Below.refl _ _).alloc (Nat.le_refl _) _) (by simp) ho1 hg1 rfl
                    clear ho1 hg1 hf1
                    go_wp2
                    go_roundw
                    case rel => exact ⟨k + 2, acc ++ [d], by omega, by omega, by go_num, by simp; omega, HR1.out, HS.out⟩
                    case measure => simp [intOf]; omega
                · have t7 : ((sb t (k + 1) : Int) == 120) = false := by rw [beq_eq_false_iff_ne]; omega
                  have HS : Hid (rUn (bt t 1) = (rUn (bt t (k + 2))).map ((acc ++ [sb t (k + 1)]) ++ ·)) := HSt.out _ _ (HFd.out hn (fun h => hx h.1))
                  clear HFn HFd HFx HSt hn hx
                  generalize sb t (k + 1) = d at *
                  go_wp2_with (at_builtin; refine wpList_append_two _ rfl _ _ 37 rfl w.heap.size 5 i0 (.int .u8 0) 1 Tryd.underlying37 hi hz0 hz1 hz2 rfl (.slice ao acc.length cp) acc.length (acc.map bv) rfl (HR.out.1.alloc _) (some ⟨wr.heap.size, 0, none⟩) 1 1 [.int .u8 ((d : Nat) : Int)] rfl (by simp) rfl (news_many wr _ _) (by simp [Value.oneCell']) (by unfold maxLen; omega) (by omega) (by have := HZ.out; simp; omega) ?_)
                  intro v1 w1 ho1 hg1 hf1
                  have HR1 : Hid (RowSt w w1 v1 (acc ++ [d])) := HR.out.grow ((Below.refl _ _).alloc (Nat.le_refl _) _) (by simp) ho1 hg1 rfl
                  clear ho1 hg1 hf1
                  go_wp2
                  go_roundw
                  case rel => exact ⟨k + 2, acc ++ [d], by omega, by omega, by go_num, by simp; omega, HR1.out, HS.out⟩
                  case measure => simp [intOf]; omega
            · have t4 : ((sb t k : Int) != 92) = true := by rw [bne_iff_ne]; omega
              have HS : Hid (rUn (bt t 1) = (rUn (bt t (k + 1))).map ((acc ++ [sb t k]) ++ ·)) := ru_step t k _ 1 acc HA.out (HPl.out hc)
              clear HPl HEd HA hc
              generalize sb t k = c at *
              go_wp2_with (at_builtin; refine wpList_append_two _ rfl _ _ 37 rfl w.heap.size 5 i0 (.int .u8 0) 1 Tryd.underlying37 hi hz0 hz1 hz2 rfl (.slice ao acc.length cp) acc.length (acc.map bv) rfl (HR.out.1.alloc _) (some ⟨wr.heap.size, 0, none⟩) 1 1 [.int .u8 ((c : Nat) : Int)] rfl (by simp) rfl (news_many wr _ _) (by simp [Value.oneCell']) (by unfold maxLen; omega) (by omega) (by have := HZ.out; simp; omega) ?_)
              intro v1 w1 ho1 hg1 hf1
              have HR1 : Hid (RowSt w w1 v1 (acc ++ [c])) := HR.out.grow ((Below.refl _ _).alloc (Nat.le_refl _) _) (by simp) ho1 hg1 rfl
              clear ho1 hg1 hf1
              go_wp2
              go_roundw
              case rel => exact ⟨k + 1, acc ++ [c], by omega, by omega, by go_num, by simp; omega, HR1.out, HS.out⟩
              case measure => simp [intOf]; omega
          · have tl : decide ((k : Int) < (t.size : Int) - 1) = false := by simp; omega
            have HE : Hid (rUn (bt t 1) = some acc) := by
              show _ = _
              rw [HA.out, bt_nil t k (by omega), rUn_nil]; simp
            have hcv : (convert 37 9 (.slice ao acc.length cp)).run Tryd.prog wr = .ok (.string (bstr acc)) wr := conv_own HR.out.1
            have HQ : Hid (Calls Tryd.prog 15 #[.string (bstr acc)] wr fun e w' => e = .returned (.string ⟨(quoteL (bstr acc).data.toList).toArray⟩) ∧ Below wr.heap.size wr w') := rquote_any (bstr acc) wr (by rw [bstr_size]; omega)
            clear HA
            by_cases he : quoteL (bstr acc).data.toList = t.data.toList
            · have HX : Hid (RuRes t (bstr acc) 0) := .inr ⟨HMk.out, .inr ⟨acc, HE.out, .inl ⟨he, rfl, rfl⟩⟩⟩
              rw [he, show (⟨t.data.toList.toArray⟩ : ByteArray) = t by simp] at HQ
              clear HE he
              generalize bstr acc = x at *
              go_wp2_with fail
              refine HQ.out.mono ?_
              rintro e w2 ⟨rfl, hb2⟩
              have HB2 : Hid (Below w.heap.size w w2) := HR.out.2.trans (hb2.mono HR.out.2.size)
              clear hb2
              go_wp2
              go_ret2
              exact ⟨⟨_, 0, rfl, HX.out⟩, HB2.out⟩
            · have HX : Hid (RuRes t ⟨#[]⟩ 16) := .inr ⟨HMk.out, .inr ⟨acc, HE.out, .inr ⟨he, rfl, rfl⟩⟩⟩
              have hne : (⟨(quoteL (bstr acc).data.toList).toArray⟩ : ByteArray) ≠ t := fun h => he (by rw [← h])
              clear HE he
              generalize (⟨(quoteL (bstr acc).data.toList).toArray⟩ : ByteArray) = q at *
              generalize bstr acc = x at *
              have hne2 : (q.toList == t.toList) = false := by
                rw [beq_eq_false_iff_ne, Lib.toList_data, Lib.toList_data]
                intro h
                exact hne ((bytes_of q _ h).trans (by simp))
              clear hne
              go_wp2_with fail
              refine HQ.out.mono ?_
              rintro e w2 ⟨rfl, hb2⟩
              have HB2 : Hid (Below w.heap.size w w2) := HR.out.2.trans (hb2.mono HR.out.2.size)
              clear hb2
              go_wp2
              go_ret2
              exact ⟨⟨_, 16, rfl, HX.out⟩, HB2.out⟩
      · have t3 : ((sb t (t.size - 1) : Int) != 34) = true := by rw [bne_iff_ne]; omega
        have HX : Hid (RuRes t ⟨#[]⟩ 16) := .inl ⟨fun h => hb h.2.2, rfl, rfl⟩
        clear ha hb
        generalize sb t 0 = c at *
        generalize sb t (t.size - 1) = d at *
        go_enter Tryd.func14, Tryd.ntmps14
        go_wp2
        go_ret2
        exact ⟨⟨_, 16, rfl, HX.out⟩, Below.refl _ _⟩
    · have t2 : ((sb t 0 : Int) != 34) = true := by rw [bne_iff_ne]; omega
      have HX : Hid (RuRes t ⟨#[]⟩ 16) := .inl ⟨fun h => ha h.2.1, rfl, rfl⟩
      clear ha
      generalize sb t 0 = c at *
      go_enter Tryd.func14, Tryd.ntmps14
      go_wp2
      go_ret2
      exact ⟨⟨_, 16, rfl, HX.out⟩, Below.refl _ _⟩
  · have t1 : decide ((t.size : Int) < 2) = true := by simp; omega
    have HX : Hid (RuRes t ⟨#[]⟩ 16) := .inl ⟨fun h => h2 h.1, rfl, rfl⟩
    go_enter Tryd.func14, Tryd.ntmps14
    go_wp2
    go_ret2
    exact ⟨⟨_, 16, rfl, HX.out⟩, Below.refl _ _⟩
end Go.Proofs.YtpkobgnbjmefnabDoor
