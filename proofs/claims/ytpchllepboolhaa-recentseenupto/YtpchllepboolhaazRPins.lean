import Derived.Test.YtpchllepboolhaaV40
import Derived.Test.YtpchllepboolhaazROI
import Derived.Test.YtpchllepboolhaaV9
namespace Go.Proofs.Ytpchllepboolhaa.I
open Go.RowKit Go.Maps
attribute [local go_sem] Oper.semAt_some
set_option linter.unusedVariables false
set_option linter.unusedSimpArgs false
set_option maxRecDepth 100000

theorem Act.below {w w' : World} {bo bm g : Nat} {L L' : List Ent} (h : Act w w' bo bm g L L') {B : Nat} (hB : ∀ i ∈ fp bo bm g L, B ≤ i) (hw : B ≤ w.heap.size) : Below B w w' ∧ ∀ i ∈ fp bo bm g L', B ≤ i :=
  ⟨h.kp.below hB hw, fun i hi => (h.sub i hi).elim (hB i) (fun h => by omega)⟩
/-- one key, pinned k times -/
def One (w W : World) (bo bm g : Nat) (key : Int) (k p : Nat) : Prop := RO W bo bm g [⟨key, k, p⟩] ∧ Below w.heap.size w W ∧ ∀ i ∈ fp bo bm g [(⟨key, k, p⟩ : Ent)], w.heap.size ≤ i
theorem One.pin {w W : World} {bo bm g : Nat} {key : Int} {k p : Nat} (h : One w W bo bm g key k p) (hk : k < 2147483647) :
    Calls Try.prog 41 #[.pointer (some ⟨bo, 0, none⟩), .int .i64 key] W fun r w' => r = .returned (.bool true) ∧ One w w' bo bm g key (k + 1) p := by
  refine (pin_any (L1 := []) (e := ⟨key, k, p⟩) (L2 := []) h.1 hk).mono ?_
  rintro e w' ⟨rfl, ha⟩
  obtain ⟨h1, h2⟩ := ha.below h.2.2 h.2.1.size
  exact ⟨rfl, ha.ro, h.2.1.trans h1, h2⟩
theorem One.unpin {w W : World} {bo bm g : Nat} {key : Int} {k p : Nat} (h : One w W bo bm g key k p) :
    Calls Try.prog 43 #[.pointer (some ⟨bo, 0, none⟩), .int .i64 key] W fun r w' => r = .returned (.bool (decide (0 < k))) ∧ One w w' bo bm g key (k - 1) p := by
  by_cases hk : k = 0
  · refine (unpin_zero h.1 (e := ⟨key, k, p⟩) (by simp) hk).mono ?_
    rintro e w' ⟨rfl, rfl⟩
    subst hk
    exact ⟨rfl, h⟩
  · refine (unpin_any (L1 := []) (e := ⟨key, k, p⟩) (L2 := []) h.1 hk).mono ?_
    rintro e w' ⟨rfl, ha⟩
    obtain ⟨h1, h2⟩ := ha.below h.2.2 h.2.1.size
    rw [show decide (0 < k) = true from decide_eq_true (by omega)]
    exact ⟨rfl, ha.ro, h.2.1.trans h1, h2⟩
theorem One.pins {w W : World} {bo bm g : Nat} {key : Int} {k p : Nat} (h : One w W bo bm g key k p) :
    Calls Try.prog 39 #[.pointer (some ⟨bo, 0, none⟩), .int .i64 key] W fun r w' => r = .returned (.int .i64 k) ∧ w' = W := pins_any h.1 (e := ⟨key, k, p⟩) (by simp)
theorem One.pins1 {w W : World} {bo bm g : Nat} {key : Int} {k p : Nat} (h : One w W bo bm g key (k + 1) p) :
    Calls Try.prog 39 #[.pointer (some ⟨bo, 0, none⟩), .int .i64 key] W fun r w' => r = .returned (.int .i64 ((k : Int) + 1)) ∧ w' = W := h.pins
theorem One.oldest {w W : World} {bo bm g : Nat} {key : Int} {k p : Nat} (h : One w W bo bm g key k p) :
    Calls Try.prog 32 #[.pointer (some ⟨bo, 0, none⟩)] W fun r w' => r = .returned (.tuple #[.int .i64 (if k = 0 then key else 0), .bool (decide (k = 0))]) ∧ One w w' bo bm g key k p := by
  refine (oldest_any h.1).mono ?_
  rintro e w' ⟨rfl, hb⟩
  refine ⟨?_, h.1.later hb, h.2.1.trans (hb.mono h.2.1.size), h.2.2⟩
  by_cases hk : k = 0 <;> simp [I.oldest, hk]

set_option maxHeartbeats 4000000 in
theorem lawPins_any (key n m : Int) (w : World) (hkey : wfK key) (hn0 : 0 ≤ n) (hn : n ≤ 65535) (hm0 : 0 ≤ m) (hm : m ≤ 65535) :
    Calls Try.prog 8 #[.int .i64 key, .int .u16 n, .int .u16 m] w fun e w' => e = .returned (.bool true) ∧ Below w.heap.size w w' := by
  go_enter Try.func8, Try.ntmps8
  go_wp2_with (first | (go_at_call 9; refine (new_any _).mono ?_; rintro e w0 ⟨bo, bm, g, rfl, h0, hb0, hf0⟩) | (go_at_call 34; refine (add_new h0 hkey (by simp) (by decide)).mono ?_; rintro e w1 ⟨rfl, p, ha1⟩; have hab := ha1.below hf0 hb0.size; have H1 : Hid (One w w1 bo bm g key 0 p) := ⟨ha1.ro, hb0.trans hab.1, hab.2⟩; clear hab ha1 h0 hf0 hb0))
  go_loopw [10] (fun i wr => ∃ k : Nat, (k : Int) ≤ n ∧ i = .int .i64 k ∧ Hid (One w wr bo bm g key k p)) (fun i _ => (n - intOf i).toNat)
  case atStart => exact ⟨0, by omega, rfl, H1⟩
  case round =>
    obtain ⟨k, hk, rfl, HK⟩ := hrel
    by_cases hlt : (k : Int) < n
    · have hpin := HK.out.pin (by omega)
      have hk0 : (0 : Int) ≤ (k : Int) := by omega
      go_wp2_with (first | (go_at_call 41; refine hpin.mono ?_; rintro e w2 ⟨rfl, h2⟩; have hpn := h2.pins1; have H2 : Hid (One w w2 bo bm g key (k + 1) p) := h2; clear h2) | (go_at_call 39; refine hpn.mono ?_; rintro e w9 ⟨rfl, hw9⟩; rw [hw9]; clear hw9))
      go_roundw
      case rel => exact ⟨k + 1, by omega, by go_num, H2⟩
      case measure => simp [intOf]; omega
    · have hk1 : (k : Int) = n := by omega
      have H1' : Hid (One w wr bo bm g key n.toNat p) := by have := HK.out; rw [show n.toNat = k by omega]; exact this
      rw [hk1]
      clear HK hk1 hlt hk
      go_wp2
      go_loopw [11] (fun i wr => ∃ j : Nat, (j : Int) ≤ m ∧ i = .int .i64 j ∧ Hid (One w wr bo bm g key (n.toNat - j) p)) (fun i _ => (m - intOf i).toNat)
      case atStart => exact ⟨0, by omega, rfl, H1'⟩
      case round =>
        obtain ⟨j, hj, rfl, HJ⟩ := hrel
        have hj0 : (0 : Int) ≤ (j : Int) := by omega
        by_cases hlt : (j : Int) < m
        · have hun := HJ.out.unpin
          rw [show decide (0 < n.toNat - j) = decide ((j : Int) < n) from decide_eq_decide.2 (by omega)] at hun
          by_cases hjn : (j : Int) < n
          all_goals
            go_wp2_with (go_at_call 43; refine hun.mono ?_; rintro e w2 ⟨rfl, h2⟩; have H2 : Hid (One w w2 bo bm g key (n.toNat - j - 1) p) := h2; clear h2)
            go_roundw
            case rel => exact ⟨j + 1, by omega, by go_num, H2⟩
            case measure => simp [intOf]; omega
        · have hjm : (j : Int) = m := by omega
          have HE : Hid (One w wr bo bm g key (n.toNat - m.toNat) p) := by have := HJ.out; rw [show m.toNat = j by omega]; exact this
          rw [hjm]
          clear HJ hjm hlt hj hj0
          by_cases hnm : n < m
          · have hz : n.toNat - m.toNat = 0 := by omega
            rw [hz] at HE
            have hold := HE.out.oldest
            simp only [if_true, decide_true] at hold
            clear hz
            go_wp2_with (first | (go_at_call 32; refine hold.mono ?_; rintro e w2 ⟨rfl, h2⟩; have hpn := h2.pins; have hal := S.alive_any w2; have H2 : Hid (One w w2 bo bm g key 0 p) := h2; clear h2) | (go_at_call 39; refine hpn.mono ?_; rintro e w9 ⟨rfl, hw9⟩; rw [hw9]; clear hw9) | (go_at_call 12; refine hal.mono ?_; rintro e w3 ⟨rfl, h3⟩))
            go_ret
            exact ⟨rfl, H2.out.2.1.trans (h3.mono H2.out.2.1.size)⟩
          · have hold := HE.out.oldest
            obtain ⟨d, hd⟩ : ∃ d, d = n.toNat - m.toNat := ⟨_, rfl⟩
            rw [← hd] at hold HE
            have hnd : n - m = (d : Int) := by omega
            have hd0 : (0 : Int) ≤ (d : Int) := by omega
            have hnm2 : ¬ ((d : Int) < 0) := by omega
            by_cases hdz : d = 0
            · subst hdz
              simp only [if_true, decide_true] at hold
              have hnm3 : n - m = 0 := hnd
              clear hnd hd hd0 hnm2
              go_wp2_with (first | (go_at_call 32; refine hold.mono ?_; rintro e w2 ⟨rfl, h2⟩; have hpn := h2.pins; have hal := S.alive_any w2; have H2 : Hid (One w w2 bo bm g key 0 p) := h2; clear h2) | (go_at_call 39; refine hpn.mono ?_; rintro e w9 ⟨rfl, hw9⟩; rw [hw9]; clear hw9) | (go_at_call 12; refine hal.mono ?_; rintro e w3 ⟨rfl, h3⟩))
              go_ret
              exact ⟨rfl, H2.out.2.1.trans (h3.mono H2.out.2.1.size)⟩
            · simp only [hdz, if_false, decide_false] at hold
              have hdz2 : ¬ (d : Int) = 0 := by omega
              have hdz3 : ((d : Int) == 0) = false := by simpa using hdz
              clear hd hnm
              go_wp2_with (first | (go_at_call 32; refine hold.mono ?_; rintro e w2 ⟨rfl, h2⟩; have hpn := h2.pins; have hal := S.alive_any w2; have H2 : Hid (One w w2 bo bm g key d p) := h2; clear h2) | (go_at_call 39; refine hpn.mono ?_; rintro e w9 ⟨rfl, hw9⟩; rw [hw9]; clear hw9) | (go_at_call 12; refine hal.mono ?_; rintro e w3 ⟨rfl, h3⟩))
              go_ret
              exact ⟨rfl, H2.out.2.1.trans (h3.mono H2.out.2.1.size)⟩
end Go.Proofs.Ytpchllepboolhaa.I
