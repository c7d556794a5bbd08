import Derived.Test.YtpkobgnbjmefnabDoorBytes
import Derived.Test.YtpkobgnbjmefnabDoorByte
namespace Go.Proofs.YtpkobgnbjmefnabDoor
open Go.RowKit
set_option linter.unusedVariables false
set_option maxRecDepth 100000

/-- the bytes of the first n of a row of parts -/
def flat (L : Nat → List Nat) : Nat → List Nat
  | 0 => []
  | n + 1 => flat L n ++ L n
theorem crcL_append (c : Nat) (l m : List Nat) : Crc.crcL c (l ++ m) = Crc.crcL (Crc.crcL c l) m := by unfold Crc.crcL; rw [List.foldl_append]
theorem crcL_take (c : Nat) (l : List Nat) (k : Nat) (h : k < l.length) : Crc.crcL c (l.take (k + 1)) = Crc.stepN 8 (Crc.crcL c (l.take k) ^^^ l[k]) := by
  rw [List.take_succ_eq_append_getElem h, crcL_append]; rfl
theorem crcL_lt (c : Nat) (l : List Nat) (hc : c < 4294967296) (h : ∀ x ∈ l, x < 256) : Crc.crcL c l < 4294967296 := by
  induction l generalizing c with
  | nil => exact hc
  | cons a l ih =>
    refine ih _ (Crc.stepN_lt 8 _ ?_) (fun x hx => h x (by simp [hx]))
    exact Nat.xor_lt_two_pow (n := 32) hc (by have := h a (by simp); omega)
theorem xor_byte (r x : Nat) (hr : r < 4294967296) (hx : x < 256) : bits .xor .u32 (r : Int) (x : Int) = ((r ^^^ x : Nat) : Int) := u32_xor_nat r x hr (by omega)
theorem not_u32 (r : Nat) (hr : r < 4294967296) : bits .xor .u32 4294967295 (r : Int) = ((4294967295 ^^^ r : Nat) : Int) := u32_xor_nat 4294967295 r (by decide) hr
/-- the sum -/
def crcOf (l : List Nat) : Nat := 4294967295 ^^^ Crc.crcL 4294967295 l
theorem crcOf_lt (l : List Nat) (h : ∀ x ∈ l, x < 256) : crcOf l < 4294967296 := Nat.xor_lt_two_pow (n := 32) (by decide) (crcL_lt _ _ (by decide) h)
theorem flat_lt (L : Nat → List Nat) (n : Nat) (h : ∀ i, i < n → ∀ x ∈ L i, x < 256) : ∀ x ∈ flat L n, x < 256 := by
  induction n with
  | zero => intro x hx; simp [flat] at hx
  | succ n ih =>
    intro x hx
    simp only [flat, List.mem_append] at hx
    rcases hx with hx | hx
    · exact ih (fun i hi => h i (by omega)) x hx
    · exact h n (by omega) x hx

set_option maxHeartbeats 1000000 in
theorem crc_some (pb po pcap n : Nat) (A : Nat → Option Addr) (C : Nat → Nat) (L : Nat → List Nat) (w : World) (hn : n ≤ 140737488351232)
    (hp : ∀ i, i < n → w.cell? ⟨pb, po + i, none⟩ = some (.slice (A i) (L i).length (C i))) (hL : ∀ i, i < n → BRow w (A i) (C i) (L i)) :
    Calls Tryd.prog 68 #[.slice (some ⟨pb, po, none⟩) n pcap] w fun e w' => e = .returned (.int .u32 (crcOf (flat L n) : Nat)) ∧ w' = w := by
  have HP : Hid (∀ i, i < n → w.cell? ⟨pb, po + i, none⟩ = some (.slice (A i) (L i).length (C i))) := hp
  have HL : Hid (∀ i, i < n → BRow w (A i) (C i) (L i)) := hL
  clear hp hL
  go_enter Tryd.func68, Tryd.ntmps68
  go_wp2
  go_loop [3, 10] (fun r i => ∃ k : Nat, k ≤ n ∧ i = .int .i64 k ∧ r = .int .u32 (Crc.crcL 4294967295 (flat L k) : Nat)) (fun _ i => n - (intOf i).toNat)
  case atStart => exact ⟨0, Nat.zero_le _, rfl, rfl⟩
  case round =>
    obtain ⟨k, hk, rfl, rfl⟩ := hrel
    have hcl := crcL_lt 4294967295 (flat L k) (by decide) (flat_lt L k fun i hi => (HL.out i (by omega)).lt)
    by_cases hlt : k < n
    · have hrow := HL.out k hlt
      have hcell := HP.out k hlt
      have HF : Hid (Crc.crcL 4294967295 (flat L (k + 1)) = Crc.crcL (Crc.crcL 4294967295 (flat L k)) (L k)) := crcL_append _ _ _
      generalize Crc.crcL 4294967295 (flat L k) = c at *
      obtain ⟨hl256, hlen, -, hat⟩ := hrow
      have HA : Hid (L k ≠ [] → ∃ b off, A k = some ⟨b, off, none⟩ ∧ ∀ j (hj : j < (L k).length), w.cell? ⟨b, off + j, none⟩ = some (bv (L k)[j])) := hat
      have H256 : Hid (∀ x ∈ L k, x < 256) := hl256
      clear hat hl256
      generalize A k = ao at *
      generalize C k = cp at *
      generalize L k = l at *
      by_cases hne : l = []
      · subst hne
        simp only [List.length_nil] at hcell
        go_wp2
        refine wp_loop_rounds 1 ?_
        rw [rounds_succ]
        go_wp2
        go_round
        case rel => exact ⟨k + 1, by omega, by go_num, val_u32 (by rw [HF.out]; rfl)⟩
        case measure => simp [intOf]; omega
      · obtain ⟨b, off, rfl, hc⟩ := HA.out hne
        have HC : Hid (∀ j (hj : j < l.length), w.cell? ⟨b, off + j, none⟩ = some (bv l[j])) := hc
        clear hc
        go_wp2
        go_loop [3, 16] (fun r i => ∃ j : Nat, j ≤ l.length ∧ i = .int .i64 j ∧ r = .int .u32 (Crc.crcL c (l.take j) : Nat)) (fun _ i => l.length - (intOf i).toNat)
        case atStart => exact ⟨0, Nat.zero_le _, rfl, rfl⟩
        case round =>
          obtain ⟨j, hj, rfl, rfl⟩ := hrel
          have hcj := crcL_lt c (l.take j) hcl (fun x hx => H256.out x (List.mem_of_mem_take hx))
          by_cases hjl : j < l.length
          · have hcx := HC.out j hjl
            have hx := H256.out _ (List.getElem_mem hjl)
            have HS : Hid (Crc.crcL c (l.take (j + 1)) = Crc.stepN 8 (Crc.crcL c (l.take j) ^^^ l[j])) := crcL_take c l j hjl
            generalize Crc.crcL c (l.take j) = r at *
            generalize l[j] = x at *
            have hxor := xor_byte r x hcj hx
            have hrx : r ^^^ x < 4294967296 := Nat.xor_lt_two_pow (n := 32) hcj (by omega)
            unfold bv at hcx
            go_wp2_with (go_at_call 84; refine (crcByte_any _ _ hrx).mono ?_; rintro e w' ⟨rfl, rfl⟩)
            go_round
            case rel => exact ⟨j + 1, by omega, by go_num, val_u32 (by rw [HS.out])⟩
            case measure => simp [intOf]; omega
          · have ej : l.take j = l := List.take_of_length_le (by omega)
            have HE : Hid (l.take j = l) := ej
            clear ej
            go_wp2
            go_round
            case rel => exact ⟨k + 1, by omega, by go_num, val_u32 (by rw [HF.out, HE.out])⟩
            case measure => simp [intOf]; omega
    · have e8 : k = n := by omega
      subst e8
      have hnot := not_u32 _ hcl
      go_wp2
      go_ret
      exact ⟨ret_u32 hnot, rfl⟩

end Go.Proofs.YtpkobgnbjmefnabDoor
