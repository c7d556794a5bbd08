import Derived.Test.YtpkobgnbjmefnaaSame
import Derived.Lib.SlBytesConst
namespace Go.Proofs.Ytpkobgnbjmefnaa
open Go.RowKit
set_option linter.unusedVariables false

theorem copy_full (b off cap : Nat) (l : List Nat) (w : World) (hne : l ≠ []) (h : BRow w (some ⟨b, off, none⟩) cap l) :
    Calls Try.prog 9 #[.slice (some ⟨b, off, none⟩) l.length cap] w fun e w' => ∃ g cp, e = .returned (.slice (some ⟨g, 0, none⟩) l.length cp) ∧ w.heap.size ≤ g ∧ w'.ownsRow w.heap.size 5 1 (.slice (some ⟨g, 0, none⟩) l.length cp) l.length (l.map bv) ∧ Below w.heap.size w w' := by
  refine (copy_some _ cap l w h).mono fun e w' ⟨v, he, hown, hb⟩ => ?_
  rcases hown.2 with ⟨_, hn⟩ | ⟨g, cp, cur, hv, hg, _⟩
  · exact absurd (List.eq_nil_of_length_eq_zero hn) hne
  · subst hv; exact ⟨g, cp, he, hg, hown, hb⟩

theorem crc_one (pb po pcap : Nat) (ao : Option Addr) (cp : Nat) (l : List Nat) (w : World)
    (hp : w.cell? ⟨pb, po, none⟩ = some (.slice ao l.length cp)) (hL : BRow w ao cp l) :
    Calls Try.prog 7 #[.slice (some ⟨pb, po, none⟩) 1 pcap] w fun e w' => e = .returned (.int .u32 (crcOf l : Nat)) ∧ w' = w := by
  have := crc_some pb po pcap 1 (fun _ => ao) (fun _ => cp) (fun _ => l) w (by decide) (fun i hi => by rw [show i = 0 by omega]; exact hp) (fun _ _ => hL)
  simpa [flat] using this

def nine : List Nat := [49, 50, 51, 52, 53, 54, 55, 56, 57]
theorem crc_nine : crcOf nine = 3808858755 := by decide +kernel


def nineCells : Array Value := #[.int .u8 49, .int .u8 50, .int .u8 51, .int .u8 52, .int .u8 53, .int .u8 54, .int .u8 55, .int .u8 56, .int .u8 57]
theorem brow_nine (W W' : World) (hb : Below (W.heap.size + 1) (W.alloc (.cells nineCells 5 (9, 10))) W') : BRow W' (some ⟨W.heap.size, 0, none⟩) 9 nine := by
  refine ⟨by decide, by decide, fun h => by simp at h, fun _ => ⟨W.heap.size, 0, rfl, fun k hk => ?_⟩⟩
  rw [hb.cell (p := ⟨W.heap.size, 0 + k, none⟩) (Nat.lt_succ_self _), Nat.zero_add, World.cell?_alloc_mark]
  have : k < 9 := hk
  rcases (show k = 0 ∨ k = 1 ∨ k = 2 ∨ k = 3 ∨ k = 4 ∨ k = 5 ∨ k = 6 ∨ k = 7 ∨ k = 8 by omega) with h | h | h | h | h | h | h | h | h <;> subst h <;> rfl
theorem crc_nine_call (W : World) :
    Calls Try.prog 7 #[.slice (some ⟨W.heap.size + 1, 0, none⟩) 1 1] ((W.alloc (.cells nineCells 5 (9, 10))).alloc (.cells #[.slice (some ⟨W.heap.size, 0, none⟩) 9 9] 23))
      fun e w' => e = .returned (.int .u32 3808858755) ∧ w' = ((W.alloc (.cells nineCells 5 (9, 10))).alloc (.cells #[.slice (some ⟨W.heap.size, 0, none⟩) 9 9] 23)) := by
  have := crc_one (W.heap.size + 1) 0 1 (some ⟨W.heap.size, 0, none⟩) 9 nine ((W.alloc (.cells nineCells 5 (9, 10))).alloc (.cells #[.slice (some ⟨W.heap.size, 0, none⟩) 9 9] 23))
    (by have := World.cell?_alloc_mark (W.alloc (.cells nineCells 5 (9, 10))) #[.slice (some ⟨W.heap.size, 0, none⟩) 9 9] 23 (0, 0) 0
        rw [show (W.alloc (.cells nineCells 5 (9, 10))).heap.size = W.heap.size + 1 by simp] at this
        exact this)
    (brow_nine W _ ((Below.refl _ _).alloc (by simp) _))
  rw [crc_nine] at this
  exact this

theorem crc_nine_at (W : World) (s : Nat) (hs : W.heap.size = s) :
    Calls Try.prog 7 #[.slice (some ⟨s + 1, 0, none⟩) 1 1] ((W.alloc (.cells nineCells 5 (9, 10))).alloc (.cells #[.slice (some ⟨s, 0, none⟩) 9 9] 23))
      fun e w' => e = .returned (.int .u32 3808858755) ∧ w' = ((W.alloc (.cells nineCells 5 (9, 10))).alloc (.cells #[.slice (some ⟨s, 0, none⟩) 9 9] 23)) := by
  subst hs; exact crc_nine_call W

set_option maxHeartbeats 400000 in
theorem burst_no (ao : Option Addr) (cap n : Nat) (a1 a2 : Int) (w : World) (hn : n ≤ 140737488351232) (h : a1 < 0)
   (HCP : Hid (Calls Try.prog 9 #[.slice ao n cap] w fun e w' => ∃ v, e = .returned v ∧ Below w.heap.size w w')) :
    Calls Try.prog 4 #[.slice ao n cap, .int .i64 a1, .int .u32 a2] w fun e w' => e = .returned (.bool true) ∧ Below w.heap.size w w' := by
  have kc := fun (w : World) (C : Array Value) (n c : Nat) => Lib.run_convert_bytes_const (P := Try.prog) w 23 5 C n c Try.underlying23 Try.underlying5
  go_enter Try.func4, Try.ntmps4
  go_wp2_with fail
  refine HCP.out.mono ?_
  rintro e w1 ⟨v, rfl, hb⟩
  go_wp2_with fail
  refine (crc_nine_call w1).mono ?_
  rintro e w2 ⟨rfl, rfl⟩
  go_wp2
  go_ret
  exact ⟨rfl, (hb.alloc hb.size _).alloc (Nat.le_trans hb.size (by simp)) _⟩

set_option maxHeartbeats 400000 in
theorem burst_nil (ao : Option Addr) (cap : Nat) (a1 a2 : Int) (w : World) (h : 0 ≤ a1)
   (HCP : Hid (Calls Try.prog 9 #[.slice ao 0 cap] w fun e w' => ∃ v, e = .returned v ∧ Below w.heap.size w w')) :
    Calls Try.prog 4 #[.slice ao 0 cap, .int .i64 a1, .int .u32 a2] w fun e w' => e = .returned (.bool true) ∧ Below w.heap.size w w' := by
  have kc := fun (w : World) (C : Array Value) (n c : Nat) => Lib.run_convert_bytes_const (P := Try.prog) w 23 5 C n c Try.underlying23 Try.underlying5
  go_enter Try.func4, Try.ntmps4
  go_wp2_with fail
  refine HCP.out.mono ?_
  rintro e w1 ⟨v, rfl, hb⟩
  go_wp2_with fail
  refine (crc_nine_call w1).mono ?_
  rintro e w2 ⟨rfl, rfl⟩
  go_wp2
  go_ret
  exact ⟨rfl, (hb.alloc hb.size _).alloc (Nat.le_trans hb.size (by simp)) _⟩

theorem mask_bit (m k : Nat) (hm : m < 4294967296) : bits .and .u32 ((m : Int) / 2 ^ k) 1 = ((m / 2 ^ k % 2 : Nat) : Int) := by
  have := and_one_nat (m / 2 ^ k) (Nat.lt_of_le_of_lt (Nat.div_le_self _ _) hm)
  rw [← this]; simp
theorem bit_no {m k n a v : Nat} {x : Nat} (hb : m / 2 ^ k % 2 = 0) (h : v = x ^^^ ((m % 2 ^ min k (8 * n - a)) * 2 ^ a)) : v = x ^^^ ((m % 2 ^ min (k + 1) (8 * n - a)) * 2 ^ a) := by
  by_cases hk : k < 8 * n - a
  · rw [Nat.min_eq_left (by omega)] at h
    rw [Nat.min_eq_left (by omega), Crc.mask_succ, hb, h]; simp
  · rw [Nat.min_eq_right (by omega)] at h
    rw [Nat.min_eq_right (by omega)]; exact h
theorem bit_out {m k n a v : Nat} {x : Nat} (hk : 8 * n ≤ a + k) (h : v = x ^^^ ((m % 2 ^ min k (8 * n - a)) * 2 ^ a)) : v = x ^^^ ((m % 2 ^ min (k + 1) (8 * n - a)) * 2 ^ a) := by
  rw [Nat.min_eq_right (by omega)] at h
  rw [Nat.min_eq_right (by omega)]; exact h
theorem bit_yes {m k n a : Nat} {x : Nat} {c : List Nat} (hlen : c.length = n) (hlt : ∀ y ∈ c, y < 256) (hk : (a + k) / 8 < n) (hb : m / 2 ^ k % 2 = 1) (h : Crc.val c = x ^^^ ((m % 2 ^ min k (8 * n - a)) * 2 ^ a)) :
    Crc.val (c.set ((a + k) / 8) (c[(a + k) / 8]?.getD 0 ^^^ 2 ^ ((a + k) % 8))) = x ^^^ ((m % 2 ^ min (k + 1) (8 * n - a)) * 2 ^ a) := by
  have hj : (a + k) / 8 < c.length := by omega
  have := Crc.val_set c ((a + k) / 8) ((a + k) % 8) hj (by omega) hlt
  rw [List.getElem?_eq_getElem hj, Option.getD_some, this]
  rw [Nat.min_eq_left (by omega)] at h
  rw [Nat.min_eq_left (by omega), Crc.mask_succ, hb, h, Nat.one_mul, ← Nat.xor_assoc, show 8 * ((a + k) / 8) + (a + k) % 8 = a + k by omega]
theorem getD_lt (c : List Nat) (h : ∀ x ∈ c, x < 256) (j : Nat) : c[j]?.getD 0 < 256 := by
  by_cases hj : j < c.length
  · rw [List.getElem?_eq_getElem hj]; exact h _ (List.getElem_mem hj)
  · rw [List.getElem?_eq_none (by omega)]; decide
theorem xor_u8 (y r : Nat) (hy : y < 256) (hr : r < 8) : bits .xor .u8 (y : Int) (2 ^ r % 256) = ((y ^^^ 2 ^ r : Nat) : Int) := by
  have p8 : (2 : Nat) ^ r < 256 := Nat.pow_lt_pow_right (a := 2) (n := 8) (by decide) hr
  have := u8_xor_nat y (2 ^ r) hy p8
  rw [← this]
  congr 1
  have e : ((2 ^ r : Nat) : Int) = 2 ^ r := by simp
  rw [← e]; exact Int.emod_eq_of_lt (Int.natCast_nonneg _) (Int.ofNat_lt.2 p8)
theorem crc_new (W : World) (s : Nat) (hs : W.heap.size = s) (ao : Option Addr) (cp : Nat) (l : List Nat) (n : Nat) (hn : l.length = n) (hL : BRow W ao cp l) :
    Calls Try.prog 7 #[.slice (some ⟨s, 0, none⟩) 1 1] (W.alloc (.cells #[.slice ao n cp] 23))
      fun e w' => e = .returned (.int .u32 (crcOf l : Nat)) ∧ w' = W.alloc (.cells #[.slice ao n cp] 23) := by
  subst hn; subst hs
  exact crc_one W.heap.size 0 1 ao cp l _ (World.cell?_alloc_mark W #[.slice ao l.length cp] 23 (0, 0) 0) (hL.later ((Below.refl _ _).alloc (Nat.le_refl _) _))
theorem burst_end (l c : List Nat) (a n m : Nat) (hl : l.length = n) (hc : c.length = n) (h1 : ∀ x ∈ l, x < 256) (h2 : ∀ x ∈ c, x < 256) (hal : a < 8 * n)
    (hv : Crc.val c = Crc.val l ^^^ ((m % 2 ^ min 32 (8 * n - a)) * 2 ^ a)) : ((((crcOf l : Nat) : Int) == ((crcOf c : Nat) : Int)) == decide (l = c)) = true := by
  have hm : m % 2 ^ min 32 (8 * n - a) < 4294967296 :=
    Nat.lt_of_lt_of_le (Nat.mod_lt _ (Nat.two_pow_pos _)) (Nat.pow_le_pow_right (n := 2) (by decide) (Nat.min_le_left 32 _))
  have hb := Crc.burst l c a (8 * n - a) _ (by omega) h1 h2 (by omega) hm hv 4294967295
  have hx : crcOf l = crcOf c ↔ l = c := by
    rw [← hb]
    constructor
    · intro h
      have := congrArg (fun x => 4294967295 ^^^ x) h
      simpa only [crcOf, ← Nat.xor_assoc, Nat.xor_self, Nat.zero_xor] using this
    · intro h; unfold crcOf; rw [h]
  by_cases h : l = c
  · subst h; simp
  · have hne : ¬ crcOf l = crcOf c := fun e => h (hx.1 e)
    have : (((crcOf l : Nat) : Int) == ((crcOf c : Nat) : Int)) = false := by rw [beq_eq_false_iff_ne]; omega
    rw [this]; simp [h]
structure CInv (w wr : World) (g cp n : Nat) (c : List Nat) : Prop where
  len : c.length = n
  lt : ∀ x ∈ c, x < 256
  own : wr.ownsRow w.heap.size 5 1 (.slice (some ⟨g, 0, none⟩) n cp) n (c.map bv)
  bel : Below w.heap.size w wr
theorem CInv.cell {w wr : World} {g cp n : Nat} {c : List Nat} (h : CInv w wr g cp n c) (j : Nat) (hj : j < n) : wr.cell? ⟨g, j, none⟩ = some (.int .u8 ((c[j]?.getD 0 : Nat) : Int)) := by
  have := h.own.cellAt j (by simpa using hj)
  have hl := h.len
  rw [this]; simp [bv, show j < c.length by omega]
theorem CInv.brow {w wr : World} {g cp n : Nat} {c : List Nat} (h : CInv w wr g cp n c) (hn : n ≤ 140737488351232) : BRow wr (some ⟨g, 0, none⟩) cp c := by
  have hl := h.len
  refine ⟨h.lt, by omega, fun h => by simp at h, fun _ => ⟨g, 0, rfl, fun k hk => ?_⟩⟩
  rw [Nat.zero_add, h.cell k (by omega)]; simp [bv, hk]
theorem CInv.frozen {w wr : World} {g cp n : Nat} {c : List Nat} (h : CInv w wr g cp n c) (j : Nat) : wr.frozen? ⟨g, j, none⟩ = false := h.own.frozenAt j
theorem CInv.set {w wr : World} {g cp n : Nat} {c : List Nat} (hg : w.heap.size ≤ g) (h : CInv w wr g cp n c) (j x : Nat) (hx : x < 256) : CInv w (wr.setCell ⟨g, j, none⟩ (.int .u8 (x : Int))) g cp n (c.set j x) := by
  refine ⟨by rw [List.length_set]; exact h.len, ?_, ?_, h.bel.setCell hg _⟩
  · intro y hy
    rcases List.mem_or_eq_of_mem_set hy with h' | h'
    · exact h.lt y h'
    · rw [h']; exact hx
  · have := (h.own.stored j (bv x)).1
    rw [List.map_set]; exact this

set_option maxHeartbeats 400000 in
theorem burst_yes (b off cap n : Nat) (l : List Nat) (a1 : Int) (m : Nat) (w : World) (hm : m < 4294967296) (hne : l ≠ []) (h : BRow w (some ⟨b, off, none⟩) cap l) (HN : Hid (l.length = n)) (hn : n ≤ 140737488351232) (hn0 : 0 < n) (h1 : 0 ≤ a1) (a : Nat) (ha : a1 % (8 * (n : Int)) = (a : Int)) (hal : a < 8 * n)
    (HCP : Hid (Calls Try.prog 9 #[.slice (some ⟨b, off, none⟩) n cap] w fun e w' => ∃ g cp, e = .returned (.slice (some ⟨g, 0, none⟩) n cp) ∧ w.heap.size ≤ g ∧ w'.ownsRow w.heap.size 5 1 (.slice (some ⟨g, 0, none⟩) n cp) n (l.map bv) ∧ Below w.heap.size w w')) :
    Calls Try.prog 4 #[.slice (some ⟨b, off, none⟩) n cap, .int .i64 a1, .int .u32 (m : Int)] w fun e w' => e = .returned (.bool true) ∧ Below w.heap.size w w' := by
  have kc := fun (w : World) (C : Array Value) (n c : Nat) => Lib.run_convert_bytes_const (P := Try.prog) w 23 5 C n c Try.underlying23 Try.underlying5
  have hneg : decide (a1 < 0) = false := by simp; omega
  have hz : ((n : Int) == 0) = false := by simp; omega
  go_enter Try.func4, Try.ntmps4
  go_wp2_with fail
  refine HCP.out.mono ?_
  rintro e w1 ⟨g, cp, rfl, hg, hown, hb⟩
  go_wp2_with fail
  have hi0 : CInv w w1 g cp n l := ⟨HN.out, h.lt, hown, hb⟩
  clear hown hb
  simp only [ha]
  clear ha
  go_loopw [8] (fun i wr => ∃ k : Nat, ∃ c : List Nat, k ≤ 32 ∧ i = .int .i64 k ∧ CInv w wr g cp n c ∧ Crc.val c = Crc.val l ^^^ ((m % 2 ^ min k (8 * n - a)) * 2 ^ a)) (fun i _ => 32 - (intOf i).toNat)
  case atStart => exact ⟨0, l, Nat.zero_le _, rfl, hi0, by simp [Nat.mod_one]⟩
  case round =>
    obtain ⟨k, c, hk, rfl, hinv, hval⟩ := hrel
    have HV : Hid (Crc.val c = Crc.val l ^^^ ((m % 2 ^ min k (8 * n - a)) * 2 ^ a)) := hval
    clear hval
    by_cases hlt : k < 32
    · have hand := mask_bit m k hm
      rcases Nat.mod_two_eq_zero_or_one (m / 2 ^ k) with ho | ho
      · have HB : Hid (m / 2 ^ k % 2 = 0) := ho
        rw [ho] at hand
        clear ho
        go_wp2
        go_roundw
        case rel => exact ⟨k + 1, c, by omega, by go_num, hinv, bit_no HB.out HV.out⟩
        case measure => simp [intOf]; omega
      · have HB : Hid (m / 2 ^ k % 2 = 1) := ho
        rw [ho] at hand
        clear ho
        by_cases hj : (a + k) / 8 < n
        · have hc := hinv.cell ((a + k) / 8) hj
          have hf := hinv.frozen ((a + k) / 8)
          obtain ⟨y, hy⟩ : ∃ y, y = c[(a + k) / 8]?.getD 0 := ⟨_, rfl⟩
          rw [← hy] at hc
          have HY : Hid (y = c[(a + k) / 8]?.getD 0) := hy
          clear hy
          go_wp2
          go_roundw
          case rel =>
            have hy256 : y < 256 := by rw [HY.out]; exact getD_lt c hinv.lt _
            refine ⟨k + 1, c.set ((a + k) / 8) (y ^^^ 2 ^ ((a + k) % 8)), by omega, by go_num, ?_, ?_⟩
            · rw [xor_u8 y ((a + k) % 8) hy256 (by omega)]
              exact hinv.set hg _ _ (Nat.xor_lt_two_pow (n := 8) hy256 (Nat.pow_lt_pow_right (by decide) (by omega)))
            · rw [HY.out]; exact bit_yes hinv.len hinv.lt hj HB.out HV.out
          case measure => simp [intOf]; omega
        · go_wp2
          go_roundw
          case rel => exact ⟨k + 1, c, by omega, by go_num, hinv, bit_out (by omega) HV.out⟩
          case measure => simp [intOf]; omega
    · have e32 : k = 32 := by omega
      subst e32
      have HS : Hid (Calls Try.prog 10 #[.slice (some ⟨b, off, none⟩) n cap, .slice (some ⟨g, 0, none⟩) n cp] wr fun e w' => e = .returned (.bool (decide (l = c))) ∧ ∃ q, w' = wr.drewN q) := by
        have hs := same_any (some ⟨b, off, none⟩) (some ⟨g, 0, none⟩) cap cp l c wr (h.later hinv.bel) (hinv.brow hn)
        rw [HN.out, hinv.len] at hs
        exact hs
      have HQ : Hid (((((crcOf l : Nat) : Int) == ((crcOf c : Nat) : Int)) == decide (l = c)) = true) := by
        exact burst_end l c a n m HN.out hinv.len h.lt hinv.lt hal HV.out
      have HL : Hid (BRow wr (some ⟨b, off, none⟩) cap l) := h.later hinv.bel
      have HC : Hid (BRow wr (some ⟨g, 0, none⟩) cp c) := hinv.brow hn
      have HCL : Hid (c.length = n) := hinv.len
      have HBel : Hid (Below w.heap.size w wr) := hinv.bel
      clear h hinv hi0 HCP
      generalize decide (l = c) = d at *
      go_wp2_with fail
      refine HS.out.mono ?_
      rintro e w2 ⟨rfl, q, rfl⟩
      go_wp2_with fail
      refine (crc_new (wr.drewN q) _ rfl _ _ l n HN.out (HL.out.drewN q)).mono ?_
      rintro e w2 ⟨rfl, rfl⟩
      go_wp2_with fail
      refine (crc_new _ _ (by simp) _ _ c n HCL.out ((HC.out.drewN q).later ((Below.refl _ _).alloc (Nat.le_refl _) _))).mono ?_
      rintro e w2 ⟨rfl, rfl⟩
      have hq := HQ.out
      have kc2 := fun (C : Array Value) (nn cc : Nat) => kc (((wr.drewN q).alloc (.cells #[.slice (some ⟨b, off, none⟩) n cap] 23)).alloc (.cells #[.slice (some ⟨g, 0, none⟩) n cp] 23)) C nn cc
      simp only [World.size_alloc, World.heap_drewN] at kc2
      go_wp2_with fail
      refine (crc_nine_at _ (wr.heap.size + 1 + 1) ?_).mono ?_
      · simp
      rintro e w2 ⟨rfl, rfl⟩
      go_wp2
      go_ret
      refine ⟨rfl, ?_⟩
      have h0 : Below w.heap.size w (wr.drewN q) := below_drewN HBel.out q
      have hsz : w.heap.size ≤ wr.heap.size := HBel.out.size
      exact (((h0.alloc (by simpa using hsz) _).alloc (by simp; omega) _).alloc (by simp; omega) _).alloc (by simp; omega) _
end Go.Proofs.Ytpkobgnbjmefnaa
