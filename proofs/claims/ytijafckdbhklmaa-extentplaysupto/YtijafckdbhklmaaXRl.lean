import Derived.Test.YtijafckdbhklmaaXQI
import Derived.Deep.QuietTactic
import Derived.BigQuiet
namespace Go.Proofs.Ytijafckdbhklmaa.I
open Go.RowKit Go.Sort Go.Lib
set_option linter.unusedVariables false
set_option linter.unusedSimpArgs false
set_option maxRecDepth 100000

abbrev Put := Int × Int × Int
abbrev may (size lo hi : Int) : Prop := 0 ≤ lo ∧ lo ≤ hi ∧ hi ≤ size
/-- the value of a place, by the Sets themselves -/
def lastV (size first : Int) (l : List Put) (p : Int) : Int := l.foldl (fun v q => if may size q.1 q.2.1 ∧ q.1 ≤ p ∧ p < q.2.1 then q.2.2 else v) first
theorem lastV_snoc (size first : Int) (l : List Put) (q : Put) (p : Int) : lastV size first (l ++ [q]) p = if may size q.1 q.2.1 ∧ q.1 ≤ p ∧ p < q.2.1 then q.2.2 else lastV size first l p := by
  simp [lastV]
/-- a list of Sets, as it lies -/
def Puts (w : World) (ao : Option Addr) (l : List Put) : Prop := ∀ k q, l[k]? = some q → ∃ b off, ao = some ⟨b, off, none⟩ ∧ w.cell? ⟨b, off + k * 3, none⟩ = some (.int .i64 q.1) ∧ w.cell? ⟨b, off + k * 3 + 1, none⟩ = some (.int .i64 q.2.1) ∧ w.cell? ⟨b, off + k * 3 + 2, none⟩ = some (.int .i64 q.2.2)
theorem Puts.later {w w' : World} {ao : Option Addr} {l : List Put} (h : Puts w ao l) (hb : Below w.heap.size w w') : Puts w' ao l := fun k q hk => by
  obtain ⟨b, off, e, h0, h1, h2⟩ := h k q hk
  exact ⟨b, off, e, cell_later hb h0, cell_later hb h1, cell_later hb h2⟩

theorem may_yes (size lo hi : Int) (w : World) (h : may size lo hi) : Calls Try.prog 26 #[.int .i64 size, .int .i64 lo, .int .i64 hi] w fun e w' => e = .returned (.bool true) ∧ w' = w := by
  obtain ⟨h0, h1, h2⟩ := h
  go_enter Try.func26, Try.ntmps26
  go_wp2
  go_ret
  exact ⟨rfl, rfl⟩
theorem may_no (size lo hi : Int) (w : World) (h : ¬ may size lo hi) : Calls Try.prog 26 #[.int .i64 size, .int .i64 lo, .int .i64 hi] w fun e w' => e = .returned (.bool false) ∧ w' = w := by
  go_enter Try.func26, Try.ntmps26
  by_cases h0 : 0 ≤ lo
  · by_cases h1 : lo ≤ hi
    · have h2 : ¬ hi ≤ size := fun h2 => h ⟨h0, h1, h2⟩
      clear h
      go_wp2
      go_ret
      exact ⟨rfl, rfl⟩
    · clear h
      go_wp2
      go_ret
      exact ⟨rfl, rfl⟩
  · clear h
    go_wp2
    go_ret
    exact ⟨rfl, rfl⟩
theorem sized_yes (size : Int) (w : World) (h0 : 0 ≤ size) (h1 : size ≤ 1099511627776) : Calls Try.prog 20 #[.int .i64 size] w fun e w' => e = .returned (.bool true) ∧ w' = w := by
  go_enter Try.func20, Try.ntmps20
  go_wp2
  go_ret
  exact ⟨rfl, rfl⟩
theorem sized_no (size : Int) (w : World) (h : size < 0 ∨ 1099511627776 < size) : Calls Try.prog 20 #[.int .i64 size] w fun e w' => e = .returned (.bool false) ∧ w' = w := by
  go_enter Try.func20, Try.ntmps20
  by_cases h0 : 0 ≤ size
  · have h1 : ¬ size ≤ 1099511627776 := by omega
    clear h
    go_wp2
    go_ret
    exact ⟨rfl, rfl⟩
  · clear h
    go_wp2
    go_ret
    exact ⟨rfl, rfl⟩
theorem size_any {w : World} {B bm : Nat} {v : Value} {size : Int} {rs : List (Rn Int)} (h : MO w B bm v size rs) :
    Calls Try.prog 12 #[.pointer (some ⟨bm, 0, none⟩)] w fun e w' => e = .returned (.int .i64 size) ∧ w' = w := by
  have c0 : w.cell? ⟨bm, 0, none⟩ = some (.bool true) := h.c 0
  have c1 : w.cell? ⟨bm, 1, none⟩ = some (.int .i64 size) := h.c 1
  clear h
  go_enter Try.func12, Try.ntmps12
  go_wp2_with (go_at_call 33; refine (usable_at bm true _ c0).mono ?_; rintro e w9 ⟨rfl, hw9⟩; rw [hw9]; clear hw9)
  go_ret
  exact ⟨rfl, rfl⟩
theorem at_out {w : World} {B bm : Nat} {v : Value} {size : Int} {rs : List (Rn Int)} (h : MO w B bm v size rs) (i : Int) (ho : i < 0 ∨ size ≤ i) :
    Calls Try.prog 23 #[.pointer (some ⟨bm, 0, none⟩), .int .i64 i] w fun e w' => e = .returned (.tuple #[.int .i64 0, .bool false]) ∧ w' = w := by
  have c0 : w.cell? ⟨bm, 0, none⟩ = some (.bool true) := h.c 0
  have c1 : w.cell? ⟨bm, 1, none⟩ = some (.int .i64 size) := h.c 1
  clear h
  go_enter Try.func23, Try.ntmps23
  by_cases h0 : i < 0
  · clear ho
    go_wp2_with (go_at_call 33; refine (usable_at bm true _ c0).mono ?_; rintro e w9 ⟨rfl, hw9⟩; rw [hw9]; clear hw9)
    go_ret2
    exact ⟨rfl, rfl⟩
  · have h1 : size ≤ i := by omega
    clear ho
    go_wp2_with (go_at_call 33; refine (usable_at bm true _ c0).mono ?_; rintro e w9 ⟨rfl, hw9⟩; rw [hw9]; clear hw9)
    go_ret2
    exact ⟨rfl, rfl⟩

set_option maxHeartbeats 8000000 in
theorem last_any (size first p : Int) (ao : Option Addr) (n cap : Nat) (l : List Put) (w : World) (HL : Hid (n = l.length)) (hn : n ≤ 9223372036854775807) (HR : Hid (Puts w ao l)) :
    Calls Try.prog 22 #[.int .i64 size, .int .i64 first, .slice ao n cap, .int .i64 p] w fun e w' => e = .returned (.int .i64 (lastV size first l p)) ∧ ∃ m, w' = w.drewN m := by
  go_enter Try.func22, Try.ntmps22
  go_wp2
  go_loopw [9, 10] (fun v i wr => ∃ (k : Nat), k ≤ n ∧ i = .int .i64 k ∧ v = .int .i64 (lastV size first (l.take k) p) ∧ Hid (∃ d, wr = w.drewN d)) (fun _ i _ => n - (intOf i).toNat)
  case atStart => exact ⟨0, Nat.zero_le _, rfl, rfl, 0, rfl⟩
  case round =>
    obtain ⟨k, hk, rfl, rfl, HD⟩ := hrel
    by_cases hlt : k < n
    · obtain ⟨q, hq⟩ : ∃ q, l[k]? = some q := ⟨_, List.getElem?_eq_getElem (by have := HL.out; omega)⟩
      obtain ⟨b, off, rfl, c0, c1, c2⟩ := HR.out k q hq
      have ec : ∀ a, wr.cell? a = w.cell? a := fun a => by obtain ⟨d, rfl⟩ := HD.out; rfl
      rw [← ec] at c0 c1 c2
      have HD2 : Hid (∀ n, ∃ d, wr.drewN n = w.drewN d) := fun n => by obtain ⟨d, rfl⟩ := HD.out; exact ⟨d + n, World.drewN_drewN _ _ _⟩
      clear ec
      have HT : Hid (l.take (k + 1) = l.take k ++ [q]) := by
        show _ = _
        rw [List.take_add_one, hq]; rfl
      have hkz : (k : Int) < (n : Int) := by omega
      have HV := lastV_snoc size first (l.take k) q p
      rw [← HT.out] at HV
      obtain ⟨cur, hcur⟩ : ∃ cur, cur = lastV size first (l.take k) p := ⟨_, rfl⟩
      rw [← hcur] at HV ⊢
      obtain ⟨q0, q1, q2⟩ := q
      simp only at HV c0 c1 c2
      by_cases hm : may size q0 q1
      · by_cases h1 : q0 ≤ p
        · by_cases h2 : p < q1
          · have HE : Hid (lastV size first (l.take (k + 1)) p = q2) := by show _ = _; rw [HV, if_pos ⟨hm, h1, h2⟩]
            clear HV hq hcur
            go_wp2
            go_quiet (first | (go_at_call 26; exact Calls.quiet_of_same (may_yes size q0 q1 _ hm)))
            go_wp2
            go_roundw
            case rel => exact ⟨k + 1, by omega, by go_num, by rw [HE.out], HD2.out _⟩
            case measure => simp [intOf]; omega
          · have HE : Hid (lastV size first (l.take (k + 1)) p = cur) := by show _ = _; rw [HV, if_neg (fun h => h2 h.2.2)]
            clear HV hq hcur
            go_wp2
            go_quiet (first | (go_at_call 26; exact Calls.quiet_of_same (may_yes size q0 q1 _ hm)))
            go_wp2
            go_roundw
            case rel => exact ⟨k + 1, by omega, by go_num, by rw [HE.out], HD2.out _⟩
            case measure => simp [intOf]; omega
        · have HE : Hid (lastV size first (l.take (k + 1)) p = cur) := by show _ = _; rw [HV, if_neg (fun h => h1 h.2.1)]
          have hd1 : decide (q0 ≤ p) = false := decide_eq_false h1
          clear HV hq hcur
          go_wp2
          go_quiet (first | (go_at_call 26; exact Calls.quiet_of_same (may_yes size q0 q1 _ hm)))
          go_wp2
          go_roundw
          case rel => exact ⟨k + 1, by omega, by go_num, by rw [HE.out], HD2.out _⟩
          case measure => simp [intOf]; omega
      · have HE : Hid (lastV size first (l.take (k + 1)) p = cur) := by show _ = _; rw [HV, if_neg (fun h => hm h.1)]
        clear HV hq hcur
        go_wp2
        go_quiet (first | (go_at_call 26; exact Calls.quiet_of_same (may_no size q0 q1 _ hm)))
        go_wp2
        go_roundw
        case rel => exact ⟨k + 1, by omega, by go_num, by rw [HE.out], HD2.out _⟩
        case measure => simp [intOf]; omega
    · have e : k = n := by omega
      subst e
      have HE : Hid (l.take k = l) := by show _ = _; rw [HL.out, List.take_length]
      rw [HE.out]
      go_wp2
      go_ret
      exact ⟨rfl, HD.out⟩
end Go.Proofs.Ytijafckdbhklmaa.I
