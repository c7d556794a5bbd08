import Derived.Test.YtijafckdbhklmabZR
namespace Go.Proofs.Ytijafckdbhklmab.B
open Go.RowKit Go.Sort Go.Lib Go.Shelf
attribute [local go_sem] Oper.semAt_some
set_option linter.unusedVariables false
set_option linter.unusedSimpArgs false
set_option maxRecDepth 100000

set_option maxHeartbeats 8000000 in
theorem kept_any {w : World} {v2 : Value} {g : Nat} {l : List (Int × Int)} (h1 : Rngs w (some ⟨g, 0, none⟩) (fullR l)) (h2 : SL w v2 l) (hl : l.length ≤ 1099511627776) :
    Calls Try.prog 32 #[.slice (some ⟨g, 0, none⟩) l.length (l.length + 3), v2] w fun e w' => e = .returned (.bool true) ∧ Below w.heap.size w w' := by
  obtain ⟨bo, cb, rfl, _, hB⟩ := h2
  have HA : Hid (Rngs w (some ⟨g, 0, none⟩) (fullR l)) := h1
  have HB : Hid (Rngs w bo l) := hB
  have HQ := neqRng
  obtain ⟨n, hn⟩ : ∃ n, n = l.length := ⟨_, rfl⟩
  rw [← hn] at hl ⊢
  have HL : Hid (n = l.length) := hn
  have w0 : IntKind.i64.wrap ((n : Int) + 3) = (n : Int) + 3 := by rw [IntKind.wrap_i64]; omega
  clear hn h1 hB
  go_enter Try.func32, Try.ntmps32
  go_wp2
  go_loopw [6] (fun i wr => ∃ (k : Nat), k ≤ n + 3 ∧ i = .int .i64 k ∧ Hid (Below w.heap.size w wr)) (fun i _ => n + 3 - (intOf i).toNat)
  case atStart => exact ⟨0, Nat.zero_le _, rfl, Below.refl _ _⟩
  case round =>
    obtain ⟨k, hk, rfl, HD⟩ := hrel
    by_cases hlt : k < n + 3
    · have hkz : (k : Int) < (n : Int) + 3 := by omega
      have HD1 : Hid (Below w.heap.size w (wr.alloc (.cells #[.int .i64 77, .int .i64 78] TRng))) := HD.out.alloc HD.out.size _
      by_cases hl2 : k < n
      · have hkl : (k : Int) < (n : Int) := by omega
        obtain ⟨q, hq⟩ : ∃ q, l[k]? = some q := ⟨_, List.getElem?_eq_getElem (by have := HL.out; omega)⟩
        obtain ⟨b', off', rfl, e0, e1⟩ := HB.out k q hq
        obtain ⟨b, off, hbo, c0, c1⟩ := HA.out k q (fullR_in hq)
        cases hbo
        rw [Nat.zero_add] at c0 c1
        have HD2 : Hid (Below w.heap.size w (wr.alloc (.cells #[.int .i64 q.1, .int .i64 q.2] TRng))) := HD.out.alloc HD.out.size _
        have E0 := cell_later HD1.out e0
        have E1 := cell_later HD1.out e1
        have C0 := cell_later HD2.out c0
        have C1 := cell_later HD2.out c1
        clear hq e0 e1 c0 c1
        go_wp2
        go_quiet (fail)
        go_wp2
        go_roundw
        case rel => exact ⟨k + 1, by omega, by go_num, below_drewN HD2.out _⟩
        case measure => simp [intOf]; omega
      · have hkl : ¬ (k : Int) < (n : Int) := by omega
        obtain ⟨b, off, hbo, c0, c1⟩ := HA.out k (77, 78) (fullR_out (by have := HL.out; omega) (by have := HL.out; omega))
        cases hbo
        rw [Nat.zero_add] at c0 c1
        have C0 := cell_later HD1.out c0
        have C1 := cell_later HD1.out c1
        clear c0 c1
        go_wp2
        go_quiet (fail)
        go_wp2
        go_roundw
        case rel => exact ⟨k + 1, by omega, by go_num, below_drewN HD1.out _⟩
        case measure => simp [intOf]; omega
    · have hkz : ¬ (k : Int) < (n : Int) + 3 := by omega
      go_wp2
      go_ret
      exact ⟨rfl, HD.out⟩
end Go.Proofs.Ytijafckdbhklmab.B
