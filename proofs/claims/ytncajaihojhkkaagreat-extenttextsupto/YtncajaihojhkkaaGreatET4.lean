import Derived.Test.YtncajaihojhkkaaGreatET3
namespace Go.Proofs.YtncajaihojhkkaaGreat.I
open Go.RowKit Go.Sort Go.Lib Go.Shelf
attribute [local go_sem] Oper.semAt_some
set_option linter.unusedVariables false
set_option linter.unusedSimpArgs false
set_option maxRecDepth 100000

/-- the cuts, with one more entry -/
def cut1 (lo hi : Int) (l : List Int) (x : Int) : List Int := if lo < x ∧ x < hi then putL l x else l
def cut2 (lo hi : Int) (l : List Int) (q : Put) : List Int := cut1 lo hi (cut1 lo hi l q.1) q.2.1
def cutsL (S : List Put) (lo hi : Int) : List Int := S.foldl (cut2 lo hi) (putL (putL [] lo) hi)
theorem cutsL_take {S : List Put} {lo hi : Int} {k : Nat} {q : Put} (h : S[k]? = some q) : cutsL (S.take (k + 1)) lo hi = cut2 lo hi (cutsL (S.take k) lo hi) q := by
  rw [List.take_add_one, h]; simp [cutsL]
set_option maxHeartbeats 8000000 in
theorem cuts_any {w : World} {B bd : Nat} {sv : Value} {size first : Int} {S : List Put} (h : DM w B bd sv size first S) (lo hi : Int) (hl : S.length ≤ 1048576) :
    Calls Tryz.prog 24 #[.pointer (some ⟨bd, 0, none⟩), .int .i64 lo, .int .i64 hi] w fun e w' => ∃ v, e = .returned v ∧ IL w' v (cutsL S lo hi) ∧ Below w.heap.size w w' := by
  have c3 : w.cell? ⟨bd, 3, none⟩ = some sv := h.c 3
  obtain ⟨ao, cap, rfl⟩ := own_slice h.row
  have HR : Hid (∀ k q, S[k]? = some q → ∃ g, ao = some ⟨g, 0, none⟩ ∧ w.cell? ⟨g, k * 3, none⟩ = some (.int .i64 q.1) ∧ w.cell? ⟨g, k * 3 + 1, none⟩ = some (.int .i64 q.2.1) ∧ w.cell? ⟨g, k * 3 + 2, none⟩ = some (.int .i64 q.2.2)) := fun k q hk => qrow_cells h.row hk
  obtain ⟨n, hn⟩ : ∃ n, S.length = n := ⟨_, rfl⟩
  rw [hn] at c3 hl
  have HN : Hid (S.length = n) := hn
  have HP1 := put_any (il_nil w) (by simp) lo
  have C3 : Hid (∀ W, Below w.heap.size w W → W.cell? ⟨bd, 3, none⟩ = some (.slice ao n cap)) := fun W hW => cell_later hW c3
  have l1 : (putL [] lo).length ≤ 1 := putL_length [] lo
  have l2 := putL_length (putL [] lo) hi
  clear h hn
  go_enter Tryz.func24, Tryz.ntmps24
  go_wp2_with (first | (go_at_call 37; refine HP1.mono ?_; rintro e w1 ⟨v1, rfl, hI1, hb1⟩; have HP2 := put_any hI1 (by omega) hi; obtain ⟨a1, k1, rfl, _⟩ := hI1; clear HP1) | (go_at_call 37; refine HP2.mono ?_; rintro e w2 ⟨v2, rfl, hI2, hb2⟩; have hb12 : Below w.heap.size w w2 := hb1.trans (hb2.mono hb1.size); obtain ⟨a2, k2, rfl, hI2c⟩ := hI2; have HI2 : Hid (IL w2 (.slice a2 (putL (putL [] lo) hi).length k2) (putL (putL [] lo) hi)) := ⟨a2, k2, rfl, hI2c⟩; clear HP2 hI2c))
  have HB2 : Hid (Below w.heap.size w w2) := hb12
  clear hb1 hb2 hb12
  go_loopw [7, 8] (fun lv i wr => ∃ (k : Nat) (L : List Int) (ao2 : Option Addr) (cp : Nat), k ≤ n ∧ i = .int .i64 k ∧ lv = .slice ao2 L.length cp ∧ L.length ≤ 2 + 2 * k ∧ Hid (IL wr (.slice ao2 L.length cp) L) ∧ Hid (L = cutsL (S.take k) lo hi) ∧ Hid (Below w.heap.size w wr)) (fun _ i _ => n - (intOf i).toNat)
  case atStart => exact ⟨0, putL (putL [] lo) hi, a2, k2, Nat.zero_le _, rfl, rfl, by omega, HI2, rfl, HB2⟩
  case round =>
    obtain ⟨k, L, ao2, cp, hk, rfl, rfl, hL, HI, HE, HBk⟩ := hrel
    have c3k := C3.out wr HBk.out
    by_cases hlt : k < n
    · obtain ⟨q, hq⟩ : ∃ q, S[k]? = some q := ⟨_, List.getElem?_eq_getElem (by have := HN.out; omega)⟩
      obtain ⟨g, rfl, d0, d1, d2⟩ := HR.out k q hq
      have HS : Hid (cutsL (S.take (k + 1)) lo hi = cut2 lo hi L q) := by show _ = _; rw [cutsL_take hq, HE.out]
      have e0 := cell_later HBk.out d0
      have e1 := cell_later HBk.out d1
      have HC : Hid (∀ W, Below w.heap.size w W → W.cell? ⟨bd, 3, none⟩ = some (.slice (some ⟨g, 0, none⟩) n cap) ∧ W.cell? ⟨g, k * 3 + 1, none⟩ = some (.int .i64 q.2.1)) := fun W hW => ⟨C3.out W hW, cell_later hW d1⟩
      have hkz : (k : Int) < (n : Int) := by omega
      have bk := HBk.out.size
      clear d0 d1 d2 hq
      by_cases p1 : lo < q.1
      · by_cases p2 : q.1 < hi
        · skip
          by_cases r1 : lo < q.2.1
          · by_cases r2 : q.2.1 < hi
            · skip
              have HQ : Hid (cut2 lo hi L q = (putL (putL L q.1) q.2.1)) := by show _ = _; unfold cut2 cut1; rw [if_pos ⟨r1, r2⟩, if_pos ⟨p1, p2⟩]
              have HPa := put_any HI.out (by omega) q.1
              have la := putL_length L q.1
              go_wp2_with (first | (go_at_call 37; refine HPa.mono ?_; rintro e wA ⟨vA, rfl, hIA, hbA⟩; have bA : Below w.heap.size w wA := HBk.out.trans (hbA.mono HBk.out.size); obtain ⟨aA, kA, rfl, hIAc⟩ := hIA; have HIA : Hid (IL wA (.slice aA (putL L q.1).length kA) (putL L q.1)) := ⟨aA, kA, rfl, hIAc⟩; obtain ⟨cA, eA⟩ := HC.out wA bA; clear HPa hIAc; have HPb := put_any HIA.out (by omega) q.2.1; have lb := putL_length (putL L q.1) q.2.1) | (go_at_call 37; refine HPb.mono ?_; rintro e wB ⟨vB, rfl, hIB, hbB⟩; have bB : Below w.heap.size w wB := bA.trans (hbB.mono bA.size); obtain ⟨aB, kB, rfl, hIBc⟩ := hIB; have HIB : Hid (IL wB (.slice aB (putL (putL L q.1) q.2.1).length kB) (putL (putL L q.1) q.2.1)) := ⟨aB, kB, rfl, hIBc⟩; clear HPb hIBc))
              go_roundw
              case rel => exact ⟨k + 1, (putL (putL L q.1) q.2.1), aB, kB, by omega, by go_num, rfl, by omega, HIB, by show _ = _; rw [HS.out, HQ.out], bB⟩
              case measure => simp [intOf]; omega
            · skip
              have HQ : Hid (cut2 lo hi L q = (putL L q.1)) := by show _ = _; unfold cut2 cut1; rw [if_neg (fun h => r2 h.2), if_pos ⟨p1, p2⟩]
              have HPa := put_any HI.out (by omega) q.1
              have la := putL_length L q.1
              go_wp2_with (first | (go_at_call 37; refine HPa.mono ?_; rintro e wA ⟨vA, rfl, hIA, hbA⟩; have bA : Below w.heap.size w wA := HBk.out.trans (hbA.mono HBk.out.size); obtain ⟨aA, kA, rfl, hIAc⟩ := hIA; have HIA : Hid (IL wA (.slice aA (putL L q.1).length kA) (putL L q.1)) := ⟨aA, kA, rfl, hIAc⟩; obtain ⟨cA, eA⟩ := HC.out wA bA; clear HPa hIAc))
              go_roundw
              case rel => exact ⟨k + 1, (putL L q.1), aA, kA, by omega, by go_num, rfl, by omega, HIA, by show _ = _; rw [HS.out, HQ.out], bA⟩
              case measure => simp [intOf]; omega
          · skip
            have HQ : Hid (cut2 lo hi L q = (putL L q.1)) := by show _ = _; unfold cut2 cut1; rw [if_neg (fun h => r1 h.1), if_pos ⟨p1, p2⟩]
            have HPa := put_any HI.out (by omega) q.1
            have la := putL_length L q.1
            go_wp2_with (first | (go_at_call 37; refine HPa.mono ?_; rintro e wA ⟨vA, rfl, hIA, hbA⟩; have bA : Below w.heap.size w wA := HBk.out.trans (hbA.mono HBk.out.size); obtain ⟨aA, kA, rfl, hIAc⟩ := hIA; have HIA : Hid (IL wA (.slice aA (putL L q.1).length kA) (putL L q.1)) := ⟨aA, kA, rfl, hIAc⟩; obtain ⟨cA, eA⟩ := HC.out wA bA; clear HPa hIAc))
            go_roundw
            case rel => exact ⟨k + 1, (putL L q.1), aA, kA, by omega, by go_num, rfl, by omega, HIA, by show _ = _; rw [HS.out, HQ.out], bA⟩
            case measure => simp [intOf]; omega
        · skip
          by_cases r1 : lo < q.2.1
          · by_cases r2 : q.2.1 < hi
            · skip
              have HQ : Hid (cut2 lo hi L q = (putL L q.2.1)) := by show _ = _; unfold cut2 cut1; rw [if_pos ⟨r1, r2⟩, if_neg (fun h => p2 h.2)]
              have HPb := put_any HI.out (by omega) q.2.1
              have lb := putL_length L q.2.1
              go_wp2_with (first | (go_at_call 37; refine HPb.mono ?_; rintro e wB ⟨vB, rfl, hIB, hbB⟩; have bB : Below w.heap.size w wB := HBk.out.trans (hbB.mono HBk.out.size); obtain ⟨aB, kB, rfl, hIBc⟩ := hIB; have HIB : Hid (IL wB (.slice aB (putL L q.2.1).length kB) (putL L q.2.1)) := ⟨aB, kB, rfl, hIBc⟩; clear HPb hIBc))
              go_roundw
              case rel => exact ⟨k + 1, (putL L q.2.1), aB, kB, by omega, by go_num, rfl, by omega, HIB, by show _ = _; rw [HS.out, HQ.out], bB⟩
              case measure => simp [intOf]; omega
            · skip
              have HQ : Hid (cut2 lo hi L q = L) := by show _ = _; unfold cut2 cut1; rw [if_neg (fun h => r2 h.2), if_neg (fun h => p2 h.2)]
              go_wp2
              go_roundw
              case rel => exact ⟨k + 1, L, ao2, cp, by omega, by go_num, rfl, by omega, HI, by show _ = _; rw [HS.out, HQ.out], HBk.out⟩
              case measure => simp [intOf]; omega
          · skip
            have HQ : Hid (cut2 lo hi L q = L) := by show _ = _; unfold cut2 cut1; rw [if_neg (fun h => r1 h.1), if_neg (fun h => p2 h.2)]
            go_wp2
            go_roundw
            case rel => exact ⟨k + 1, L, ao2, cp, by omega, by go_num, rfl, by omega, HI, by show _ = _; rw [HS.out, HQ.out], HBk.out⟩
            case measure => simp [intOf]; omega
      · skip
        by_cases r1 : lo < q.2.1
        · by_cases r2 : q.2.1 < hi
          · skip
            have HQ : Hid (cut2 lo hi L q = (putL L q.2.1)) := by show _ = _; unfold cut2 cut1; rw [if_pos ⟨r1, r2⟩, if_neg (fun h => p1 h.1)]
            have HPb := put_any HI.out (by omega) q.2.1
            have lb := putL_length L q.2.1
            go_wp2_with (first | (go_at_call 37; refine HPb.mono ?_; rintro e wB ⟨vB, rfl, hIB, hbB⟩; have bB : Below w.heap.size w wB := HBk.out.trans (hbB.mono HBk.out.size); obtain ⟨aB, kB, rfl, hIBc⟩ := hIB; have HIB : Hid (IL wB (.slice aB (putL L q.2.1).length kB) (putL L q.2.1)) := ⟨aB, kB, rfl, hIBc⟩; clear HPb hIBc))
            go_roundw
            case rel => exact ⟨k + 1, (putL L q.2.1), aB, kB, by omega, by go_num, rfl, by omega, HIB, by show _ = _; rw [HS.out, HQ.out], bB⟩
            case measure => simp [intOf]; omega
          · skip
            have HQ : Hid (cut2 lo hi L q = L) := by show _ = _; unfold cut2 cut1; rw [if_neg (fun h => r2 h.2), if_neg (fun h => p1 h.1)]
            go_wp2
            go_roundw
            case rel => exact ⟨k + 1, L, ao2, cp, by omega, by go_num, rfl, by omega, HI, by show _ = _; rw [HS.out, HQ.out], HBk.out⟩
            case measure => simp [intOf]; omega
        · skip
          have HQ : Hid (cut2 lo hi L q = L) := by show _ = _; unfold cut2 cut1; rw [if_neg (fun h => r1 h.1), if_neg (fun h => p1 h.1)]
          go_wp2
          go_roundw
          case rel => exact ⟨k + 1, L, ao2, cp, by omega, by go_num, rfl, by omega, HI, by show _ = _; rw [HS.out, HQ.out], HBk.out⟩
          case measure => simp [intOf]; omega
    · have e : k = n := by omega
      subst e
      have HF : Hid (L = cutsL S lo hi) := by show _ = _; rw [HE.out, List.take_of_length_le (by have := HN.out; omega)]
      have hkz : ¬ (k : Int) < (k : Int) := by omega
      go_wp2
      go_ret
      exact ⟨_, rfl, by rw [← HF.out]; exact HI.out, HBk.out⟩
end Go.Proofs.YtncajaihojhkkaaGreat.I
