import Derived.Test.YtijafckdbhklmabYY
import Derived.Deep.AppendLies
namespace Go.Proofs.Ytijafckdbhklmab.B
open Go.RowKit Go.Sort Go.Lib Go.Shelf
attribute [local go_sem] Oper.semAt_some
set_option linter.unusedVariables false
set_option linter.unusedSimpArgs false
set_option maxRecDepth 100000

/-- a list with marks behind it -/
def fullR (l : List (Int × Int)) : List (Int × Int) := l ++ [(77, 78), (77, 78), (77, 78)]
theorem fullR_length (l : List (Int × Int)) : (fullR l).length = l.length + 3 := by simp [fullR]
theorem fullR_in {l : List (Int × Int)} {k : Nat} {q : Int × Int} (h : l[k]? = some q) : (fullR l)[k]? = some q := by
  unfold fullR
  rw [List.getElem?_append_left (List.getElem?_eq_some_iff.1 h).1]; exact h
theorem fullR_out {l : List (Int × Int)} {k : Nat} (h1 : l.length ≤ k) (h2 : k < l.length + 3) : (fullR l)[k]? = some (77, 78) := by
  unfold fullR
  rw [List.getElem?_append_right h1]
  have : k - l.length = 0 ∨ k - l.length = 1 ∨ k - l.length = 2 := by omega
  rcases this with e | e | e <;> rw [e] <;> rfl
theorem take_set2 {xs F : List Value} {k : Nat} {a b : Value} (h : xs.take (k * 2) = F.take (k * 2)) (hl : k * 2 + 1 < xs.length) (fa : F[k * 2]? = some a) (fb : F[k * 2 + 1]? = some b) : ((xs.set (k * 2) a).set (k * 2 + 1) b).take ((k + 1) * 2) = F.take ((k + 1) * 2) := by
  refine List.ext_getElem? (fun i => ?_)
  rw [List.getElem?_take, List.getElem?_take]
  by_cases hi : i < (k + 1) * 2
  · rw [if_pos hi, if_pos hi, List.getElem?_set, List.getElem?_set]
    by_cases e1 : k * 2 + 1 = i
    · subst e1
      rw [if_pos rfl, if_pos (by rw [List.length_set]; omega), fb]
    · rw [if_neg e1]
      by_cases e2 : k * 2 = i
      · subst e2
        rw [if_pos rfl, if_pos (by omega), fa]
      · rw [if_neg e2]
        have hi2 : i < k * 2 := by omega
        have g := congrArg (fun l => l[i]?) h
        simp only [List.getElem?_take, if_pos hi2] at g
        exact g
  · rw [if_neg hi, if_neg hi]
/-- two cells of a row are put -/
theorem put2 {W : World} {B g m k : Nat} {xs : List Value} (h : W.ownsRow B TRng 2 (.slice (some ⟨g, 0, none⟩) m m) m xs) (hk : k < m) (a b : Value) :
    (∃ c, W.cell? ⟨g, k * 2, none⟩ = some c) ∧ W.frozen? ⟨g, k * 2, none⟩ = false ∧ (∃ c, (W.setCell ⟨g, k * 2, none⟩ a).cell? ⟨g, k * 2 + 1, none⟩ = some c) ∧ (W.setCell ⟨g, k * 2, none⟩ a).frozen? ⟨g, k * 2 + 1, none⟩ = false ∧
      ((W.setCell ⟨g, k * 2, none⟩ a).setCell ⟨g, k * 2 + 1, none⟩ b).ownsRow B TRng 2 (.slice (some ⟨g, 0, none⟩) m m) m ((xs.set (k * 2) a).set (k * 2 + 1) b) := by
  obtain ⟨h1, _⟩ := h.stored (k * 2) a
  obtain ⟨h2, _⟩ := h1.stored (k * 2 + 1) b
  refine ⟨Option.isSome_iff_exists.1 ((owns_cap h).2.2.2.2 _ (by omega)), h.frozenAt _, Option.isSome_iff_exists.1 ((owns_cap h1).2.2.2.2 _ (by omega)), h1.frozenAt _, h2⟩
set_option maxHeartbeats 8000000 in
theorem roomy_any {w : World} {v1 : Value} {l : List (Int × Int)} (h1 : SL w v1 l) (hl : l.length ≤ 1099511627776) :
    Calls Try.prog 31 #[v1] w fun e w' => ∃ g, e = .returned (.slice (some ⟨g, 0, none⟩) l.length (l.length + 3)) ∧ w'.ownsRow w.heap.size TRng 2 (.slice (some ⟨g, 0, none⟩) (l.length + 3) (l.length + 3)) (l.length + 3) (pcells (fullR l)) ∧ Below w.heap.size w w' := by
  obtain ⟨i0, hi, hz0, hz1, hz2⟩ := info_parts infoRng
  obtain ⟨ao, ca, rfl, _, hA⟩ := h1
  have HA : Hid (Rngs w ao l) := hA
  obtain ⟨n, hn⟩ : ∃ n, n = l.length := ⟨_, rfl⟩
  rw [← hn] at hl ⊢
  have HL : Hid (n = l.length) := hn
  have w0 : IntKind.i64.wrap ((n : Int) + 3) = (n : Int) + 3 := by rw [IntKind.wrap_i64]; omega
  clear hn hA
  go_enter Try.func31, Try.ntmps31
  go_wp2_with (at_make; refine wpList_make_full _ rfl (.tmp 7) (.tmp 7) 48 rfl w.heap.size TRng i0 (.agg #[.int .i64 0, .int .i64 0]) 2 Try.underlying48 hi hz0 hz1 .i64 .i64 ((n : Int) + 3) ((n : Int) + 3) (n + 3) rfl rfl (by omega) (by omega) (by rw [hz2]; omega) (by unfold maxLen; omega) (Nat.le_refl _) ?_; intro w1 hown1 hgrow1)
  have hb1 : Below w.heap.size w w1 := (Below.refl _ _).grown hgrow1 (Nat.le_refl _) (fun k e => by cases e)
  obtain ⟨g, hg⟩ : ∃ g, g = w.heap.size := ⟨_, rfl⟩
  rw [← hg] at hown1 ⊢
  have HG : Hid (w.heap.size ≤ g) := by rw [hg]; exact Nat.le_refl _
  have H1 : Hid (w1.ownsRow w.heap.size TRng 2 (.slice (some ⟨g, 0, none⟩) (n + 3) (n + 3)) (n + 3) (madeCells (Value.agg #[.int .i64 0, .int .i64 0]).cells ((n + 3) * 2)).toList) := by rw [← hg]; exact hown1
  have HB1 : Hid (Below w.heap.size w w1) := hb1
  clear hown1 hgrow1 hb1 hg
  go_loopw [4] (fun i wr => ∃ k : Nat, k ≤ n + 3 ∧ i = .int .i64 k ∧ (∃ xs, wr.ownsRow w.heap.size TRng 2 (.slice (some ⟨g, 0, none⟩) (n + 3) (n + 3)) (n + 3) xs ∧ xs.take (k * 2) = (pcells (fullR l)).take (k * 2)) ∧ Below w.heap.size w wr) (fun i _ => n + 3 - (intOf i).toNat)
  case atStart => exact ⟨0, Nat.zero_le _, rfl, ⟨_, H1.out, by simp⟩, HB1.out⟩
  case round =>
    obtain ⟨k, hk, rfl, ⟨xs, hown, htk⟩, hb⟩ := hrel
    have HO : Hid (wr.ownsRow w.heap.size TRng 2 (.slice (some ⟨g, 0, none⟩) (n + 3) (n + 3)) (n + 3) xs) := hown
    have HT : Hid (xs.take (k * 2) = (pcells (fullR l)).take (k * 2)) := htk
    have HB : Hid (Below w.heap.size w wr) := hb
    have HX : Hid (xs.length = (n + 3) * 2) := hown.1
    clear hown htk hb
    by_cases hlt : k < n + 3
    · have hkz : (k : Int) < (n : Int) + 3 := by omega
      obtain ⟨⟨c0, hc0⟩, f0, ⟨c1, hc1⟩, f1, ho1⟩ := put2 HO.out hlt (.int .i64 77) (.int .i64 78)
      have HO1 : Hid _ := ho1
      have HB1' : Hid (Below w.heap.size w ((wr.setCell ⟨g, k * 2, none⟩ (.int .i64 77)).setCell ⟨g, k * 2 + 1, none⟩ (.int .i64 78))) := (HB.out.setCell (p := ⟨g, k * 2, none⟩) HG.out _).setCell (p := ⟨g, k * 2 + 1, none⟩) HG.out _
      clear ho1
      by_cases hl2 : k < n
      · have hkl : (k : Int) < (n : Int) := by omega
        obtain ⟨q, hq⟩ : ∃ q, l[k]? = some q := ⟨_, List.getElem?_eq_getElem (by have := HL.out; omega)⟩
        obtain ⟨b, off, rfl, d0, d1⟩ := HA.out k q hq
        have d0' := cell_later HB1'.out d0
        have d1' := cell_later HB1'.out d1
        obtain ⟨⟨c2, hc2⟩, f2, ⟨c3, hc3⟩, f3, ho2⟩ := put2 HO1.out hlt (.int .i64 q.1) (.int .i64 q.2)
        have HO2 : Hid _ := ho2
        have HQ : Hid (l[k]? = some q) := hq
        clear ho2 d0 d1 hq
        go_wp2
        go_roundw
        case rel =>
          refine ⟨k + 1, by omega, by go_num, ⟨_, HO2.out, ?_⟩, (HB1'.out.setCell (p := ⟨g, k * 2, none⟩) HG.out _).setCell (p := ⟨g, k * 2 + 1, none⟩) HG.out _⟩
          have := pcells_get (fullR l) k q (fullR_in HQ.out)
          refine take_set2 (by rw [List.take_set_of_le (by omega), List.take_set_of_le (by omega)]; exact HT.out) (by rw [List.length_set, List.length_set, HX.out]; omega) this.1 this.2
        case measure => simp [intOf]; omega
      · have hkl : ¬ (k : Int) < (n : Int) := by omega
        go_wp2
        go_roundw
        case rel =>
          refine ⟨k + 1, by omega, by go_num, ⟨_, HO1.out, ?_⟩, HB1'.out⟩
          have := pcells_get (fullR l) k (77, 78) (fullR_out (by have := HL.out; omega) (by have := HL.out; omega))
          exact take_set2 HT.out (by rw [HX.out]; omega) this.1 this.2
        case measure => simp [intOf]; omega
    · have hkz : ¬ (k : Int) < (n : Int) + 3 := by omega
      obtain rfl : k = n + 3 := by omega
      go_wp2
      go_ret
      refine ⟨g, rfl, ?_, HB.out⟩
      have e : xs = pcells (fullR l) := by
        have h := HT.out
        rw [List.take_of_length_le (by rw [HX.out]; exact Nat.le_refl _), List.take_of_length_le (by rw [pcells_length, fullR_length, HL.out]; exact Nat.le_refl _)] at h
        exact h
      rw [← e]
      exact HO.out
end Go.Proofs.Ytijafckdbhklmab.B
