import Derived.Test.YtncajaihojhkkaaGreatRows
import Derived.Test.YtncajaihojhkkaaGreatETlz
import Derived.Deep.Slices
import Derived.Carry
import Derived.WalkKit
import Derived.ProofKit
import Derived.OpenShut
import Derived.ChangeOld
import Derived.SizedLaws
import Derived.JoinedCond
namespace Go.Proofs.YtncajaihojhkkaaGreat
open _root_.Go.Proofs.YtncajaihojhkkaaGreat.Rows (uptoBulk uptoBulkAll uptoSmall)

theorem bulk_pos {H : Type} (d : DataW H) : 0 < uptoBulk d := by
  rcases d with l | _ | _ | _ | _ | _ | _ | _
  · cases l <;> simp [uptoBulk]
  all_goals simp [uptoBulk]
theorem bulkAll_append {H : Type} : ∀ l r : List (DataW H), uptoBulkAll (l ++ r) = uptoBulkAll l + uptoBulkAll r
  | [], r => by simp [uptoBulkAll]
  | d :: l, r => by simp only [List.cons_append, uptoBulkAll]; rw [bulkAll_append l r]; omega
theorem bulk_le_all {H : Type} {d : DataW H} {l : List (DataW H)} (h : d ∈ l) : uptoBulk d ≤ uptoBulkAll l := by
  obtain ⟨a, b, rfl⟩ := List.append_of_mem h
  rw [bulkAll_append]; simp only [uptoBulkAll]; omega
theorem length_le_bulk {H : Type} : ∀ l : List (DataW H), l.length ≤ uptoBulkAll l
  | [] => Nat.zero_le _
  | d :: l => by have := length_le_bulk l; have := bulk_pos d; simp only [uptoBulkAll, List.length_cons]; omega
theorem bulk_slice {H : Type} (es sp : List (DataW H)) : uptoBulk (.slice es sp) = uptoBulkAll es + uptoBulkAll sp + 1 := by simp [uptoBulk]
theorem bulk_bound {H : Type} {l : List (DataW H)} (h : uptoSmall H l = true) : uptoBulkAll l ≤ 1048576 := of_decide_eq_true h
end Go.Proofs.YtncajaihojhkkaaGreat

namespace Go.Proofs.YtncajaihojhkkaaGreat.I
open Go.ChangeShapes Go.WideShapes Go.ChangeAt Go.RowKit Go.Deep
set_option linter.unusedVariables false
set_option maxRecDepth 100000

theorem ownI : ownKnob Tryz.prog.godebug = none := by kernel_rfl
theorem laidOut : laidOutB Tryz.prog = true := by kernel_rfl
theorem cellsPut : Tryz.prog.cellsOf 36 = 3 := by kernel_rfl
theorem cells2 : Tryz.prog.cellsOf 2 = 1 := by kernel_rfl
theorem cells3 : Tryz.prog.cellsOf 3 = 1 := by kernel_rfl
theorem threeV {cs : List Value} (h : cs.length = 3) : ∃ a b c, cs = [a, b, c] := by
  match cs, h with
  | [a, b, c], _ => exact ⟨a, b, c, rfl⟩
theorem threeD {H : Type} {cs : List (DataW H × List MemPlace)} (h : cs.length = 3) : ∃ a b c, cs = [a, b, c] := by
  match cs, h with
  | [a, b, c], _ => exact ⟨a, b, c, rfl⟩
/-- a Set that was read -/
theorem open_put {H : Type} {enc : TypeId × Value → H} {W : World} {base fuel : Nat} {cs : List Value} {d : DataW H} {p : List MemPlace} (hf : DataW.trod enc Tryz.prog W base (fun _ => true) true fuel 36 cs = some (d, p)) :
    ∃ q : Put, cs = [.int .i64 q.1, .int .i64 q.2.1, .int .i64 q.2.2] := by
  obtain ⟨xs, m, _, hx, hl, hxl, hall⟩ := DataW.trod_struct Tryz.underlying36 hf
  obtain ⟨a, b, c, rfl⟩ := threeV (hl.trans cellsPut)
  obtain ⟨y0, y1, y2, rfl⟩ := threeD (show xs.length = 3 from hxl)
  have h0 : DataW.trod enc Tryz.prog W base (fun _ => true) true m 2 (([a, b, c].drop 0).take (Tryz.prog.cellsOf 2)) = some y0 := hall 0 _ rfl
  have h1 : DataW.trod enc Tryz.prog W base (fun _ => true) true m 2 (([a, b, c].drop 1).take (Tryz.prog.cellsOf 2)) = some y1 := hall 1 _ rfl
  have h2 : DataW.trod enc Tryz.prog W base (fun _ => true) true m 3 (([a, b, c].drop 2).take (Tryz.prog.cellsOf 3)) = some y2 := hall 2 _ rfl
  rw [cells2] at h0 h1
  rw [cells3] at h2
  obtain ⟨z0, e0, _, _⟩ := DataW.trod_int Tryz.underlying2 h0
  obtain ⟨z1, e1, _, _⟩ := DataW.trod_int Tryz.underlying2 h1
  obtain ⟨z2, e2, _, _⟩ := DataW.trod_int Tryz.underlying3 h2
  simp at e0 e1 e2
  subst e0; subst e1; subst e2
  exact ⟨(z0, z1, z2), rfl⟩
/-- a list of Sets that was read -/
theorem open_puts {H : Type} {enc : TypeId × Value → H} {W : World} {base fuel : Nat} {a0 : Option Addr} {len0 cap0 : Nat} {d : DataW H} {p : List MemPlace} (hf : DataW.trod enc Tryz.prog W base (fun _ => true) true fuel 22 [.slice a0 len0 cap0] = some (d, p)) :
    ∃ l : List Put, len0 = l.length ∧ len0 ≤ 9223372036854775807 ∧ Puts W a0 l := by
  rcases open_slice Tryz.underlying22 hf with ⟨hcs, _⟩ | ⟨x, len, cap, m, n, D, Pl, hcs, _, hl, hm, hmm, hx, hel⟩
  · simp at hcs
    obtain ⟨rfl, rfl, rfl⟩ := hcs
    exact ⟨[], rfl, by omega, fun k q hk => by simp at hk⟩
  · simp at hcs
    obtain ⟨rfl, rfl, rfl⟩ := hcs
    have hmc : m = cap0 := by simpa using hmm
    have hmax : maxLen ≤ 9223372036854775807 := by unfold maxLen; omega
    have hel' : ∀ i, ∃ q : Put, i < len0 → ∀ j, j < 3 → W.cell? ((x.add (i * 3)).add j) = [Value.int .i64 q.1, .int .i64 q.2.1, .int .i64 q.2.2][j]? := by
      intro i
      by_cases hi : i < len0
      · obtain ⟨cs', hc1, hc2⟩ := hel i (by omega)
        rw [cellsPut] at hc1
        obtain ⟨q, rfl⟩ := open_put hc2
        exact ⟨q, fun _ => (World.cells?_some hc1).2.2⟩
      · exact ⟨(0, 0, 0), fun h => absurd h hi⟩
    obtain ⟨T, hT⟩ := Classical.axiomOfChoice hel'
    refine ⟨(List.range len0).map T, by simp, by omega, fun k q hk => ?_⟩
    have hk2 : k < len0 := by
      have := (List.getElem?_eq_some_iff.1 hk).1
      simpa using this
    have hq : T k = q := by simpa [hk2] using hk
    obtain ⟨pb, po, rfl⟩ : ∃ pb po, x = ⟨pb, po, none⟩ := by
      have h0 := hT 0 (by omega) 0 (by decide)
      have h1 := World.cell?_spot (show W.cell? ((x.add (0 * 3)).add 0) = some (.int .i64 (T 0).1) from h0)
      obtain ⟨b, off, spot⟩ := x
      have : spot = none := by simpa [Addr.add] using h1
      exact ⟨b, off, by rw [this]⟩
    have g0 := hT k hk2 0 (by decide)
    have g1 := hT k hk2 1 (by decide)
    have g2 := hT k hk2 2 (by decide)
    rw [add_plain, add_plain] at g0 g1 g2
    rw [hq] at g0 g1 g2
    exact ⟨pb, po, rfl, g0, g1, g2⟩
theorem open_putsN {H : Type} {enc : TypeId × Value → H} {W : World} {base fuel : Nat} {a0 : Option Addr} {len0 cap0 : Nat} {d : DataW H} {p : List MemPlace} (hf : DataW.trod enc Tryz.prog W base (fun _ => true) true fuel 22 [.slice a0 len0 cap0] = some (d, p)) :
    len0 + 1 ≤ Rows.uptoBulk d := by
  rcases open_slice Tryz.underlying22 hf with ⟨hcs, hx⟩ | ⟨x, len, cap, m, n, D, Pl, hcs, _, hl, hm, hmm, hx, hel⟩
  · simp at hcs
    obtain ⟨rfl, rfl, rfl⟩ := hcs
    have hd : d = .nil := (Prod.mk.inj hx).1
    rw [hd]; simp [Rows.uptoBulk]
  · simp at hcs
    obtain ⟨rfl, rfl, rfl⟩ := hcs
    have hd : d = .slice ((List.range len0).map D) ((List.range (m - len0)).map fun j => D (len0 + j)) := (Prod.mk.inj hx).1
    have hsl := bulk_slice (H := H) ((List.range len0).map D) ((List.range (m - len0)).map fun j => D (len0 + j))
    have hs1 := length_le_bulk (H := H) ((List.range len0).map D)
    rw [← hd] at hsl
    simp only [List.length_map, List.length_range] at hs1
    omega
theorem cells9 : Tryz.prog.cellsOf 9 = 1 := by kernel_rfl
theorem cells23 : Tryz.prog.cellsOf TNames = 256 := by kernel_rfl
/-- the names that were read -/
theorem open_names {H : Type} {enc : TypeId × Value → H} {W : World} {base fuel : Nat} {A : Array Value} {x : DataW H × List MemPlace} (hf : DataW.trod enc Tryz.prog W base (fun _ => true) true fuel TNames A.toList = some x) :
    ∃ nm, Nms A nm := by
  obtain ⟨xs, m, _, _, hl, hxl, hall⟩ := DataW.trod_array und256 hf
  rw [cells23, Array.length_toList] at hl
  have h1 : ∀ i, ∃ s : ByteArray, i < 256 → A[i]? = some (.string s) := fun i => by
    by_cases hi : i < 256
    · have g := hall i hi
      rw [List.getElem?_eq_getElem (by omega), cells9] at g
      obtain ⟨s, e, _⟩ := DataW.trod_string Tryz.underlying9 g
      refine ⟨s, fun _ => ?_⟩
      have h2 := congrArg (·[0]?) e
      simp only [Nat.mul_one, List.getElem?_take, List.getElem?_drop, Nat.add_zero, List.getElem?_cons_zero] at h2
      simpa using h2
    · exact ⟨ByteArray.empty, fun h => absurd h hi⟩
  obtain ⟨nm, hnm⟩ := Classical.axiomOfChoice h1
  exact ⟨nm, hl, hnm⟩
end Go.Proofs.YtncajaihojhkkaaGreat.I
namespace Go.Proofs.YtncajaihojhkkaaGreat.extentTexts
open Go.ChangeShapes Go.WideShapes Go.ChangeAt Go.RowKit
open Go.Deep
set_option linter.unusedVariables false

set_option maxRecDepth 100000 in
theorem contract (H : Type) (enc : TypeId × Value → H) (W : World) (base : Nat) (args : Array Value) (ds gs : List (DataW H)) (before : List MemPlace)
    (hval : ∀ (j : Nat) t v, Tryz.f3.params[j]? = some t → args[j]? = some v → Value.okWide Tryz.prog W .any base t v)
    (hW : DataW.Whole enc Tryz.prog Tryz.f3.params.toList Rows.extentTextsSpec.vars false W args.toList ds gs before) (hk : Rows.uptoSmall H (ds ++ gs) = true) :
    Calls Tryz.prog 3 args W fun e W' => ∃ v, e = .returned v ∧ Rows.extentTextsSpec.post enc Tryz.prog Tryz.f3 false true false false W args v W' := by
  have hW' := hW
  obtain ⟨p, q, hA0, hV, rfl, hfz, hnd⟩ := hW
  have hA : DataW.TrodAll enc Tryz.prog W 0 (fun _ => true) true Tryz.f3.params.toList args.toList ds p := hA0
  rw [Tryz.params3] at hA hval
  obtain ⟨v0, vs0, d0, ds0, p0, q0, hargs, rfl, rfl, h0, r0⟩ := trodAll_cons hA
  obtain ⟨v1, vs1, d1, ds1, p1, q1, rfl, rfl, rfl, h1, r1⟩ := trodAll_cons r0
  obtain ⟨v2, vs2, d2, ds2, p2, q2, rfl, rfl, rfl, h2, r2⟩ := trodAll_cons r1
  obtain ⟨v3, vs3, d3, ds3, p3, q3, rfl, rfl, rfl, h3, r3⟩ := trodAll_cons r2
  obtain ⟨rfl, rfl, rfl⟩ := trodAll_nil r3
  obtain rfl : args = #[v0, v1, v2, v3] := by cases args; simp_all
  obtain ⟨rfl, rfl⟩ := trodVars_none hV
  obtain ⟨a0, rfl, rfl, rfl, w0⟩ := open_int Tryz.underlying2 (hval 0 2 v0 rfl rfl) h0
  obtain ⟨a1, rfl, rfl, rfl, w1⟩ := open_int Tryz.underlying5 (hval 1 5 v1 rfl rfl) h1
  have k2 := h2
  have k3 := h3
  have lt2 : ∀ x ∈ p2, x.block < W.heap.size := by obtain ⟨m, hm⟩ := k2; exact DataW.trod_lt m _ _ _ hm
  have lt3 : ∀ x ∈ p3, x.block < W.heap.size := by obtain ⟨m, hm⟩ := k3; exact DataW.trod_lt m _ _ _ hm
  obtain ⟨ao, len0, cap0, rfl⟩ := okWide_slice Tryz.underlying22 (hval 2 22 v2 rfl rfl)
  obtain ⟨A, rfl⟩ : ∃ cs, v3 = .agg cs := by
    have := hval 3 I.TNames v3 rfl rfl
    simp [Value.okWide] at this
    obtain ⟨cs, h1, _⟩ := this
    exact ⟨cs, h1⟩
  have hbd := bulk_bound hk
  simp only [Rows.uptoBulkAll, List.append_nil] at hbd
  have hwalk : Calls Tryz.prog 3 #[.int .i64 a0, .int .u8 a1, .slice ao len0 cap0, .agg A] W fun e w' => e = .returned (.bool true) ∧ Below W.heap.size W w' := by
    obtain ⟨u2, hf2⟩ := h2
    obtain ⟨u3, hf3⟩ := h3
    obtain ⟨l, g2, _, e2⟩ := I.open_puts hf2
    have hb := I.open_putsN hf2
    obtain ⟨nm, hnm⟩ := I.open_names (A := A) hf3
    have hb1 := bounds_u8 w1
    obtain ⟨k, rfl⟩ := Int.eq_ofNat_of_zero_le hb1.1
    have hk : k < 256 := by omega
    by_cases hz : 0 ≤ a0 ∧ a0 ≤ 1099511627776
    · exact I.lawTexts_good hnm a0 k hk ao len0 cap0 l W g2 (by omega) e2 hz.1 hz.2
    · exact I.lawTexts_bad hnm a0 k hk ao len0 cap0 W (by omega)
  clear hA0
  refine hwalk.mono fun e W' ⟨he, bel⟩ => ?_
  subst he
  exact ⟨_, rfl, _, _, _, [], _, [], hW', trodAll_mk1 (shut_bool Tryz.underlying4 _), trodAll_cons_mk (shut_int Tryz.underlying2 w0) (trodAll_cons_mk (shut_int Tryz.underlying5 w1) (trodAll_cons_mk (Below.trod I.laidOut (by kernel_rfl) (of_decide_eq_true (by kernel_rfl)) k2 bel lt2) (trodAll_cons_mk (Below.trod I.laidOut (by kernel_rfl) (of_decide_eq_true (by kernel_rfl)) k3 bel lt3) trodAll_mk0))), rfl, bel.frame _, fun h => by cases h⟩

set_option maxRecDepth 100000 in
theorem lifted (os : Os) (started : os.Started) (H : Type) (enc : TypeId × Value → H) (F : Stop.Interp) :
    ReturnsInHanded {} Tryz.checked os 3 .any ((Rows.OpenSpec.upto Rows.extentTextsSpec).pre6 enc Tryz.prog Tryz.f3 Rows.extentTextsUptoRow.domain false) (((Rows.OpenSpec.upto Rows.extentTextsSpec).at F).post enc Tryz.prog Tryz.f3 false true false false) := by
  refine returnsInHanded_of_cond (C := Tryz.checked) (s := Rows.OpenSpec.upto Rows.extentTextsSpec) (k := Rows.uptoSmall) rfl I.ownI started (by kernel_rfl) Tryz.func3
    (OpenSpec.witness (enc := enc) (C := Tryz.checked) (s := Rows.OpenSpec.upto Rows.extentTextsSpec) (k := Rows.uptoSmall) rfl false ⟨#[], #[.int .i64 0, .int .u8 0, .slice none 0 0, .agg (Array.replicate 256 (.string ByteArray.empty))], []⟩ 8 (by kernel_rfl) (by kernel_rfl) (by kernel_rfl)
      (x := ([.lit (.int .i64 0), .lit (.int .u8 0), .nil, .agg (List.replicate 256 (.lit (.string [])))], [], [])) (by kernel_rfl) rfl (by kernel_rfl)) ?_
  intro W base args ds gs before hval hW _ hk _
  exact contract H enc W base args ds gs before hval hW hk
end Go.Proofs.YtncajaihojhkkaaGreat.extentTexts
namespace Go.Proofs.YtncajaihojhkkaaGreat
theorem extentTexts_proved : Rows.ExtentTextsUptoSaid :=
  OpenClaim.holds_of_cond 3 Tryz.f3 rfl rfl rfl rfl rfl rfl rfl ⟨rfl, rfl, rfl, rfl, rfl⟩ rfl rfl rfl rfl rfl (by kernel_rfl) Tryz.func3 (by kernel_rfl)
    (of_decide_eq_true (by kernel_rfl)) (by unfold Func.isWrapper; first | (rw [if_pos (by decide +kernel)]; kernel_rfl) | (rw [if_neg (by decide +kernel)]; exact ⟨rfl, rfl⟩))
    (fun os started H enc _ F => extentTexts.lifted os started H enc F)
#print axioms extentTexts_proved
end Go.Proofs.YtncajaihojhkkaaGreat
