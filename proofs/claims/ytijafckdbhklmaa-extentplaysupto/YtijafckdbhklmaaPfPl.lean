import Derived.Test.YtijafckdbhklmaaJG
import Derived.Deep.Slices
import Derived.Carry
import Derived.WalkKit
import Derived.ProofKit
import Derived.OpenShut
import Derived.Test.YtijafckdbhklmaaRows
import Derived.Test.YtijafckdbhklmaaJB
import Derived.ChangeOld
import Derived.SizedLaws
import Derived.JoinedCond
import Derived.Test.YtijafckdbhklmaaPEfz
import Derived.Laws.IdiomArrays
namespace Go.Proofs.Ytijafckdbhklmaa.I
open Go.ChangeShapes Go.WideShapes Go.ChangeAt Go.RowKit Go.Deep
set_option linter.unusedVariables false
set_option maxRecDepth 100000

theorem laidOut : laidOutB Try.prog = true := by kernel_rfl
theorem cellsPut : Try.prog.cellsOf 66 = 3 := by kernel_rfl
theorem cells2 : Try.prog.cellsOf 2 = 1 := by kernel_rfl
theorem cells3 : Try.prog.cellsOf 3 = 1 := by kernel_rfl
theorem threeV {cs : List Value} (h : cs.length = 3) : ∃ a b c, cs = [a, b, c] := by
  match cs, h with
  | [a, b, c], _ => exact ⟨a, b, c, rfl⟩
theorem threeD {H : Type} {cs : List (DataW H × List MemPlace)} (h : cs.length = 3) : ∃ a b c, cs = [a, b, c] := by
  match cs, h with
  | [a, b, c], _ => exact ⟨a, b, c, rfl⟩
/-- a Set that was read -/
theorem open_put {H : Type} {enc : TypeId × Value → H} {W : World} {base fuel : Nat} {cs : List Value} {d : DataW H} {p : List MemPlace} (hf : DataW.trod enc Try.prog W base (fun _ => true) true fuel 66 cs = some (d, p)) :
    ∃ q : Put, cs = [.int .i64 q.1, .int .i64 q.2.1, .int .i64 q.2.2] := by
  obtain ⟨xs, m, _, hx, hl, hxl, hall⟩ := DataW.trod_struct Try.underlying66 hf
  obtain ⟨a, b, c, rfl⟩ := threeV (hl.trans cellsPut)
  obtain ⟨y0, y1, y2, rfl⟩ := threeD (show xs.length = 3 from hxl)
  have h0 : DataW.trod enc Try.prog W base (fun _ => true) true m 2 (([a, b, c].drop 0).take (Try.prog.cellsOf 2)) = some y0 := hall 0 _ rfl
  have h1 : DataW.trod enc Try.prog W base (fun _ => true) true m 2 (([a, b, c].drop 1).take (Try.prog.cellsOf 2)) = some y1 := hall 1 _ rfl
  have h2 : DataW.trod enc Try.prog W base (fun _ => true) true m 3 (([a, b, c].drop 2).take (Try.prog.cellsOf 3)) = some y2 := hall 2 _ rfl
  rw [cells2] at h0 h1
  rw [cells3] at h2
  obtain ⟨z0, e0, _, _⟩ := DataW.trod_int Try.underlying2 h0
  obtain ⟨z1, e1, _, _⟩ := DataW.trod_int Try.underlying2 h1
  obtain ⟨z2, e2, _, _⟩ := DataW.trod_int Try.underlying3 h2
  simp at e0 e1 e2
  subst e0; subst e1; subst e2
  exact ⟨(z0, z1, z2), rfl⟩
/-- a list of Sets that was read -/
theorem open_puts {H : Type} {enc : TypeId × Value → H} {W : World} {base fuel : Nat} {a0 : Option Addr} {len0 cap0 : Nat} {d : DataW H} {p : List MemPlace} (hf : DataW.trod enc Try.prog W base (fun _ => true) true fuel 51 [.slice a0 len0 cap0] = some (d, p)) :
    ∃ l : List Put, len0 = l.length ∧ len0 ≤ 9223372036854775807 ∧ Puts W a0 l := by
  rcases open_slice Try.underlying51 hf with ⟨hcs, _⟩ | ⟨x, len, cap, m, n, D, Pl, hcs, _, hl, hm, hmm, hx, hel⟩
  · simp at hcs
    obtain ⟨rfl, rfl, rfl⟩ := hcs
    exact ⟨[], rfl, by omega, fun k q hk => by simp at hk⟩
  · simp at hcs
    obtain ⟨rfl, rfl, rfl⟩ := hcs
    have hmc : m = cap0 := by simpa using hmm
    have hmax : maxLen ≤ 9223372036854775807 := by unfold maxLen; omega
    have hel' : ∀ i, ∃ q : Put, i < len0 → ∀ j, j < 3 → W.cell? ((x.add (i * 3)).add j) = [Value.int .i64 q.1, .int .i64 q.2.1, .int .i64 q.2.2][j]? := by
      intro i
      by_cases hi : i < len0
      · obtain ⟨cs', hc1, hc2⟩ := hel i (by omega)
        rw [cellsPut] at hc1
        obtain ⟨q, rfl⟩ := open_put hc2
        exact ⟨q, fun _ => (World.cells?_some hc1).2.2⟩
      · exact ⟨(0, 0, 0), fun h => absurd h hi⟩
    obtain ⟨T, hT⟩ := Classical.axiomOfChoice hel'
    refine ⟨(List.range len0).map T, by simp, by omega, fun k q hk => ?_⟩
    have hk2 : k < len0 := by
      have := (List.getElem?_eq_some_iff.1 hk).1
      simpa using this
    have hq : T k = q := by simpa [hk2] using hk
    obtain ⟨pb, po, rfl⟩ : ∃ pb po, x = ⟨pb, po, none⟩ := by
      have h0 := hT 0 (by omega) 0 (by decide)
      have h1 := World.cell?_spot (show W.cell? ((x.add (0 * 3)).add 0) = some (.int .i64 (T 0).1) from h0)
      obtain ⟨b, off, spot⟩ := x
      have : spot = none := by simpa [Addr.add] using h1
      exact ⟨b, off, by rw [this]⟩
    have g0 := hT k hk2 0 (by decide)
    have g1 := hT k hk2 1 (by decide)
    have g2 := hT k hk2 2 (by decide)
    rw [add_plain, add_plain] at g0 g1 g2
    rw [hq] at g0 g1 g2
    exact ⟨pb, po, rfl, g0, g1, g2⟩
end Go.Proofs.Ytijafckdbhklmaa.I

namespace Go.Proofs.Ytijafckdbhklmaa
open _root_.Go.Proofs.Ytijafckdbhklmaa.Rows (uptoBulk uptoBulkAll uptoSmall)

theorem bulk_pos {H : Type} (d : DataW H) : 0 < uptoBulk d := by
  rcases d with l | _ | _ | _ | _ | _ | _ | _
  · cases l <;> simp [uptoBulk]
  all_goals simp [uptoBulk]
theorem bulkAll_append {H : Type} : ∀ l r : List (DataW H), uptoBulkAll (l ++ r) = uptoBulkAll l + uptoBulkAll r
  | [], r => by simp [uptoBulkAll]
  | d :: l, r => by simp only [List.cons_append, uptoBulkAll]; rw [bulkAll_append l r]; omega
theorem bulk_le_all {H : Type} {d : DataW H} {l : List (DataW H)} (h : d ∈ l) : uptoBulk d ≤ uptoBulkAll l := by
  obtain ⟨a, b, rfl⟩ := List.append_of_mem h
  rw [bulkAll_append]; simp only [uptoBulkAll]; omega
theorem length_le_bulk {H : Type} : ∀ l : List (DataW H), l.length ≤ uptoBulkAll l
  | [] => Nat.zero_le _
  | d :: l => by have := length_le_bulk l; have := bulk_pos d; simp only [uptoBulkAll, List.length_cons]; omega
theorem bulk_slice {H : Type} (es sp : List (DataW H)) : uptoBulk (.slice es sp) = uptoBulkAll es + uptoBulkAll sp + 1 := by simp [uptoBulk]
theorem bulk_bound {H : Type} {l : List (DataW H)} (h : uptoSmall H l = true) : uptoBulkAll l ≤ 1048576 := of_decide_eq_true h
end Go.Proofs.Ytijafckdbhklmaa

namespace Go.Proofs.Ytijafckdbhklmaa.I
open Go.ChangeShapes Go.WideShapes Go.ChangeAt Go.RowKit Go.Deep
set_option linter.unusedVariables false
set_option maxRecDepth 100000

theorem ownI : ownKnob Try.prog.godebug = none := by kernel_rfl
theorem open_putsB {H : Type} {enc : TypeId × Value → H} {W : World} {base fuel : Nat} {v : Value} {d : DataW H} {p : List MemPlace} (hf : DataW.trod enc Try.prog W base (fun _ => true) true fuel 51 [v] = some (d, p)) :
    ∃ l : List Put, PutsA W v l ∧ l.length + 1 ≤ Rows.uptoBulk d := by
  rcases open_slice Try.underlying51 hf with ⟨hcs, hx⟩ | ⟨x, len, cap, m, n, D, Pl, hcs, _, hl, hm, hmm, hx, hel⟩
  · simp at hcs
    subst hcs
    have hd : d = .nil := (Prod.mk.inj hx).1
    exact ⟨[], .inl ⟨rfl, rfl⟩, by rw [hd]; simp [Rows.uptoBulk]⟩
  · simp at hcs
    subst hcs
    have hd : d = .slice ((List.range len).map D) ((List.range (m - len)).map fun j => D (len + j)) := (Prod.mk.inj hx).1
    have hsl := bulk_slice (H := H) ((List.range len).map D) ((List.range (m - len)).map fun j => D (len + j))
    have hs1 := length_le_bulk (H := H) ((List.range len).map D)
    rw [← hd] at hsl
    simp only [List.length_map, List.length_range] at hs1
    have hf2 : DataW.trod enc Try.prog W base (fun _ => true) true fuel 51 [.slice (some x) len cap] = some (d, p) := hf
    obtain ⟨l, e1, _, e3⟩ := open_puts hf2
    exact ⟨l, .inr ⟨x, cap, by rw [← e1], e3⟩, by omega⟩
theorem puts_formS {w : World} {v : Value} {l : List Put} (h : PutsA w v l) : ∃ ao cap, v = .slice ao l.length cap ∧ Puts w ao l := by
  rcases h with ⟨rfl, rfl⟩ | ⟨ad, c, rfl, h⟩
  · exact ⟨none, 0, rfl, fun k q hk => by simp at hk⟩
  · exact ⟨some ad, c, rfl, h⟩
end Go.Proofs.Ytijafckdbhklmaa.I

namespace Go.Proofs.Ytijafckdbhklmaa.I
open Go.ChangeShapes Go.WideShapes Go.ChangeAt Go.RowKit Go.Deep
set_option linter.unusedVariables false
set_option maxRecDepth 100000

theorem cellsAct : Try.prog.cellsOf 43 = 5 := by kernel_rfl
theorem cells5b : Try.prog.cellsOf 5 = 1 := by kernel_rfl
theorem cells22 : Try.prog.cellsOf 22 = 2 := by kernel_rfl
theorem cells23 : Try.prog.cellsOf 23 = 2 := by kernel_rfl
theorem und22 : Try.prog.underlying 22 = some (.array 2 2) := by kernel_rfl
theorem und23 : Try.prog.underlying 23 = some (.array 2 3) := by kernel_rfl
theorem und5b : Try.prog.underlying 5 = some (.int .u8) := by kernel_rfl
theorem und24 : Try.prog.underlying 24 = some (.slice 43) := by kernel_rfl
theorem und43 : Try.prog.underlying 43 = some (.struct (Try.prog.fieldsOf 43)) := by kernel_rfl
theorem fiveV {cs : List Value} (h : cs.length = 5) : ∃ a b c d e, cs = [a, b, c, d, e] := by
  match cs, h with
  | [a, b, c, d, e], _ => exact ⟨a, b, c, d, e, rfl⟩
theorem twoV {cs : List Value} (h : cs.length = 2) : ∃ a b, cs = [a, b] := by
  match cs, h with
  | [a, b], _ => exact ⟨a, b, rfl⟩
/-- an array of two numbers that was read -/
theorem open_two {H : Type} {enc : TypeId × Value → H} {W : World} {base fuel : Nat} {t e : TypeId} {cs : List Value} {x : DataW H × List MemPlace} (ht : Try.prog.underlying t = some (.array 2 e)) (he : Try.prog.underlying e = some (.int .i64)) (h1 : Try.prog.cellsOf e = 1) (h2 : Try.prog.cellsOf t = 2) (hf : DataW.trod enc Try.prog W base (fun _ => true) true fuel t cs = some x) :
    ∃ a b : Int, cs = [.int .i64 a, .int .i64 b] := by
  obtain ⟨xs, m, _, _, hl, hxl, hall⟩ := DataW.trod_array ht hf
  obtain ⟨a, b, rfl⟩ := twoV (hl.trans h2)
  have g0 := hall 0 (by decide)
  have g1 := hall 1 (by decide)
  rw [List.getElem?_eq_getElem (by omega)] at g0 g1
  rw [h1] at g0 g1
  obtain ⟨z0, e0, _, _⟩ := DataW.trod_int he g0
  obtain ⟨z1, e1, _, _⟩ := DataW.trod_int he g1
  simp at e0 e1
  subst e0; subst e1
  exact ⟨_, _, rfl⟩
theorem open_act {H : Type} {enc : TypeId × Value → H} {W : World} {base fuel : Nat} {cs : List Value} {x : DataW H × List MemPlace} (hf : DataW.trod enc Try.prog W base (fun _ => true) true fuel 43 cs = some x) :
    ∃ q : Ac, cs = [.int .i64 q.1, .int .u8 q.2.1, .int .i64 q.2.2.1, .int .i64 q.2.2.2.1, .int .i64 q.2.2.2.2] ∧ 0 ≤ q.2.1 := by
  obtain ⟨xs, m, _, _, hl, hxl, hall⟩ := DataW.trod_struct Try.underlying43 hf
  obtain ⟨a, b, c, d, e, rfl⟩ := fiveV (hl.trans cellsAct)
  have hx5 : xs.length = 5 := hxl
  have h0 : DataW.trod enc Try.prog W base (fun _ => true) true m 3 (([a, b, c, d, e].drop 0).take (Try.prog.cellsOf 3)) = xs[0]? := hall 0 _ rfl
  have h1 : DataW.trod enc Try.prog W base (fun _ => true) true m 5 (([a, b, c, d, e].drop 1).take (Try.prog.cellsOf 5)) = xs[1]? := hall 1 _ rfl
  have h2 : DataW.trod enc Try.prog W base (fun _ => true) true m 2 (([a, b, c, d, e].drop 2).take (Try.prog.cellsOf 2)) = xs[2]? := hall 2 _ rfl
  have h3 : DataW.trod enc Try.prog W base (fun _ => true) true m 2 (([a, b, c, d, e].drop 3).take (Try.prog.cellsOf 2)) = xs[3]? := hall 3 _ rfl
  have h4 : DataW.trod enc Try.prog W base (fun _ => true) true m 3 (([a, b, c, d, e].drop 4).take (Try.prog.cellsOf 3)) = xs[4]? := hall 4 _ rfl
  rw [List.getElem?_eq_getElem (by omega)] at h0 h1 h2 h3 h4
  rw [cells3] at h0 h4
  rw [cells5b] at h1
  rw [cells2] at h2 h3
  obtain ⟨z0, e0, _, _⟩ := DataW.trod_int Try.underlying3 h0
  obtain ⟨z1, e1, _, w1⟩ := DataW.trod_int und5b h1
  obtain ⟨z2, e2, _, _⟩ := DataW.trod_int Try.underlying2 h2
  obtain ⟨z3, e3, _, _⟩ := DataW.trod_int Try.underlying2 h3
  obtain ⟨z4, e4, _, _⟩ := DataW.trod_int Try.underlying3 h4
  simp at e0 e1 e2 e3 e4
  subst e0; subst e1; subst e2; subst e3; subst e4
  exact ⟨(z0, z1, z2, z3, z4), rfl, (bounds_u8 w1).1⟩
/-- a script that was read -/
theorem open_acts {H : Type} {enc : TypeId × Value → H} {W : World} {base fuel : Nat} {a0 : Option Addr} {len0 cap0 : Nat} {d : DataW H} {p : List MemPlace} (hf : DataW.trod enc Try.prog W base (fun _ => true) true fuel 24 [.slice a0 len0 cap0] = some (d, p)) :
    ∃ l : List Ac, len0 = l.length ∧ len0 ≤ 9223372036854775807 ∧ Acts W a0 l := by
  rcases open_slice Try.underlying24 hf with ⟨hcs, _⟩ | ⟨x, len, cap, m, n, D, Pl, hcs, _, hl, hm, hmm, hx, hel⟩
  · simp at hcs
    obtain ⟨rfl, rfl, rfl⟩ := hcs
    exact ⟨[], rfl, by omega, fun k q hk => by simp at hk⟩
  · simp at hcs
    obtain ⟨rfl, rfl, rfl⟩ := hcs
    have hmc : m = cap0 := by simpa using hmm
    have hmax : maxLen ≤ 9223372036854775807 := by unfold maxLen; omega
    have hel' : ∀ i, ∃ q : Ac, i < len0 → 0 ≤ q.2.1 ∧ ∀ j, j < 5 → W.cell? ((x.add (i * 5)).add j) = [Value.int .i64 q.1, .int .u8 q.2.1, .int .i64 q.2.2.1, .int .i64 q.2.2.2.1, .int .i64 q.2.2.2.2][j]? := by
      intro i
      by_cases hi : i < len0
      · obtain ⟨cs', hc1, hc2⟩ := hel i (by omega)
        rw [cellsAct] at hc1
        obtain ⟨q, rfl, hq0⟩ := open_act hc2
        exact ⟨q, fun _ => ⟨hq0, (World.cells?_some hc1).2.2⟩⟩
      · exact ⟨(0, 0, 0, 0, 0), fun h => absurd h hi⟩
    obtain ⟨T, hT⟩ := Classical.axiomOfChoice hel'
    refine ⟨(List.range len0).map T, by simp, by omega, fun k q hk => ?_⟩
    have hk2 : k < len0 := by
      have := (List.getElem?_eq_some_iff.1 hk).1
      simpa using this
    have hq : T k = q := by simpa [hk2] using hk
    obtain ⟨pb, po, rfl⟩ : ∃ pb po, x = ⟨pb, po, none⟩ := by
      have h0 := (hT 0 (by omega)).2 0 (by decide)
      have h1 := World.cell?_spot (show W.cell? ((x.add (0 * 5)).add 0) = some (.int .i64 (T 0).1) from h0)
      obtain ⟨b, off, spot⟩ := x
      have : spot = none := by simpa [Addr.add] using h1
      exact ⟨b, off, by rw [this]⟩
    have g0 := (hT k hk2).2 0 (by decide)
    have g1 := (hT k hk2).2 1 (by decide)
    have g2 := (hT k hk2).2 2 (by decide)
    have g3 := (hT k hk2).2 3 (by decide)
    have g4 := (hT k hk2).2 4 (by decide)
    have g5 := (hT k hk2).1
    rw [add_plain, add_plain] at g0 g1 g2 g3 g4
    rw [hq] at g0 g1 g2 g3 g4 g5
    exact ⟨pb, po, rfl, g5, g0, g1, g2, g3, g4⟩
/-- a script's length is bounded by its bulk -/
theorem open_actsB {H : Type} {enc : TypeId × Value → H} {W : World} {base fuel : Nat} {a0 : Option Addr} {len0 cap0 : Nat} {d : DataW H} {p : List MemPlace} (hf : DataW.trod enc Try.prog W base (fun _ => true) true fuel 24 [.slice a0 len0 cap0] = some (d, p)) :
    len0 + 1 ≤ Rows.uptoBulk d := by
  rcases open_slice Try.underlying24 hf with ⟨hcs, hx⟩ | ⟨x, len, cap, m, n, D, Pl, hcs, _, hl, hm, hmm, hx, hel⟩
  · simp at hcs
    obtain ⟨rfl, rfl, rfl⟩ := hcs
    have hd : d = .nil := (Prod.mk.inj hx).1
    rw [hd]; simp [Rows.uptoBulk]
  · simp at hcs
    obtain ⟨rfl, rfl, rfl⟩ := hcs
    have hd : d = .slice ((List.range len0).map D) ((List.range (m - len0)).map fun j => D (len0 + j)) := (Prod.mk.inj hx).1
    have hsl := bulk_slice (H := H) ((List.range len0).map D) ((List.range (m - len0)).map fun j => D (len0 + j))
    have hs1 := length_le_bulk (H := H) ((List.range len0).map D)
    rw [← hd] at hsl
    simp only [List.length_map, List.length_range] at hs1
    omega
end Go.Proofs.Ytijafckdbhklmaa.I
namespace Go.Proofs.Ytijafckdbhklmaa.extentPlays
open Go.ChangeShapes Go.WideShapes Go.ChangeAt Go.RowKit
open Go.Deep
set_option linter.unusedVariables false

set_option maxRecDepth 100000 in
theorem contract (H : Type) (enc : TypeId × Value → H) (W : World) (base : Nat) (args : Array Value) (ds gs : List (DataW H)) (before : List MemPlace)
    (hval : ∀ (j : Nat) t v, Try.f3.params[j]? = some t → args[j]? = some v → Value.okWide Try.prog W .any base t v)
    (hW : DataW.Whole enc Try.prog Try.f3.params.toList Rows.extentPlaysSpec.vars false W args.toList ds gs before) (hk : Rows.uptoSmall H (ds ++ gs) = true) :
    Calls Try.prog 3 args W fun e W' => ∃ v, e = .returned v ∧ Rows.extentPlaysSpec.post enc Try.prog Try.f3 false true false false W args v W' := by
  have hW' := hW
  obtain ⟨p, q, hA0, hV, rfl, hfz, hnd⟩ := hW
  have hA : DataW.TrodAll enc Try.prog W 0 (fun _ => true) true Try.f3.params.toList args.toList ds p := hA0
  rw [Try.params3] at hA hval
  obtain ⟨v0, vs0, d0, ds0, p0, q0, hargs, rfl, rfl, h0, r0⟩ := trodAll_cons hA
  obtain ⟨v1, vs1, d1, ds1, p1, q1, rfl, rfl, rfl, h1, r1⟩ := trodAll_cons r0
  obtain ⟨v2, vs2, d2, ds2, p2, q2, rfl, rfl, rfl, h2, r2⟩ := trodAll_cons r1
  obtain ⟨rfl, rfl, rfl⟩ := trodAll_nil r2
  obtain rfl : args = #[v0, v1, v2] := by cases args; simp_all
  obtain ⟨rfl, rfl⟩ := trodVars_none hV
  have k0 := h0
  have k1 := h1
  have k2 := h2
  have lt0 : ∀ x ∈ p0, x.block < W.heap.size := by obtain ⟨m, hm⟩ := k0; exact DataW.trod_lt m _ _ _ hm
  have lt1 : ∀ x ∈ p1, x.block < W.heap.size := by obtain ⟨m, hm⟩ := k1; exact DataW.trod_lt m _ _ _ hm
  have lt2 : ∀ x ∈ p2, x.block < W.heap.size := by obtain ⟨m, hm⟩ := k2; exact DataW.trod_lt m _ _ _ hm
  obtain ⟨cs0, rfl, hz0⟩ : ∃ cs, v0 = .agg cs ∧ cs.size = Try.prog.cellsOf 22 := by
    have := hval 0 22 v0 rfl rfl
    simp [Value.okWide] at this
    obtain ⟨cs, h1, h2, _⟩ := this
    exact ⟨cs, h1, h2⟩
  obtain ⟨cs1, rfl, hz1⟩ : ∃ cs, v1 = .agg cs ∧ cs.size = Try.prog.cellsOf 23 := by
    have := hval 1 23 v1 rfl rfl
    simp [Value.okWide] at this
    obtain ⟨cs, h1, h2, _⟩ := this
    exact ⟨cs, h1, h2⟩
  obtain ⟨ao, len0, cap0, rfl⟩ := okWide_slice Try.underlying24 (hval 2 24 v2 rfl rfl)
  have hbd := bulk_bound hk
  simp only [Rows.uptoBulkAll, List.append_nil] at hbd
  have hwalk : Calls Try.prog 3 #[.agg cs0, .agg cs1, .slice ao len0 cap0] W fun e w' => e = .returned (.bool true) ∧ Below W.heap.size W w' := by
    obtain ⟨u0, hf0⟩ := h0
    obtain ⟨u1, hf1⟩ := h1
    obtain ⟨u2, hf2⟩ := h2
    obtain ⟨a, b, e0⟩ := I.open_two I.und22 Try.underlying2 I.cells2 I.cells22 hf0
    obtain ⟨c, d, e1⟩ := I.open_two I.und23 Try.underlying3 I.cells3 I.cells23 hf1
    obtain rfl : cs0 = #[.int .i64 a, .int .i64 b] := by obtain ⟨l0⟩ := cs0; exact congrArg Array.mk (show l0 = [.int .i64 a, .int .i64 b] from e0)
    obtain rfl : cs1 = #[.int .i64 c, .int .i64 d] := by obtain ⟨l1⟩ := cs1; exact congrArg Array.mk (show l1 = [.int .i64 c, .int .i64 d] from e1)
    obtain ⟨l, g2, _, e2⟩ := I.open_acts hf2
    have hb := I.open_actsB hf2
    exact I.lawPlays_any a b c d ao len0 cap0 l W g2 (by omega) e2
  clear hA0
  refine hwalk.mono fun e W' ⟨he, bel⟩ => ?_
  subst he
  exact ⟨_, rfl, _, _, _, [], _, [], hW', trodAll_mk1 (shut_bool Try.underlying4 _), trodAll_cons_mk (Below.trod I.laidOut (by kernel_rfl) (of_decide_eq_true (by kernel_rfl)) k0 bel lt0) (trodAll_cons_mk (Below.trod I.laidOut (by kernel_rfl) (of_decide_eq_true (by kernel_rfl)) k1 bel lt1) (trodAll_cons_mk (Below.trod I.laidOut (by kernel_rfl) (of_decide_eq_true (by kernel_rfl)) k2 bel lt2) trodAll_mk0)), rfl, bel.frame _, fun h => by cases h⟩

set_option maxRecDepth 100000 in
theorem lifted (os : Os) (started : os.Started) (H : Type) (enc : TypeId × Value → H) (F : Stop.Interp) :
    ReturnsInHanded {} Try.checked os 3 .any ((Rows.OpenSpec.upto Rows.extentPlaysSpec).pre6 enc Try.prog Try.f3 Rows.extentPlaysUptoRow.domain false) (((Rows.OpenSpec.upto Rows.extentPlaysSpec).at F).post enc Try.prog Try.f3 false true false false) := by
  refine returnsInHanded_of_cond (C := Try.checked) (s := Rows.OpenSpec.upto Rows.extentPlaysSpec) (k := Rows.uptoSmall) rfl I.ownI started (by kernel_rfl) Try.func3
    (OpenSpec.witness (enc := enc) (C := Try.checked) (s := Rows.OpenSpec.upto Rows.extentPlaysSpec) (k := Rows.uptoSmall) rfl false ⟨#[], #[.agg #[.int .i64 0, .int .i64 0], .agg #[.int .i64 0, .int .i64 0], .slice none 0 0], []⟩ 8 (by kernel_rfl) (by kernel_rfl) (by kernel_rfl)
      (x := ([.agg [.lit (.int .i64 0), .lit (.int .i64 0)], .agg [.lit (.int .i64 0), .lit (.int .i64 0)], .nil], [], [])) (by kernel_rfl) rfl (by kernel_rfl)) ?_
  intro W base args ds gs before hval hW _ hk _
  exact contract H enc W base args ds gs before hval hW hk
end Go.Proofs.Ytijafckdbhklmaa.extentPlays
namespace Go.Proofs.Ytijafckdbhklmaa
theorem extentPlays_proved : Rows.ExtentPlaysUptoSaid :=
  OpenClaim.holds_of_cond 3 Try.f3 rfl rfl rfl rfl rfl rfl rfl ⟨rfl, rfl, rfl, rfl, rfl⟩ rfl rfl rfl rfl rfl (by kernel_rfl) Try.func3 (by kernel_rfl)
    (of_decide_eq_true (by kernel_rfl)) (by unfold Func.isWrapper; first | (rw [if_pos (by decide +kernel)]; kernel_rfl) | (rw [if_neg (by decide +kernel)]; exact ⟨rfl, rfl⟩))
    (fun os started H enc _ F => extentPlays.lifted os started H enc F)
#print axioms extentPlays_proved
end Go.Proofs.Ytijafckdbhklmaa
