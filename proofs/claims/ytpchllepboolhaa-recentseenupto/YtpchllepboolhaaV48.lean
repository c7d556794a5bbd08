import Derived.Test.YtpchllepboolhaazDS
import Derived.Carry
import Derived.ProofKit
import Derived.OpenShut
import Derived.SizedLaws
import Derived.Deep.Slices
import Derived.Test.YtpchllepboolhaaRows
namespace Go.Proofs.Ytpchllepboolhaa.D
open Go.ChangeShapes Go.WideShapes Go.ChangeAt Go.RowKit Go.Deep Go.Proofs.Ytpchllepboolhaa.I
set_option linter.unusedVariables false
set_option maxRecDepth 100000

theorem laidOut : laidOutB Try.prog = true := by kernel_rfl
theorem cellsInt : Try.prog.cellsOf 3 = 1 := by kernel_rfl
theorem cellsAc : Try.prog.cellsOf 31 = 2 := by kernel_rfl
theorem bytesAc : Try.prog.bytesOf 31 = 16 := by kernel_rfl
theorem twoV {cs : List Value} (h : cs.length = 2) : ∃ a b, cs = [a, b] := by
  match cs, h with
  | [a, b], _ => exact ⟨a, b, rfl⟩
theorem twoD {H : Type} {cs : List (DataW H × List MemPlace)} (h : cs.length = 2) : ∃ a b, cs = [a, b] := by
  match cs, h with
  | [a, b], _ => exact ⟨a, b, rfl⟩
theorem open_act {H : Type} {enc : TypeId × Value → H} {W : World} {base fuel : Nat} {cs : List Value} {d : DataW H} {p : List MemPlace} (hf : DataW.trod enc Try.prog W base (fun _ => true) true fuel 31 cs = some (d, p)) :
    ∃ q : Ac, cs = [.int .i64 q.1, .int .i64 q.2] ∧ wfK q.2 := by
  obtain ⟨xs, m, _, hx, hl, hxl, hall⟩ := DataW.trod_struct Try.underlying31 hf
  obtain ⟨a, b, rfl⟩ := twoV (hl.trans cellsAc)
  obtain ⟨y0, y1, rfl⟩ := twoD (show xs.length = 2 from hxl)
  have h0 : DataW.trod enc Try.prog W base (fun _ => true) true m 3 (([a, b].drop 0).take (Try.prog.cellsOf 3)) = some y0 := hall 0 _ rfl
  have h1 : DataW.trod enc Try.prog W base (fun _ => true) true m 3 (([a, b].drop 1).take (Try.prog.cellsOf 3)) = some y1 := hall 1 _ rfl
  rw [cellsInt] at h0 h1
  obtain ⟨z0, e0, _, _⟩ := DataW.trod_int Try.underlying3 h0
  obtain ⟨z1, e1, _, w1⟩ := DataW.trod_int Try.underlying3 h1
  simp at e0 e1
  subst e0; subst e1
  exact ⟨(z0, z1), rfl, w1⟩
/-- a script that was read -/
theorem open_acts {H : Type} {enc : TypeId × Value → H} {W : World} {base fuel : Nat} {a0 : Option Addr} {len0 cap0 : Nat} {d : DataW H} {p : List MemPlace} (hf : DataW.trod enc Try.prog W base (fun _ => true) true fuel 22 [.slice a0 len0 cap0] = some (d, p)) :
    ∃ l : List Ac, len0 = l.length ∧ ARow W a0 l ∧ (∀ x ∈ l, wfK x.2) ∧ (l = [] ∨ ∃ es sp, d = .slice es sp ∧ es.length = len0) := by
  rcases open_slice Try.underlying22 hf with ⟨hcs, _⟩ | ⟨x, len, cap, m, n, D, Pl, hcs, _, hl, hm, hmm, hx, hel⟩
  · simp at hcs
    obtain ⟨rfl, rfl, rfl⟩ := hcs
    exact ⟨[], rfl, ⟨fun k q hk => by simp at hk⟩, by simp, .inl rfl⟩
  · simp at hcs
    obtain ⟨rfl, rfl, rfl⟩ := hcs
    have hmc : m = cap0 := by simpa using hmm
    have hd : d = .slice ((List.range len0).map D) ((List.range (m - len0)).map fun j => D (len0 + j)) := (Prod.mk.inj hx).1
    have hel' : ∀ i, ∃ q : Ac, (i < len0 → ∀ j, j < 2 → W.cell? ((x.add (i * 2)).add j) = [Value.int .i64 q.1, .int .i64 q.2][j]?) ∧ wfK q.2 := by
      intro i
      by_cases hi : i < len0
      · obtain ⟨cs', hc1, hc2⟩ := hel i (by omega)
        rw [cellsAc] at hc1
        obtain ⟨q, rfl, hq⟩ := open_act hc2
        exact ⟨q, fun _ => (World.cells?_some hc1).2.2, hq⟩
      · exact ⟨(0, 0), fun h => absurd h hi, by decide⟩
    obtain ⟨T, hT⟩ := Classical.axiomOfChoice hel'
    refine ⟨(List.range len0).map T, by simp, ⟨fun k q hk => ?_⟩, fun y hy => ?_, .inr ⟨_, _, hd, by simp⟩⟩
    · have hk2 : k < len0 := by
        have := (List.getElem?_eq_some_iff.1 hk).1
        simpa using this
      have hq : T k = q := by simpa [hk2] using hk
      obtain ⟨pb, po, rfl⟩ : ∃ pb po, x = ⟨pb, po, none⟩ := by
        have h0 := (hT 0).1 (by omega) 0 (by decide)
        have h1 := World.cell?_spot (show W.cell? ((x.add (0 * 2)).add 0) = some (.int .i64 (T 0).1) from h0)
        obtain ⟨b, off, spot⟩ := x
        have : spot = none := by simpa [Addr.add] using h1
        exact ⟨b, off, by rw [this]⟩
      have g0 := (hT k).1 hk2 0 (by decide)
      have g1 := (hT k).1 hk2 1 (by decide)
      rw [add_plain, add_plain] at g0 g1
      rw [hq] at g0 g1
      exact ⟨pb, po, rfl, g0, g1⟩
    · obtain ⟨i, _, rfl⟩ := List.mem_map.1 hy
      exact (hT i).2
/-- how many there can be -/
theorem acts_len {H : Type} {ts : List TypeId} {ds : List (DataW H)} (hsz : (DataW.weightsEach Try.prog ts ds).all (· ≤ reachBytes) = true) {j : Nat} {d : DataW H} {len : Nat} {l : List Ac} (ht : ts[j]? = some 22) (hd : ds[j]? = some d) (e1 : len = l.length) (e4 : l = [] ∨ ∃ es sp, d = .slice es sp ∧ es.length = len) : len ≤ 8796093021952 := by
  rcases e4 with h | ⟨es, sp, rfl, hes⟩
  · rw [e1, h]; simp
  · have := sized_slice hsz ht hd Try.underlying22
    rw [bytesAc] at this
    have hr : reachBytes = 140737488351232 := by decide
    omega
end Go.Proofs.Ytpchllepboolhaa.D

namespace Go.Proofs.Ytpchllepboolhaa
open _root_.Go.Proofs.Ytpchllepboolhaa.Rows (uptoBulk uptoBulkAll uptoSmall)

theorem bulk_pos {H : Type} (d : DataW H) : 0 < uptoBulk d := by
  rcases d with l | _ | _ | _ | _ | _ | _ | _
  · cases l <;> simp [uptoBulk]
  all_goals simp [uptoBulk]
theorem bulkAll_append {H : Type} : ∀ l r : List (DataW H), uptoBulkAll (l ++ r) = uptoBulkAll l + uptoBulkAll r
  | [], r => by simp [uptoBulkAll]
  | d :: l, r => by simp only [List.cons_append, uptoBulkAll]; rw [bulkAll_append l r]; omega
theorem bulk_le_all {H : Type} {d : DataW H} {l : List (DataW H)} (h : d ∈ l) : uptoBulk d ≤ uptoBulkAll l := by
  obtain ⟨a, b, rfl⟩ := List.append_of_mem h
  rw [bulkAll_append]; simp only [uptoBulkAll]; omega
theorem length_le_bulk {H : Type} : ∀ l : List (DataW H), l.length ≤ uptoBulkAll l
  | [] => Nat.zero_le _
  | d :: l => by have := length_le_bulk l; have := bulk_pos d; simp only [uptoBulkAll, List.length_cons]; omega
theorem bulk_slice {H : Type} (es sp : List (DataW H)) : uptoBulk (.slice es sp) = uptoBulkAll es + uptoBulkAll sp + 1 := by simp [uptoBulk]
theorem bulk_bound {H : Type} {l : List (DataW H)} (h : uptoSmall H l = true) : uptoBulkAll l ≤ 1048576 := of_decide_eq_true h
end Go.Proofs.Ytpchllepboolhaa
