import Derived.Test.YtpkobgnbjmefnaaSums
import Derived.Test.YtpkobgnbjmefnaaBurstProof
import Derived.Test.YtpkobgnbjmefnaaBulk
import Derived.JoinedCond
import Derived.Deep.Slices
namespace Go.Proofs.Ytpkobgnbjmefnaa.octetSums
open Go.ChangeShapes Go.WideShapes Go.ChangeAt Go.RowKit
open Go.ChangeMaps (open_string shut_string)
open Go.Deep
set_option linter.unusedVariables false
open octetBurst (own laidOut bytes5 brow_ints)

theorem cells23 : Try.prog.cellsOf 23 = 1 := by kernel_rfl

/-- a []byte that was read, in a slot or in a cell: its bytes -/
theorem open_bytes {H : Type} {enc : TypeId × Value → H} {W : World} {base fuel : Nat} {cs : List Value} {d : DataW H} {p : List MemPlace} (hf : DataW.trod enc Try.prog W base (fun _ => true) true fuel 23 cs = some (d, p)) (hb : Rows.uptoBulk d ≤ 1048576) :
    ∃ (ao : Option Addr) (cap : Nat) (l : List Nat), cs = [.slice ao l.length cap] ∧ BRow W ao cap l ∧ l.length + 1 ≤ Rows.uptoBulk d := by
  rcases open_ints Try.underlying23 Try.underlying5 (by kernel_rfl) hf with ⟨hcs, hx⟩ | ⟨x, l, c, zs, hcs, _, hl, hm, hz, hx, hcell, hwz⟩
  · have hd : d = .nil := (Prod.mk.inj hx).1
    exact ⟨none, 0, [], hcs, ⟨by simp, by simp, fun _ => ⟨rfl, rfl⟩, fun h => absurd rfl h⟩, by rw [hd]; simp [Rows.uptoBulk]⟩
  · have hd : d = .slice (lits .u8 (zs.take l)) (lits .u8 (zs.drop l)) := (Prod.mk.inj hx).1
    have hz' : zs.length = c := by simpa using hz
    have hsl := bulk_slice (lits (H := H) .u8 (zs.take l)) (lits .u8 (zs.drop l))
    have hs1 := length_le_bulk (lits (H := H) .u8 (zs.take l))
    have hs2 := length_le_bulk (lits (H := H) .u8 (zs.drop l))
    rw [← hd] at hsl
    simp only [lits, List.length_map, List.length_take, List.length_drop] at hsl hs1 hs2
    obtain ⟨m, hm1, hm2⟩ := brow_ints W x l c zs (by omega) (by omega) hcell hwz
    subst hm1
    exact ⟨some x, c, m, hcs, hm2, by omega⟩

theorem flat_mono (L : Nat → List Nat) (k n : Nat) (h : k ≤ n) : (flat L k).length ≤ (flat L n).length := by
  induction n with
  | zero => simp [show k = 0 by omega]
  | succ n ih =>
    by_cases hk : k = n + 1
    · rw [hk]; exact Nat.le_refl _
    · have := ih (by omega)
      simp only [flat, List.length_append]; omega

theorem contract (H : Type) (enc : TypeId × Value → H) (W : World) (base : Nat) (args : Array Value) (ds gs : List (DataW H)) (before : List MemPlace)
    (hval : ∀ (j : Nat) t v, Try.f3.params[j]? = some t → args[j]? = some v → Value.okWide Try.prog W .any base t v)
    (hW : DataW.Whole enc Try.prog Try.f3.params.toList Rows.octetSumsSpec.vars false W args.toList ds gs before) (hk : Rows.uptoSmall H (ds ++ gs) = true) :
    Calls Try.prog 3 args W fun e W' => ∃ v, e = .returned v ∧ Rows.octetSumsSpec.post enc Try.prog Try.f3 false true false false W args v W' := by
  have hW' := hW
  obtain ⟨p, q, hA0, hV, rfl, hfz, hnd⟩ := hW
  have hA : DataW.TrodAll enc Try.prog W 0 (fun _ => true) true Try.f3.params.toList args.toList ds p := hA0
  rw [Try.params3] at hA hval
  obtain ⟨v0, vs0, d0, ds0, p0, q0, hargs, rfl, rfl, h0, r0⟩ := trodAll_cons hA
  obtain ⟨rfl, rfl, rfl⟩ := trodAll_nil r0
  obtain rfl : args = #[v0] := by cases args; simp_all
  obtain ⟨rfl, rfl⟩ := trodVars_none hV
  obtain ⟨a0, len0, cap0, rfl⟩ := okWide_slice Try.underlying22 (hval 0 22 v0 rfl rfl)
  have k0 := h0
  have lt0 : ∀ x ∈ p0, x.block < W.heap.size := by obtain ⟨m, hm⟩ := k0; exact DataW.trod_lt m _ _ _ hm
  have hbd : Rows.uptoBulk d0 ≤ 1048576 := by
    have h := bulk_bound hk
    simp only [Rows.uptoBulkAll, List.append_nil] at h
    omega
  have hwalk : Calls Try.prog 3 #[.slice a0 len0 cap0] W fun e w' => e = .returned (.bool true) ∧ Below W.heap.size W w' := by
    obtain ⟨fuel, hf⟩ := h0
    rcases open_slice Try.underlying22 hf with ⟨hcs, _⟩ | ⟨x, len, cap, m, n, D, Pl, hcs, _, hl, hm, hmm, hx, hel⟩
    · simp [Value.cells] at hcs
      obtain ⟨rfl, rfl, rfl⟩ := hcs
      exact sums_nil none 0 W
    · simp [Value.cells] at hcs
      obtain ⟨rfl, rfl, rfl⟩ := hcs
      have hd : d0 = .slice ((List.range len0).map D) ((List.range (m - len0)).map fun j => D (len0 + j)) := (Prod.mk.inj hx).1
      have hmc : m = cap0 := by simpa using hmm
      rcases Nat.eq_zero_or_pos len0 with hz | hpos
      · subst hz; exact sums_nil _ _ W
      · have hall : Rows.uptoBulkAll ((List.range len0).map D) ≤ 1048576 := by
          have := bulk_slice ((List.range len0).map D) ((List.range (m - len0)).map fun j => D (len0 + j))
          rw [← hd] at this; omega
        have hlen : len0 ≤ 1048576 := by
          have := length_le_bulk ((List.range len0).map D)
          simp at this; omega
        have hel' : ∀ i, ∃ t : Option Addr × Nat × List Nat, i < len0 → W.cell? (x.add i) = some (.slice t.1 t.2.2.length t.2.1) ∧ BRow W t.1 t.2.1 t.2.2 ∧ t.2.2.length + 1 ≤ Rows.uptoBulk (D i) := by
          intro i
          by_cases hi : i < len0
          · obtain ⟨cs', hc1, hc2⟩ := hel i (by omega)
            rw [cells23, Nat.mul_one] at hc1
            have hbi : Rows.uptoBulk (D i) ≤ 1048576 := Nat.le_trans (bulk_le_all (List.mem_map.2 ⟨i, List.mem_range.2 hi, rfl⟩)) hall
            obtain ⟨ao, c, l, h1, h2, h3⟩ := open_bytes hc2 hbi
            subst h1
            exact ⟨(ao, c, l), fun _ => ⟨cell_of_cells?_one hc1, h2, h3⟩⟩
          · exact ⟨(none, 0, []), fun h => absurd h hi⟩
        obtain ⟨T, hT⟩ := Classical.axiomOfChoice hel'
        have hsum : ∀ k, k ≤ len0 → (flat (fun i => (T i).2.2) k).length + k ≤ Rows.uptoBulkAll ((List.range k).map D) := by
          intro k
          induction k with
          | zero => intro _; simp [flat]
          | succ k ih =>
            intro hk'
            have h1 := ih (by omega)
            have h2 := (hT k (by omega)).2.2
            rw [List.range_succ, List.map_append, bulkAll_append]
            simp only [flat, List.length_append, List.map_cons, List.map_nil, Rows.uptoBulkAll]
            omega
        have hfl : ∀ k, k ≤ len0 → (flat (fun i => (T i).2.2) k).length ≤ 1048576 := by
          intro k hk'
          have h1 := flat_mono (fun i => (T i).2.2) k len0 hk'
          have h2 := hsum len0 (Nat.le_refl _)
          omega
        obtain ⟨pb, po, hx'⟩ : ∃ pb po, x = ⟨pb, po, none⟩ := by
          have h1 := World.cell?_spot (hT 0 hpos).1
          obtain ⟨b, off, spot⟩ := x
          have : spot = none := by simpa [Addr.add] using h1
          exact ⟨b, off, by rw [this]⟩
        subst hx'
        exact sums_some pb po cap0 len0 (fun i => (T i).1) (fun i => (T i).2.1) (fun i => (T i).2.2) W hlen hpos hfl
          (fun i hi => by rw [← WideShapes.add_plain]; exact (hT i hi).1) (fun i hi => (hT i hi).2.1)
  clear hA0
  refine hwalk.mono fun e W' ⟨he, bel⟩ => ?_
  subst he
  exact ⟨_, rfl, _, _, _, [], _, [], hW', trodAll_mk1 (shut_bool Try.underlying4 _), trodAll_cons_mk (Below.trod laidOut (by kernel_rfl) (of_decide_eq_true (by kernel_rfl)) k0 bel lt0) trodAll_mk0, rfl, bel.frame _, fun h => by cases h⟩

set_option maxRecDepth 100000 in
theorem lifted (os : Os) (started : os.Started) (H : Type) (enc : TypeId × Value → H) (F : Stop.Interp) :
    ReturnsInHanded {} Try.checked os 3 .any ((Rows.OpenSpec.upto Rows.octetSumsSpec).pre6 enc Try.prog Try.f3 Rows.octetSumsUptoRow.domain false) (((Rows.OpenSpec.upto Rows.octetSumsSpec).at F).post enc Try.prog Try.f3 false true false false) := by
  refine returnsInHanded_of_cond (C := Try.checked) (s := Rows.OpenSpec.upto Rows.octetSumsSpec) (k := Rows.uptoSmall) rfl own started (by kernel_rfl) Try.func3
    (OpenSpec.witness (enc := enc) (C := Try.checked) (s := Rows.OpenSpec.upto Rows.octetSumsSpec) (k := Rows.uptoSmall) rfl false ⟨#[], #[.slice none 0 0], []⟩ 8 (by kernel_rfl) (by kernel_rfl) (by kernel_rfl)
      (x := ([.nil], [], [])) (by kernel_rfl) rfl (by kernel_rfl)) ?_
  intro W base args ds gs before hval hW _ hk _
  exact contract H enc W base args ds gs before hval hW hk
end Go.Proofs.Ytpkobgnbjmefnaa.octetSums
namespace Go.Proofs.Ytpkobgnbjmefnaa
theorem octetSums_proved : Rows.OctetSumsUptoSaid :=
  OpenClaim.holds_of_cond 3 Try.f3 rfl rfl rfl rfl rfl rfl rfl ⟨rfl, rfl, rfl, rfl, rfl⟩ rfl rfl rfl rfl rfl (by kernel_rfl) Try.func3 (by kernel_rfl)
    (of_decide_eq_true (by kernel_rfl)) (by unfold Func.isWrapper; first | (rw [if_pos (by decide +kernel)]; kernel_rfl) | (rw [if_neg (by decide +kernel)]; exact ⟨rfl, rfl⟩))
    (fun os started H enc _ F => octetSums.lifted os started H enc F)
#print axioms octetSums_proved
end Go.Proofs.Ytpkobgnbjmefnaa
