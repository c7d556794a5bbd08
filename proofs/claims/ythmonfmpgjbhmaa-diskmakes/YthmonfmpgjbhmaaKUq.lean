import Derived.Test.YthmonfmpgjbhmaaKUn
import Derived.Test.YthmonfmpgjbhmaaKUh
import Derived.Carry
import Derived.ProofKit
import Derived.OpenShut
import Derived.SizedLaws
import Derived.Deep.Slices
namespace Go.Proofs.Ythmonfmpgjbhmaa.K
open Go.RowKit Go.Maps Go.Proofs.Ythmonfmpgjbhmaa Go.ChangeShapes Go.WideShapes Go.ChangeAt Go.Deep
set_option linter.unusedVariables false
set_option linter.unusedSimpArgs false
set_option maxRecDepth 100000

theorem lawMakes (w : World) (ns : Int) (ai : Option Addr) (ci : Nat) (l : List Nat) (s : Int) (h : BRow w ai ci l) :
    Calls Try.prog 3 #[.int .i64 ns, .slice ai l.length ci, .int .i64 s] w fun r w' => r = .returned (.bool true) ∧ Below w.heap.size w w' := by
  by_cases hns : ns < 1 ∨ 65536 < ns
  · cases ai with
    | none =>
      obtain ⟨rfl, rfl⟩ := h.nil rfl
      exact lawMakes_bn w ns hns s
    | some ad =>
      by_cases hbad : l.length % 512 ≠ 0 ∨ l.length / 512 < 1 ∨ 65536 < l.length / 512
      · exact lawMakes_bb w ns hns ad ci l.length l s h rfl hbad
      · have hne : l ≠ [] := fun e => hbad (.inr (.inl (by rw [e]; decide)))
        obtain ⟨gi, oi, e, _⟩ := h.at_ hne
        cases e
        exact lawMakes_bg w ns hns gi oi ci l.length (l.length / 512) l s h rfl (by omega) (by omega) (by omega)
  · obtain ⟨n, rfl⟩ := Int.eq_ofNat_of_zero_le (show 0 ≤ ns by omega)
    cases ai with
    | none =>
      obtain ⟨rfl, rfl⟩ := h.nil rfl
      exact lawMakes_an w n (by omega) (by omega) s
    | some ad =>
      by_cases hbad : l.length % 512 ≠ 0 ∨ l.length / 512 < 1 ∨ 65536 < l.length / 512
      · exact lawMakes_ab w n (by omega) (by omega) ad ci l.length l s h rfl hbad
      · have hne : l ≠ [] := fun e => hbad (.inr (.inl (by rw [e]; decide)))
        obtain ⟨gi, oi, e, _⟩ := h.at_ hne
        cases e
        exact lawMakes_ag w n (by omega) (by omega) gi oi ci l.length (l.length / 512) l s h rfl (by omega) (by omega) (by omega)

theorem laidOut : laidOutB Try.prog = true := by kernel_rfl
theorem bytesU8 : Try.prog.bytesOf 5 = 1 := by kernel_rfl
theorem brow_ints (W : World) (x : Addr) (len cap : Nat) (zs : List Int) (hl : len ≤ zs.length) (hlen : len ≤ 140737488351232)
    (hcell : ∀ i, i < zs.length → W.cell? (x.add i) = some (.int .u8 (zs.getD i 0))) (hw : ∀ n ∈ zs, (Lit.int .u8 n).wf = true) :
    ∃ l : List Nat, l.length = len ∧ BRow W (some x) cap l := by
  have hb : ∀ i (hi : i < zs.length), 0 ≤ zs[i] ∧ zs[i] ≤ 255 := fun i hi => by
    have := bounds_u8 (hw _ (List.getElem_mem hi)); omega
  refine ⟨(zs.take len).map Int.toNat, by simp; omega, ⟨?_, by simp; omega, fun h => by simp at h, ?_⟩⟩
  · intro y hy
    obtain ⟨z, hz, rfl⟩ := List.mem_map.1 hy
    have hz' := List.mem_of_mem_take hz
    have := bounds_u8 (hw z hz'); omega
  · intro hne
    have hpos : 0 < len := by
      rcases Nat.eq_zero_or_pos len with h | h
      · subst h; simp at hne
      · exact h
    obtain ⟨b, off, rfl, hc⟩ := ints_at hcell (by omega)
    refine ⟨b, off, rfl, fun k hk => ?_⟩
    have hk' : k < len := by simp at hk; omega
    have h1 := hcell k (by omega)
    rw [add_plain] at h1
    rw [h1]
    have h2 := hb k (by omega)
    simp [bv, show k < zs.length by omega]
    omega
/-- a []byte that was handed in -/
theorem open_bytes {H : Type} {enc : TypeId × Value → H} {W : World} {base fuel : Nat} {cs : List Value} {d : DataW H} {p : List MemPlace} (hf : DataW.trod enc Try.prog W base (fun _ => true) true fuel 22 cs = some (d, p))
    (hb : ∀ es sp, d = .slice es sp → es.length ≤ 140737488351232) :
    ∃ (ao : Option Addr) (cap : Nat) (l : List Nat), cs = [.slice ao l.length cap] ∧ BRow W ao cap l := by
  rcases open_ints Try.underlying22 Try.underlying5 (by kernel_rfl) hf with ⟨hcs, hx⟩ | ⟨x, l, c, zs, hcs, _, hl, hm, hz, hx, hcell, hwz⟩
  · exact ⟨none, 0, [], hcs, ⟨by simp, by simp, fun _ => ⟨rfl, rfl⟩, fun h => absurd rfl h⟩⟩
  · have hd : d = .slice (lits .u8 (zs.take l)) (lits .u8 (zs.drop l)) := (Prod.mk.inj hx).1
    have hz' : zs.length = c := by simpa using hz
    have hl1 := hb _ _ hd
    simp only [lits, List.length_map, List.length_take] at hl1
    obtain ⟨m, hm1, hm2⟩ := brow_ints W x l c zs (by omega) (by omega) hcell hwz
    subst hm1
    exact ⟨some x, c, m, hcs, hm2⟩
end Go.Proofs.Ythmonfmpgjbhmaa.K
