import Derived.Test.YtpkobgnbjmefnabDoorFrame
import Derived.Test.YtpkobgnbjmefnabDoorBulkD
import Derived.Test.YtpkobgnbjmefnabDoorBackL
import Derived.Deep.Slices
namespace Go.Proofs.YtpkobgnbjmefnabDoor
open Go.ChangeShapes Go.WideShapes Go.ChangeAt Go.RowKit Go.Lib
open Go.ChangeMaps (open_string shut_string)
open Go.Deep
set_option linter.unusedVariables false
set_option maxRecDepth 100000

theorem brow_ints (W : World) (x : Addr) (len cap : Nat) (zs : List Int) (hl : len ≤ zs.length) (hlen : len ≤ 140737488351232)
    (hcell : ∀ i, i < zs.length → W.cell? (x.add i) = some (.int .u8 (zs.getD i 0))) (hw : ∀ n ∈ zs, (Lit.int .u8 n).wf = true) :
    ∃ l : List Nat, l.length = len ∧ BRow W (some x) cap l := by
  have hb : ∀ i (hi : i < zs.length), 0 ≤ zs[i] ∧ zs[i] ≤ 255 := fun i hi => by
    have := bounds_u8 (hw _ (List.getElem_mem hi)); omega
  refine ⟨(zs.take len).map Int.toNat, by simp; omega, ⟨?_, by simp; omega, fun h => by simp at h, ?_⟩⟩
  · intro y hy
    obtain ⟨z, hz, rfl⟩ := List.mem_map.1 hy
    have hz' := List.mem_of_mem_take hz
    have := bounds_u8 (hw z hz'); omega
  · intro hne
    have hpos : 0 < len := by
      rcases Nat.eq_zero_or_pos len with h | h
      · subst h; simp at hne
      · exact h
    obtain ⟨b, off, rfl, hc⟩ := ints_at hcell (by omega)
    refine ⟨b, off, rfl, fun k hk => ?_⟩
    have hk' : k < len := by simp at hk; omega
    have h1 := hcell k (by omega)
    rw [add_plain] at h1
    rw [h1]
    have h2 := hb k (by omega)
    simp [bv, show k < zs.length by omega]
    omega

/-- a []byte that was read, in a slot or in a cell: its bytes -/
theorem open_bytes {H : Type} {enc : TypeId × Value → H} {W : World} {base fuel : Nat} {cs : List Value} {d : DataW H} {p : List MemPlace} (hf : DataW.trod enc Tryd.prog W base (fun _ => true) true fuel 37 cs = some (d, p)) (hb : Rows.uptoBulk d ≤ 1048576) :
    ∃ (ao : Option Addr) (cap : Nat) (l : List Nat), cs = [.slice ao l.length cap] ∧ BRow W ao cap l ∧ l.length + 1 ≤ Rows.uptoBulk d := by
  rcases open_ints Tryd.underlying37 Tryd.underlying5 (by kernel_rfl) hf with ⟨hcs, hx⟩ | ⟨x, l, c, zs, hcs, _, hl, hm, hz, hx, hcell, hwz⟩
  · have hd : d = .nil := (Prod.mk.inj hx).1
    exact ⟨none, 0, [], hcs, ⟨by simp, by simp, fun _ => ⟨rfl, rfl⟩, fun h => absurd rfl h⟩, by rw [hd]; simp [Rows.uptoBulk]⟩
  · have hd : d = .slice (lits .u8 (zs.take l)) (lits .u8 (zs.drop l)) := (Prod.mk.inj hx).1
    have hz' : zs.length = c := by simpa using hz
    have hsl := bulk_slice (lits (H := H) .u8 (zs.take l)) (lits .u8 (zs.drop l))
    have hs1 := length_le_bulk (lits (H := H) .u8 (zs.take l))
    have hs2 := length_le_bulk (lits (H := H) .u8 (zs.drop l))
    rw [← hd] at hsl
    simp only [lits, List.length_map, List.length_take, List.length_drop] at hsl hs1 hs2
    obtain ⟨m, hm1, hm2⟩ := brow_ints W x l c zs (by omega) (by omega) hcell hwz
    subst hm1
    exact ⟨some x, c, m, hcs, hm2, by omega⟩

theorem five {cs : List Value} (h : cs.length = 5) : ∃ a b c d e, cs = [a, b, c, d, e] := by
  match cs, h with
  | [a, b, c, d, e], _ => exact ⟨a, b, c, d, e, rfl⟩
theorem fiveD {H : Type} {cs : List (DataW H × List MemPlace)} (h : cs.length = 5) : ∃ a b c d e, cs = [a, b, c, d, e] := by
  match cs, h with
  | [a, b, c, d, e], _ => exact ⟨a, b, c, d, e, rfl⟩
theorem cellsW : Tryd.prog.cellsOf 52 = 5 := by kernel_rfl
theorem cells3 : Tryd.prog.cellsOf 3 = 1 := by kernel_rfl
theorem cells9 : Tryd.prog.cellsOf 9 = 1 := by kernel_rfl
theorem cellsU : Tryd.prog.cellsOf 22 = 1 := by kernel_rfl
theorem cellsBS : Tryd.prog.cellsOf 37 = 1 := by kernel_rfl

/-- an entry of a script that was read -/
theorem open_item {H : Type} {enc : TypeId × Value → H} {W : World} {base fuel : Nat} {cs : List Value} {d : DataW H} {p : List MemPlace} (hf : DataW.trod enc Tryd.prog W base (fun _ => true) true fuel 52 cs = some (d, p)) (hb : Rows.uptoBulk d ≤ 1048576) :
    ∃ x : Item, cs = x.cells ∧ BRow W x.ao x.cap x.b ∧ x.v < 18446744073709551616 ∧ x.b.length + x.s.size + 6 ≤ Rows.uptoBulk d ∧ x.n.toNat < 9223372036854775808 := by
  obtain ⟨xs, m, _, hx, hl, hxl, hall⟩ := DataW.trod_struct Tryd.underlying52 hf
  obtain ⟨a, b, c, d', e, rfl⟩ := five (hl.trans cellsW)
  obtain ⟨y0, y1, y2, y3, y4, rfl⟩ := fiveD (show xs.length = 5 from hxl)
  have hd : d = .agg [y0.1, y1.1, y2.1, y3.1, y4.1] := by
    have := (Prod.mk.inj hx).1; simpa using this
  have hbk : Rows.uptoBulk d = Rows.uptoBulk y0.1 + (Rows.uptoBulk y1.1 + (Rows.uptoBulk y2.1 + (Rows.uptoBulk y3.1 + (Rows.uptoBulk y4.1 + 0)))) + 1 := by rw [hd]; simp [Rows.uptoBulk, Rows.uptoBulkAll]
  have p0 := bulk_pos y0.1
  have p1 := bulk_pos y1.1
  have p2 := bulk_pos y2.1
  have h0 : DataW.trod enc Tryd.prog W base (fun _ => true) true m 3 (([a, b, c, d', e].drop 0).take (Tryd.prog.cellsOf 3)) = some y0 := hall 0 _ rfl
  have h1 : DataW.trod enc Tryd.prog W base (fun _ => true) true m 22 (([a, b, c, d', e].drop 1).take (Tryd.prog.cellsOf 22)) = some y1 := hall 1 _ rfl
  have h2 : DataW.trod enc Tryd.prog W base (fun _ => true) true m 3 (([a, b, c, d', e].drop 2).take (Tryd.prog.cellsOf 3)) = some y2 := hall 2 _ rfl
  have h3 : DataW.trod enc Tryd.prog W base (fun _ => true) true m 37 (([a, b, c, d', e].drop 3).take (Tryd.prog.cellsOf 37)) = some y3 := hall 3 _ rfl
  have h4 : DataW.trod enc Tryd.prog W base (fun _ => true) true m 9 (([a, b, c, d', e].drop 4).take (Tryd.prog.cellsOf 9)) = some y4 := hall 4 _ rfl
  rw [cellsU] at h1
  rw [cells3] at h0 h2
  rw [cells9] at h4
  rw [cellsBS] at h3
  obtain ⟨z0, e0, _, _⟩ := DataW.trod_int Tryd.underlying3 h0
  obtain ⟨z1, e1, _, w1⟩ := DataW.trod_int Tryd.underlying22 h1
  obtain ⟨z2, e2, _, w2⟩ := DataW.trod_int Tryd.underlying3 h2
  obtain ⟨ao, cap, l, e3, hbr, hl3⟩ := open_bytes h3 (by omega)
  obtain ⟨s4, e4, hs4, _⟩ := DataW.trod_string Tryd.underlying9 h4
  simp at e0 e1 e2 e3 e4
  subst e0; subst e1; subst e2; subst e3; subst e4
  have hb1 := bounds_u64 w1
  obtain ⟨v, rfl⟩ := Int.eq_ofNat_of_zero_le hb1.1
  have hb2 := bounds_i64 w2
  have hy4 : Rows.uptoBulk y4.1 = s4.size + 1 := by rw [hs4]; simp [Rows.uptoBulk]
  exact ⟨⟨z0, v, z2, ao, cap, l, s4⟩, rfl, hbr, by show v < _; omega, by show l.length + s4.size + 6 ≤ _; omega, by show z2.toNat < _; omega⟩

/-- a script that was read -/
theorem open_script {H : Type} {enc : TypeId × Value → H} {W : World} {base fuel : Nat} {a0 : Option Addr} {len0 cap0 : Nat} {d : DataW H} {p : List MemPlace} (hf : DataW.trod enc Tryd.prog W base (fun _ => true) true fuel 36 [.slice a0 len0 cap0] = some (d, p)) (hb : Rows.uptoBulk d ≤ 1048576) :
    len0 = 0 ∨ ∃ (sb so : Nat) (X : Nat → Item), a0 = some ⟨sb, so, none⟩ ∧ 0 < len0 ∧ len0 ≤ 1048576 ∧ (∀ i, i < len0 → ∀ j u, (X i).cells[j]? = some u → W.cell? ⟨sb, so + i * 5 + j, none⟩ = some u) ∧
      (∀ i, i < len0 → BRow W (X i).ao (X i).cap (X i).b ∧ (X i).v < 18446744073709551616 ∧ (X i).s.size ≤ 1048576 ∧ (X i).b.length ≤ 1048576) ∧ (∀ k, k ≤ len0 → (encAll (doneOf X k)).length ≤ 16777216) := by
  rcases open_slice Tryd.underlying36 hf with ⟨hcs, _⟩ | ⟨x, len, cap, m, n, D, Pl, hcs, _, hl, hm, hmm, hx, hel⟩
  · simp at hcs; exact .inl hcs.2.1
  · simp at hcs
    obtain ⟨rfl, rfl, rfl⟩ := hcs
    rcases Nat.eq_zero_or_pos len0 with hz | hpos
    · exact .inl hz
    right
    have hd : d = .slice ((List.range len0).map D) ((List.range (m - len0)).map fun j => D (len0 + j)) := (Prod.mk.inj hx).1
    have hmc : m = cap0 := by simpa using hmm
    have hall : Rows.uptoBulkAll ((List.range len0).map D) ≤ 1048576 := by
      have := bulk_slice ((List.range len0).map D) ((List.range (m - len0)).map fun j => D (len0 + j))
      rw [← hd] at this; omega
    have hlen : len0 ≤ 1048576 := by
      have := length_le_bulk ((List.range len0).map D)
      simp at this; omega
    have hel' : ∀ i, ∃ t : Item, i < len0 → (∀ j, j < 5 → W.cell? ((x.add (i * 5)).add j) = t.cells[j]?) ∧ BRow W t.ao t.cap t.b ∧ t.v < 18446744073709551616 ∧ t.b.length + t.s.size + 6 ≤ Rows.uptoBulk (D i) := by
      intro i
      by_cases hi : i < len0
      · obtain ⟨cs', hc1, hc2⟩ := hel i (by omega)
        rw [cellsW] at hc1
        have hbi : Rows.uptoBulk (D i) ≤ 1048576 := Nat.le_trans (bulk_le_all (List.mem_map.2 ⟨i, List.mem_range.2 hi, rfl⟩)) hall
        obtain ⟨t, h1, h2, h3, h4, _⟩ := open_item hc2 hbi
        subst h1
        exact ⟨t, fun _ => ⟨(World.cells?_some hc1).2.2, h2, h3, h4⟩⟩
      · exact ⟨⟨0, 0, 0, none, 0, [], ⟨#[]⟩⟩, fun h => absurd h hi⟩
    obtain ⟨T, hT⟩ := Classical.axiomOfChoice hel'
    have hbi : ∀ i, i < len0 → Rows.uptoBulk (D i) ≤ 1048576 := fun i hi => Nat.le_trans (bulk_le_all (List.mem_map.2 ⟨i, List.mem_range.2 hi, rfl⟩)) hall
    obtain ⟨pb, po, hx'⟩ : ∃ pb po, x = ⟨pb, po, none⟩ := by
      have h0 := (hT 0 hpos).1 0 (by decide)
      have h1 := World.cell?_spot (show W.cell? ((x.add (0 * 5)).add 0) = some (.int .i64 (T 0).kind) from h0)
      obtain ⟨b, off, spot⟩ := x
      have : spot = none := by simpa [Addr.add] using h1
      exact ⟨b, off, by rw [this]⟩
    subst hx'
    refine ⟨pb, po, T, rfl, hpos, hlen, ?_, ?_, ?_⟩
    · intro i hi j u hu
      have hj : j < 5 := by
        have := (List.getElem?_eq_some_iff.1 hu).1
        rwa [cells_len] at this
      have := (hT i hi).1 j hj
      rw [add_plain, add_plain] at this
      rw [this, hu]
    · intro i hi
      have h1 := (hT i hi).2.2.2
      have h2 := hbi i hi
      exact ⟨(hT i hi).2.1, (hT i hi).2.2.1, by omega, by omega⟩
    · have hsum : ∀ k, k ≤ len0 → (encAll (doneOf T k)).length ≤ 8 * Rows.uptoBulkAll ((List.range k).map D) := by
        intro k
        induction k with
        | zero => intro _; simp [doneOf, encAll]
        | succ k ih =>
          intro hk'
          have h1 := ih (by omega)
          have h2 := (hT k (by omega)).2.2.2
          have h3 := enc_len (T k)
          rw [List.range_succ, List.map_append, bulkAll_append]
          simp only [List.map_cons, List.map_nil, Rows.uptoBulkAll]
          simp only [doneOf]
          split
          · rw [encAll_snoc, List.length_append]; omega
          · omega
      intro k hk'
      have h1 := hsum k hk'
      have h2 : Rows.uptoBulkAll ((List.range k).map D) ≤ Rows.uptoBulkAll ((List.range len0).map D) := by
        obtain ⟨j, rfl⟩ := Nat.exists_eq_add_of_le hk'
        rw [List.range_add, List.map_append, bulkAll_append]; omega
      omega
end Go.Proofs.YtpkobgnbjmefnabDoor
