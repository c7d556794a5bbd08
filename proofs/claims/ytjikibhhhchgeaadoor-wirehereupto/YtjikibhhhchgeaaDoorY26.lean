import Derived.Test.YtjikibhhhchgeaaDoorY25
namespace Go.Proofs.YtjikibhhhchgeaaDoor
open Go.RowKit
set_option linter.unusedVariables false
set_option linter.unusedSimpArgs false
set_option maxRecDepth 100000
/-- texts in memory -/
structure Strs (w : World) (ao : Option Addr) (l : List ByteArray) : Prop where
  sz : ∀ x ∈ l, x.size ≤ 9223372036854775807
  at_ : l ≠ [] → ∃ b off, ao = some ⟨b, off, none⟩ ∧ ∀ k (hk : k < l.length), w.cell? ⟨b, off + k, none⟩ = some (.string l[k])
theorem Strs.later {w w' : World} {ao : Option Addr} {l : List ByteArray} (h : Strs w ao l) (hb : Below w.heap.size w w') : Strs w' ao l :=
  ⟨h.sz, fun hl => by obtain ⟨b, off, e, hc⟩ := h.at_ hl; exact ⟨b, off, e, fun k hk => cell_later hb (hc k hk)⟩⟩
def txs (l : List ByteArray) : Bool := l.all tx
theorem txs_take {l : List ByteArray} {j : Nat} (h : txs (l.take j) = true) (hj : j < l.length) (ht : tx l[j] = true) : txs (l.take (j + 1)) = true := by
  rw [List.take_add_one, List.getElem?_eq_getElem hj]
  simp only [txs, List.all_append, Option.toList, List.all_cons, List.all_nil, Bool.and_true, Bool.and_eq_true] at h ⊢
  exact ⟨h, ht⟩
theorem txs_bad {l : List ByteArray} {j : Nat} (hj : j < l.length) (ht : tx l[j] = false) : txs l = false := by
  rw [txs, List.all_eq_false]
  exact ⟨l[j], List.getElem_mem hj, by rw [ht]; simp⟩
set_option maxHeartbeats 1000000 in
theorem noText_any (s : ByteArray) (w : World) (hs : s.size ≤ 9223372036854775807) (hT : Tabs w) : Calls Tryd.prog 92 #[.string s] w fun e w' => e = .returned (.bool (!tx s)) ∧ Below w.heap.size w w' := by
  have HP : Hid (Calls Tryd.prog 90 #[.string s] w fun e w' => e = .returned (.bool (tx s)) ∧ Below w.heap.size w w') := isText_any s w hs hT
  clear hT
  generalize tx s = b at *
  go_enter Tryd.func92, Tryd.ntmps92
  go_wp2_with fail
  refine HP.out.mono ?_
  rintro e w1 ⟨rfl, hb⟩
  go_wp2
  go_ret
  exact ⟨rfl, hb⟩
set_option maxHeartbeats 2000000 in
theorem indexF_any (qa : Option Addr) (n qc : Nat) (qs : List ByteArray) (w : World) (hq : Strs w qa qs) (hn : qs.length = n) (hn2 : n ≤ 1048576) (hT : Tabs w) :
    Calls Tryd.prog 115 #[.slice qa n qc, (.func (.func 92) #[] #[])] w fun e w' => ∃ r : Int, e = .returned (.int .i64 r) ∧ decide (0 ≤ r) = !txs qs ∧ Below w.heap.size w w' := by
  have HQ : Hid (Strs w qa qs) := hq
  have HN : Hid (qs.length = n) := hn
  have HT : Hid (Tabs w) := hT
  clear hq hn hT
  go_enter Tryd.func115, Tryd.ntmps115
  go_wp2
  go_loopw [8] (fun iv wr => ∃ j : Nat, j ≤ n ∧ iv = .int .i64 (j : Nat) ∧ Hid (Below w.heap.size w wr ∧ txs (qs.take j) = true)) (fun iv _ => n - (intOf iv).toNat)
  case atStart => exact ⟨0, Nat.zero_le _, rfl, Below.refl _ _, by simp [txs]⟩
  case round =>
    obtain ⟨j, hj, rfl, HI⟩ := hrel
    by_cases hlt : j < n
    · have hne : qs ≠ [] := by rintro rfl; have := HN.out; simp at this; omega
      obtain ⟨b, off, rfl, hrow⟩ := (HQ.out.later HI.out.1).at_ hne
      have hjl : j < qs.length := by rw [HN.out]; exact hlt
      have hcell := hrow j hjl
      have hsz := HQ.out.sz qs[j] (List.getElem_mem hjl)
      have HT1 : Hid (tx qs[j] = true → txs (qs.take (j + 1)) = true) := txs_take HI.out.2 hjl
      have HT0 : Hid (tx qs[j] = false → txs qs = false) := txs_bad hjl
      have HX : Hid (Calls Tryd.prog 92 #[.string qs[j]] wr fun e w' => e = .returned (.bool (!tx qs[j])) ∧ Below wr.heap.size wr w') := noText_any qs[j] wr hsz (HT.out.later HI.out.1)
      generalize qs[j] = q at *
      clear hrow hne hsz
      cases htx : tx q with
      | true =>
        rw [htx] at HX
        have HB1 := HT1.out htx
        clear htx HT1 HT0
        go_wp2_with fail
        refine HX.out.mono ?_
        rintro e W1 ⟨rfl, hb⟩
        have HN1 : Hid (Below w.heap.size w W1 ∧ txs (qs.take (j + 1)) = true) := ⟨HI.out.1.trans (hb.mono HI.out.1.size), HB1⟩
        clear hb HX hcell
        go_wp2
        go_roundw
        case rel => exact ⟨j + 1, by omega, by go_num, HN1⟩
        case measure => simp [intOf]; omega
      | false =>
        rw [htx] at HX
        have HB1 : Hid (txs qs = false) := HT0.out htx
        clear htx HT1 HT0
        go_wp2_with fail
        refine HX.out.mono ?_
        rintro e W1 ⟨rfl, hb⟩
        have HN1 : Hid (Below w.heap.size w W1) := HI.out.1.trans (hb.mono HI.out.1.size)
        clear hb HX hcell
        go_wp2
        go_ret
        exact ⟨(j : Int), rfl, by rw [HB1.out]; simp, HN1.out⟩
    · have e1 : qs.take j = qs := List.take_of_length_le (by rw [HN.out]; omega)
      have h2 := HI.out.2
      rw [e1] at h2
      have H2 : Hid (txs qs = true) := h2
      clear h2 e1
      go_wp2
      go_ret
      exact ⟨-1, rfl, by rw [H2.out]; rfl, HI.out.1⟩
set_option maxHeartbeats 1000000 in
theorem containsF_any (qa : Option Addr) (n qc : Nat) (qs : List ByteArray) (w : World) (hq : Strs w qa qs) (hn : qs.length = n) (hn2 : n ≤ 1048576) (hT : Tabs w) :
    Calls Tryd.prog 93 #[.slice qa n qc, (.func (.func 92) #[] #[])] w fun e w' => e = .returned (.bool (!txs qs)) ∧ Below w.heap.size w w' := by
  have HX : Hid (Calls Tryd.prog 115 #[.slice qa n qc, (.func (.func 92) #[] #[])] w fun e w' => ∃ r : Int, e = .returned (.int .i64 r) ∧ decide (0 ≤ r) = !txs qs ∧ Below w.heap.size w w') := indexF_any qa n qc qs w hq hn hn2 hT
  clear hq hn hT
  generalize (!txs qs) = b at *
  go_enter Tryd.func93, Tryd.ntmps93
  go_wp2_with fail
  refine HX.out.mono ?_
  rintro e W1 ⟨r, rfl, hr, hb⟩
  clear HX
  go_wp2
  go_ret
  exact ⟨rfl, hb⟩
end Go.Proofs.YtjikibhhhchgeaaDoor
