import Derived.Test.YtjkoambfecmglaaVG
import Derived.Deep.RegionHeld3
namespace Go.Proofs.Ytjkoambfecmglaa
open Go.RowKit
set_option linter.unusedVariables false
set_option linter.unusedSimpArgs false
set_option maxRecDepth 100000
/-- all operations ahead of i that were answered stand in the list -/
def Whl (l : List Opv) (dn : List Int) (i : Nat) : Prop := ∀ j o, j < i → l[j]? = some o → o.ans = true → (j : Int) ∈ dn
theorem Whl.succ {l : List Opv} {dn : List Int} {i : Nat} {o : Opv} (h : Whl l dn i) (ho : l[i]? = some o) (hd : o.ans = true → (i : Int) ∈ dn) : Whl l dn (i + 1) := fun j p hj hp ha => by
  by_cases e : j = i
  · subst e; rw [ho] at hp; cases hp; exact hd ha
  · exact h j p (by omega) hp ha
set_option maxHeartbeats 4000000 in
theorem rWhole_any (oa da : Option Addr) (m oc d dc : Nat) (l : List Opv) (dn : List Int) (w : World) (h : OpsR w oa l) (hm : l.length = m) (hs : m ≤ 1099511627776) (hz : ZRow w da dn) (hd : dn.length = d) (hds : d ≤ 1099511627776) :
    Calls Try.prog 31 #[.slice oa m oc, .slice da d dc] w fun e w' => ∃ r : Bool, e = .returned (.bool r) ∧ (r = true ↔ Whl l dn m) ∧ Below w.heap.size w w' := by
  have HR : Hid (OpsR w oa l) := h
  have HM : Hid (l.length = m) := hm
  have HI : Hid (∀ W (i : Nat), Below w.heap.size w W → Calls Try.prog 51 #[.slice da d dc, .int .i64 (i : Int)] W fun e w' => e = .returned (.bool (decide ((i : Int) ∈ dn))) ∧ Below W.heap.size W w') := fun W i hb => rIn_any da d dc dn i W (hz.later hb) hd hds
  clear h hm hz hd
  go_enter Try.func31, Try.ntmps31
  go_wp2
  go_loopw [5] (fun iv wr => ∃ i : Nat, i ≤ m ∧ iv = .int .i64 (i : Int) ∧ Hid (Below w.heap.size w wr ∧ Whl l dn i)) (fun iv _ => m - (intOf iv).toNat)
  case atStart => exact ⟨0, Nat.zero_le _, rfl, Below.refl _ _, fun j o hj => by omega⟩
  case round =>
    obtain ⟨i, hi, rfl, HB⟩ := hrel
    by_cases hlt : i < m
    · have hil : i < l.length := by rw [HM.out]; exact hlt
      obtain ⟨b, off, rfl, hc⟩ := HR.out.at_ (by rintro rfl; simp at hil)
      obtain ⟨o, ho⟩ : ∃ o, l[i] = o := ⟨_, rfl⟩
      have hc2 := hc i hil 2
      rw [ho] at hc2
      have HC2 : Hid (w.cell? ⟨b, off + i * 7 + 2, none⟩ = some (.int .i64 o.to_)) := hc2 _ rfl
      have HO : Hid (l[i]? = some o) := by show _ = _; rw [List.getElem?_eq_getElem hil, ho]
      have n9 : decide ((i : Int) < (m : Int)) = true := by simp; omega
      have ii0 : (0 : Int) ≤ (i : Int) := by omega
      have ii9 : (i : Int) < (m : Int) := by omega
      have HIn : Hid _ := HI.out wr i HB.out.1
      obtain ⟨c, hcd⟩ : ∃ c, decide ((i : Int) ∈ dn) = c := ⟨_, rfl⟩
      rw [hcd] at HIn
      have HCd : Hid (decide ((i : Int) ∈ dn) = c) := hcd
      clear hc hc2 ho hcd
      go_wp2_with fail
      refine Calls.mono HIn.out ?_
      rintro e W2 ⟨rfl, hb2⟩
      have HB2 : Hid (Below w.heap.size w W2) := HB.out.1.trans (hb2.mono HB.out.1.size)
      have c2 := cell_later HB2.out HC2.out
      clear hb2 HIn
      by_cases ht : o.to_ = -1
      · rw [ht] at c2
        have HA : Hid (Whl l dn (i + 1)) := HB.out.2.succ HO.out (fun h => by unfold Opv.ans at h; rw [ht] at h; cases h)
        clear ht
        go_wp2
        go_roundw
        case rel => exact ⟨i + 1, by omega, by go_num, HB2.out, HA.out⟩
        case measure => simp [intOf]; omega
      · have f0 : (o.to_ == -1) = false := by rw [beq_eq_false_iff_ne]; exact ht
        have f1 : (o.to_ != -1) = true := by simp [bne, f0]
        cases c with
        | true =>
          have HA : Hid (Whl l dn (i + 1)) := HB.out.2.succ HO.out (fun _ => of_decide_eq_true HCd.out)
          go_wp2
          go_roundw
          case rel => exact ⟨i + 1, by omega, by go_num, HB2.out, HA.out⟩
          case measure => simp [intOf]; omega
        | false =>
          have HA : Hid (¬ Whl l dn m) := fun hw => by
            have h1 := hw i o hlt HO.out f1
            exact absurd h1 (of_decide_eq_false HCd.out)
          go_wp2
          go_ret
          exact ⟨false, rfl, ⟨(fun h => by cases h), fun h => absurd h HA.out⟩, HB2.out⟩
    · obtain rfl : i = m := by omega
      have n9 : decide ((i : Int) < (i : Int)) = false := by simp
      go_wp2
      go_ret
      exact ⟨true, rfl, ⟨fun _ => HB.out.2, fun _ => rfl⟩, HB.out.1⟩
end Go.Proofs.Ytjkoambfecmglaa

namespace Go.Proofs.Ytjkoambfecmglaa
open Go.RowKit
set_option linter.unusedVariables false
set_option linter.unusedSimpArgs false
set_option maxRecDepth 100000
/-- all operations ahead of i that are before p stand in the list -/
def Nxt (l : List Opv) (dn : List Int) (p : Opv) (i : Nat) : Prop := ∀ j o, j < i → l[j]? = some o → o.bef p = true → (j : Int) ∈ dn
theorem Nxt.succ {l : List Opv} {dn : List Int} {i : Nat} {o p : Opv} (h : Nxt l dn p i) (ho : l[i]? = some o) (hd : o.bef p = true → (i : Int) ∈ dn) : Nxt l dn p (i + 1) := fun j x hj hx ha => by
  by_cases e : j = i
  · subst e; rw [ho] at hx; cases hx; exact hd ha
  · exact h j x (by omega) hx ha
set_option maxHeartbeats 4000000 in
theorem rNext_no (oa da : Option Addr) (m oc d dc : Nat) (l : List Opv) (dn : List Int) (k : Int) (w : World) (h : OpsR w oa l) (hm : l.length = m) (hs : m ≤ 1099511627776) (hz : ZRow w da dn) (hd : dn.length = d) (hds : d ≤ 1099511627776) (hk : k < 0 ∨ (m : Int) ≤ k ∨ k ∈ dn) :
    Calls Try.prog 29 #[.slice oa m oc, .slice da d dc, .int .i64 k] w fun e w' => e = .returned (.bool false) ∧ Below w.heap.size w w' := by
  have HI : Hid _ := rIn_any da d dc dn k w hz hd hds
  obtain ⟨c, hcd⟩ : ∃ c, decide (k ∈ dn) = c := ⟨_, rfl⟩
  rw [hcd] at HI
  have HK : Hid (k < 0 ∨ (m : Int) ≤ k ∨ c = true) := by
    rcases hk with h | h | h
    · exact .inl h
    · exact .inr (.inl h)
    · exact .inr (.inr (hcd.symm.trans (decide_eq_true h)))
  clear h hz hd hk hcd
  go_enter Try.func29, Try.ntmps29
  go_wp2_with fail
  refine Calls.mono HI.out ?_
  rintro e W1 ⟨rfl, hb⟩
  have HB : Hid _ := hb
  clear hb HI
  by_cases h1 : k < 0
  · have d1 : decide (k < 0) = true := decide_eq_true h1
    go_wp2
    go_ret
    exact ⟨rfl, HB.out⟩
  · have d1 : decide (k < 0) = false := decide_eq_false h1
    by_cases h2 : (m : Int) ≤ k
    · have d2 : decide ((m : Int) ≤ k) = true := decide_eq_true h2
      have d3 : decide (k ≥ (m : Int)) = true := decide_eq_true h2
      go_wp2
      go_ret
      exact ⟨rfl, HB.out⟩
    · have d2 : decide ((m : Int) ≤ k) = false := decide_eq_false h2
      have d3 : decide (k ≥ (m : Int)) = false := decide_eq_false h2
      obtain rfl : c = true := by rcases HK.out with h | h | h; exact absurd h h1; exact absurd h h2; exact h
      go_wp2
      go_ret
      exact ⟨rfl, HB.out⟩
end Go.Proofs.Ytjkoambfecmglaa
