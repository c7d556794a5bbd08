import Derived.Test.YtjkoambfecmglaaJA
import Derived.Deep.RegionHeld3
namespace Go.Proofs.Ytjkoambfecmglaa
open Go.RowKit
set_option linter.unusedVariables false
set_option linter.unusedSimpArgs false
set_option maxRecDepth 100000
set_option maxHeartbeats 8000000 in
theorem rNext_any (oa da : Option Addr) (m oc d dc : Nat) (l : List Opv) (dn : List Int) (q : Nat) (p : Opv) (w : World) (h : OpsR w oa l) (hm : l.length = m) (hs : m ≤ 1099511627776) (hz : ZRow w da dn) (hd : dn.length = d) (hds : d ≤ 1099511627776) (hq : l[q]? = some p) (hnd : ¬ (q : Int) ∈ dn) :
    Calls Try.prog 29 #[.slice oa m oc, .slice da d dc, .int .i64 (q : Int)] w fun e w' => ∃ r : Bool, e = .returned (.bool r) ∧ (r = true ↔ Nxt l dn p m) ∧ Below w.heap.size w w' := by
  have hql := (List.getElem?_eq_some_iff.1 hq).1
  have HM : Hid (l.length = m) := hm
  have HI : Hid (∀ W (i : Int), Below w.heap.size w W → Calls Try.prog 51 #[.slice da d dc, .int .i64 i] W fun e w' => e = .returned (.bool (decide (i ∈ dn))) ∧ Below W.heap.size W w') := fun W i hb => rIn_any da d dc dn i W (hz.later hb) hd hds
  have HI0 : Hid _ := HI.out w (q : Int) (Below.refl _ _)
  rw [decide_eq_false hnd] at HI0
  obtain ⟨b, off, rfl, hc⟩ := h.at_ (by rintro rfl; simp at hql)
  have HC : Hid (∀ i (hi : i < l.length) j v, (l[i].cells)[j]? = some v → w.cell? ⟨b, off + i * 7 + j, none⟩ = some v) := hc
  have HP : Hid (l[q] = p) := (List.getElem?_eq_some_iff.1 hq).2
  have q1 : decide ((q : Int) < 0) = false := by simp
  have q2 : decide ((m : Int) ≤ (q : Int)) = false := by simp; omega
  have q3 : ¬ (m : Int) ≤ (q : Int) := by omega
  have q6 : decide (m ≤ q) = false := by simp; omega
  have q4 : (0 : Int) ≤ (q : Int) := by omega
  have q5 : (q : Int) < (m : Int) := by omega
  clear h hm hz hd hc hnd hq
  go_enter Try.func29, Try.ntmps29
  go_wp2_with fail
  refine Calls.mono HI0.out ?_
  rintro e W0 ⟨rfl, hb0⟩
  have HB0 : Hid (Below w.heap.size w W0) := hb0
  clear hb0 HI0
  go_wp2
  go_loopw [8] (fun iv wr => ∃ i : Nat, i ≤ m ∧ iv = .int .i64 (i : Int) ∧ Hid (Below w.heap.size w wr ∧ Nxt l dn p i)) (fun iv _ => m - (intOf iv).toNat)
  case atStart => exact ⟨0, Nat.zero_le _, rfl, HB0.out, fun j o hj => by omega⟩
  case round =>
    obtain ⟨i, hi, rfl, HB⟩ := hrel
    by_cases hlt : i < m
    · have hil : i < l.length := by rw [HM.out]; exact hlt
      obtain ⟨o, ho⟩ : ∃ o, l[i] = o := ⟨_, rfl⟩
      have HS : Hid (∀ V, Below w.heap.size w V → V.cell? ⟨b, off + i * 7, none⟩ = some (.int .i64 o.k) ∧ V.cell? ⟨b, off + i * 7 + 1, none⟩ = some (.int .i64 o.fr) ∧ V.cell? ⟨b, off + i * 7 + 2, none⟩ = some (.int .i64 o.to_) ∧ V.cell? ⟨b, off + i * 7 + 3, none⟩ = some (.int .i64 o.off) ∧ V.cell? ⟨b, off + i * 7 + 4, none⟩ = some (.int .i64 o.len) ∧ V.cell? ⟨b, off + i * 7 + 5, none⟩ = some (.slice o.da o.n o.dc) ∧ V.cell? ⟨b, off + i * 7 + 6, none⟩ = some (.bool o.sy) ∧ V.cell? ⟨b, off + q * 7, none⟩ = some (.int .i64 p.k) ∧ V.cell? ⟨b, off + q * 7 + 1, none⟩ = some (.int .i64 p.fr) ∧ V.cell? ⟨b, off + q * 7 + 2, none⟩ = some (.int .i64 p.to_) ∧ V.cell? ⟨b, off + q * 7 + 3, none⟩ = some (.int .i64 p.off) ∧ V.cell? ⟨b, off + q * 7 + 4, none⟩ = some (.int .i64 p.len) ∧ V.cell? ⟨b, off + q * 7 + 5, none⟩ = some (.slice p.da p.n p.dc) ∧ V.cell? ⟨b, off + q * 7 + 6, none⟩ = some (.bool p.sy)) := fun V hb => by
        have h1 := HC.out i hil
        have h2 := HC.out q hql
        rw [ho] at h1
        rw [HP.out] at h2
        exact ⟨cell_later hb (h1 0 _ rfl), cell_later hb (h1 1 _ rfl), cell_later hb (h1 2 _ rfl), cell_later hb (h1 3 _ rfl), cell_later hb (h1 4 _ rfl), cell_later hb (h1 5 _ rfl), cell_later hb (h1 6 _ rfl), cell_later hb (h2 0 _ rfl), cell_later hb (h2 1 _ rfl), cell_later hb (h2 2 _ rfl), cell_later hb (h2 3 _ rfl), cell_later hb (h2 4 _ rfl), cell_later hb (h2 5 _ rfl), cell_later hb (h2 6 _ rfl)⟩
      have HO : Hid (l[i]? = some o) := by show _ = _; rw [List.getElem?_eq_getElem hil, ho]
      have n9 : decide ((i : Int) < (m : Int)) = true := by simp; omega
      have ii0 : (0 : Int) ≤ (i : Int) := by omega
      have ii9 : (i : Int) < (m : Int) := by omega
      have HBd : Hid (Below w.heap.size w wr.drew) := HB.out.1.trans ((⟨rfl, rfl, rfl, Nat.le_refl _, fun _ _ => rfl⟩ : Below wr.heap.size wr wr.drew).mono HB.out.1.size)
      have HBf : Hid _ := rBefore_any o p wr.drew
      obtain ⟨c, hcd⟩ : ∃ c, decide ((i : Int) ∈ dn) = c := ⟨_, rfl⟩
      obtain ⟨e', he'⟩ : ∃ e, o.bef p = e := ⟨_, rfl⟩
      rw [he'] at HBf
      have HCd : Hid (decide ((i : Int) ∈ dn) = c ∧ o.bef p = e') := ⟨hcd, he'⟩
      clear ho hcd he'
      go_wp2
      go_region_held3 (fun w' => w'.cell? ⟨b, off + i * 7, none⟩ = some (.int .i64 o.k) ∧ w'.cell? ⟨b, off + i * 7 + 1, none⟩ = some (.int .i64 o.fr) ∧ w'.cell? ⟨b, off + i * 7 + 2, none⟩ = some (.int .i64 o.to_) ∧ w'.cell? ⟨b, off + i * 7 + 3, none⟩ = some (.int .i64 o.off) ∧ w'.cell? ⟨b, off + i * 7 + 4, none⟩ = some (.int .i64 o.len) ∧ w'.cell? ⟨b, off + i * 7 + 5, none⟩ = some (.slice o.da o.n o.dc) ∧ w'.cell? ⟨b, off + i * 7 + 6, none⟩ = some (.bool o.sy) ∧ w'.cell? ⟨b, off + q * 7, none⟩ = some (.int .i64 p.k) ∧ w'.cell? ⟨b, off + q * 7 + 1, none⟩ = some (.int .i64 p.fr) ∧ w'.cell? ⟨b, off + q * 7 + 2, none⟩ = some (.int .i64 p.to_) ∧ w'.cell? ⟨b, off + q * 7 + 3, none⟩ = some (.int .i64 p.off) ∧ w'.cell? ⟨b, off + q * 7 + 4, none⟩ = some (.int .i64 p.len) ∧ w'.cell? ⟨b, off + q * 7 + 5, none⟩ = some (.slice p.da p.n p.dc) ∧ w'.cell? ⟨b, off + q * 7 + 6, none⟩ = some (.bool p.sy)) (first | exact HS.out _ HB2.out | exact HS.out _ HBd.out | go_keep) (first | (go_at_call 52; refine Calls.mono HBf.out ?_; rintro e W2 ⟨rfl, hb2⟩; have HB2 : Hid (Below w.heap.size w W2) := HBd.out.trans (hb2.mono HBd.out.size); clear hb2))
      go_wp2_with fail
      have HIn : Hid _ := HI.out W2 (i : Int) HB2.out
      rw [HCd.out.1] at HIn
      refine Calls.mono HIn.out ?_
      rintro e W3 ⟨rfl, hb3⟩
      have HB3 : Hid (Below w.heap.size w W3) := HB2.out.trans (hb3.mono HB2.out.size)
      clear hb3 HIn
      clear HS HBf
      cases e' with
      | false =>
        have HA : Hid (Nxt l dn p (i + 1)) := HB.out.2.succ HO.out (fun h => by rw [HCd.out.2] at h; cases h)
        go_wp2_with fail
        go_roundw
        case rel => first | exact ⟨i + 1, by omega, by go_num, HB3.out, HA.out⟩ | (refine ⟨_, ?_⟩; exact ⟨i + 1, by omega, by go_num, HB3.out, HA.out⟩) | (refine ⟨_, _, ?_⟩; exact ⟨i + 1, by omega, by go_num, HB3.out, HA.out⟩)
        case measure => simp [intOf]; omega
      | true =>
        cases c with
        | true =>
          have HA : Hid (Nxt l dn p (i + 1)) := HB.out.2.succ HO.out (fun _ => of_decide_eq_true HCd.out.1)
          go_wp2
          go_roundw
          case rel => first | exact ⟨i + 1, by omega, by go_num, HB3.out, HA.out⟩ | (refine ⟨_, ?_⟩; exact ⟨i + 1, by omega, by go_num, HB3.out, HA.out⟩) | (refine ⟨_, _, ?_⟩; exact ⟨i + 1, by omega, by go_num, HB3.out, HA.out⟩)
          case measure => simp [intOf]; omega
        | false =>
          have HA : Hid (¬ Nxt l dn p m) := fun hw => absurd (hw i o hlt HO.out HCd.out.2) (of_decide_eq_false HCd.out.1)
          go_wp2
          go_ret
          exact ⟨false, rfl, ⟨(fun h => by cases h), fun h => absurd h HA.out⟩, HB3.out⟩
    · obtain rfl : i = m := by omega
      have n9 : decide ((i : Int) < (i : Int)) = false := by simp
      go_wp2
      go_ret
      exact ⟨true, rfl, ⟨fun _ => HB.out.2, fun _ => rfl⟩, HB.out.1⟩
end Go.Proofs.Ytjkoambfecmglaa
