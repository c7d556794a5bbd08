import Derived.Test.YtjkoambfecmglaaVF
namespace Go.Proofs.Ytjkoambfecmglaa
open Go.RowKit
set_option linter.unusedVariables false
set_option linter.unusedSimpArgs false
set_option maxRecDepth 100000
/-- operations in memory: seven cells each -/
structure OpsR (W : World) (ao : Option Addr) (l : List Opv) : Prop where
  at_ : l ≠ [] → ∃ b off, ao = some ⟨b, off, none⟩ ∧ ∀ i (hi : i < l.length) j v, (l[i].cells)[j]? = some v → W.cell? ⟨b, off + i * 7 + j, none⟩ = some v
theorem OpsR.later {W V : World} {ao : Option Addr} {l : List Opv} (h : OpsR W ao l) (hb : Below W.heap.size W V) : OpsR V ao l :=
  ⟨fun hl => by obtain ⟨b, off, e, hc⟩ := h.at_ hl; exact ⟨b, off, e, fun i hi j v hv => cell_later hb (hc i hi j v hv)⟩⟩
/-- what the document says of all operations: 0, 170 or 171 -/
def wrg (n : Nat) (l : List Opv) : Nat := if 4096 < n then 170 else if l.all (fun o => o.may n) = true then 0 else 171
set_option maxHeartbeats 4000000 in
theorem rWrong_any (fa oa : Option Addr) (n fc m oc : Nat) (l : List Opv) (w : World) (h : OpsR w oa l) (hm : l.length = m) (hs : m ≤ 1099511627776) :
    Calls Try.prog 28 #[.slice fa n fc, .slice oa m oc] w fun e w' => e = .returned (.int .i64 (wrg n l : Int)) ∧ Below w.heap.size w w' := by
  have HR : Hid (OpsR w oa l) := h
  have HM : Hid (l.length = m) := hm
  clear h hm
  by_cases h9 : 4096 < n
  · have g1 : decide ((4096 : Int) < (n : Int)) = true := by simp; omega
    have g2 : (4096 : Int) < (n : Int) := by omega
    have e1 : wrg n l = 170 := by unfold wrg; rw [if_pos h9]
    rw [e1]
    go_enter Try.func28, Try.ntmps28
    go_wp2
    go_ret
    exact ⟨rfl, Below.refl _ _⟩
  · have g1 : decide ((4096 : Int) < (n : Int)) = false := by simp; omega
    have g2 : ¬ (4096 : Int) < (n : Int) := by omega
    go_enter Try.func28, Try.ntmps28
    go_wp2
    go_loopw [5] (fun iv wr => ∃ i : Nat, i ≤ m ∧ iv = .int .i64 (i : Int) ∧ Hid (Below w.heap.size w wr ∧ (l.take i).all (fun o => o.may n) = true)) (fun iv _ => m - (intOf iv).toNat)
    case atStart => exact ⟨0, Nat.zero_le _, rfl, Below.refl _ _, by simp⟩
    case round =>
      obtain ⟨i, hi, rfl, HB⟩ := hrel
      by_cases hlt : i < m
      · have hil : i < l.length := by rw [HM.out]; exact hlt
        obtain ⟨b, off, rfl, hc⟩ := HR.out.at_ (by rintro rfl; simp at hil)
        obtain ⟨o, ho⟩ : ∃ o, l[i] = o := ⟨_, rfl⟩
        have hc2 := hc i hil
        rw [ho] at hc2
        have c0 : wr.cell? ⟨b, off + i * 7, none⟩ = some (.int .i64 o.k) := cell_later HB.out.1 (hc2 0 _ rfl)
        have c1 : wr.cell? ⟨b, off + i * 7 + 1, none⟩ = some (.int .i64 o.fr) := cell_later HB.out.1 (hc2 1 _ rfl)
        have c2 : wr.cell? ⟨b, off + i * 7 + 2, none⟩ = some (.int .i64 o.to_) := cell_later HB.out.1 (hc2 2 _ rfl)
        have c3 : wr.cell? ⟨b, off + i * 7 + 3, none⟩ = some (.int .i64 o.off) := cell_later HB.out.1 (hc2 3 _ rfl)
        have c4 : wr.cell? ⟨b, off + i * 7 + 4, none⟩ = some (.int .i64 o.len) := cell_later HB.out.1 (hc2 4 _ rfl)
        have c5 : wr.cell? ⟨b, off + i * 7 + 5, none⟩ = some (.slice o.da o.n o.dc) := cell_later HB.out.1 (hc2 5 _ rfl)
        have c6 : wr.cell? ⟨b, off + i * 7 + 6, none⟩ = some (.bool o.sy) := cell_later HB.out.1 (hc2 6 _ rfl)
        have n9 : decide ((i : Int) < (m : Int)) = true := by simp; omega
        have ii0 : (0 : Int) ≤ (i : Int) := by omega
        have ii9 : (i : Int) < (m : Int) := by omega
        have HMy : Hid _ := rMay_any o n wr (by omega)
        have HT : Hid (l.take (i + 1) = l.take i ++ [o]) := by show _ = _; rw [List.take_succ_eq_append_getElem hil, ho]
        have HO : Hid (o ∈ l) := by show _ ∈ _; rw [← ho]; exact List.getElem_mem hil
        clear hc hc2 ho
        go_wp2_with fail
        refine Calls.mono HMy.out ?_
        rintro e W2 ⟨rfl, hb2⟩
        have HB2 : Hid (Below w.heap.size w W2) := HB.out.1.trans (hb2.mono HB.out.1.size)
        clear hb2 c0 c1 c2 c3 c4 c5 c6 HMy
        cases hy : o.may n with
        | true =>
          have HA : Hid ((l.take (i + 1)).all (fun o => o.may n) = true) := by show _ = _; rw [HT.out, List.all_append, HB.out.2]; simp [hy]
          go_wp2
          go_roundw
          case rel => exact ⟨i + 1, by omega, by go_num, HB2.out, HA.out⟩
          case measure => simp [intOf]; omega
        | false =>
          have HE : Hid (wrg n l = 171) := by
            show _ = _
            unfold wrg
            rw [if_neg h9, if_neg]
            intro hall
            have := List.all_eq_true.1 hall o HO.out
            rw [hy] at this; cases this
          go_wp2
          go_ret
          exact ⟨by rw [HE.out]; rfl, HB2.out⟩
      · have n9 : decide ((i : Int) < (m : Int)) = false := by simp; omega
        have HE : Hid (wrg n l = 0) := by
          show _ = _
          have h5 := HB.out.2
          rw [List.take_of_length_le (by rw [HM.out]; omega)] at h5
          unfold wrg; rw [if_neg h9, if_pos h5]
        go_wp2
        go_ret
        exact ⟨by rw [HE.out]; rfl, HB.out.1⟩
end Go.Proofs.Ytjkoambfecmglaa
