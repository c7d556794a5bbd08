import Derived.Test.YtpkobgnbjmefnabDoorUnmW
namespace Go.Proofs.YtpkobgnbjmefnabDoor
open Go.RowKit
set_option linter.unusedVariables false
set_option maxRecDepth 100000

theorem bytes_of (t : ByteArray) (l : List UInt8) (h : t.data.toList = l) : t = ⟨l.toArray⟩ := by
  subst h; simp
theorem marks_of (t : ByteArray) (y : List UInt8) (h : t.data.toList = quoteL y) : 2 ≤ t.size ∧ sb t 0 = 34 ∧ sb t (t.size - 1) = 34 ∧ (t.extract 1 (t.size - 1)).data.toList = qbody y := by
  obtain rfl := bytes_of t _ h
  have hz : (⟨(quoteL y).toArray⟩ : ByteArray).size = (qbody y).length + 2 := by show (quoteL y).toArray.size = _; simp [quoteL]
  rw [hz]
  refine ⟨by omega, ?_, ?_, ?_⟩
  · show ((quoteL y).toArray[0]!).toNat = 34
    simp [quoteL]
  · show ((quoteL y).toArray[(qbody y).length + 2 - 1]!).toNat = 34
    simp [quoteL]
  · rw [ByteArray.data_extract]
    simp [quoteL]
def UqRes (t x : ByteArray) (c : Nat) : Prop := ((c = 0 ∧ quoteL x.data.toList = t.data.toList) ∨ (c = 16 ∧ x = ⟨#[]⟩)) ∧ ∀ y : List UInt8, t.data.toList = quoteL y → c = 0 ∧ x = ⟨y.toArray⟩

set_option maxHeartbeats 4000000 in
theorem unquote_any (t : ByteArray) (w : World) (hs : t.size ≤ 268435456) (hl : ∀ l, unL (sbytes (t.extract 1 (t.size - 1))) = some l → l.length ≤ 16777216)
    (hUE : ∀ (s : ByteArray) (W : World), s.size ≤ 268435456 → Calls Tryd.prog 36 #[.string s] W fun e w' => e = unE (unL (sbytes s)) ∧ Below W.heap.size W w')
    (hQ : ∀ (s : ByteArray) (W : World), s.size ≤ 16777216 → Below w.heap.size w W → Calls Tryd.prog 12 #[.string s] W fun e w' => e = .returned (.string ⟨(quoteL s.data.toList).toArray⟩) ∧ Below W.heap.size W w') :
    Calls Tryd.prog 13 #[.string t] w fun e w' => (∃ (x : ByteArray) (c : Nat), e = .returned (.tuple #[.string x, .int .i64 (c : Int)]) ∧ UqRes t x c) ∧ Below w.heap.size w w' := by
  have HM : Hid (Calls Tryd.prog 35 #[.string t] w fun e w' => e = unmE t ∧ Below w.heap.size w w') := unmark_any t w hs
  have HMk : Hid (∀ y, t.data.toList = quoteL y → 2 ≤ t.size ∧ sb t 0 = 34 ∧ sb t (t.size - 1) = 34 ∧ (t.extract 1 (t.size - 1)).data.toList = qbody y) := marks_of t
  by_cases hm : 2 ≤ t.size ∧ sb t 0 = 34 ∧ sb t (t.size - 1) = 34
  · rw [show unmE t = .returned (.tuple #[.string (t.extract 1 (t.size - 1)), .bool true]) by unfold unmE; rw [if_pos hm]] at HM
    have HB : Hid (∀ y, t.data.toList = quoteL y → unL (sbytes (t.extract 1 (t.size - 1))) = some (y.map UInt8.toNat)) := fun y hy => by
      have h1 := (HMk.out y hy).2.2.2
      unfold sbytes
      rw [h1, unL_qbody]
    have hbz : (t.extract 1 (t.size - 1)).size ≤ 268435456 := by rw [ByteArray.size_extract]; omega
    have HUE : Hid (∀ (W : World), Calls Tryd.prog 36 #[.string (t.extract 1 (t.size - 1))] W fun e w' => e = unE (unL (sbytes (t.extract 1 (t.size - 1)))) ∧ Below W.heap.size W w') := fun W => hUE _ W hbz
    have HQ : Hid (∀ (s : ByteArray) (W : World), s.size ≤ 16777216 → Below w.heap.size w W → Calls Tryd.prog 12 #[.string s] W fun e w' => e = .returned (.string ⟨(quoteL s.data.toList).toArray⟩) ∧ Below W.heap.size W w') := hQ
    clear hQ hUE HMk hm hbz
    generalize t.extract 1 (t.size - 1) = bd at *
    cases hu : unL (sbytes bd) with
    | none =>
      rw [hu] at HB HUE
      have HR : Hid (UqRes t ⟨#[]⟩ 16) := ⟨.inr ⟨rfl, rfl⟩, fun y hy => by have := HB.out y hy; cases this⟩
      simp only [unE] at HUE
      clear HB hu HQ hl
      go_enter Tryd.func13, Tryd.ntmps13
      go_wp2_with fail
      refine HM.out.mono ?_
      rintro e w1 ⟨rfl, hb1⟩
      have HB1 : Hid (Below w.heap.size w w1) := hb1
      clear hb1
      go_wp2_with fail
      refine (HUE.out w1).mono ?_
      rintro e w2 ⟨rfl, hb2⟩
      have HB2 : Hid (Below w.heap.size w w2) := HB1.out.trans (hb2.mono HB1.out.size)
      clear hb2
      go_wp2
      go_ret2
      exact ⟨⟨_, 16, rfl, HR.out⟩, HB2.out⟩
    | some l =>
      have hll := hl l hu
      rw [hu] at HB HUE
      simp only [unE] at HUE
      have hxz : (bstr l).size ≤ 16777216 := by rw [bstr_size]; exact hll
      have HX : Hid (∀ y, t.data.toList = quoteL y → bstr l = ⟨y.toArray⟩) := fun y hy => by
        have := Option.some.inj (HB.out y hy)
        rw [this, bstr_nat]
      have HQ2 : Hid (∀ (W : World), Below w.heap.size w W → Calls Tryd.prog 12 #[.string (bstr l)] W fun e w' => e = .returned (.string ⟨(quoteL (bstr l).data.toList).toArray⟩) ∧ Below W.heap.size W w') := fun W hW => HQ.out _ W hxz hW
      clear HB hu HQ hl hll hxz
      generalize bstr l = x at *
      by_cases he : quoteL x.data.toList = t.data.toList
      · have HR : Hid (UqRes t x 0) := ⟨.inl ⟨rfl, he⟩, fun y hy => ⟨rfl, HX.out y hy⟩⟩
        rw [he] at HQ2
        have ht : (⟨t.data.toList.toArray⟩ : ByteArray) = t := by simp
        rw [ht] at HQ2
        clear he ht HX
        go_enter Tryd.func13, Tryd.ntmps13
        go_wp2_with fail
        refine HM.out.mono ?_
        rintro e w1 ⟨rfl, hb1⟩
        have HB1 : Hid (Below w.heap.size w w1) := hb1
        clear hb1
        go_wp2_with fail
        refine (HUE.out w1).mono ?_
        rintro e w2 ⟨rfl, hb2⟩
        have HB2 : Hid (Below w.heap.size w w2) := HB1.out.trans (hb2.mono HB1.out.size)
        clear hb2
        go_wp2_with fail
        refine (HQ2.out w2 HB2.out).mono ?_
        rintro e w3 ⟨rfl, hb3⟩
        have HB3 : Hid (Below w.heap.size w w3) := HB2.out.trans (hb3.mono HB2.out.size)
        clear hb3
        go_wp2
        go_ret2
        exact ⟨⟨_, 0, rfl, HR.out⟩, HB3.out⟩
      · have HR : Hid (UqRes t ⟨#[]⟩ 16) := ⟨.inr ⟨rfl, rfl⟩, fun y hy => by
          have h1 := HX.out y hy
          rw [h1] at he
          exact absurd (by rw [hy]) he⟩
        have hne : (⟨(quoteL x.data.toList).toArray⟩ : ByteArray) ≠ t := fun h => he (by rw [← h])
        clear he HX
        generalize (⟨(quoteL x.data.toList).toArray⟩ : ByteArray) = q at *
        have hne2 : (q.toList == t.toList) = false := by
          rw [beq_eq_false_iff_ne, Lib.toList_data, Lib.toList_data]
          intro h
          exact hne ((bytes_of q _ h).trans (by simp))
        clear hne
        go_enter Tryd.func13, Tryd.ntmps13
        go_wp2_with fail
        refine HM.out.mono ?_
        rintro e w1 ⟨rfl, hb1⟩
        have HB1 : Hid (Below w.heap.size w w1) := hb1
        clear hb1
        go_wp2_with fail
        refine (HUE.out w1).mono ?_
        rintro e w2 ⟨rfl, hb2⟩
        have HB2 : Hid (Below w.heap.size w w2) := HB1.out.trans (hb2.mono HB1.out.size)
        clear hb2
        go_wp2_with fail
        refine (HQ2.out w2 HB2.out).mono ?_
        rintro e w3 ⟨rfl, hb3⟩
        have HB3 : Hid (Below w.heap.size w w3) := HB2.out.trans (hb3.mono HB2.out.size)
        clear hb3
        go_wp2
        go_ret2
        exact ⟨⟨_, 16, rfl, HR.out⟩, HB3.out⟩
  · rw [show unmE t = .returned (.tuple #[.string ⟨#[]⟩, .bool false]) by unfold unmE; rw [if_neg hm]] at HM
    have HR : Hid (UqRes t ⟨#[]⟩ 16) := ⟨.inr ⟨rfl, rfl⟩, fun y hy => by
      have h1 := HMk.out y hy
      exact absurd ⟨h1.1, h1.2.1, h1.2.2.1⟩ hm⟩
    clear hm hl HMk hUE hQ
    go_enter Tryd.func13, Tryd.ntmps13
    go_wp2_with fail
    refine HM.out.mono ?_
    rintro e w1 ⟨rfl, hb1⟩
    have HB1 : Hid (Below w.heap.size w w1) := hb1
    clear hb1
    go_wp2
    go_ret2
    exact ⟨⟨_, 16, rfl, HR.out⟩, HB1.out⟩
end Go.Proofs.YtpkobgnbjmefnabDoor
