import Derived.Test.YtpkobgnbjmefnabDoorRUnqW
namespace Go.Proofs.YtpkobgnbjmefnabDoor
open Go.RowKit
set_option linter.unusedVariables false
set_option maxRecDepth 100000

theorem ru_same (t x y : ByteArray) (c d : Nat) (h : UqRes t x c) (h' : RuRes t y d) : x = y ∧ c = d := by
  have hno : (∀ z, t.data.toList ≠ quoteL z) → x = ⟨#[]⟩ ∧ c = 16 := fun hz => by
    rcases h.1 with ⟨_, he⟩ | ⟨rfl, rfl⟩
    · exact absurd he.symm (hz _)
    · exact ⟨rfl, rfl⟩
  rcases h' with ⟨hm, rfl, rfl⟩ | ⟨hm, ⟨hn, rfl, rfl⟩ | ⟨l, hl, ⟨he, rfl, rfl⟩ | ⟨he, rfl, rfl⟩⟩⟩
  · exact hno fun z hz => by
      have h1 := marks_of t z hz
      exact hm ⟨h1.1, h1.2.1, h1.2.2.1⟩
  · exact hno fun z hz => by
      have h1 := (marks_of t z hz).2.2.2
      rw [bt_one] at hn
      unfold sbytes at hn
      rw [h1, rUn_of _ _ (unL_qbody z)] at hn
      cases hn
  · obtain ⟨rfl, rfl⟩ := h.2 _ he.symm
    exact ⟨by simp, rfl⟩
  · exact hno fun z hz => by
      have h1 := (marks_of t z hz).2.2.2
      rw [bt_one] at hl
      unfold sbytes at hl
      rw [h1, rUn_of _ _ (unL_qbody z)] at hl
      have h2 := Option.some.inj hl
      rw [← h2, bstr_nat] at he
      exact he (by simp [hz])
set_option maxHeartbeats 4000000 in
theorem quotes_of (s t : ByteArray) (w : World) (hs : s.size ≤ 16777216) (ht : t.size ≤ 16777216)
    (hUE : ∀ (s : ByteArray) (W : World), s.size ≤ 268435456 → Calls Tryd.prog 36 #[.string s] W fun e w' => e = unE (unL (sbytes s)) ∧ Below W.heap.size W w')
    (hQ : ∀ (s : ByteArray) (W : World), s.size ≤ 16777216 → Below w.heap.size w W → Calls Tryd.prog 12 #[.string s] W fun e w' => e = .returned (.string ⟨(quoteL s.data.toList).toArray⟩) ∧ Below W.heap.size W w') :
    Calls Tryd.prog 4 #[.string s, .string t] w fun e w' => e = .returned (.bool true) ∧ Below w.heap.size w w' := by
  have HQs : Hid (∀ (W : World), Below w.heap.size w W → Calls Tryd.prog 12 #[.string s] W fun e w' => e = .returned (.string ⟨(quoteL s.data.toList).toArray⟩) ∧ Below w.heap.size w w') := fun W hW =>
    (hQ s W hs hW).mono fun e w' hh => ⟨hh.1, hW.trans (hh.2.mono hW.size)⟩
  have HRq : Hid (∀ (W : World), Below w.heap.size w W → Calls Tryd.prog 15 #[.string s] W fun e w' => e = .returned (.string ⟨(quoteL s.data.toList).toArray⟩) ∧ Below w.heap.size w w') := fun W hW =>
    (rquote_any s W hs).mono fun e w' hh => ⟨hh.1, hW.trans (hh.2.mono hW.size)⟩
  have HU2 : Hid (∀ (W : World), Below w.heap.size w W → Calls Tryd.prog 13 #[.string t] W fun e w' => (∃ (x : ByteArray) (c : Nat), e = .returned (.tuple #[.string x, .int .i64 (c : Int)]) ∧ UqRes t x c) ∧ Below w.heap.size w w') := fun W hW =>
    (unquote_any t W (by omega) (fun l hl => by
      have := unL_len _ _ hl
      rw [sbytes_length, ByteArray.size_extract] at this
      omega) hUE (fun x W' hx hW' => hQ x W' hx (hW.trans (hW'.mono hW.size)))).mono fun e w' hh => ⟨hh.1, hW.trans (hh.2.mono hW.size)⟩
  have HRu : Hid (∀ (W : World), Below w.heap.size w W → Calls Tryd.prog 14 #[.string t] W fun e w' => (∃ (x : ByteArray) (c : Nat), e = .returned (.tuple #[.string x, .int .i64 (c : Int)]) ∧ RuRes t x c) ∧ Below w.heap.size w w') := fun W hW =>
    (runquote_any t W ht).mono fun e w' hh => ⟨hh.1, hW.trans (hh.2.mono hW.size)⟩
  clear hUE hQ
  generalize (⟨(quoteL s.data.toList).toArray⟩ : ByteArray) = q at *
  go_enter Tryd.func4, Tryd.ntmps4
  go_wp2_with fail
  refine (HQs.out w (Below.refl _ _)).mono ?_
  rintro e w1 ⟨rfl, hb1⟩
  have HB1 : Hid (Below w.heap.size w w1) := hb1
  clear hb1
  go_wp2_with fail
  refine (HU2.out w1 HB1.out).mono ?_
  rintro e w2 ⟨⟨x, c, rfl, hr⟩, hb2⟩
  have HB2 : Hid (Below w.heap.size w w2) := hb2
  have HX : Hid (UqRes t x c) := hr
  clear hb2 hr
  go_wp2_with fail
  refine (HRu.out w2 HB2.out).mono ?_
  rintro e w3 ⟨⟨y, d, rfl, hr⟩, hb3⟩
  have HB3 : Hid (Below w.heap.size w w3) := hb3
  clear hb3
  obtain ⟨h1, h2⟩ := ru_same t x y c d HX.out hr
  have hcb : c = 0 ∨ c = 16 := by
    rcases HX.out.1 with h | h
    · exact .inl h.1
    · exact .inr h.1
  have hwc : IntKind.i64.wrap (c : Int) = (c : Int) := by rw [IntKind.wrap_i64]; omega
  clear hr HX hcb
  subst h1
  subst h2
  go_wp2_with fail
  refine (HRq.out w3 HB3.out).mono ?_
  rintro e w4 ⟨rfl, hb4⟩
  have HB4 : Hid (Below w.heap.size w w4) := hb4
  clear hb4
  go_wp2
  go_ret
  exact ⟨by simp, HB4.out⟩
end Go.Proofs.YtpkobgnbjmefnabDoor
