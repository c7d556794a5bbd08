import Derived.Test.YtpkobgnbjmefnabDoorUnqQ
namespace Go.Proofs.YtpkobgnbjmefnabDoor
open Go.RowKit
set_option linter.unusedVariables false
set_option maxRecDepth 100000

theorem quoteL_size (s : ByteArray) : (⟨(quoteL s.data.toList).toArray⟩ : ByteArray).size = (qbody s.data.toList).length + 2 := by show (quoteL s.data.toList).toArray.size = _; simp [quoteL]
set_option maxHeartbeats 4000000 in
theorem quoteBack_of (s t : ByteArray) (w : World) (hs : s.size ≤ 16777216) (ht : t.size ≤ 16777216) (hqs : (qbody s.data.toList).length ≤ 67108864)
    (hUE : ∀ (s : ByteArray) (W : World), s.size ≤ 268435456 → Calls Tryd.prog 36 #[.string s] W fun e w' => e = unE (unL (sbytes s)) ∧ Below W.heap.size W w')
    (hQ : ∀ (s : ByteArray) (W : World), s.size ≤ 16777216 → Below w.heap.size w W → Calls Tryd.prog 12 #[.string s] W fun e w' => e = .returned (.string ⟨(quoteL s.data.toList).toArray⟩) ∧ Below W.heap.size W w') :
    Calls Tryd.prog 5 #[.string s, .string t] w fun e w' => e = .returned (.bool true) ∧ Below w.heap.size w w' := by
  have hql := qbody_len s.data.toList
  have hz := quoteL_size s
  have hsl : s.data.toList.length = s.size := by simp
  have HQ : Hid (∀ (x : ByteArray) (W : World), x.size ≤ 16777216 → Below w.heap.size w W → Calls Tryd.prog 12 #[.string x] W fun e w' => e = .returned (.string ⟨(quoteL x.data.toList).toArray⟩) ∧ Below w.heap.size w w') := fun x W hx hW =>
    (hQ x W hx hW).mono fun e w' hh => ⟨hh.1, hW.trans (hh.2.mono hW.size)⟩
  have HQs : Hid (∀ (W : World), Below w.heap.size w W → Calls Tryd.prog 12 #[.string s] W fun e w' => e = .returned (.string ⟨(quoteL s.data.toList).toArray⟩) ∧ Below w.heap.size w w') := fun W hW => HQ.out s W hs hW
  have HU1 : Hid (∀ (W : World), Below w.heap.size w W → Calls Tryd.prog 13 #[.string ⟨(quoteL s.data.toList).toArray⟩] W fun e w' => e = .returned (.tuple #[.string s, .int .i64 0]) ∧ Below w.heap.size w w') := fun W hW => by
    have hb := (marks_of ⟨(quoteL s.data.toList).toArray⟩ s.data.toList (by simp)).2.2.2
    refine (unquote_any ⟨(quoteL s.data.toList).toArray⟩ W (by omega) (fun l hl => ?_) hUE (fun x W' hx hW' => hQ x W' hx (hW.trans (hW'.mono hW.size)))).mono ?_
    · unfold sbytes at hl
      rw [hb, unL_qbody] at hl
      cases hl
      simp; exact hs
    · rintro e w' ⟨⟨x, c, rfl, hr⟩, hb'⟩
      obtain ⟨rfl, rfl⟩ := hr.2 s.data.toList (by simp)
      exact ⟨by simp, hW.trans (hb'.mono hW.size)⟩
  have HU2 : Hid (∀ (W : World), Below w.heap.size w W → Calls Tryd.prog 13 #[.string t] W fun e w' => (∃ (x : ByteArray) (c : Nat), e = .returned (.tuple #[.string x, .int .i64 (c : Int)]) ∧ UqRes t x c) ∧ Below w.heap.size w w') := fun W hW =>
    (unquote_any t W (by omega) (fun l hl => by
      have := unL_len _ _ hl
      rw [sbytes_length, ByteArray.size_extract] at this
      omega) hUE (fun x W' hx hW' => hQ x W' hx (hW.trans (hW'.mono hW.size)))).mono fun e w' hh => ⟨hh.1, hW.trans (hh.2.mono hW.size)⟩
  clear hUE hQ
  have hq1 : s.size + 2 ≤ (⟨(quoteL s.data.toList).toArray⟩ : ByteArray).size := by omega
  have hq2 : (⟨(quoteL s.data.toList).toArray⟩ : ByteArray).size ≤ 67108866 := by omega
  clear hz hql hqs hsl
  generalize (⟨(quoteL s.data.toList).toArray⟩ : ByteArray) = q at *
  have t1 : decide ((q.size : Int) < (s.size : Int) + 2) = false := by simp; omega
  go_enter Tryd.func5, Tryd.ntmps5
  go_wp2_with fail
  refine (HQs.out w (Below.refl _ _)).mono ?_
  rintro e w1 ⟨rfl, hb1⟩
  have HB1 : Hid (Below w.heap.size w w1) := hb1
  clear hb1
  go_wp2_with fail
  refine (HU1.out w1 HB1.out).mono ?_
  rintro e w2 ⟨rfl, hb2⟩
  have HB2 : Hid (Below w.heap.size w w2) := hb2
  clear hb2
  go_wp2_with fail
  refine (HU2.out w2 HB2.out).mono ?_
  rintro e w3 ⟨⟨y, c, rfl, hr⟩, hb3⟩
  have HB3 : Hid (Below w.heap.size w w3) := hb3
  clear hb3
  rcases hr.1 with ⟨rfl, hy⟩ | ⟨rfl, rfl⟩
  · have HQy : Hid (∀ (W : World), Below w.heap.size w W → Calls Tryd.prog 12 #[.string y] W fun e w' => e = .returned (.string t) ∧ Below w.heap.size w w') := fun W hW => by
      have hyz : y.size ≤ 16777216 := by
        have h1 := qbody_len y.data.toList
        have h2 := congrArg List.length hy
        have h3 : y.data.toList.length = y.size := by simp
        have h4 : t.data.toList.length = t.size := by simp
        simp only [quoteL, List.length_cons, List.length_append, List.length_nil] at h2
        omega
      have h9 := HQ.out y W hyz hW
      rw [hy] at h9
      simpa using h9
    clear hr hy
    go_wp2_with fail
    refine (HQy.out w3 HB3.out).mono ?_
    rintro e w4 ⟨rfl, hb4⟩
    have HB4 : Hid (Below w.heap.size w w4) := hb4
    clear hb4
    go_wp2
    go_ret
    exact ⟨by simp, HB4.out⟩
  · clear hr
    go_wp2
    go_ret
    exact ⟨by simp, HB3.out⟩
end Go.Proofs.YtpkobgnbjmefnabDoor
