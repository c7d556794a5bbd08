import Derived.Test.YtpkobgnbjmefnabDoorNumF
import Derived.Test.YtpkobgnbjmefnabDoorFmtU
namespace Go.Proofs.YtpkobgnbjmefnabDoor
open Go.RowKit Go.Lib
set_option linter.unusedVariables false
set_option maxRecDepth 100000

theorem below_bytes (w : World) (t : TypeId) (s : ByteArray) : Below w.heap.size w (Lib.bytesWorld w t s) := by
  refine ⟨rfl, rfl, rfl, by rw [Lib.bytesWorld_size]; omega, fun b hb => Lib.bytesWorld_at_old w t s b hb⟩
theorem parseB_eq (l : List UInt8) (h : l ≠ []) : parseUintB 64 l = parseUintM M64 0 l := by
  unfold parseUintB
  rw [if_neg h]
set_option maxHeartbeats 2000000 in
theorem numText_any (s : ByteArray) (w : World) (hs : s.size ≤ 16777216) (ev : Value) (hv : w.cell? ⟨2, 0, none⟩ = some ev) (hev : ev = .nilIface ∨ ∃ te pe, ev = .iface te pe) :
    Calls Tryd.prog 9 #[.string s] w fun e w' => e = .returned (.tuple #[.int .u64 ((numV s.data.toList).1 : Nat), .int .i64 ((numV s.data.toList).2 : Nat)]) ∧ Below w.heap.size w w' := by
  have HF : Hid (Calls Tryd.prog 27 #[.string s] w fun e w' => e = .returned (.bool (formB s.data.toList)) ∧ ∃ q, w' = w.drewN q) := decForm_any s w hs
  have HB0 : Hid (∀ q, Below w.heap.size w (w.drewN q)) := fun q => ⟨rfl, rfl, rfl, Nat.le_refl _, fun _ _ => rfl⟩
  cases hf : formB s.data.toList with
  | false =>
    rw [numV_bad _ hf]
    rw [hf] at HF
    clear hf hv hev
    go_enter Tryd.func9, Tryd.ntmps9
    go_wp2_with fail
    refine HF.out.mono ?_
    rintro e w1 ⟨rfl, q, hw⟩
    rw [hw]; clear hw
    go_wp2
    go_ret2
    exact ⟨rfl, HB0.out q⟩
  | true =>
    rw [hf] at HF
    have hne : s.data.toList ≠ [] := fun e => by rw [e] at hf; cases hf
    have hall : s.data.toList.all isDg = true := by
      simp only [formB, Bool.and_eq_true] at hf; exact hf.2
    cases hp : parseUintM M64 0 s.data.toList with
    | «syntax» => exact absurd hp (parse_digits _ 0 hall)
    | ok u =>
      have HE : Hid (numV s.data.toList = (u, 0)) := by
        show numV _ = _
        unfold numV
        rw [if_pos hf, hp]
      rw [HE.out]
      have HP : Hid (∀ q, Calls Tryd.prog 28 #[.string s, .int .i64 10, .int .i64 64] (w.drewN q) fun e w' => e = .returned (.tuple #[.int .u64 u, .nilIface]) ∧ Below w.heap.size w w') := fun q =>
        (Tryd.strconv_ParseUint_10_at64_ok s (by omega) u ((parseB_eq _ hne).trans hp) (w.drewN q)).mono fun e w' hh => ⟨hh.1, by
          rcases hh.2 with h | h
          · rw [h]; exact HB0.out q
          · rw [h]; exact (HB0.out q).trans (below_bytes (w.drewN q) _ s)⟩
      clear hf hv hev hne hall hp
      go_enter Tryd.func9, Tryd.ntmps9
      go_wp2_with fail
      refine HF.out.mono ?_
      rintro e w1 ⟨rfl, q, hw⟩
      rw [hw]; clear hw
      go_wp2_with fail
      refine (HP.out q).mono ?_
      rintro e w2 ⟨rfl, hb⟩
      have HB : Hid (Below w.heap.size w w2) := hb
      clear hb
      go_wp2
      go_ret2
      exact ⟨rfl, HB.out⟩
    | range =>
      have HE : Hid (numV s.data.toList = (0, 12)) := by
        show numV _ = _
        unfold numV
        rw [if_pos hf, hp]
      rw [HE.out]
      have HP : Hid (∀ q, Calls Tryd.prog 28 #[.string s, .int .i64 10, .int .i64 64] (w.drewN q) fun e w' => (∃ te p, e = .returned (.tuple #[.int .u64 18446744073709551615, .iface te p])) ∧ Below w.heap.size w w') := fun q =>
        (Tryd.strconv_ParseUint_10_at64_range s (by omega) ((parseB_eq _ hne).trans hp) ev (w.drewN q) hv hev).mono fun e w' hh => by
          obtain ⟨N, he, _, _, hb⟩ := hh
          exact ⟨⟨_, _, he⟩, (HB0.out q).trans hb⟩
      clear hf hv hev hne hall hp
      go_enter Tryd.func9, Tryd.ntmps9
      go_wp2_with fail
      refine HF.out.mono ?_
      rintro e w1 ⟨rfl, q, hw⟩
      rw [hw]; clear hw
      go_wp2_with fail
      refine (HP.out q).mono ?_
      rintro e w2 ⟨⟨te, p, rfl⟩, hb⟩
      have HB : Hid (Below w.heap.size w w2) := hb
      clear hb
      go_wp2
      go_ret2
      exact ⟨rfl, HB.out⟩
end Go.Proofs.YtpkobgnbjmefnabDoor
