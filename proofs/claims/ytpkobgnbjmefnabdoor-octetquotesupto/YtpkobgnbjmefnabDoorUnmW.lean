import Derived.Test.YtpkobgnbjmefnabDoorUnqE
import Derived.Test.YtpkobgnbjmefnabDoorUnhexW
namespace Go.Proofs.YtpkobgnbjmefnabDoor
open Go.RowKit
set_option linter.unusedVariables false
set_option maxRecDepth 100000

def unmE (t : ByteArray) : Ending := if 2 ≤ t.size ∧ sb t 0 = 34 ∧ sb t (t.size - 1) = 34 then .returned (.tuple #[.string (t.extract 1 (t.size - 1)), .bool true]) else .returned (.tuple #[.string ⟨#[]⟩, .bool false])
set_option maxHeartbeats 4000000 in
theorem unmark_any (t : ByteArray) (w : World) (hs : t.size ≤ 268435456) :
    Calls Tryd.prog 35 #[.string t] w fun e w' => e = unmE t ∧ Below w.heap.size w w' := by
  have g0 := sb_elem t 0
  have g1 := sb_elem t (t.size - 1)
  by_cases h2 : 2 ≤ t.size
  · have t1 : decide ((t.size : Int) < 2) = false := by simp; omega
    have hi : ((t.size : Int) - 1).toNat = t.size - 1 := by omega
    have hw : IntKind.i64.wrap ((t.size : Int) - 1) = (t.size : Int) - 1 := by rw [IntKind.wrap_i64]; omega
    by_cases ha : sb t 0 = 34
    · have t2 : ((sb t 0 : Int) != 34) = false := by rw [bne_eq_false_iff_eq]; omega
      by_cases hb : sb t (t.size - 1) = 34
      · have t3 : ((sb t (t.size - 1) : Int) != 34) = false := by rw [bne_eq_false_iff_eq]; omega
        have HE : Hid (unmE t = .returned (.tuple #[.string (t.extract 1 (t.size - 1)), .bool true])) := by show _ = _; unfold unmE; rw [if_pos ⟨h2, ha, hb⟩]
        rw [HE.out]
        clear ha hb
        generalize sb t 0 = c at *
        generalize sb t (t.size - 1) = d at *
        go_enter Tryd.func35, Tryd.ntmps35
        go_wp2
        go_ret2
        exact ⟨rfl, Below.refl _ _⟩
      · have t3 : ((sb t (t.size - 1) : Int) != 34) = true := by rw [bne_iff_ne]; omega
        have HE : Hid (unmE t = .returned (.tuple #[.string ⟨#[]⟩, .bool false])) := by show _ = _; unfold unmE; rw [if_neg (fun h => hb h.2.2)]
        rw [HE.out]
        clear ha hb
        generalize sb t 0 = c at *
        generalize sb t (t.size - 1) = d at *
        go_enter Tryd.func35, Tryd.ntmps35
        go_wp2
        go_ret2
        exact ⟨rfl, Below.refl _ _⟩
    · have t2 : ((sb t 0 : Int) != 34) = true := by rw [bne_iff_ne]; omega
      have HE : Hid (unmE t = .returned (.tuple #[.string ⟨#[]⟩, .bool false])) := by show _ = _; unfold unmE; rw [if_neg (fun h => ha h.2.1)]
      rw [HE.out]
      clear ha
      generalize sb t 0 = c at *
      go_enter Tryd.func35, Tryd.ntmps35
      go_wp2
      go_ret2
      exact ⟨rfl, Below.refl _ _⟩
  · have t1 : decide ((t.size : Int) < 2) = true := by simp; omega
    have HE : Hid (unmE t = .returned (.tuple #[.string ⟨#[]⟩, .bool false])) := by show _ = _; unfold unmE; rw [if_neg (fun h => h2 h.1)]
    rw [HE.out]
    go_enter Tryd.func35, Tryd.ntmps35
    go_wp2
    go_ret2
    exact ⟨rfl, Below.refl _ _⟩
end Go.Proofs.YtpkobgnbjmefnabDoor
