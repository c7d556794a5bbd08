import Derived.Test.YthmonfmpgjbhmabOwn
import Derived.Test.YthmonfmpgjbhmabKB
namespace Go.Proofs.Ythmonfmpgjbhmab
open Go.RowKit
set_option linter.unusedVariables false
set_option maxRecDepth 100000
theorem BRow.news {w : World} {ao : Option Addr} {cap : Nat} {l : List Nat} (h : BRow w ao cap l) : ∀ ad, ao = some ad → ∀ j u, (l.map bv)[j]? = some u → w.cell? (ad.add j) = some u := by
  intro ad e j u hu
  subst e
  rw [List.getElem?_map] at hu
  by_cases hj : j < l.length
  · rw [List.getElem?_eq_getElem hj] at hu
    obtain ⟨b, off, e, hc⟩ := h.at_ (by rintro rfl; simp at hj)
    cases e
    simp only [Option.map_some, Option.some.injEq] at hu
    subst hu
    rw [add_plain]; exact hc j hj
  · rw [List.getElem?_eq_none (by omega)] at hu; simp at hu
theorem bv_one (l : List Nat) : ∀ u ∈ l.map bv, u.oneCell' = true := by
  intro u hu
  obtain ⟨x, _, rfl⟩ := List.mem_map.1 hu
  rfl
theorem BRow.nil' {w : World} {ao : Option Addr} {cap : Nat} {l : List Nat} (h : BRow w ao cap l) : ao = none → l.length = 0 ∧ cap = 0 := fun e => ⟨by rw [(h.nil e).1]; rfl, (h.nil e).2⟩


set_option maxHeartbeats 1000000 in
theorem clone_some (ad : Addr) (cap n : Nat) (l : List Nat) (w : World) (h : BRow w (some ad) cap l) (HN : Hid (l.length = n)) (hn : n ≤ 140737488351232) :
    Calls Try.prog 32 #[.slice (some ad) n cap] w fun e w' => ∃ v, e = .returned v ∧ w'.ownsRow w.heap.size 5 1 v n (l.map bv) ∧ Below w.heap.size w w' := by
  obtain ⟨i0, hi, hz0, hz1, hz2⟩ := info_parts Try.info5
  have he : ∀ w : World, (binOp .eql 34 (.slice (some ad) n cap) (.slice none 0 0)).run Try.prog w = .ok (.bool false) w := fun w => Lib.run_eql_slice_nil w 34 5 (some ad) n cap 0 0 Try.underlying34
  have HB : Hid (∀ o, BRow (w.alloc o) (some ad) cap l) := fun o => h.later ((Below.refl _ _).alloc (Nat.le_refl _) o)
  have HO : Hid ((w.alloc (.cells #[] 5)).ownsRow w.heap.size 5 1 (.slice (some ⟨w.heap.size, 0, none⟩) 0 0) 0 []) :=
    World.ownsRow_lit w #[] 0 (Nat.le_refl _) (Nat.zero_le _) rfl
  clear h
  go_enter Try.func32, Try.ntmps32
  go_wp2_with (at_builtin; refine wpList_append_two _ rfl (.tmp 5) (.tmp 6) 34 rfl w.heap.size 5 i0 (.int .u8 0) 1 Try.underlying34 hi hz0 hz1 hz2 rfl _ 0 [] rfl HO.out (some ad) n cap (l.map bv) rfl (by simp) (by rw [List.length_map]; exact HN.out) (HB.out _).news (bv_one l) (by unfold maxLen; omega) (by omega) (by simp) ?_)
  intro v' w1 ho hg hf
  have hb : Below w.heap.size w w1 := ((Below.refl _ _).alloc (Nat.le_refl _) _).grown hg (by simp) (by intro k hk; simp [Value.ownBlock] at hk; omega)
  clear hg hf
  go_wp2
  go_ret
  exact ⟨_, rfl, ho, hb⟩
end Go.Proofs.Ythmonfmpgjbhmab
