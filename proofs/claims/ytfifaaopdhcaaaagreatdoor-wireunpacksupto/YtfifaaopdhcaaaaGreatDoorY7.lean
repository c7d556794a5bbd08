import Derived.Test.YtfifaaopdhcaaaaGreatDoorY6
import Derived.Test.YtfifaaopdhcaaaaGreatDoorY4
import Derived.RegionTactic
import Derived.ChangeAlike
import Derived.BigRegion
namespace Go.Proofs.YtfifaaopdhcaaaaGreatDoor
open Go.RowKit
set_option linter.unusedVariables false
set_option maxRecDepth 100000

/-- a message that is being laid down: the writer, and the box of what is laid down -/
structure Enc (w W : World) (b0 p : Nat) (v : Value) (l : List Nat) (ob : Obj) : Prop where
  ok : WOk W w.heap.size p v l
  bel : Below w.heap.size w W
  box : W.heap[b0]? = some ob
  ne : b0 ≠ p
  nv : v.ownBlock ≠ some b0
theorem Enc.hB {w W : World} {b0 p : Nat} {v : Value} {l : List Nat} {ob : Obj} (h : Enc w W b0 p v l ob) : w.heap.size ≤ W.heap.size := h.bel.size
theorem Enc.step {w W W' : World} {b0 p : Nat} {v v' : Value} {l l' : List Nat} {ob : Obj} (h : Enc w W b0 p v l ob) (hp : WPost W W' w.heap.size p v v' l') : Enc w W' b0 p v' l' ob := by
  have hv : ∀ g, v.ownBlock = some g → w.heap.size ≤ g := fun g hg => (owns_lt h.ok.own g hg).2
  refine ⟨hp.ok, h.bel.trans (hp.kept.below h.bel.size ?_), ?_, h.ne, ?_⟩
  · rintro g hg (e | e)
    · have := h.ok.hp; omega
    · have := hv g e; omega
  · rw [hp.kept.block b0 (block_lt h.box) ?_]; exact h.box
    rintro (e | e)
    · exact h.ne e
    · exact h.nv e
  · rcases hp.fresh with hf | ⟨g, hf, hge⟩
    · rw [hf]; exact h.nv
    · rw [hf]; intro e; cases e; have := block_lt h.box; omega
theorem Enc.c {w W : World} {b0 p : Nat} {v : Value} {l : List Nat} {cs : Array Value} {t : TypeId} {fr : Nat × Nat} (h : Enc w W b0 p v l (.cells cs t fr)) (j : Nat) : W.cell? ⟨b0, j, none⟩ = cs[j]? := blk_at h.box j
theorem Enc.new {w W0 : World} {b0 : Nat} {ob : Obj} (hb : Below w.heap.size w W0) (h0 : W0.heap[b0]? = some ob) : Enc w (W0.alloc (.cells #[.bool true, .slice none 0 0] 176)) b0 W0.heap.size (.slice none 0 0) [] ob :=
  ⟨⟨heap_new W0 _, World.ownsRow_nil _ _ _ _, by simp, hb.size⟩, hb.alloc hb.size _, by
    show (W0.heap.push _)[b0]? = _
    have := block_lt h0
    rw [Array.getElem?_push_lt this, ← h0, Array.getElem?_eq_getElem this], by have := block_lt h0; omega, by simp [Value.ownBlock]⟩
/-- a row of bytes of one's own that was answered -/
structure Row (w w' : World) (ao : Option Addr) (cap : Nat) (l : List Nat) : Prop where
  own : w'.ownsRow w.heap.size 5 1 (.slice ao l.length cap) l.length (l.map bv)
  lt : ∀ x ∈ l, x < 256
  bel : Below w.heap.size w w'
theorem Row.brow {w w' : World} {ao : Option Addr} {cap : Nat} {l : List Nat} (h : Row w w' ao cap l) (hl : l.length ≤ 140737488351232) : BRow w' ao cap l := by
  obtain ⟨ao', cap', hv, hb⟩ := BRow.own h.own h.lt hl
  simp only [Value.slice.injEq] at hv
  obtain ⟨rfl, _, rfl⟩ := hv
  exact hb
theorem Enc.out {w W W' : World} {b0 p : Nat} {v : Value} {l : List Nat} {ob : Obj} {ao : Option Addr} {cap : Nat} (h : Enc w W b0 p v l ob) (ho : W'.ownsRow W.heap.size 5 1 (.slice ao l.length cap) l.length (l.map bv)) (hb : Below W.heap.size W W') : Row w W' ao cap l :=
  ⟨owns_mono ho h.bel.size, h.ok.lt, h.bel.trans (hb.mono h.bel.size)⟩

abbrev mInit : Nat := 5639144782019643715
abbrev mHave : Nat := 5280542401877725268
/-- the bytes of a greeting -/
def gL (f : Nat) : List Nat := ([] ++ bigTo mInit 8 8 ++ bigTo mHave 8 8) ++ bigTo f 2 2

set_option maxHeartbeats 1000000 in
theorem encGreeting (f : Nat) (w : World) (hf : f < 65536) :
    Calls Tryz.prog 60 #[.agg #[.int .u16 (f : Int)]] w fun e w' => ∃ ao cap, e = .returned (.slice ao (gL f).length cap) ∧ Row w w' ao cap (gL f) := by
  obtain ⟨W0, hW0⟩ : ∃ W0, W0 = w.alloc (.cells #[.int .u16 (f : Int)] 130) := ⟨_, rfl⟩
  have h0 : Enc w (W0.alloc (.cells #[.bool true, .slice none 0 0] 176)) w.heap.size W0.heap.size (.slice none 0 0) [] (.cells #[.int .u16 (f : Int)] 130) := Enc.new (by rw [hW0]; exact (Below.refl _ _).alloc (Nat.le_refl _) _) (by rw [hW0]; exact heap_new w _)
  go_enter Tryz.func60, Tryz.ntmps60
  go_wp2_with fail
  rw [← hW0]
  refine (newWriter_any W0).mono ?_
  rintro e w1 ⟨rfl, rfl⟩
  generalize W0.alloc (.cells #[.bool true, .slice none 0 0] 176) = W1 at *
  generalize W0.heap.size = p at *
  clear hW0
  have H1 : Hid _ := h0
  clear h0
  go_wp2_with fail
  refine (wu64_any w.heap.size p mInit _ [] W1 H1.out.ok (by decide) (by simp) H1.out.hB).mono ?_
  rintro e W2 ⟨rfl, v2, hp⟩
  have H2 : Hid _ := H1.out.step hp
  clear hp H1
  go_wp2_with fail
  refine (wu64_any w.heap.size p mHave v2 _ W2 H2.out.ok (by decide) (by simp [bigTo_length]) H2.out.hB).mono ?_
  rintro e W3 ⟨rfl, v3, hp⟩
  have H3 : Hid _ := H2.out.step hp
  clear hp H2
  have c0 := H3.out.c 0
  simp at c0
  go_wp2_with fail
  refine (wu16_any w.heap.size p f v3 _ W3 H3.out.ok hf (by simp [bigTo_length]) H3.out.hB).mono ?_
  rintro e W4 ⟨rfl, v4, hp⟩
  have H4 : Hid _ := H3.out.step hp
  clear hp H3 c0
  go_wp2_with fail
  refine (wout_any w.heap.size p v4 _ W4 H4.out.ok (by simp [bigTo_length])).mono ?_
  rintro e W5 ⟨ao, cap, rfl, ho, hb⟩
  have H5 : Hid _ := H4.out.out ho hb
  clear ho hb H4
  go_wp2
  go_ret
  exact ⟨_, _, rfl, H5.out⟩
end Go.Proofs.YtfifaaopdhcaaaaGreatDoor
