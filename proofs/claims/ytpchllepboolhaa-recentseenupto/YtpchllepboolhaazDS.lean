import Derived.Test.YtpchllepboolhaazDR
import Derived.Test.YtpchllepboolhaazRPins
namespace Go.Proofs.Ytpchllepboolhaa.D
open Go.RowKit Go.Proofs.Ytpchllepboolhaa.I
attribute [local go_sem] Oper.semAt_some
set_option linter.unusedVariables false
set_option linter.unusedSimpArgs false
set_option maxRecDepth 100000

abbrev Ac := Int × Int
/-- a script in memory -/
structure ARow (w : World) (ao : Option Addr) (l : List Ac) : Prop where
  c : ∀ k x, l[k]? = some x → ∃ b off, ao = some ⟨b, off, none⟩ ∧ w.cell? ⟨b, off + k * 2, none⟩ = some (.int .i64 x.1) ∧ w.cell? ⟨b, off + k * 2 + 1, none⟩ = some (.int .i64 x.2)
theorem ARow.later {w w' : World} {ao : Option Addr} {l : List Ac} (h : ARow w ao l) (hb : Below w.heap.size w w') : ARow w' ao l :=
  ⟨fun k x hx => by obtain ⟨b, off, he, hc, hd⟩ := h.c k x hx; exact ⟨b, off, he, cell_later hb hc, cell_later hb hd⟩⟩
/-- both orders, in memory of one's own -/
def Sg (w W : World) (bo bm g bd : Nat) (n : Nat) : Prop := ∃ L v, St W bo bm g L bd v ∧ L.length ≤ n ∧ Below w.heap.size w W ∧ ∀ i ∈ fp bo bm g L ++ fpd bd v, w.heap.size ≤ i
theorem Sg.below {w W : World} {bo bm g bd n : Nat} (h : Sg w W bo bm g bd n) : Below w.heap.size w W := by obtain ⟨_, _, _, _, h, _⟩ := h; exact h
theorem Sg.later {w W W' : World} {bo bm g bd n : Nat} (h : Sg w W bo bm g bd n) (hb : Below W.heap.size W W') : Sg w W' bo bm g bd n := by
  obtain ⟨L, v, h1, h2, h3, h4⟩ := h
  exact ⟨L, v, h1.later hb, h2, h3.trans (hb.mono h3.size), h4⟩
theorem SAct.below {w W W' : World} {bo bm g : Nat} {L L' : List Ent} {bd : Nat} {v v' : Value} (ha : SAct W W' bo bm g L L' bd v v') (h3 : Below w.heap.size w W) (h4 : ∀ i ∈ fp bo bm g L ++ fpd bd v, w.heap.size ≤ i) : Below w.heap.size w W' ∧ ∀ i ∈ fp bo bm g L' ++ fpd bd v', w.heap.size ≤ i :=
  ⟨h3.trans (ha.kp.below h4 h3.size), fun i hi => (ha.sub i hi).elim (h4 i) (fun h => by have := h3.size; omega)⟩
theorem stp_len {kind k : Int} {L L' : List Ent} (h : L'.map I.kp = stp kind k (L.map I.kp)) : L'.length ≤ L.length + 1 := by
  have h1 := stp_length kind k (L.map I.kp)
  rw [← h] at h1
  simpa using h1
theorem Sg.play {w W : World} {bo bm g bd n : Nat} (h : Sg w W bo bm g bd n) (kind k : Int) (hk : wfK k) (hn : n < 8796093022208) :
    Calls Try.prog 10 #[.pointer (some ⟨bo, 0, none⟩), .pointer (some ⟨bd, 0, none⟩), .agg #[.int .i64 kind, .int .i64 k]] W fun r W' => r = .returned (.bool true) ∧ Sg w W' bo bm g bd (n + 1) := by
  obtain ⟨L, v, h1, h2, h3, h4⟩ := h
  refine (play_any h1 kind k hk (by omega)).mono ?_
  rintro r W' ⟨rfl, L', v', ha, hA⟩
  obtain ⟨b1, b2⟩ := ha.below h3 h4
  have := stp_len hA
  exact ⟨rfl, L', v', ha.st, by omega, b1, b2⟩
theorem Sg.told {w W : World} {bo bm g bd n : Nat} (h : Sg w W bo bm g bd n) (k : Int) (hk : wfK k) (hn : n ≤ 8796093022208) :
    Calls Try.prog 11 #[.pointer (some ⟨bo, 0, none⟩), .pointer (some ⟨bd, 0, none⟩), .int .i64 k] W fun r W' => r = .returned (.bool true) ∧ Sg w W' bo bm g bd n := by
  have h0 := h
  obtain ⟨L, v, h1, h2, h3, h4⟩ := h
  refine (told_any h1 k hk (by omega)).mono ?_
  rintro r W' ⟨rfl, hb⟩
  exact ⟨rfl, h0.later hb⟩
theorem Sg.start {w w0 : World} {bo bm g : Nat} (h0 : RO w0 bo bm g []) (hb0 : Below w.heap.size w w0) (hf0 : ∀ i ∈ fp bo bm g [], w.heap.size ≤ i) : Sg w (w0.alloc (.cells #[.bool true, .slice none 0 0] TDo)) bo bm g w0.heap.size 0 := by
  have hB : Below w0.heap.size w0 (w0.alloc (.cells #[.bool true, .slice none 0 0] TDo)) := (Below.refl _ w0).alloc (Nat.le_refl _) _
  refine ⟨[], .slice none 0 0, ⟨h0.later hB, ⟨heap_alloc_new w0 _, World.ownsRow_nil _ _ _ _, by simp, by simp⟩⟩, Nat.le_refl _, hb0.trans (hB.mono hb0.size), fun i hi => ?_⟩
  rcases List.mem_append.1 hi with hi | hi
  · exact hf0 i hi
  · simp [fpd, Value.ownBlock] at hi
    rw [hi]; exact hb0.size

set_option maxHeartbeats 8000000 in
theorem lawPlays_any (ao : Option Addr) (c m : Nat) (l : List Ac) (other : Int) (w : World) (HM : Hid (m = l.length)) (hl : m ≤ 8796093022208) (HA : Hid (ARow w ao l)) (HW : Hid (∀ x ∈ l, wfK x.2)) (Hoth : Hid (wfK other)) :
    Calls Try.prog 3 #[.slice ao m c, .int .i64 other] w fun e w' => e = .returned (.bool true) ∧ Below w.heap.size w w' := by
  go_enter Try.func3, Try.ntmps3
  go_wp2_with (go_at_call 9; refine (new_any _).mono ?_; rintro e w0 ⟨bo, bm, g, rfl, h0, hb0, hf0⟩; have H0 : Hid (Sg w (w0.alloc (.cells #[.bool true, .slice none 0 0] TDo)) bo bm g w0.heap.size 0) := Sg.start h0 hb0 hf0; clear h0 hb0 hf0)
  go_loopw [7] (fun i wr => ∃ (k : Nat), k ≤ m ∧ i = .int .i64 k ∧ Hid (Sg w wr bo bm g w0.heap.size k)) (fun i _ => m - (intOf i).toNat)
  case atStart => exact ⟨0, Nat.zero_le _, rfl, H0⟩
  case round =>
    obtain ⟨k, hk, rfl, HK⟩ := hrel
    by_cases hlt : k < m
    · obtain ⟨x, hx⟩ : ∃ x, l[k]? = some x := ⟨_, List.getElem?_eq_getElem (by have := HM.out; omega)⟩
      obtain ⟨b, off, rfl, c0, c1⟩ := HA.out.c _ _ hx
      have HC : Hid (∀ W, Below w.heap.size w W → W.cell? ⟨b, off + k * 2, none⟩ = some (.int .i64 x.1) ∧ W.cell? ⟨b, off + k * 2 + 1, none⟩ = some (.int .i64 x.2)) := fun W hW => ⟨cell_later hW c0, cell_later hW c1⟩
      have hcr := HC.out wr HK.out.below
      have hcr0 := hcr.1
      have hcr1 := hcr.2
      have hwf : Hid (wfK x.2) := HW.out x (List.mem_of_getElem? hx)
      have d1 : (k : Int) < (m : Int) := by omega
      have hpl := HK.out.play x.1 x.2 hwf.out (by omega)
      clear c0 c1 hx hcr
      go_wp2_with (first | (go_at_call 10; refine hpl.mono ?_; rintro e w1 ⟨rfl, h1⟩; have hcw1 := (HC.out w1 h1.below).2; have hto := h1.told x.2 hwf.out (by omega); clear h1) | (go_at_call 11; refine hto2.mono ?_; rintro e w3 ⟨rfl, h3⟩; have H3 : Hid (Sg w w3 bo bm g w0.heap.size (k + 1)) := h3; clear h3) | (go_at_call 11; refine hto.mono ?_; rintro e w2 ⟨rfl, h2⟩; have hto2 := h2.told other Hoth.out (by omega); clear h2))
      go_roundw
      case rel => exact ⟨k + 1, by omega, by go_num, H3⟩
      case measure => simp [intOf]; omega
    · have e : k = m := by omega
      subst e
      have hto := HK.out.told other Hoth.out (by omega)
      clear HK
      go_wp2_with (first | (go_at_call 11; refine hto.mono ?_; rintro e w2 ⟨rfl, h2⟩; have HB : Hid (Below w.heap.size w w2) := h2.below; clear h2) | (go_at_call 12; refine (S.alive_any _).mono ?_; rintro e w4 ⟨rfl, hb4⟩))
      go_ret
      exact ⟨rfl, HB.out.trans (hb4.mono HB.out.size)⟩
end Go.Proofs.Ytpchllepboolhaa.D
