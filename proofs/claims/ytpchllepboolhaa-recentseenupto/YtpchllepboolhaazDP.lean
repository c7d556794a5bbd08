import Derived.Test.YtpchllepboolhaazDH
import Derived.Test.YtpchllepboolhaazDO
namespace Go.Proofs.Ytpchllepboolhaa.D
open Go.RowKit Go.Proofs.Ytpchllepboolhaa.I
set_option linter.unusedVariables false
set_option maxRecDepth 100000

/-- one call on the document's order -/
def DCall (f : Nat) (kind : Int) (w : World) (bd : Nat) (v : Value) (A : List It) (k : Int) : Prop :=
  Calls Try.prog f #[.pointer (some ⟨bd, 0, none⟩), .int .i64 k] w fun r w' => r = .returned (.bool (ans kind k A)) ∧ ∃ v', DAct w w' bd true v v' (stp kind k A)

theorem d_add {w : World} {bd : Nat} {v : Value} {A : List It} (h : RD w bd true v A) (k : Int) (hl : A.length < 8796093022208) : DCall 16 1 w bd v A k := by
  unfold DCall ans stp
  simp only [if_true]
  rcases split_or k A with hn | ⟨A1, p, A2, rfl, hn⟩
  · rw [pinsOf_no hn]
    exact (add_new h hn hl).mono fun r w' ⟨h1, h2⟩ => ⟨h1, h2⟩
  · rw [pinsOf_at hn]
    refine (add_old h hn).mono ?_
    rintro r w' ⟨rfl, rfl⟩
    exact ⟨rfl, _, DAct.refl h⟩
theorem d_touch {w : World} {bd : Nat} {v : Value} {A : List It} (h : RD w bd true v A) (k : Int) : DCall 18 2 w bd v A k := by
  unfold DCall ans stp
  simp only [show ¬ (2 : Int) = 1 by decide, if_false, if_true]
  rcases split_or k A with hn | ⟨A1, p, A2, rfl, hn⟩
  · rw [pinsOf_no hn]
    refine (touch_no h k hn).mono ?_
    rintro r w' ⟨rfl, rfl⟩
    exact ⟨rfl, _, DAct.refl h⟩
  · rw [pinsOf_at hn, rm_at hn]
    exact (touch_any h hn).mono fun r w' ⟨h1, h2⟩ => ⟨h1, h2⟩
theorem d_drop {w : World} {bd : Nat} {v : Value} {A : List It} (h : RD w bd true v A) (k : Int) : DCall 20 3 w bd v A k := by
  unfold DCall ans stp
  simp only [show ¬ (3 : Int) = 1 by decide, show ¬ (3 : Int) = 2 by decide, if_false, if_true]
  rcases split_or k A with hn | ⟨A1, p, A2, rfl, hn⟩
  · rw [pinsOf_no hn, rm_no hn]
    refine (drop_no h k hn).mono ?_
    rintro r w' ⟨rfl, rfl⟩
    exact ⟨rfl, _, DAct.refl h⟩
  · rw [pinsOf_at hn, rm_at hn]
    exact (drop_any h hn).mono fun r w' ⟨h1, h2⟩ => ⟨h1, h2⟩
theorem d_pin {w : World} {bd : Nat} {v : Value} {A : List It} (h : RD w bd true v A) (k : Int) : DCall 22 4 w bd v A k := by
  unfold DCall ans stp
  simp only [show ¬ (4 : Int) = 1 by decide, show ¬ (4 : Int) = 2 by decide, show ¬ (4 : Int) = 3 by decide, if_false, if_true]
  rcases split_or k A with hn | ⟨A1, p, A2, rfl, hn⟩
  · rw [pinsOf_no hn]
    refine (pin_no h k hn).mono ?_
    rintro r w' ⟨rfl, rfl⟩
    exact ⟨rfl, _, DAct.refl h⟩
  · rw [pinsOf_at hn]
    simp only
    rw [setP_at hn]
    by_cases hp : p < 2147483647
    · rw [if_pos hp, decide_eq_true hp]
      exact (pin_any h hn hp).mono fun r w' ⟨h1, h2⟩ => ⟨h1, _, h2⟩
    · rw [if_neg hp, decide_eq_false hp]
      refine (pin_full h hn (Nat.not_lt.1 hp)).mono ?_
      rintro r w' ⟨rfl, rfl⟩
      exact ⟨rfl, _, DAct.refl h⟩
theorem d_unpin {w : World} {bd : Nat} {v : Value} {A : List It} (h : RD w bd true v A) (k : Int) : DCall 24 5 w bd v A k := by
  unfold DCall ans stp
  simp only [show ¬ (5 : Int) = 1 by decide, show ¬ (5 : Int) = 2 by decide, show ¬ (5 : Int) = 3 by decide, show ¬ (5 : Int) = 4 by decide, if_false, if_true]
  rcases split_or k A with hn | ⟨A1, p, A2, rfl, hn⟩
  · rw [pinsOf_no hn]
    refine (unpin_no h k hn).mono ?_
    rintro r w' ⟨rfl, rfl⟩
    exact ⟨rfl, _, DAct.refl h⟩
  · rw [pinsOf_at hn]
    simp only
    rw [setP_at hn]
    by_cases hp : p = 0
    · subst hp
      rw [if_pos rfl, decide_eq_false (fun h => h rfl)]
      refine (unpin_zero h hn).mono ?_
      rintro r w' ⟨rfl, rfl⟩
      exact ⟨rfl, _, DAct.refl h⟩
    · rw [if_neg hp, decide_eq_true hp]
      exact (unpin_any h hn hp).mono fun r w' ⟨h1, h2⟩ => ⟨h1, _, h2⟩
theorem d_pins {w : World} {bd : Nat} {md : Bool} {v : Value} {A : List It} (h : RD w bd md v A) (k : Int) :
    Calls Try.prog 48 #[.pointer (some ⟨bd, 0, none⟩), .int .i64 k] w fun r w' => r = .returned (.int .i64 ((pinsOf k A).getD 0 : Nat)) ∧ w' = w := by
  rcases split_or k A with hn | ⟨A1, p, A2, rfl, hn⟩
  · rw [pinsOf_no hn]; exact pins_no h k hn
  · rw [pinsOf_at hn]; exact pins_any h hn
theorem d_has {w : World} {bd : Nat} {md : Bool} {v : Value} {A : List It} (h : RD w bd md v A) (k : Int) :
    Calls Try.prog 26 #[.pointer (some ⟨bd, 0, none⟩), .int .i64 k] w fun r w' => r = .returned (.bool (pinsOf k A).isSome) ∧ w' = w := by
  rcases split_or k A with hn | ⟨A1, p, A2, rfl, hn⟩
  · rw [pinsOf_no hn]; exact has_no h k hn
  · rw [pinsOf_at hn]; exact has_any h hn

/-- both orders, alike -/
structure St (W : World) (bo bm g : Nat) (L : List Ent) (bd : Nat) (v : Value) : Prop where
  o : RO W bo bm g L
  d : RD W bd true v (L.map kp)
theorem fp_fpd {W : World} {bo bm g bd : Nat} {L : List Ent} {md : Bool} {v : Value} {A : List It} (o : RO W bo bm g L) (d : RD W bd md v A) : ∀ i ∈ fp bo bm g L, i ∉ fpd bd v := by
  have hd : ∀ i ∈ fpd bd v, ∃ cs T, W.heap[i]? = some (.cells cs T (0, 0)) ∧ (T = TDo ∨ T = TIt) := by
    intro i hi
    simp only [fpd, List.mem_cons, Option.mem_toList] at hi
    rcases hi with rfl | hi
    · exact ⟨_, _, d.blk, .inl rfl⟩
    · rcases d.row.2 with ⟨rfl, _⟩ | ⟨gg, cap, cur, rfl, _, hg, _⟩
      · simp [Value.ownBlock] at hi
      · simp only [Value.ownBlock, Option.some.injEq] at hi
        subst hi
        exact ⟨_, _, hg, .inr rfl⟩
  intro i hi hj
  obtain ⟨cs, T, hT, hor⟩ := hd i hj
  obtain ⟨nx, pv, rl, hg, hL⟩ := o.rg
  obtain ⟨n, D, ⟨es, clock, hm, _⟩, _⟩ := o.mp
  have key : ∀ {cs' : Array Value} {T' : TypeId}, W.heap[i]? = some (.cells cs' T' (0, 0)) → T = T' := fun h => by
    have := hT.symm.trans h
    simp at this; exact this.2
  simp only [fp, List.mem_cons, List.mem_map] at hi
  rcases hi with rfl | rfl | rfl | ⟨e, he, rfl⟩
  · have := key o.ord; subst this; rcases hor with h | h <;> exact absurd h (by decide)
  · rw [hT] at hm; cases hm
  · have := key hg; subst this; rcases hor with h | h <;> exact absurd h (by decide)
  · have := key (hL e he); subst this; rcases hor with h | h <;> exact absurd h (by decide)
/-- what a call on both leaves -/
structure SAct (W W' : World) (bo bm g : Nat) (L L' : List Ent) (bd : Nat) (v v' : Value) : Prop where
  st : St W' bo bm g L' bd v'
  kp : Kp W W' (fp bo bm g L ++ fpd bd v)
  sub : ∀ i ∈ fp bo bm g L' ++ fpd bd v', i ∈ fp bo bm g L ++ fpd bd v ∨ W.heap.size ≤ i
theorem St.later {w w' : World} {bo bm g : Nat} {L : List Ent} {bd : Nat} {v : Value} (h : St w bo bm g L bd v) (hb : Below w.heap.size w w') : St w' bo bm g L bd v := ⟨h.o.later hb, h.d.later hb⟩
theorem St.lt {w : World} {bo bm g : Nat} {L : List Ent} {bd : Nat} {v : Value} (h : St w bo bm g L bd v) : ∀ i ∈ fp bo bm g L ++ fpd bd v, i < w.heap.size := fun i hi => (List.mem_append.1 hi).elim (h.o.lt i) (h.d.lt i)
/-- one behind the other -/
theorem SAct.make {W W1 W2 W3 : World} {bo bm g : Nat} {L L' : List Ent} {bd : Nat} {v v' : Value} {A' : List It} (h : St W bo bm g L bd v) (hb : Below W.heap.size W W1) (ha : I.Act W1 W2 bo bm g L L') (hd : DAct W2 W3 bd true v v' A') (hA : L'.map I.kp = A') : SAct W W3 bo bm g L L' bd v v' := by
  have hlt := h.lt
  have hs1 := hb.size
  have hs2 := ha.kp.size
  have hRD2 : RD W2 bd true v (L.map I.kp) := (h.d.later hb).kept ha.kp fun i hi hf => fp_fpd h.o h.d i hf hi
  have hne : ∀ i ∈ fp bo bm g L', i ∉ fpd bd v := fp_fpd ha.ro hRD2
  subst hA
  refine ⟨⟨ha.ro.kept hd.kp hne, hd.rd⟩, ⟨hd.kp.os.trans (ha.kp.os.trans hb.os), hd.kp.tape.trans (ha.kp.tape.trans hb.tape), hd.kp.output.trans (ha.kp.output.trans hb.output), Nat.le_trans hs1 (Nat.le_trans hs2 hd.kp.size), fun i hi hn => ?_⟩, fun i hi => ?_⟩
  · simp only [List.mem_append, not_or] at hn
    rw [hd.kp.block i (by omega) hn.2, ha.kp.block i (by omega) hn.1, hb.block i hi]
  · rcases List.mem_append.1 hi with h1 | h1
    · rcases ha.sub i h1 with h2 | h2
      · exact .inl (List.mem_append_left _ h2)
      · exact .inr (by omega)
    · rcases hd.sub i h1 with h2 | h2
      · exact .inl (List.mem_append_right _ h2)
      · exact .inr (by omega)
end Go.Proofs.Ytpchllepboolhaa.D
