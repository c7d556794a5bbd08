import Derived.Test.YtpchllepboolhaazDP
import Derived.Test.YtpchllepboolhaaQ23
import Derived.Test.YtpchllepboolhaazPDP
namespace Go.Proofs.Ytpchllepboolhaa.P
open Go.RowKit Go.Proofs.Ytpchllepboolhaa.D
open Go.Proofs.Ytpchllepboolhaa.I (ans)
set_option linter.unusedVariables false
set_option linter.unusedSimpArgs false
set_option maxRecDepth 100000

/-- the key that stands at a number -/
def kat (ks : List PK) (n : Int) : PK := ks.getD n.toNat pk0
/-- a number that is the first place of its key -/
structure Fst (ks : List PK) (n : Int) : Prop where
  lo : 0 ≤ n
  hi : n.toNat < ks.length
  first : ∀ j, j < n.toNat → ks.getD j pk0 ≠ ks.getD n.toNat pk0
theorem Fst.inj {ks : List PK} {n m : Int} (h : Fst ks n) (h' : Fst ks m) (e : kat ks n = kat ks m) : n = m := by
  rcases Nat.lt_trichotomy n.toNat m.toNat with h1 | h1 | h1
  · exact absurd e (h'.first _ h1)
  · have := h.lo; have := h'.lo; omega
  · exact absurd e.symm (h.first _ h1)
def kpP (e : Ent) : PK × Nat := (e.key, e.pins)
def itP (ks : List PK) (x : It) : PK × Nat := (kat ks x.1, x.2)
/-- an order of keys, told by numbers -/
structure Rl (ks : List PK) (L : List Ent) (A : List It) : Prop where
  m : L.map kpP = A.map (itP ks)
  f : ∀ x ∈ A, Fst ks x.1
theorem Rl.nil (ks : List PK) : Rl ks [] [] := ⟨rfl, by simp⟩
theorem Rl.len {ks : List PK} {L : List Ent} {A : List It} (h : Rl ks L A) : L.length = A.length := by
  have := congrArg List.length h.m
  simpa using this
theorem Rl.no {ks : List PK} {L : List Ent} {A : List It} {n : Int} (h : Rl ks L A) (hn : Fst ks n) (hno : ∀ x ∈ A, x.1 ≠ n) : ∀ e ∈ L, e.key ≠ kat ks n := by
  intro e he hk
  have hm : kpP e ∈ A.map (itP ks) := by rw [← h.m]; exact List.mem_map.2 ⟨e, he, rfl⟩
  obtain ⟨x, hx, e1⟩ := List.mem_map.1 hm
  have e2 : kat ks x.1 = e.key := congrArg Prod.fst e1
  exact hno x hx ((h.f x hx).inj hn (e2.trans hk))
theorem Rl.split {ks : List PK} {L : List Ent} {A1 A2 : List It} {n : Int} {p : Nat} (h : Rl ks L (A1 ++ (n, p) :: A2)) : ∃ L1 e L2, L = L1 ++ e :: L2 ∧ kat ks n = e.key ∧ e.pins = p ∧ L1.map kpP = A1.map (itP ks) ∧ L2.map kpP = A2.map (itP ks) := by
  have hm := h.m
  rw [List.map_append, List.map_cons, List.map_eq_append_iff] at hm
  obtain ⟨L1, L3, rfl, h1, h2⟩ := hm
  rw [List.map_eq_cons_iff] at h2
  obtain ⟨e, L2, rfl, h3, h4⟩ := h2
  exact ⟨L1, e, L2, rfl, (congrArg Prod.fst h3).symm, congrArg Prod.snd h3, h1, h4⟩
theorem act_below {w w' : World} {bo bm g : Nat} {L : List Ent} (h : RO w bo bm g L) (hb : Below w.heap.size w w') : Act w w' bo bm g L L := (Act.refl (h.later hb)).from_later hb
theorem fst_of {ks : List PK} {A1 A2 : List It} {n : Int} {p : Nat} (h : ∀ x ∈ A1 ++ (n, p) :: A2, Fst ks x.1) : (∀ x ∈ A1, Fst ks x.1) ∧ Fst ks n ∧ ∀ x ∈ A2, Fst ks x.1 :=
  ⟨fun x hx => h x (by simp [hx]), h (n, p) (by simp), fun x hx => h x (by simp [hx])⟩

/-- one call on the order, in the words of the row of numbers -/
def OCall (f : Nat) (kind : Int) (w : World) (bo bm g : Nat) (L : List Ent) (ks : List PK) (A : List It) (n : Int) : Prop :=
  Calls Try.prog f #[.pointer (some ⟨bo, 0, none⟩), kv (kat ks n)] w fun r w' => r = .returned (.bool (ans kind n A)) ∧ ∃ L', Act w w' bo bm g L L' ∧ Rl ks L' (stp kind n A)

section
variable {w : World} {bo bm g : Nat} {L : List Ent} {ks : List PK} {A : List It} {n : Int}
theorem o_add (h : RO w bo bm g L) (hr : Rl ks L A) (hn : Fst ks n) (hl : L.length < maxLen) : OCall 15 1 w bo bm g L ks A n := by
  unfold OCall ans stp
  simp only [if_true]
  rcases split_or n A with hno | ⟨A1, p, A2, rfl, hno⟩
  · rw [pinsOf_no hno]
    refine (add_new h (hr.no hn hno) hl).mono ?_
    rintro r w' ⟨rfl, q, ha⟩
    exact ⟨rfl, _, ha, ⟨by simp [hr.m, kpP, itP], fun x hx => by rcases List.mem_append.1 hx with h | h; exact hr.f x h; simp at h; subst h; exact hn⟩⟩
  · obtain ⟨L1, e, L2, rfl, hk, rfl, h1, h2⟩ := hr.split
    rw [hk, pinsOf_at hno]
    refine (add_old h (e := e) (by simp)).mono ?_
    rintro r w' ⟨rfl, hb⟩
    exact ⟨rfl, _, act_below h hb, hr⟩
theorem o_touch (h : RO w bo bm g L) (hr : Rl ks L A) (hn : Fst ks n) : OCall 17 2 w bo bm g L ks A n := by
  unfold OCall ans stp
  simp only [show ¬ (2 : Int) = 1 by decide, if_false, if_true]
  rcases split_or n A with hno | ⟨A1, p, A2, rfl, hno⟩
  · rw [pinsOf_no hno]
    refine (touch_no h (hr.no hn hno)).mono ?_
    rintro r w' ⟨rfl, hb⟩
    exact ⟨rfl, _, act_below h hb, hr⟩
  · obtain ⟨L1, e, L2, rfl, hk, rfl, h1, h2⟩ := hr.split
    obtain ⟨f1, f2, f3⟩ := fst_of hr.f
    rw [pinsOf_at hno, rm_at hno, hk]
    refine (touch_any h).mono ?_
    rintro r w' ⟨rfl, ha⟩
    refine ⟨rfl, _, ha, ⟨by simp [h1, h2, kpP, itP, hk], fun x hx => ?_⟩⟩
    simp only [List.mem_append, List.mem_cons, List.not_mem_nil, or_false] at hx
    rcases hx with (hx | hx) | rfl
    · exact f1 x hx
    · exact f3 x hx
    · exact f2
theorem o_drop (h : RO w bo bm g L) (hr : Rl ks L A) (hn : Fst ks n) : OCall 19 3 w bo bm g L ks A n := by
  unfold OCall ans stp
  simp only [show ¬ (3 : Int) = 1 by decide, show ¬ (3 : Int) = 2 by decide, if_false, if_true]
  rcases split_or n A with hno | ⟨A1, p, A2, rfl, hno⟩
  · rw [pinsOf_no hno, rm_no hno]
    refine (drop_no h (hr.no hn hno)).mono ?_
    rintro r w' ⟨rfl, hb⟩
    exact ⟨rfl, _, act_below h hb, hr⟩
  · obtain ⟨L1, e, L2, rfl, hk, rfl, h1, h2⟩ := hr.split
    obtain ⟨f1, f2, f3⟩ := fst_of hr.f
    rw [pinsOf_at hno, rm_at hno, hk]
    refine (drop_any h).mono ?_
    rintro r w' ⟨rfl, ha⟩
    refine ⟨rfl, _, ha, ⟨by simp [h1, h2], fun x hx => ?_⟩⟩
    rcases List.mem_append.1 hx with hx | hx
    · exact f1 x hx
    · exact f3 x hx
theorem Rl.set {L1 L2 : List Ent} {e : Ent} {A1 A2 : List It} (h1 : L1.map kpP = A1.map (itP ks)) (h2 : L2.map kpP = A2.map (itP ks)) (hk : kat ks n = e.key) (hf : ∀ x ∈ A1 ++ (n, e.pins) :: A2, Fst ks x.1) (m : Nat) : Rl ks (L1 ++ ⟨e.key, m, e.blk⟩ :: L2) (A1 ++ (n, m) :: A2) := by
  obtain ⟨f1, f2, f3⟩ := fst_of hf
  refine ⟨by simp [h1, h2, kpP, itP, hk], fun x hx => ?_⟩
  simp only [List.mem_append, List.mem_cons] at hx
  rcases hx with hx | rfl | hx
  · exact f1 x hx
  · exact f2
  · exact f3 x hx
theorem o_pin (h : RO w bo bm g L) (hr : Rl ks L A) (hn : Fst ks n) : OCall 21 4 w bo bm g L ks A n := by
  unfold OCall ans stp
  simp only [show ¬ (4 : Int) = 1 by decide, show ¬ (4 : Int) = 2 by decide, show ¬ (4 : Int) = 3 by decide, if_false, if_true]
  rcases split_or n A with hno | ⟨A1, p, A2, rfl, hno⟩
  · rw [pinsOf_no hno]
    refine (pin_no h (hr.no hn hno)).mono ?_
    rintro r w' ⟨rfl, hb⟩
    exact ⟨rfl, _, act_below h hb, hr⟩
  · obtain ⟨L1, e, L2, rfl, hk, rfl, h1, h2⟩ := hr.split
    rw [pinsOf_at hno]
    simp only
    rw [setP_at hno, hk]
    by_cases hp : e.pins < 2147483647
    · rw [if_pos hp, decide_eq_true hp]
      refine (pin_any h hp).mono ?_
      rintro r w' ⟨rfl, ha⟩
      exact ⟨rfl, _, ha, Rl.set h1 h2 hk hr.f _⟩
    · rw [if_neg hp, decide_eq_false hp]
      refine (pin_full h (e := e) (by simp) (Nat.not_lt.1 hp)).mono ?_
      rintro r w' ⟨rfl, hb⟩
      exact ⟨rfl, _, act_below h hb, hr⟩
theorem o_unpin (h : RO w bo bm g L) (hr : Rl ks L A) (hn : Fst ks n) : OCall 23 5 w bo bm g L ks A n := by
  unfold OCall ans stp
  simp only [show ¬ (5 : Int) = 1 by decide, show ¬ (5 : Int) = 2 by decide, show ¬ (5 : Int) = 3 by decide, show ¬ (5 : Int) = 4 by decide, if_false, if_true]
  rcases split_or n A with hno | ⟨A1, p, A2, rfl, hno⟩
  · rw [pinsOf_no hno]
    refine (unpin_no h (hr.no hn hno)).mono ?_
    rintro r w' ⟨rfl, hb⟩
    exact ⟨rfl, _, act_below h hb, hr⟩
  · obtain ⟨L1, e, L2, rfl, hk, rfl, h1, h2⟩ := hr.split
    rw [pinsOf_at hno]
    simp only
    rw [setP_at hno, hk]
    by_cases hp : e.pins = 0
    · rw [if_pos hp, decide_eq_false (fun h => h hp)]
      refine (unpin_zero h (e := e) (by simp) hp).mono ?_
      rintro r w' ⟨rfl, hb⟩
      exact ⟨rfl, _, act_below h hb, hr⟩
    · rw [if_neg hp, decide_eq_true hp]
      refine (unpin_any h hp).mono ?_
      rintro r w' ⟨rfl, ha⟩
      exact ⟨rfl, _, ha, Rl.set h1 h2 hk hr.f _⟩
theorem o_has (h : RO w bo bm g L) (hr : Rl ks L A) (hn : Fst ks n) : Calls Try.prog 25 #[.pointer (some ⟨bo, 0, none⟩), kv (kat ks n)] w fun r w' => r = .returned (.bool (pinsOf n A).isSome) ∧ Below w.heap.size w w' := by
  rcases split_or n A with hno | ⟨A1, p, A2, rfl, hno⟩
  · rw [pinsOf_no hno]
    exact has_no h (hr.no hn hno)
  · obtain ⟨L1, e, L2, rfl, hk, rfl, h1, h2⟩ := hr.split
    rw [hk, pinsOf_at hno]
    exact has_any h (by simp)
end

/-- the document's order knows nothing of this one -/
theorem toI {w w' : World} {F : List Nat} (h : Kp w w' F) : I.Kp w w' F := ⟨h.os, h.tape, h.output, h.size, h.block⟩
theorem ofI {w w' : World} {F : List Nat} (h : I.Kp w w' F) : Kp w w' F := ⟨h.os, h.tape, h.output, h.size, h.block⟩
theorem fp_fpd {W : World} {bo bm g bd : Nat} {L : List Ent} {md : Bool} {v : Value} {A : List It} (o : RO W bo bm g L) (d : RD W bd md v A) : ∀ i ∈ fp bo bm g L, i ∉ fpd bd v := by
  have hd : ∀ i ∈ fpd bd v, ∃ cs T, W.heap[i]? = some (.cells cs T (0, 0)) ∧ (T = TDo ∨ T = TIt) := by
    intro i hi
    simp only [fpd, List.mem_cons, Option.mem_toList] at hi
    rcases hi with rfl | hi
    · exact ⟨_, _, d.blk, .inl rfl⟩
    · rcases d.row.2 with ⟨rfl, _⟩ | ⟨gg, cap, cur, rfl, _, hg, _⟩
      · simp [Value.ownBlock] at hi
      · simp only [Value.ownBlock, Option.some.injEq] at hi
        subst hi
        exact ⟨_, _, hg, .inr rfl⟩
  intro i hi hj
  obtain ⟨cs, T, hT, hor⟩ := hd i hj
  obtain ⟨nx, pv, rl, hg, hL⟩ := o.rg
  obtain ⟨n, D, ⟨es, clock, hm, _⟩, _⟩ := o.mp
  have key : ∀ {cs' : Array Value} {T' : TypeId}, W.heap[i]? = some (.cells cs' T' (0, 0)) → T = T' := fun h => by
    have := hT.symm.trans h
    simp at this; exact this.2
  simp only [fp, List.mem_cons, List.mem_map] at hi
  rcases hi with rfl | rfl | rfl | ⟨e, he, rfl⟩
  · have := key o.ord; subst this; rcases hor with h | h <;> exact absurd h (by decide)
  · rw [hT] at hm; cases hm
  · have := key hg; subst this; rcases hor with h | h <;> exact absurd h (by decide)
  · have := key (hL e he); subst this; rcases hor with h | h <;> exact absurd h (by decide)
/-- both orders, in memory of one's own: A for the one, A' for the document's -/
structure Sg (w W : World) (bo bm g bd : Nat) (ks : List PK) (L : List Ent) (v : Value) (A A' : List It) : Prop where
  o : RO W bo bm g L
  d : RD W bd true v A'
  r : Rl ks L A
  b : Below w.heap.size w W
  f : ∀ i ∈ fp bo bm g L ++ fpd bd v, w.heap.size ≤ i
section
variable {w W : World} {bo bm g bd : Nat} {ks : List PK} {L : List Ent} {v : Value} {A A' : List It} {n : Int}
theorem Sg.later {W' : World} (h : Sg w W bo bm g bd ks L v A A') (hb : Below W.heap.size W W') : Sg w W' bo bm g bd ks L v A A' := ⟨h.o.later hb, h.d.later hb, h.r, h.b.trans (hb.mono h.b.size), h.f⟩
theorem Sg.lt (h : Sg w W bo bm g bd ks L v A A') : ∀ i ∈ fp bo bm g L ++ fpd bd v, i < W.heap.size := fun i hi => (List.mem_append.1 hi).elim (h.o.lt i) (h.d.lt i)
/-- a call on the order of keys -/
theorem Sg.callO {f : Nat} {kind : Int} (h : Sg w W bo bm g bd ks L v A A') (hc : OCall f kind W bo bm g L ks A n) {q : Nat} (hq : q < W.heap.size) (hqn : q ∉ fp bo bm g L ++ fpd bd v) :
    Calls Try.prog f #[.pointer (some ⟨bo, 0, none⟩), kv (kat ks n)] W fun r w' => r = .returned (.bool (ans kind n A)) ∧ w'.heap[q]? = W.heap[q]? ∧ W.heap.size ≤ w'.heap.size ∧ ∃ L', Sg w w' bo bm g bd ks L' v (stp kind n A) A' ∧ q ∉ fp bo bm g L' ++ fpd bd v := by
  refine Calls.mono hc ?_
  rintro r w' ⟨rfl, L', ha, hr⟩
  have hd' := h.d.kept (toI ha.kp) fun i hi hf => fp_fpd h.o h.d i hf hi
  have hs := ha.kp.size
  simp only [List.mem_append, not_or] at hqn
  refine ⟨rfl, ha.kp.block q hq hqn.1, hs, L', ⟨ha.ro, hd', hr, h.b.trans (ha.kp.below (fun i hi => h.f i (by simp [hi])) h.b.size), fun i hi => ?_⟩, fun hm => ?_⟩
  · rcases List.mem_append.1 hi with h1 | h1
    · rcases ha.sub i h1 with h2 | h2
      · exact h.f i (by simp [h2])
      · have := h.b.size; omega
    · exact h.f i (by simp [h1])
  · rcases List.mem_append.1 hm with h1 | h1
    · rcases ha.sub q h1 with h2 | h2
      · exact hqn.1 h2
      · omega
    · exact hqn.2 h1
/-- a call on the document's -/
theorem Sg.callD {f : Nat} {kind : Int} (h : Sg w W bo bm g bd ks L v A A') (hc : DCall f kind W bd v A' n) {q : Nat} (hq : q < W.heap.size) (hqn : q ∉ fp bo bm g L ++ fpd bd v) :
    Calls Try.prog f #[.pointer (some ⟨bd, 0, none⟩), .int .i64 n] W fun r w' => r = .returned (.bool (ans kind n A')) ∧ w'.heap[q]? = W.heap[q]? ∧ W.heap.size ≤ w'.heap.size ∧ ∃ v', Sg w w' bo bm g bd ks L v' A (stp kind n A') ∧ q ∉ fp bo bm g L ++ fpd bd v' := by
  refine Calls.mono hc ?_
  rintro r w' ⟨rfl, v', ha⟩
  have ho' := h.o.kept (ofI ha.kp) fun i hi hf => fp_fpd h.o h.d i hi hf
  have hs := ha.kp.size
  simp only [List.mem_append, not_or] at hqn
  refine ⟨rfl, ha.kp.block q hq hqn.2, hs, v', ⟨ho', ha.rd, h.r, h.b.trans ((ofI ha.kp).below (fun i hi => h.f i (by simp [hi])) h.b.size), fun i hi => ?_⟩, fun hm => ?_⟩
  · rcases List.mem_append.1 hi with h1 | h1
    · exact h.f i (by simp [h1])
    · rcases ha.sub i h1 with h2 | h2
      · exact h.f i (by simp [h2])
      · have := h.b.size; omega
  · rcases List.mem_append.1 hm with h1 | h1
    · exact hqn.1 h1
    · rcases ha.sub q h1 with h2 | h2
      · exact hqn.2 h2
      · omega
end
end Go.Proofs.Ytpchllepboolhaa.P
