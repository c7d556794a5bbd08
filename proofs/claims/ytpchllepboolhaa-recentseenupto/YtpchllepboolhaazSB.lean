import Derived.Test.YtpchllepboolhaazSA
import Derived.RangeFuncNested
namespace Go.Proofs.Ytpchllepboolhaa.D
open Go.RowKit Go.Proofs.Ytpchllepboolhaa.I
set_option linter.unusedVariables false
set_option maxRecDepth 100000

/-- the blocks of both orders -/
theorem fp_cells {W : World} {bo bm g bd : Nat} {L : List Ent} {v : Value} (h : St W bo bm g L bd v) {i : Nat} (hi : i ∈ fp bo bm g L ++ fpd bd v) :
    i = bm ∨ ∃ cs T, W.heap[i]? = some (.cells cs T (0, 0)) ∧ (T = TOrd ∨ T = TPl ∨ T = TDo ∨ T = TIt) := by
  rcases List.mem_append.1 hi with hi | hi
  · obtain ⟨nx, pv, rl, hg, hL⟩ := h.o.rg
    simp only [fp, List.mem_cons, List.mem_map] at hi
    rcases hi with rfl | rfl | rfl | ⟨e, he, rfl⟩
    · exact .inr ⟨_, _, h.o.ord, .inl rfl⟩
    · exact .inl rfl
    · exact .inr ⟨_, _, hg, .inr (.inl rfl)⟩
    · exact .inr ⟨_, _, hL e he, .inr (.inl rfl)⟩
  · simp only [fpd, List.mem_cons, Option.mem_toList] at hi
    rcases hi with rfl | hi
    · exact .inr ⟨_, _, h.d.blk, .inr (.inr (.inl rfl))⟩
    · rcases h.d.row.2 with ⟨rfl, _⟩ | ⟨gg, cap, cur, rfl, _, hg, _⟩
      · simp [Value.ownBlock] at hi
      · simp only [Value.ownBlock, Option.some.injEq] at hi
        subst hi
        exact .inr ⟨_, _, hg, .inr (.inr (.inr rfl))⟩
theorem map_cells {W : World} {bo bm g : Nat} {L : List Ent} (h : RO W bo bm g L) : ∃ o, W.heap[bm]? = some o ∧ o.isCells = false := by
  obtain ⟨n, D, ⟨es, clock, hm, _⟩, _⟩ := h.mp
  exact ⟨_, hm, rfl⟩
/-- types of blocks that no order has -/
abbrev Oth (T : TypeId) : Prop := T ≠ TOrd ∧ T ≠ TPl ∧ T ≠ TDo ∧ T ≠ TIt
theorem not_fp {W : World} {bo bm g bd : Nat} {L : List Ent} {v : Value} (h : St W bo bm g L bd v) {b : Nat} {cs : Array Value} {T : TypeId} {fr : Nat × Nat} (hb : W.heap[b]? = some (.cells cs T fr)) (hT : Oth T) : b ∉ fp bo bm g L ++ fpd bd v := by
  intro hi
  rcases fp_cells h hi with rfl | ⟨cs', T', h', hor⟩
  · obtain ⟨o, ho, hc⟩ := map_cells h.o
    rw [hb] at ho; cases ho; cases hc
  · rw [hb] at h'
    simp at h'
    obtain ⟨_, rfl, _⟩ := h'
    rcases hor with h | h | h | h
    · exact hT.1 h
    · exact hT.2.1 h
    · exact hT.2.2.1 h
    · exact hT.2.2.2 h
theorem kp_grown {X Y : World} {row : Option Nat} (hg : X.grownBy Y row) : Kp X Y row.toList :=
  ⟨hg.os, hg.tape, hg.output, hg.size, fun i hi hn => hg.block i hi (fun e => hn (by rw [← e]; simp))⟩
/-- what the rounds keep: both orders alike, with keys out of ks; all else as it was in w1, but for one box -/
structure Jn (w1 : World) (bn : Nat) (D : List Nat) (ks : List Int) (bo bm g bd : Nat) (W : World) : Prop where
  kp : Kp w1 W (bn :: D)
  st : ∃ L v, St W bo bm g L bd v ∧ (∀ x ∈ L.map I.kp, x.1 ∈ ks) ∧ ∀ i ∈ fp bo bm g L ++ fpd bd v, i ∈ D ∨ w1.heap.size ≤ i
theorem St.kept {W W' : World} {bo bm g bd : Nat} {L : List Ent} {v : Value} {F : List Nat} (h : St W bo bm g L bd v) (hk : Kp W W' F) (hd : ∀ i ∈ F, i ∉ fp bo bm g L ++ fpd bd v) : St W' bo bm g L bd v :=
  ⟨h.o.kept hk fun i hi hf => hd i hf (List.mem_append_left _ hi), h.d.kept hk fun i hi hf => hd i hf (List.mem_append_right _ hi)⟩
section
variable {w1 : World} {bn : Nat} {D : List Nat} {ks : List Int} {bo bm g bd : Nat}
theorem Jn.stay {X Y : World} {F : List Nat} (h : Jn w1 bn D ks bo bm g bd X) (hk : Kp X Y F) (hF : ∀ i ∈ F, (i = bn ∨ w1.heap.size ≤ i) ∧ ∃ o, X.heap[i]? = some o ∧ (∀ cs T, o = .cells cs T (0, 0) → Oth T) ∧ i ≠ bm) : Jn w1 bn D ks bo bm g bd Y := by
  obtain ⟨k1, L, v, h1, h2, h3⟩ := h
  refine ⟨k1.trans hk fun i hi => (hF i hi).1.imp (fun e => by simp [e]) id, L, v, h1.kept hk fun i hi hf => ?_, h2, h3⟩
  obtain ⟨_, o, ho, hT, hne⟩ := hF i hi
  rcases fp_cells h1 hf with e | ⟨cs', T', h', hor⟩
  · exact hne e
  · rw [ho] at h'
    obtain ⟨a1, a2, a3, a4⟩ := hT cs' T' (by simpa using h')
    rcases hor with h | h | h | h
    · exact a1 h
    · exact a2 h
    · exact a3 h
    · exact a4 h
theorem Jn.later {X Y : World} (h : Jn w1 bn D ks bo bm g bd X) (hb : Below X.heap.size X Y) : Jn w1 bn D ks bo bm g bd Y := h.stay (Kp.of_below hb []) (by simp)
theorem Jn.own (hbm : bm < w1.heap.size) {β : Type} : OwnFrom w1.heap.size (fun (_ : β) W => Jn w1 bn D ks bo bm g bd W) := fun _ X Y row h hg hr =>
  h.stay (kp_grown hg) fun i hi => by
    have e : row = some i := by simpa using hi
    obtain ⟨h1, o, ho, hc⟩ := hr i e
    exact ⟨.inr h1, o, ho, fun cs T e => (by subst e; cases hc), by omega⟩
theorem Jn.len {X : World} (h : Jn w1 bn D ks bo bm g bd X) : ∃ L v, St X bo bm g L bd v ∧ L.length ≤ ks.length := by
  obtain ⟨_, L, v, h1, h2, _⟩ := h
  have hu := uniq_kp h1.o
  have := nodup_len hu (fun x hx => by obtain ⟨y, hy, rfl⟩ := List.mem_map.1 hx; exact h2 y hy)
  exact ⟨L, v, h1, by simpa using this⟩
/-- what the body of the outer ranging keeps -/
def KpO (bn : Nat) (W W' : World) : Prop := ∀ (k : Nat) (cur : Array Value) (fr : Nat × Nat), k ≠ bn → W.heap[k]? = some (.cells cur TKey fr) → W'.heap[k]? = some (.cells cur TKey fr)
theorem kpO_row (bn : Nat) {F : Nat → World → Prop} (hF : ∀ k W W', F k W → F k W' ∧ k ≠ bn) : ∀ {W W' : World} {k : Nat} {cur : Array Value} {fr : Nat × Nat}, KpO bn W W' → F k W → W.heap[k]? = some (.cells cur TKey fr) → W'.heap[k]? = some (.cells cur TKey fr) ∧ F k W' := fun h hf hc => ⟨h _ _ _ (hF _ _ default hf).2 hc, (hF _ _ _ hf).1⟩
theorem KpO.refl (bn : Nat) (W : World) : KpO bn W W := fun _ _ _ _ h => h
theorem KpO.trans {bn : Nat} {A B C : World} (h : KpO bn A B) (k : KpO bn B C) : KpO bn A C := fun i cur fr hn hi => k i cur fr hn (h i cur fr hn hi)
theorem kpO_b {bn B : Nat} (W : World) (l : Nat) (o o' : Obj) (_ : B ≤ l) (h : W.heap[l]? = some o) (hc : o.isCells = false) (_ : o.isWalk = false) : KpO bn W (W.putObj l o') := fun i cur fr _ hi => by
  have hne : i ≠ l := by
    rintro rfl
    rw [h] at hi; cases hi; cases hc
  exact (World.putObj_heap_other hne).trans hi
theorem KpO.of_kp {bn : Nat} {X Y : World} {F : List Nat} (h : Kp X Y F) (hF : ∀ i ∈ F, i = bn ∨ ∀ cur fr, X.heap[i]? ≠ some (.cells cur TKey fr)) : KpO bn X Y := fun i cur fr hn hi => by
  refine (h.block i (Array.getElem?_eq_some_iff.1 hi).1 fun hf => ?_).trans hi
  rcases hF i hf with e | e
  · exact hn e
  · exact e _ _ hi
theorem keeps_of_kp {B : Nat} {X Y : World} {F : List Nat} (h : Kp X Y F) (hF : ∀ i ∈ F, i < B ∨ ∃ cs T fr, X.heap[i]? = some (.cells cs T fr)) : KeepsFrom B X Y :=
  ⟨h.size, fun k o hB hk hc => (h.block k (Array.getElem?_eq_some_iff.1 hk).1 fun hf => by
    rcases hF k hf with e | ⟨cs, T, fr, e⟩
    · omega
    · rw [hk] at e; cases e; cases hc).trans hk⟩
theorem othKey : Oth TKey := ⟨by decide, by decide, by decide, by decide⟩
theorem Jn.play (hbm : bm < w1.heap.size) {X : World} (h : Jn w1 bn D ks bo bm g bd X) (kind k : Int) (hk : wfK k) (hks : k ∈ ks) (hn : ks.length < 8796093022208) :
    Calls Try.prog 10 #[.pointer (some ⟨bo, 0, none⟩), .pointer (some ⟨bd, 0, none⟩), .agg #[.int .i64 kind, .int .i64 k]] X fun r X' => r = .returned (.bool true) ∧ Jn w1 bn D ks bo bm g bd X' ∧ KeepsFrom w1.heap.size X X' ∧ ∀ (i : Nat) (cur : Array Value) (fr : Nat × Nat), X.heap[i]? = some (.cells cur TKey fr) → X'.heap[i]? = some (.cells cur TKey fr) := by
  obtain ⟨L0, v0, h1, h2⟩ := h.len
  clear L0 v0 h1 h2
  obtain ⟨kp1, L, v, h1, h2, h3⟩ := h
  have hu := uniq_kp h1.o
  have hlen := nodup_len hu (fun x hx => by obtain ⟨y, hy, rfl⟩ := List.mem_map.1 hx; exact h2 y hy)
  refine (play_any h1 kind k hk (by have : L.length ≤ ks.length := (by simpa using hlen); omega)).mono ?_
  rintro r X' ⟨rfl, L', v', ha, hA⟩
  have hlt := h1.lt
  refine ⟨rfl, ⟨kp1.trans ha.kp fun i hi => (h3 i hi).imp (fun h => by simp [h]) id, L', v', ha.st, fun x hx => ?_, fun i hi => ?_⟩, keeps_of_kp ha.kp fun i hi => ?_, fun i cur fr hi => (ha.kp.block i (Array.getElem?_eq_some_iff.1 hi).1 (not_fp h1 hi othKey)).trans hi⟩
  · rw [hA] at hx
    rcases stp_keys x hx with e | ⟨y, hy, e⟩
    · rw [e]; exact hks
    · rw [← e]; exact h2 y hy
  · rcases ha.sub i hi with h | h
    · exact h3 i h
    · exact .inr (Nat.le_trans kp1.size h)
  · rcases fp_cells h1 hi with e | ⟨cs, T, e, _⟩
    · subst e; exact .inl hbm
    · exact .inr ⟨_, _, _, e⟩
end
/-- the document's order, alone -/
def Dn (wA W : World) (bd : Nat) (A : List It) : Prop := Kp wA W [bd] ∧ ∃ v, RD W bd true v A ∧ ∀ i ∈ fpd bd v, i = bd ∨ wA.heap.size ≤ i
theorem Dn.later {wA W W' : World} {bd : Nat} {A : List It} (h : Dn wA W bd A) (hb : Below W.heap.size W W') : Dn wA W' bd A := by
  obtain ⟨k, v, h1, h2⟩ := h
  exact ⟨k.trans (Kp.of_below hb []) (by simp), v, h1.later hb, h2⟩
theorem Dn.play {wA W W5 : World} {bd bo bm g : Nat} {A : List It} (h : Dn wA W bd A) (hb : Below W.heap.size W W5) (ho : RO W5 bo bm g []) (hf : ∀ i ∈ fp bo bm g [], W.heap.size ≤ i) (kind k : Int) (hk : wfK k) (hl : A.length < 8796093022208) :
    Calls Try.prog 10 #[.pointer (some ⟨bo, 0, none⟩), .pointer (some ⟨bd, 0, none⟩), .agg #[.int .i64 kind, .int .i64 k]] W5 fun r W' => ∃ b, r = .returned (.bool b) ∧ Dn wA W' bd (stp kind k A) := by
  have hs := h.1.size
  obtain ⟨kp, v, h1, h2⟩ := h.later hb
  refine (play2_any ho h1 kind k hk (by simp) hl).mono ?_
  rintro r W' ⟨b, rfl, v', ha⟩
  refine ⟨b, rfl, kp.trans ha.kp fun i hi => ?_, v', ha.rd, fun i hi => ?_⟩
  · rcases List.mem_append.1 hi with hi | hi
    · exact .inr (Nat.le_trans hs (hf i hi))
    · exact (h2 i hi).imp (fun e => by simp [e]) id
  · rcases ha.sub i hi with hi | hi
    · exact h2 i hi
    · exact .inr (Nat.le_trans kp.size hi)
/-- numbers in a row of one's own -/
structure IRB (B : Nat) (w : World) (ao : Option Addr) (l : List Int) : Prop where
  c : l = [] ∨ ∃ (b : Nat) (cur : Array Value), ao = some ⟨b, 0, none⟩ ∧ B ≤ b ∧ w.heap[b]? = some (.cells cur TIn (0, 0)) ∧ ∀ (k : Nat) (x : Int), l[k]? = some x → cur[k]? = some (.int .i64 x)
theorem irb_of {W : World} {B : Nat} {v : Value} {ks : List Int} (h : W.ownsRow B TIn 1 v ks.length (iv ks)) : ∃ ao cap, v = .slice ao ks.length cap ∧ IRB B W ao ks := by
  rcases h.2 with ⟨rfl, h0⟩ | ⟨gv, cap, cur, rfl, hb, hg, hc, _, hsz, ht⟩
  · exact ⟨none, 0, by rw [h0], ⟨.inl (List.length_eq_zero_iff.1 h0)⟩⟩
  · refine ⟨_, cap, rfl, ⟨.inr ⟨gv, cur, rfl, hb, hg, fun k x hx => ?_⟩⟩⟩
    have hk := (List.getElem?_eq_some_iff.1 hx).1
    have h1 : (iv ks)[k]? = some (.int .i64 x) := by unfold iv; rw [List.getElem?_map, hx]; rfl
    rw [← ht, List.getElem?_take, if_pos (by omega)] at h1
    simpa using h1
theorem IRB.keep {B B' : Nat} {w w' : World} {ao : Option Addr} {l : List Int} (h : IRB B w ao l) (hB : B' ≤ B) (hk : ∀ i cur, B ≤ i → w.heap[i]? = some (.cells cur TIn (0, 0)) → w'.heap[i]? = some (.cells cur TIn (0, 0))) : IRB B' w' ao l := by
  rcases h.c with h | ⟨b, cur, h1, h2, h3, h4⟩
  · exact ⟨.inl h⟩
  · exact ⟨.inr ⟨b, cur, h1, Nat.le_trans hB h2, hk b cur h2 h3, h4⟩⟩
theorem IRB.later {B B' : Nat} {w w' : World} {ao : Option Addr} {l : List Int} (h : IRB B w ao l) (hB : B' ≤ B) (hb : Below w.heap.size w w') : IRB B' w' ao l := h.keep hB fun i cur _ hi => (hb.block i (Array.getElem?_eq_some_iff.1 hi).1).trans hi
theorem IRB.cell {B : Nat} {w : World} {ao : Option Addr} {l : List Int} (h : IRB B w ao l) {k : Nat} {x : Int} (hx : l[k]? = some x) : ∃ b, ao = some ⟨b, 0, none⟩ ∧ w.cell? ⟨b, k, none⟩ = some (.int .i64 x) := by
  rcases h.c with rfl | ⟨b, cur, h1, h2, h3, h4⟩
  · simp at hx
  · exact ⟨b, h1, (cell_of h3).trans (h4 k x hx)⟩
theorem IRB.irow {B : Nat} {w : World} {ao : Option Addr} {l : List Int} (h : IRB B w ao l) : IRow w ao l := ⟨fun k x hx => by obtain ⟨b, e, hc⟩ := h.cell hx; exact ⟨b, 0, e, by simpa using hc⟩⟩
theorem Boxed.later {W W' : World} {i : Nat} {T : TypeId} {v : Value} (h : Boxed W i T v) (hb : Below W.heap.size W W') : Boxed W' i T v := (hb.block i h.lt).trans h
theorem Boxed.kp {W W' : World} {i : Nat} {T : TypeId} {v : Value} {F : List Nat} (h : Boxed W i T v) (hb : Kp W W' F) (hn : i ∉ F) : Boxed W' i T v := (hb.block i h.lt hn).trans h
theorem irb_put {B i : Nat} {w : World} {ao : Option Addr} {l : List Int} {T : TypeId} {u : Value} (h : IRB B w ao l) (hb : Boxed w i T u) (hT : T ≠ TIn) (v : Value) : IRB B (w.setCell ⟨i, 0, none⟩ v) ao l := h.keep (Nat.le_refl _) fun j cur _ hj => (Below.heap_setCell _ _ _ _ (by
  rintro rfl
  rw [show w.heap[j]? = _ from hb] at hj
  simp at hj
  exact hT hj.2)).trans hj
/-- how a told function is laid -/
structure FnB (W : World) (e0 e1 bo f : Nat) : Prop where
  a : Boxed W e0 23 (.pointer (some ⟨bo, 0, none⟩))
  b : Boxed W e1 94 (.func (.func f) #[] #[])
theorem FnB.later {W W' : World} {e0 e1 bo f : Nat} (h : FnB W e0 e1 bo f) (hb : Below W.heap.size W W') : FnB W' e0 e1 bo f := ⟨Boxed.later h.a hb, Boxed.later h.b hb⟩
theorem FnB.put {W : World} {e0 e1 bo f i : Nat} (h : FnB W e0 e1 bo f) {T : TypeId} {u : Value} (hb : Boxed W i T u) (h1 : T ≠ 23) (h2 : T ≠ 94) (v : Value) : FnB (W.setCell ⟨i, 0, none⟩ v) e0 e1 bo f := by
  have key : ∀ {j : Nat} {T' : TypeId} {u' : Value}, Boxed W j T' u' → T ≠ T' → j ≠ i := fun hj hT e => by
    subst e
    have := (show W.heap[_]? = _ from hj).symm.trans hb
    simp at this
    exact hT this.2.symm
  exact ⟨h.a.other (key h.a h1) v, h.b.other (key h.b h2) v⟩
theorem fn_all (X : World) (bo : Nat) : Calls Try.prog 45 #[.pointer (some ⟨bo, 0, none⟩)] X fun r w' => ∃ e0 e1, r = .returned (.func (.func 87) #[] #[.pointer (some ⟨e0, 0, none⟩), .pointer (some ⟨e1, 0, none⟩)]) ∧ X.heap.size ≤ e0 ∧ X.heap.size ≤ e1 ∧ FnB w' e0 e1 bo 73 ∧ Below X.heap.size X w' := by
  refine (A.func_any X _).mono ?_
  rintro r w' ⟨rfl, rfl⟩
  refine ⟨_, _, rfl, Nat.le_refl _, Nat.le_succ _, ⟨(Boxed.new X _ _).alloc _, ?_⟩, ((Below.refl _ X).alloc (Nat.le_refl _) _).alloc (by simp) _⟩
  have := Boxed.new (X.alloc (.cells #[.pointer (some ⟨bo, 0, none⟩)] 23)) 94 (.func (.func 73) #[] #[])
  rw [World.size_alloc] at this
  exact this
theorem fn_free (X : World) (bo : Nat) : Calls Try.prog 46 #[.pointer (some ⟨bo, 0, none⟩)] X fun r w' => ∃ e0 e1, r = .returned (.func (.func 87) #[] #[.pointer (some ⟨e0, 0, none⟩), .pointer (some ⟨e1, 0, none⟩)]) ∧ X.heap.size ≤ e0 ∧ X.heap.size ≤ e1 ∧ FnB w' e0 e1 bo 74 ∧ Below X.heap.size X w' := by
  refine (F.func_any X _).mono ?_
  rintro r w' ⟨rfl, rfl⟩
  refine ⟨_, _, rfl, Nat.le_refl _, Nat.le_succ _, ⟨(Boxed.new X _ _).alloc _, ?_⟩, ((Below.refl _ X).alloc (Nat.le_refl _) _).alloc (by simp) _⟩
  have := Boxed.new (X.alloc (.cells #[.pointer (some ⟨bo, 0, none⟩)] 23)) 94 (.func (.func 74) #[] #[])
  rw [World.size_alloc] at this
  exact this
theorem kp_own {w2 : World} {F : List Nat} {β : Type} : OwnFrom w2.heap.size (fun (_ : β) X => Kp w2 X F) := fun _ X Y row h hg hr => h.trans (kp_grown hg) fun i hi => by
  have e : row = some i := by simpa using hi
  exact .inr (hr i e).1
theorem own_or {β : Type} {B : Nat} {I J : β → World → Prop} (hi : OwnFrom B I) (hj : OwnFrom B J) : OwnFrom B (fun s W => I s W ∨ J s W) := fun s X Y row h hg hr => h.imp (fun h => hi s X Y row h hg hr) (fun h => hj s X Y row h hg hr)
theorem kp_put (X : World) (i : Nat) (v : Value) : Kp X (X.setCell ⟨i, 0, none⟩ v) [i] := (Kp.refl X [i]).set (.inl (by simp)) v
theorem IRB.kp {B : Nat} {w w' : World} {ao : Option Addr} {l : List Int} {F : List Nat} (h : IRB B w ao l) (hk : Kp w w' F) (hF : ∀ i ∈ F, i < B) : IRB B w' ao l := h.keep (Nat.le_refl _) fun i cur hB hi => (hk.block i (Array.getElem?_eq_some_iff.1 hi).1 (fun hf => by have := hF i hf; omega)).trans hi
theorem results_bool {fn : Func} {p : Tmp} (h : fn.results = #[.cell p 4]) (tmps : Array Value) (w : World) (g : Nat) (b : Bool)
    (hp : tmps.getD p undef = .pointer (some ⟨g, 0, none⟩)) (hc : w.cell? ⟨g, 0, none⟩ = some (.bool b)) : (results fn tmps).run Try.prog w = .ok (.bool b) w := by
  have hp' : tmps[p]?.getD undef = .pointer (some ⟨g, 0, none⟩) := by simpa using hp
  simp [results, h, hp', asAddr, go_sem, hc]
end Go.Proofs.Ytpchllepboolhaa.D
