import Derived.Test.YtbamjfnjenmdaaaGreatG52
namespace Go.Proofs.YtbamjfnjenmdaaaGreat.C
open Go.RowKit Go.Maps Go.Shelf Go.Proofs.YtbamjfnjenmdaaaGreat
set_option linter.unusedVariables false
set_option linter.unusedSimpArgs false
set_option maxRecDepth 100000

/-- what the sectors had before the call -/
structure Bf (B : Nat) (W : World) (bw v : Value) (X : List (Value × K.Bl)) : Prop where
  row : W.ownsRow B TBy 1 v X.length (X.map (·.1))
  dat : ∀ d ∈ X, W.ownsRow 0 TB8 1 d.1 512 (d.2.map bv)
  far : ∀ g, v.ownBlock = some g → bw.ownBlock ≠ some g
section
variable {w0 W W' : World} {B B' bc bd kb n i x : Nat} {P P' : Loc} {S S' : K.Dk} {C C' : Ch} {av bw av' bw' sv v v' u : Value} {A A' : List Be} {G : Nat → K.Bl} {SS : List Se} {X : List (Value × K.Bl)} {e : Se} {F : Nat → List K.Bl} {l : List (Int × Int)}
theorem two_types {T T' : TypeId} {B B' m m' : Nat} {u u' : Value} {xs xs' : List Value} (h1 : W.ownsRow B T 1 u m xs) (h2 : W.ownsRow B' T' 1 u' m' xs') (hne : T ≠ T') (g : Nat) (e1 : u.ownBlock = some g) : u'.ownBlock ≠ some g := fun e2 => by
  obtain ⟨_, cs, hc⟩ := K.row_lt h1 g e1
  obtain ⟨_, cs', hc'⟩ := K.row_lt h2 g e2
  rw [hc] at hc'
  simp at hc'
  exact hne hc'.2
theorem Bf.later (h : Bf B W bw v X) (hb : Below W.heap.size W W') : Bf B W' bw v X := ⟨K.ownsRow_block h.row (fun i hi => hb.block i (K.row_lt h.row i hi).1), fun d hd => K.ownsRow_block (h.dat d hd) (fun i hi => hb.block i (K.row_lt (h.dat d hd) i hi).1), h.far⟩
theorem Bf.act (h : Bf B W bw v X) (hrc : RC W P S C) (ha : CAct W W' P P' C S' C') : Bf B W' bw v X := by
  refine ⟨K.ownsRow_block h.row fun g hg => ?_, fun d hd => ha.row hrc (h.dat d hd), h.far⟩
  obtain ⟨hl, cs, hc⟩ := K.row_lt h.row g hg
  exact ha.kp.block g hl (fun hm => hrc.noY hm cs _ hc)
theorem Bf.putB (h : Bf B W bw v X) (hb : Bk W kb av bw A) (hk : K.Kp W W' (bfp0 kb av bw)) {m : Nat} {xs : List Value} (hv : W.ownsRow 0 TB8 1 u m xs) (hsub : ∀ x ∈ bfp kb av' bw' A', x ∈ bfp kb av bw A ∨ W.heap.size ≤ x ∨ u.ownBlock = some x) : Bf B W' bw' v X := by
  have hkb := hb.blk
  have key : ∀ {T : TypeId} {B m : Nat} {u : Value} {xs : List Value}, W.ownsRow B T 1 u m xs → T ≠ TBk → T ≠ TIn → (∀ g, u.ownBlock = some g → bw.ownBlock ≠ some g) → W'.ownsRow B T 1 u m xs := fun {T B m u xs} ho h1 h2 h3 => K.ownsRow_block ho fun g hg => by
    obtain ⟨hl, cs, hc⟩ := K.row_lt ho g hg
    refine hk.block g hl (fun hm => ?_)
    simp only [bfp0, List.mem_cons, List.mem_append, Option.mem_toList] at hm
    rcases hm with e | e | e
    · rw [e, hkb] at hc; simp at hc; exact h1 hc.2.symm
    · obtain ⟨_, cs', hc'⟩ := K.row_lt hb.ra g e; rw [hc] at hc'; simp at hc'; exact h2 hc'.2
    · exact h3 g hg e
  refine ⟨key h.row (by decide) (by decide) h.far, fun d hd => key (h.dat d hd) (by decide) (by decide) (two_types (h.dat d hd) hb.rb (by decide)), fun g hg hbw => ?_⟩
  have hm : g ∈ bfp kb av' bw' A' := by simp [bfp, hbw]
  have hlt := (K.row_lt h.row g hg).1
  rcases hsub g hm with h1 | h1 | h1
  · simp only [bfp, List.mem_cons, List.mem_append, List.mem_flatMap, Option.mem_toList] at h1
    rcases h1 with e1 | e1 | e1 | ⟨a, ha, e1⟩
    · obtain ⟨_, cs, hc⟩ := K.row_lt h.row g hg; rw [e1, hkb] at hc; simp at hc; exact absurd hc.2 (by decide)
    · exact two_types h.row hb.ra (by decide) g hg e1
    · exact h.far g hg e1
    · exact two_types h.row (hb.dat a ha) (by decide) g hg e1
  · omega
  · exact two_types h.row hv (by decide) g hg h1
/-- one value more -/
theorem Bf.app {W1 W2 : World} (h : Bf B W bw v X) (hb : Below W.heap.size W W1) {d : Value} {bl : K.Bl} (hd : W1.ownsRow 0 TB8 1 d 512 (bl.map bv)) (hg : W1.grownBy W2 v.ownBlock) (hown : W2.ownsRow B TBy 1 v' (X.length + 1) (X.map (·.1) ++ [d])) (hat : v'.ownBlock = v.ownBlock ∨ ∀ g, v'.ownBlock = some g → W.heap.size ≤ g) (hbw : ∀ g, bw.ownBlock = some g → g < W.heap.size) : Bf B W2 bw v' (X ++ [(d, bl)]) := by
  refine ⟨by simpa using hown, fun c hc => ?_, fun g e1 e2 => ?_⟩
  · have hk : ∀ {d : Value} {xs : List Value}, W1.ownsRow 0 TB8 1 d 512 xs → W2.ownsRow 0 TB8 1 d 512 xs := fun {d xs} ho => K.ownsRow_block ho fun g hgo => hg.block g (K.row_lt ho g hgo).1 (fun e => by
      have h1 := (h.later hb).row
      exact two_types h1 ho (by decide) g e.symm hgo)
    rcases List.mem_append.1 hc with hc | hc
    · exact hk ((h.later hb).dat c hc)
    · have e : c = (d, bl) := by simpa using hc
      subst e
      exact hk hd
  · rcases hat with e | e
    · exact h.far g (by rw [← e]; exact e1) e2
    · have := e g e1; have := hbw g e2; omega
/-- what is there while the lists are brought up to date -/
structure Sl (w0 W : World) (bc bd kb n i : Nat) (sv v : Value) (X : List (Value × K.Bl)) (F : Nat → List K.Bl) (P : Loc) (S : K.Dk) (C : Ch) (av bw : Value) (A : List Be) (SS : List Se) : Prop where
  kp : Kpr w0 W bc bd kb n i P S C av bw A (fun t => getB A t)
  sn : Sn w0.heap.size W bw sv SS
  bf : Bf w0.heap.size W bw v X
  ap : ∀ e ∈ SS, ∀ g, e.1.ownBlock = some g → v.ownBlock ≠ some g
  ln : SS.length = n
  vl : ∀ (j : Nat) e, SS[j]? = some e → bsOf e = F j
theorem Sl.later (h : Sl w0 W bc bd kb n i sv v X F P S C av bw A SS) (hb : Below W.heap.size W W') : Sl w0 W' bc bd kb n i sv v X F P S C av bw A SS := ⟨h.kp.later hb, h.sn.later hb, h.bf.later hb, h.ap, h.ln, h.vl⟩
theorem Sl.upd (h : Sl w0 W bc bd kb n i sv v X F P S C av bw A SS) (hx : SS[x]? = some e) {E' : List (Value × K.Bl)} (hk : K.Kp W W' (sv.ownBlock.toList ++ e.1.ownBlock.toList))
    (hrow : W'.ownsRow w0.heap.size TBs 1 sv SS.length ((SS.map (·.1)).set x v')) (hinn : W'.ownsRow w0.heap.size TBy 1 v' E'.length (E'.map (·.1))) (hdat : ∀ d ∈ E', W'.ownsRow 0 TB8 1 d.1 512 (d.2.map bv)) (hown : ∀ g, v'.ownBlock = some g → e.1.ownBlock = some g ∨ W.heap.size ≤ g) :
    Sl w0 W' bc bd kb n i sv v X (fun j => if j = x then E'.map (·.2) else F j) P S C av bw A (SS.set x (v', E')) := by
  have hxl : x < SS.length := (List.getElem?_eq_some_iff.1 hx).1
  have hem : e ∈ SS := List.mem_of_getElem? hx
  obtain ⟨ha1, ha2⟩ := h.sn.apart h.kp (Nat.le_refl _)
  have hF : ∀ g ∈ sv.ownBlock.toList ++ e.1.ownBlock.toList, g ∉ P.fp C.L ∧ g ∉ bfp kb av bw A ∧ w0.heap.size ≤ g := fun g hg => by
    rcases List.mem_append.1 hg with hg | hg
    · exact ha1 g (by simpa using hg)
    · exact ha2 e hem g (by simpa using hg)
  have hsame : ∀ g, g < W.heap.size → sv.ownBlock ≠ some g → e.1.ownBlock ≠ some g → W'.heap[g]? = W.heap[g]? := fun g hg h1 h2 => hk.block g hg (fun hm => by
    rcases List.mem_append.1 hm with hm | hm
    · exact h1 (by simpa using hm)
    · exact h2 (by simpa using hm))
  refine ⟨h.kp.kept hk hF, h.sn.upd hx hsame hrow hinn hdat hown (fun g hg => (K.row_lt h.kp.bk.rb g hg).1), ⟨K.ownsRow_block h.bf.row fun g hg => hsame g (K.row_lt h.bf.row g hg).1 (two_types h.bf.row h.sn.row (by decide) g hg) (fun e1 => h.ap e hem g e1 hg), fun d hd => K.ownsRow_block (h.bf.dat d hd) fun g hg => hsame g (K.row_lt (h.bf.dat d hd) g hg).1 (two_types (h.bf.dat d hd) h.sn.row (by decide) g hg) (two_types (h.bf.dat d hd) (h.sn.inn e hem) (by decide) g hg), h.bf.far⟩, fun a ha g hg hv => ?_, by rw [List.length_set]; exact h.ln, fun j a ha => ?_⟩
  · obtain ⟨j, hj, e1⟩ := List.getElem_of_mem ha
    by_cases hjx : j = x
    · subst hjx
      rw [List.getElem_set_self] at e1
      subst e1
      rcases hown g hg with h1 | h1
      · exact h.ap e hem g h1 hv
      · have := (K.row_lt h.bf.row g hv).1; omega
    · rw [List.getElem_set_ne (Ne.symm hjx)] at e1
      exact h.ap a (by rw [← e1]; exact List.getElem_mem _) g hg hv
  · by_cases hjx : j = x
    · subst hjx
      rw [List.getElem?_set_self hxl] at ha
      cases ha
      rw [if_pos rfl]
      rfl
    · rw [List.getElem?_set_ne (Ne.symm hjx)] at ha
      rw [if_neg hjx]
      exact h.vl j a ha
/-- a list begins anew -/
theorem Sl.new {gs sc : Nat} (h : Sl w0 W bc bd kb n i (.slice (some ⟨gs, 0, none⟩) n sc) v X F P S C av bw A SS) (hxn : x < n) {d : Value × K.Bl} (hd : X[x]? = some d) :
    ∃ SS', Sl w0 ((W.alloc (.cells #[d.1] TBy)).setCell ⟨gs, x, none⟩ (.slice (some ⟨W.heap.size, 0, none⟩) 1 1)) bc bd kb n i (.slice (some ⟨gs, 0, none⟩) n sc) v X (fun j => if j = x then [d.2] else F j) P S C av bw A SS' := by
  obtain ⟨e, he⟩ : ∃ e, SS[x]? = some e := ⟨_, List.getElem?_eq_getElem (by rw [h.ln]; exact hxn)⟩
  have hba : Below W.heap.size W (W.alloc (.cells #[d.1] TBy)) := (Below.refl _ W).alloc (Nat.le_refl _) _
  have h1 := h.later hba
  have hr := h1.sn.row
  rw [h.ln] at hr
  have hgs : gs < W.heap.size := (K.row_lt h.sn.row gs rfl).1
  have hw0 : w0.heap.size ≤ W.heap.size := h.kp.hc.bel.size
  have hne : gs ≠ W.heap.size := by omega
  have hdm := List.mem_of_getElem? hd
  have hnew : ((W.alloc (.cells #[d.1] TBy)).setCell ⟨gs, x, none⟩ (.slice (some ⟨W.heap.size, 0, none⟩) 1 1)).ownsRow w0.heap.size TBy 1 (.slice (some ⟨W.heap.size, 0, none⟩) 1 1) [d].length ([d].map (·.1)) :=
    K.ownsRow_block (World.ownsRow_lit W #[d.1] 1 hw0 (by decide) rfl) fun g hg => Below.heap_setCell _ _ _ _ (fun e => hne (by cases hg; exact e.symm))
  refine ⟨_, h.upd he (v' := .slice (some ⟨W.heap.size, 0, none⟩) 1 1) (E' := [d]) (K.Kp.set (K.Kp.of_below hba _) (.inl (by simp [Value.ownBlock])) _ _) (by rw [h.ln]; exact (hr.stored x _).1) hnew (fun c hc => ?_) (fun g hg => .inr (by cases hg; exact Nat.le_refl _))⟩
  · have e1 : c = d := by simpa using hc
    subst e1
    exact K.ownsRow_block (h1.bf.dat c hdm) fun g hg => Below.heap_setCell _ _ _ _ (fun e2 => two_types h1.sn.row (h1.bf.dat c hdm) (by decide) gs rfl (by rw [hg, e2]))
/-- bytes more in a list -/
theorem Sl.app {gs sc : Nat} (h : Sl w0 W bc bd kb n i (.slice (some ⟨gs, 0, none⟩) n sc) v X F P S C av bw A SS) (hx : SS[x]? = some e) {W1 W2 : World} (hb : Below W.heap.size W W1) {dv : Value} {bl : K.Bl} (hd : W1.ownsRow 0 TB8 1 dv 512 (bl.map bv)) (hg : W1.grownBy W2 e.1.ownBlock) (hown : W2.ownsRow w0.heap.size TBy 1 v' (e.2.length + 1) (e.2.map (·.1) ++ [dv])) (hat : ∀ g, v'.ownBlock = some g → e.1.ownBlock = some g ∨ W.heap.size ≤ g) :
    (∃ SS', Sl w0 (W2.setCell ⟨gs, x, none⟩ v') bc bd kb n i (.slice (some ⟨gs, 0, none⟩) n sc) v X (fun j => if j = x then F x ++ [bl] else F j) P S C av bw A SS') ∧ W2.cell? ⟨gs, x, none⟩ = some e.1 ∧ W2.frozen? ⟨gs, x, none⟩ = false := by
  have hem : e ∈ SS := List.mem_of_getElem? hx
  have hxn : x < SS.length := (List.getElem?_eq_some_iff.1 hx).1
  have h1 := h.later hb
  have hi1 := h1.sn.inn e hem
  have hk : ∀ {T : TypeId} {B m : Nat} {u : Value} {xs : List Value}, W1.ownsRow B T 1 u m xs → T ≠ TBy → W2.ownsRow B T 1 u m xs := fun {T B m u xs} ho hne => K.ownsRow_block ho fun g hgo => hg.block g (K.row_lt ho g hgo).1 (fun e2 => two_types hi1 ho (Ne.symm hne) g e2.symm hgo)
  have hr2 := hk h1.sn.row (by decide)
  rw [h.ln] at hr2
  have hc2 : W2.cell? ⟨gs, x, none⟩ = some e.1 := by
    rw [hr2.cellAt x (by rw [← h.ln]; omega), List.getElem?_map, hx]; rfl
  have hg2 : gs ≠ gs → False := fun h => h rfl
  have hset : ∀ {T : TypeId} {B m : Nat} {u u' : Value} {xs : List Value}, W2.ownsRow B T 1 u m xs → T ≠ TBs → (W2.setCell ⟨gs, x, none⟩ u').ownsRow B T 1 u m xs := fun {T B m u u' xs} ho hne => K.ownsRow_block ho fun g hgo => Below.heap_setCell _ _ _ _ (fun e2 => two_types hr2 ho (Ne.symm hne) gs rfl (by rw [hgo, e2]))
  have hup := h.upd (W' := W2.setCell ⟨gs, x, none⟩ v') hx (v' := v') (E' := e.2 ++ [(dv, bl)]) (K.Kp.set ((K.Kp.of_below hb _).grown hg (fun k e2 => .inl (by simp [e2]))) (.inl (by simp [Value.ownBlock])) _ _) (by rw [h.ln]; exact (hr2.stored x _).1) (by have := hset (u' := v') hown (by decide); simpa using this) (fun d hd' => ?_) hat
  · have he : (e.2 ++ [(dv, bl)]).map (·.2) = F x ++ [bl] := by rw [List.map_append, ← h.vl x e hx]; rfl
    rw [he] at hup
    exact ⟨⟨_, hup⟩, hc2, hr2.frozenAt x⟩
  · rcases List.mem_append.1 hd' with hd' | hd'
    · exact hset (hk (h1.sn.dat e hem d hd') (by decide)) (by decide)
    · have e2 : d = (dv, bl) := by simpa using hd'
      subst e2
      exact hset (hk hd (by decide)) (by decide)
/-- the round's order -/
theorem ord_next (hs : notedB l S.q = true → isN l x = false → S.safe x ∈ F x) (hg : notedB l S.q = true → seen S C x ∈ F x) (ho : Ord (fun t => isN l t) S C S') (hn : notedB l S'.q = true) (b : K.Bl) : isN l x = false → S'.safe x ∈ (if notedB l S.q = true then F x else [seen S C x]) ++ [b] := fun hx => by
  apply List.mem_append_left
  rcases ho with ⟨h1, h2⟩ | h1 | h1
  · have hw : notedB l S.q = true := by
      unfold notedB at hn ⊢
      rw [List.any_eq_true] at hn ⊢
      obtain ⟨p, hp, hpn⟩ := hn
      rcases h2 p hp with h3 | h3
      · exact ⟨p, h3, hpn⟩
      · have h4 : isN l p.1 = false := h3
        rw [h4] at hpn; cases hpn
    rw [if_pos hw, h1]
    exact hs hw hx
  · unfold notedB at hn
    rw [List.any_eq_true] at hn
    obtain ⟨p, hp, hpn⟩ := hn
    have h4 : isN l p.1 = false := h1 p hp
    rw [h4] at hpn
    cases hpn
  · rw [h1 x hx]
    by_cases hw : notedB l S.q = true
    · rw [if_pos hw]; exact hg hw
    · rw [if_neg hw]; simp
end
end Go.Proofs.YtbamjfnjenmdaaaGreat.C

namespace Go.Proofs.YtbamjfnjenmdaaaGreat.C
open Go.RowKit Go.Maps Go.Shelf Go.Proofs.YtbamjfnjenmdaaaGreat
set_option linter.unusedVariables false
set_option linter.unusedSimpArgs false
set_option maxRecDepth 100000

/-- what is there when a script's call begins -/
structure Pre (w0 W : World) (bc bd kb n i : Nat) (l : List (Int × Int)) (sv v : Value) (X : List (Value × K.Bl)) (SS : List Se) (P : Loc) (S : K.Dk) (C : Ch) (av bw : Value) (A : List Be) (xb : Nat) (oc : Array Value) : Prop where
  kp : Kpr w0 W bc bd kb n i P S C av bw A (fun t => getB A t)
  nt : Nt C
  no : C.notes = l
  sn : Sn w0.heap.size W bw sv SS
  bf : Bf w0.heap.size W bw v X
  xo : Xo W xb oc TOp P C kb av bw A
/-- what is there behind it -/
def Sw (w0 W : World) (bc bd kb n i : Nat) (l : List (Int × Int)) (sv v : Value) (X : List (Value × K.Bl)) (SS : List Se) (S0 : K.Dk) (C0 : Ch) (z : Int) : Prop :=
  ∃ P S C av bw A, Kpr w0 W bc bd kb n (i + 1) P S C av bw A (fun t => getB A t) ∧ Nt C ∧ C.notes = l ∧ Ord (fun t => isN l t) S0 C0 S ∧ Sn w0.heap.size W bw sv SS ∧ Bf w0.heap.size W bw v X ∧ (z = 0 → ∀ x, x < n → S.safe x = getB A x)
/-- what is there between a write and the book's -/
def Mid (w0 W : World) (bc bd kb n i : Nat) (l : List (Int × Int)) (sv v : Value) (X : List (Value × K.Bl)) (SS : List Se) (S0 : K.Dk) (C0 : Ch) (av bw : Value) (A : List Be) (xb : Nat) (oc : Array Value) (s : Int) (bl : K.Bl) : Prop :=
  ∃ P S C, Kpr w0 W bc bd kb n (i + 1) P S C av bw A (fun t => if t = s.toNat then bl else getB A t) ∧ K.inD n s = true ∧ Nt C ∧ C.notes = l ∧ Ord (fun t => isN l t) S0 C0 S ∧ Sn w0.heap.size W bw sv SS ∧ Bf w0.heap.size W bw v X ∧ Xo W xb oc TOp P C kb av bw A
section
variable {w0 W W' : World} {bc bd kb n i xb : Nat} {l : List (Int × Int)} {sv v : Value} {X : List (Value × K.Bl)} {SS : List Se} {P P' : Loc} {S S' S0 : K.Dk} {C C' C0 : Ch} {av bw : Value} {A : List Be} {oc : Array Value} {s : Int} {bl : K.Bl} {z : Int}
theorem Pre.later (h : Pre w0 W bc bd kb n i l sv v X SS P S C av bw A xb oc) (hb : Below W.heap.size W W') : Pre w0 W' bc bd kb n i l sv v X SS P S C av bw A xb oc := ⟨h.kp.later hb, h.nt, h.no, h.sn.later hb, h.bf.later hb, h.xo.later hb⟩
theorem Mid.later (h : Mid w0 W bc bd kb n i l sv v X SS S0 C0 av bw A xb oc s bl) (hb : Below W.heap.size W W') : Mid w0 W' bc bd kb n i l sv v X SS S0 C0 av bw A xb oc s bl := by
  obtain ⟨P, S, C, h1, h2, h3, h4, h5, h6, h7, h8⟩ := h
  exact ⟨P, S, C, h1.later hb, h2, h3, h4, h5, h6.later hb, h7.later hb, h8.later hb⟩
theorem Pre.sw (h : Pre w0 W bc bd kb n i l sv v X SS P S C av bw A xb oc) (od : Od w0 W W' bc bd kb n (i + 1) P S C P' S' C' av bw A (fun t => getB A t)) (hz : z = 0 → ∀ x, x < n → S'.safe x = getB A x) : Sw w0 W' bc bd kb n i l sv v X SS S C z :=
  ⟨P', S', C', av, bw, A, od.kp, od.nt, od.no.trans h.no, by have := od.od; rw [h.no] at this; exact this, h.sn.act h.kp.hc.rc od.act, h.bf.act h.kp.hc.rc od.act, hz⟩
theorem sw_none (h : Pre w0 W bc bd kb n i l sv v X SS P S C av bw A xb oc) : Sw w0 W bc bd kb n i l sv v X SS S C 2 :=
  ⟨P, S, C, av, bw, A, h.kp.more, h.nt, h.no, .inl (QD.refl _ _), h.sn, h.bf, fun e => by cases e⟩
theorem sw_flush (h : Pre w0 W bc bd kb n i l sv v X SS P S C av bw A xb oc) (hi : 8 * i ≤ 1048576) :
    Calls Tryz.prog 13 #[.pointer (some ⟨bc, 0, none⟩)] W fun r W' => ∃ e : Int, r = .returned (.int .i64 e) ∧ Hid (Sw w0 W' bc bd kb n i l sv v X SS S C e) := by
  refine (o_flush h.kp h.nt hi).mono ?_
  rintro r W' ⟨e, rfl, P', S', C', od, hz⟩
  exact ⟨e, rfl, h.sw od hz⟩
theorem sw_back (h : Pre w0 W bc bd kb n i l sv v X SS P S C av bw A xb oc) (hi : 8 * i ≤ 1048576) :
    Calls Tryz.prog 15 #[.pointer (some ⟨bc, 0, none⟩)] W fun r W' => ∃ z e : Int, r = .returned (.tuple #[.int .i64 z, .int .i64 e]) ∧ Hid (Sw w0 W' bc bd kb n i l sv v X SS S C 2) := by
  refine (o_back h.kp h.nt hi).mono ?_
  rintro r W' ⟨z, e, rfl, P', S', C', od⟩
  exact ⟨z, e, rfl, h.sw od (fun e => by cases e)⟩
theorem sw_through (h : Pre w0 W bc bd kb n i l sv v X SS P S C av bw A xb oc) (hi : 8 * i ≤ 1048576) {ao : Option Addr} {cap : Nat} {ks : List Int} (hl : ks.length ≤ 1048576) (hr : IRd w0 ao ks) :
    Calls Tryz.prog 14 #[.pointer (some ⟨bc, 0, none⟩), .slice ao ks.length cap] W fun r W' => ∃ e : Int, r = .returned (.int .i64 e) ∧ Hid (Sw w0 W' bc bd kb n i l sv v X SS S C 2) := by
  refine (o_through h.kp h.nt hi hl hr).mono ?_
  rintro r W' ⟨e, rfl, P', S', C', od⟩
  exact ⟨e, rfl, h.sw od (fun e => by cases e)⟩
theorem sw_fault (h : Pre w0 W bc bd kb n i l sv v X SS P S C av bw A xb oc) (f : K.Flt) (fa : K.I64 f.after) (ft : K.I64 f.times) :
    Calls Tryz.prog 16 #[.pointer (some ⟨bd, 0, none⟩), .agg #[.int .i64 f.kind, .int .i64 f.sector, .int .i64 f.after, .int .i64 f.times, .bool f.land]] W fun r W' => ∃ e : Int, r = .returned (.int .i64 e) ∧ Hid (Sw w0 W' bc bd kb n i l sv v X SS S C 2) := by
  refine (o_fault h.kp h.nt f fa ft).mono ?_
  rintro r W' ⟨e, rfl, P', S', C', od⟩
  exact ⟨e, rfl, h.sw od (fun e => by cases e)⟩
theorem sw_read (h : Pre w0 W bc bd kb n i l sv v X SS P S C av bw A xb oc) (hi : 8 * i ≤ 1048576) (s : Int) :
    Calls Tryz.prog 12 #[.pointer (some ⟨bc, 0, none⟩), .int .i64 s] W fun r W' => ∃ (v' : Value) (e : Int), r = .returned (.tuple #[v', .int .i64 e]) ∧ Hid (Sw w0 W' bc bd kb n i l sv v X SS S C 2) := by
  refine (o_read h.kp h.nt hi s).mono ?_
  rintro r W' ⟨v', e, rfl, P', S', C', od⟩
  exact ⟨v', e, rfl, h.sw od (fun e => by cases e)⟩
theorem sw_write (h : Pre w0 W bc bd kb n i l sv v X SS P S C av bw A xb oc) (hi : 8 * i ≤ 1048576) (s : Int) {g c B : Nat} (h512 : bl.length = 512) (hlt : ∀ x ∈ bl, x < 256) (ho : W.ownsRow B TB8 1 (.slice (some ⟨g, 0, none⟩) 512 c) 512 (bl.map bv)) :
    Calls Tryz.prog 9 #[.pointer (some ⟨bc, 0, none⟩), .int .i64 s, .slice (some ⟨g, 0, none⟩) 512 c] W fun r W' => ∃ e : Int, r = .returned (.int .i64 e) ∧ W'.heap[xb]? = some (.cells oc TOp (0, 0)) ∧ (e ≠ 0 → Sw w0 W' bc bd kb n i l sv v X SS S C 2) ∧ (e = 0 → Mid w0 W' bc bd kb n i l sv v X SS S C av bw A xb oc s bl) := by
  refine (o_write h.kp h.nt hi s h512 hlt ho).mono ?_
  rintro r W' ⟨e, rfl, P', S', C', h1, h2, ha⟩
  refine ⟨e, rfl, (h.xo.act ha).xo, fun he => h.sw (h1 he) (fun e => by cases e), fun he => ?_⟩
  obtain ⟨hin, od⟩ := h2 he
  exact ⟨P', S', C', od.kp, hin, od.nt, od.no.trans h.no, by have := od.od; rw [h.no] at this; exact this, h.sn.act h.kp.hc.rc ha, h.bf.act h.kp.hc.rc ha, h.xo.act ha⟩
theorem sw_put (h : Mid w0 W bc bd kb n i l sv v X SS S0 C0 av bw A xb oc s bl) (hi : 8 * i ≤ 1048576) (hal : A.length ≤ i) {vo : Option Addr} {c B : Nat} (hB : w0.heap.size ≤ B) (ho : W.ownsRow B TB8 1 (.slice vo 512 c) 512 (bl.map bv)) :
    Calls Tryz.prog 11 #[.pointer (some ⟨kb, 0, none⟩), .int .i64 s, .slice vo 512 c] W fun r W' => r = .returned (.tuple #[]) ∧ W'.heap[xb]? = some (.cells oc TOp (0, 0)) ∧ Sw w0 W' bc bd kb n i l sv v X SS S0 C0 2 := by
  obtain ⟨P, S, C, h1, h2, h3, h4, h5, h6, h7, h8⟩ := h
  refine (k_put0 h1 (by omega) (by omega) h2 hB ho).mono ?_
  rintro r W' ⟨rfl, av', bw', A', hk, hkp, hsub⟩
  have ho0 := owns_mono ho (Nat.zero_le _)
  exact ⟨rfl, (hkp.block _ h8.lt (fun hm => h8.xg (bfp_sub hm))).trans h8.xo, P, S, C, av', bw', A', hk, h3, h4, h5, h6.putB h1.bk hkp ho0 hsub, h7.putB h1.bk hkp ho0 hsub, fun e => by cases e⟩
end
end Go.Proofs.YtbamjfnjenmdaaaGreat.C
