import Derived.Test.YtpkobgnbjmefnabDoorWrI
import Derived.Test.YtpkobgnbjmefnabDoorRdQ
namespace Go.Proofs.YtpkobgnbjmefnabDoor
open Go.RowKit
set_option linter.unusedVariables false
set_option maxRecDepth 100000

/-- the blocks of a writer and of what was gathered beside it -/
def FW (p : Nat) (v x : Value) (g : Nat) : Prop := g = p ∨ v.ownBlock = some g ∨ x.ownBlock = some g
structure GW (w : World) (B p : Nat) (v x : Value) (L : List Nat) : Prop where
  wok : WOk w B p v L
  all : w.ownsRow B 5 1 x L.length (L.map bv)
  sep : Sep v x
theorem GW.lt {w : World} {B p : Nat} {v x : Value} {L : List Nat} (h : GW w B p v x L) (g : Nat) (hg : FW p v x g) : g < w.heap.size ∧ B ≤ g := by
  rcases hg with rfl | hg | hg
  · exact ⟨block_lt h.wok.blk, h.wok.hp⟩
  · exact owns_lt h.wok.own g hg
  · exact owns_lt h.all g hg
theorem GW.keep {w w' : World} {B p : Nat} {v x : Value} {L : List Nat} (h : GW w B p v x L) {S : Nat → Prop} (k : KeptIn S w w') (hS : ∀ g, FW p v x g → ¬ S g) : GW w' B p v x L :=
  ⟨h.wok.later k (hS p (.inl rfl)) (fun g hg => hS g (.inr (.inl hg))), owns_same h.all fun g hg => k.block g (owns_lt h.all g hg).1 (hS g (.inr (.inr hg))), h.sep⟩
theorem GW.write {w w1 w2 : World} {B p : Nat} {v x v' x' : Value} {L m : List Nat} (h : GW w B p v x L) (k : WPost w w1 B p v v' (L ++ m)) (hg : w1.grownBy w2 x.ownBlock) (ho : w2.ownsRow B 5 1 x' (L.length + m.length) (L.map bv ++ m.map bv)) (hf : Fresh w1 x x') :
    GW w2 B p v' x' (L ++ m) ∧ KeptIn (FW p v x) w w2 ∧ ∀ g, FW p v' x' g → FW p v x g ∨ w.heap.size ≤ g := by
  have hxp := blk_type h.all h.wok.blk (by decide)
  have hx1 : w1.ownsRow B 5 1 x L.length (L.map bv) := owns_same h.all fun g hg' => k.kept.block g (owns_lt h.all g hg').1 (fun hS => hS.elim (fun e => hxp (by rw [hg', e])) (fun e => h.sep g e hg'))
  have hs1 : Sep v' x := fun g g1 g2 => by
    rcases k.fresh with hf' | ⟨g', hf', hge⟩
    · exact h.sep g (hf' ▸ g1) g2
    · have := (owns_lt h.all g g2).1
      rw [hf'] at g1
      have := Option.some.inj g1
      omega
  have hs2 : Sep v' x' := fun g g1 g2 => by
    rcases hf with hf' | ⟨g', hf', hge⟩
    · exact hs1 g g1 (hf' ▸ g2)
    · have := (owns_lt k.ok.own g g1).1
      rw [hf'] at g2
      have := Option.some.inj g2
      omega
  have k2 := kept_grown hg
  have hxp1 := blk_type hx1 k.ok.blk (by decide)
  refine ⟨⟨k.ok.later k2 hxp1 (fun g g1 e => hs1 g g1 e), by rw [List.length_append, List.map_append]; exact ho, hs2⟩, ?_, fun g hg' => ?_⟩
  · refine (k.kept.mono (T := FW p v x) (fun g _ hS => hS.elim .inl (fun e => .inr (.inl e)))).trans k2 (fun g _ hS e => hS (.inr (.inr e)))
  · rcases hg' with rfl | hg' | hg'
    · exact .inl (.inl rfl)
    · rcases k.fresh with hf' | ⟨g', hf', hge⟩
      · exact .inl (.inr (.inl (hf' ▸ hg')))
      · rw [hf'] at hg'
        have := Option.some.inj hg'
        exact .inr (by omega)
    · rcases hf with hf' | ⟨g', hf', hge⟩
      · exact .inl (.inr (.inr (hf' ▸ hg')))
      · rw [hf'] at hg'
        have := Option.some.inj hg'
        have := k.kept.size
        exact .inr (by omega)

/-- the blocks of a reader and of the answer's -/
def FR (r p : Nat) (a b : Value) (g : Nat) : Prop := g = r ∨ g = p ∨ a.ownBlock = some g ∨ b.ownBlock = some g
structure GR (w : World) (B r : Nat) (ao1 : Option Addr) (cap1 p : Nat) (ao2 : Option Addr) (cap2 : Nat) (l : List Nat) (a : Nat) : Prop where
  r : ROk w B r ao1 cap1 l a
  p : POk w B p ao2 cap2 l a
theorem GR.lt {w : World} {B r : Nat} {ao1 : Option Addr} {cap1 p : Nat} {ao2 : Option Addr} {cap2 : Nat} {l : List Nat} {a : Nat} (h : GR w B r ao1 cap1 p ao2 cap2 l a) (g : Nat) (hg : FR r p (.slice ao1 l.length cap1) (.slice ao2 l.length cap2) g) : g < w.heap.size ∧ B ≤ g := by
  rcases hg with rfl | rfl | hg | hg
  · exact ⟨block_lt h.r.blk, h.r.hr⟩
  · exact ⟨block_lt h.p.blk, h.p.hp⟩
  · exact owns_lt h.r.own g hg
  · exact owns_lt h.p.own g hg
theorem GR.keep {w w' : World} {B r : Nat} {ao1 : Option Addr} {cap1 p : Nat} {ao2 : Option Addr} {cap2 : Nat} {l : List Nat} {a : Nat} (h : GR w B r ao1 cap1 p ao2 cap2 l a) {S : Nat → Prop} (k : KeptIn S w w') (hS : ∀ g, FR r p (.slice ao1 l.length cap1) (.slice ao2 l.length cap2) g → ¬ S g) : GR w' B r ao1 cap1 p ao2 cap2 l a :=
  ⟨h.r.later k (hS r (.inl rfl)) (fun g hg => hS g (.inr (.inr (.inl hg)))), h.p.later k (hS p (.inr (.inl rfl))) (fun g hg => hS g (.inr (.inr (.inr hg))))⟩
theorem GR.reads {w : World} {B r : Nat} {ao1 : Option Addr} {cap1 p : Nat} {ao2 : Option Addr} {cap2 : Nat} {l : List Nat} {a : Nat} (h : GR w B r ao1 cap1 p ao2 cap2 l a) (hT : Tabs w) (hB : B ≤ w.heap.size) (hl : l.length ≤ 1048576) (kind n : Int) (hn63 : n ≤ 9223372036854775807) :
    Calls Tryd.prog 20 #[.pointer (some ⟨r, 0, none⟩), .pointer (some ⟨p, 0, none⟩), .agg #[.int .i64 kind, .int .i64 n]] w fun e w' => e = .returned (.bool true) ∧ (∃ a', GR w' B r ao1 cap1 p ao2 cap2 l a') ∧ KeptIn (FR r p (.slice ao1 l.length cap1) (.slice ao2 l.length cap2)) w w' :=
  (readsB_any B w w r ao1 cap1 p ao2 cap2 l a kind n ⟨h.r, h.p, KeptIn.refl _ _, hB⟩ hT hl hn63).mono fun e w' hh => by
    obtain ⟨he, a', hb⟩ := hh
    exact ⟨he, ⟨a', hb.r, hb.p⟩, hb.bel.mono (fun g _ hS => hS.elim .inl (fun e => .inr (.inl e)))⟩

def Dis (F G : Nat → Prop) : Prop := ∀ g, F g → ¬ G g
theorem Dis.symm {F G : Nat → Prop} (h : Dis F G) : Dis G F := fun g a b => h g b a
theorem Dis.grow {F F' G : Nat → Prop} {n : Nat} (h : Dis F G) (hs : ∀ g, F' g → F g ∨ n ≤ g) (hG : ∀ g, G g → g < n) : Dis F' G := fun g hf hg => by
  rcases hs g hf with h1 | h1
  · exact h g h1 hg
  · have := hG g hg; omega

/-- the four that know nothing of one another -/
structure AI (w0 w : World) (pv : Nat) (v x : Value) (L1 : List Nat) (pw : Nat) (u y : Value) (L2 : List Nat) (r : Nat) (a1 : Option Addr) (c1 p : Nat) (a2 : Option Addr) (c2 : Nat) (lb : List Nat) (a : Nat) (s : Nat) (a3 : Option Addr) (c3 q : Nat) (a4 : Option Addr) (c4 : Nat) (lc : List Nat) (b : Nat) : Prop where
  g1 : GW w w0.heap.size pv v x L1
  g2 : GW w w0.heap.size pw u y L2
  g3 : GR w w0.heap.size r a1 c1 p a2 c2 lb a
  g4 : GR w w0.heap.size s a3 c3 q a4 c4 lc b
  d12 : Dis (FW pv v x) (FW pw u y)
  d13 : Dis (FW pv v x) (FR r p (.slice a1 lb.length c1) (.slice a2 lb.length c2))
  d14 : Dis (FW pv v x) (FR s q (.slice a3 lc.length c3) (.slice a4 lc.length c4))
  d23 : Dis (FW pw u y) (FR r p (.slice a1 lb.length c1) (.slice a2 lb.length c2))
  d24 : Dis (FW pw u y) (FR s q (.slice a3 lc.length c3) (.slice a4 lc.length c4))
  d34 : Dis (FR r p (.slice a1 lb.length c1) (.slice a2 lb.length c2)) (FR s q (.slice a3 lc.length c3) (.slice a4 lc.length c4))
  bel : Below w0.heap.size w0 w
variable {w0 w w' : World} {pv : Nat} {v x : Value} {L1 : List Nat} {pw : Nat} {u y : Value} {L2 : List Nat} {r : Nat} {a1 : Option Addr} {c1 p : Nat} {a2 : Option Addr} {c2 : Nat} {lb : List Nat} {a : Nat} {s : Nat} {a3 : Option Addr} {c3 q : Nat} {a4 : Option Addr} {c4 : Nat} {lc : List Nat} {b : Nat}
theorem AI.below (h : AI w0 w pv v x L1 pw u y L2 r a1 c1 p a2 c2 lb a s a3 c3 q a4 c4 lc b) (k : Below w.heap.size w w') : AI w0 w' pv v x L1 pw u y L2 r a1 c1 p a2 c2 lb a s a3 c3 q a4 c4 lc b :=
  have k' : KeptIn (fun _ => False) w w' := KeptIn.ofBelow k
  ⟨h.g1.keep k' (fun _ _ h => h), h.g2.keep k' (fun _ _ h => h), h.g3.keep k' (fun _ _ h => h), h.g4.keep k' (fun _ _ h => h), h.d12, h.d13, h.d14, h.d23, h.d24, h.d34, h.bel.trans (k.mono h.bel.size)⟩
theorem AI.act1 (h : AI w0 w pv v x L1 pw u y L2 r a1 c1 p a2 c2 lb a s a3 c3 q a4 c4 lc b) {v' x' : Value} {L' : List Nat} (hg : GW w' w0.heap.size pv v' x' L') (k : KeptIn (FW pv v x) w w') (hs : ∀ g, FW pv v' x' g → FW pv v x g ∨ w.heap.size ≤ g) : AI w0 w' pv v' x' L' pw u y L2 r a1 c1 p a2 c2 lb a s a3 c3 q a4 c4 lc b :=
  ⟨hg, h.g2.keep k h.d12.symm, h.g3.keep k h.d13.symm, h.g4.keep k h.d14.symm, h.d12.grow hs (fun g hg => (h.g2.lt g hg).1), h.d13.grow hs (fun g hg => (h.g3.lt g hg).1), h.d14.grow hs (fun g hg => (h.g4.lt g hg).1), h.d23, h.d24, h.d34, h.bel.trans (k.below h.bel.size (fun g hg e => by have := (h.g1.lt g e).2; omega))⟩
theorem AI.act2 (h : AI w0 w pv v x L1 pw u y L2 r a1 c1 p a2 c2 lb a s a3 c3 q a4 c4 lc b) {v' x' : Value} {L' : List Nat} (hg : GW w' w0.heap.size pw v' x' L') (k : KeptIn (FW pw u y) w w') (hs : ∀ g, FW pw v' x' g → FW pw u y g ∨ w.heap.size ≤ g) : AI w0 w' pv v x L1 pw v' x' L' r a1 c1 p a2 c2 lb a s a3 c3 q a4 c4 lc b :=
  ⟨h.g1.keep k h.d12, hg, h.g3.keep k h.d23.symm, h.g4.keep k h.d24.symm, (h.d12.symm.grow hs (fun g hg => (h.g1.lt g hg).1)).symm, h.d13, h.d14, h.d23.grow hs (fun g hg => (h.g3.lt g hg).1), h.d24.grow hs (fun g hg => (h.g4.lt g hg).1), h.d34, h.bel.trans (k.below h.bel.size (fun g hg e => by have := (h.g2.lt g e).2; omega))⟩
theorem AI.act3 (h : AI w0 w pv v x L1 pw u y L2 r a1 c1 p a2 c2 lb a s a3 c3 q a4 c4 lc b) {a' : Nat} (hg : GR w' w0.heap.size r a1 c1 p a2 c2 lb a') (k : KeptIn (FR r p (.slice a1 lb.length c1) (.slice a2 lb.length c2)) w w') : AI w0 w' pv v x L1 pw u y L2 r a1 c1 p a2 c2 lb a' s a3 c3 q a4 c4 lc b :=
  ⟨h.g1.keep k h.d13, h.g2.keep k h.d23, hg, h.g4.keep k h.d34.symm, h.d12, h.d13, h.d14, h.d23, h.d24, h.d34, h.bel.trans (k.below h.bel.size (fun g hg e => by have := (h.g3.lt g e).2; omega))⟩
theorem AI.act4 (h : AI w0 w pv v x L1 pw u y L2 r a1 c1 p a2 c2 lb a s a3 c3 q a4 c4 lc b) {b' : Nat} (hg : GR w' w0.heap.size s a3 c3 q a4 c4 lc b') (k : KeptIn (FR s q (.slice a3 lc.length c3) (.slice a4 lc.length c4)) w w') : AI w0 w' pv v x L1 pw u y L2 r a1 c1 p a2 c2 lb a s a3 c3 q a4 c4 lc b' :=
  ⟨h.g1.keep k h.d14, h.g2.keep k h.d24, h.g3.keep k h.d34, hg, h.d12, h.d13, h.d14, h.d23, h.d24, h.d34, h.bel.trans (k.below h.bel.size (fun g hg e => by have := (h.g4.lt g e).2; omega))⟩
/-- at the start each lies in a part of its own -/
theorem AI.start (hb : Below w0.heap.size w0 w) (g1 : GW w w0.heap.size pv (.slice none 0 0) (.slice none 0 0) []) (g2 : GW w w0.heap.size pw (.slice none 0 0) (.slice none 0 0) []) (g3 : GR w w0.heap.size r a1 c1 p a2 c2 lb 0) (g4 : GR w w0.heap.size s a3 c3 q a4 c4 lc 0) {z0 z1 z2 z3 : Nat} (hpv : pv < z0) (hpw : pv ≠ pw ∧ pw < z0)
    (hr : z0 ≤ r ∧ r < z1 ∧ ∀ g, (Value.slice a1 lb.length c1).ownBlock = some g → z0 ≤ g ∧ g < z1) (hs : z1 ≤ s ∧ s < z2 ∧ ∀ g, (Value.slice a3 lc.length c3).ownBlock = some g → z1 ≤ g ∧ g < z2)
    (hp : z2 ≤ p ∧ p < z3 ∧ ∀ g, (Value.slice a2 lb.length c2).ownBlock = some g → z2 ≤ g ∧ g < z3) (hq : z3 ≤ q ∧ ∀ g, (Value.slice a4 lc.length c4).ownBlock = some g → z3 ≤ g) :
    AI w0 w pv (.slice none 0 0) (.slice none 0 0) [] pw (.slice none 0 0) (.slice none 0 0) [] r a1 c1 p a2 c2 lb 0 s a3 c3 q a4 c4 lc 0 := by
  have f : ∀ k g, FW k (.slice none 0 0) (.slice none 0 0) g → g = k := fun k g h => by
    rcases h with h | h | h
    · exact h
    · simp [Value.ownBlock] at h
    · simp [Value.ownBlock] at h
  have f3 : ∀ g, FR r p (.slice a1 lb.length c1) (.slice a2 lb.length c2) g → (z0 ≤ g ∧ g < z1) ∨ (z2 ≤ g ∧ g < z3) := fun g h => by
    rcases h with rfl | rfl | h | h
    · exact .inl ⟨hr.1, hr.2.1⟩
    · exact .inr ⟨hp.1, hp.2.1⟩
    · exact .inl (hr.2.2 g h)
    · exact .inr (hp.2.2 g h)
  have f4 : ∀ g, FR s q (.slice a3 lc.length c3) (.slice a4 lc.length c4) g → (z1 ≤ g ∧ g < z2) ∨ z3 ≤ g := fun g h => by
    rcases h with rfl | rfl | h | h
    · exact .inl ⟨hs.1, hs.2.1⟩
    · exact .inr hq.1
    · exact .inl (hs.2.2 g h)
    · exact .inr (hq.2 g h)
  have o1 := hr.1
  have o2 := hr.2.1
  have o3 := hs.1
  have o4 := hs.2.1
  have o5 := hp.1
  have o6 := hp.2.1
  refine ⟨g1, g2, g3, g4, fun g h1 h2 => ?_, fun g h1 h2 => ?_, fun g h1 h2 => ?_, fun g h1 h2 => ?_, fun g h1 h2 => ?_, fun g h1 h2 => ?_, hb⟩
  · have := f _ _ h1; have := f _ _ h2; omega
  · have := f _ _ h1; have := f3 _ h2; omega
  · have := f _ _ h1; have := f4 _ h2; omega
  · have := f _ _ h1; have := f3 _ h2; omega
  · have := f _ _ h1; have := f4 _ h2; omega
  · have := f3 _ h1; have := f4 _ h2; omega
end Go.Proofs.YtpkobgnbjmefnabDoor
