import Derived.Test.YtpkobgnbjmefnabDoorApI
import Derived.Test.YtpkobgnbjmefnabDoorHeadsW
namespace Go.Proofs.YtpkobgnbjmefnabDoor
open Go.RowKit
set_option linter.unusedVariables false
set_option maxRecDepth 100000

theorem belowF (w : World) (q : Nat) : Below w.heap.size w (w.drewN q) := ⟨rfl, rfl, rfl, Nat.le_refl _, fun _ _ => rfl⟩
theorem sameX_own {w : World} {B1 B2 : Nat} {v1 v2 : Value} {l : List Nat} (h1 : w.ownsRow B1 5 1 v1 l.length (l.map bv)) (h2 : w.ownsRow B2 5 1 v2 l.length (l.map bv)) (hlt : ∀ x ∈ l, x < 256) (hn : l.length ≤ 140737488351232) :
    Calls Tryd.prog 22 #[v1, v2] w fun e w' => e = .returned (.bool true) ∧ ∃ q, w' = w.drewN q := by
  obtain ⟨b1, d1, rfl, r1⟩ := BRow.own h1 hlt hn
  obtain ⟨b2, d2, rfl, r2⟩ := BRow.own h2 hlt hn
  have := same_any _ _ _ _ l l w r1 r2
  rwa [decide_eq_true rfl] at this
theorem min_up {k m : Nat} (h : k < m) : min (k + 1) m = min k m + 1 ∧ min k m = k := by omega
theorem min_st {k m : Nat} (h : ¬ k < m) : min (k + 1) m = min k m := by omega
theorem GW.pre {w w2 : World} {B pv : Nat} {v x v2 : Value} {L m : List Nat} {ab : Option Addr} {cb : Nat} (h : GW w B pv v x L) (hm : ∀ y ∈ m, y < 256) (hl : m.length ≤ 140737488351232) (ho : w2.ownsRow w.heap.size 5 1 (.slice ab m.length cb) m.length (m.map bv)) (hp : WPost w w2 B pv v v2 (L ++ m)) :
    BRow w2 ab cb m ∧ w2.ownsRow B 5 1 x L.length (L.map bv) ∧ w.heap.size ≤ w2.heap.size := by
  have hxp := blk_type h.all h.wok.blk (by decide)
  refine ⟨?_, owns_same h.all fun g hg' => hp.kept.block g (owns_lt h.all g hg').1 (fun hS => hS.elim (fun e => hxp (by rw [hg', e])) (fun e => h.sep g e hg')), hp.kept.size⟩
  obtain ⟨b1, d1, e1, r1⟩ := BRow.own ho hm hl
  simp only [Value.slice.injEq] at e1
  obtain ⟨rfl, _, rfl⟩ := e1
  exact r1
/-- a script, as it lies in the heap -/
def ScriptAt (w : World) (sao : Option Addr) (m : Nat) (X : Nat → Item) : Prop :=
  ∀ i, i < m → ∃ sb so, sao = some ⟨sb, so, none⟩ ∧ ∀ i, i < m → (∀ j u, (X i).cells[j]? = some u → w.cell? ⟨sb, so + i * 5 + j, none⟩ = some u) ∧ BRow w (X i).ao (X i).cap (X i).b ∧ (X i).v < 18446744073709551616 ∧ (X i).s.size ≤ 1048576 ∧ (X i).b.length ≤ 1048576
def TurnsAt (w : World) (sao : Option Addr) (m : Nat) (Z : Nat → Int × Int) : Prop :=
  ∀ i, i < m → ∃ sb so, sao = some ⟨sb, so, none⟩ ∧ ∀ i, i < m → w.cell? ⟨sb, so + i * 2, none⟩ = some (.int .i64 (Z i).1) ∧ w.cell? ⟨sb, so + i * 2 + 1, none⟩ = some (.int .i64 (Z i).2) ∧ (Z i).2 ≤ 9223372036854775807
theorem ScriptAt.len {w : World} {sao : Option Addr} {m : Nat} {X : Nat → Item} (h : ScriptAt w sao m X) (hm : m ≤ 1048576) (k : Nat) (hk : k ≤ m) : (wrAll X k).length ≤ 2199023255552 := by
  refine Nat.le_trans (wrAll_len X k (fun i hi => ?_)) (by omega)
  obtain ⟨_, _, _, h'⟩ := h i (by omega)
  exact (h' i (by omega)).2.2.2.2
theorem ScriptAt.later {w w' : World} {sao : Option Addr} {m : Nat} {X : Nat → Item} (h : ScriptAt w sao m X) (hb : Below w.heap.size w w') : ScriptAt w' sao m X := fun i hi => by
  obtain ⟨sb, so, e, h'⟩ := h i hi
  exact ⟨sb, so, e, fun i hi => ⟨fun j u hu => cell_later hb ((h' i hi).1 j u hu), (h' i hi).2.1.later hb, (h' i hi).2.2⟩⟩
theorem TurnsAt.later {w w' : World} {sao : Option Addr} {m : Nat} {Z : Nat → Int × Int} (h : TurnsAt w sao m Z) (hb : Below w.heap.size w w') : TurnsAt w' sao m Z := fun i hi => by
  obtain ⟨sb, so, e, h'⟩ := h i hi
  exact ⟨sb, so, e, fun i hi => ⟨cell_later hb (h' i hi).1, cell_later hb (h' i hi).2.1, (h' i hi).2.2⟩⟩
theorem wok_at (w : World) (B : Nat) (hB : B ≤ w.heap.size) : WOk (w.alloc (.cells #[.bool true, .slice none 0 0] 61)) B w.heap.size (.slice none 0 0) [] :=
  ⟨heap_new w _, World.ownsRow_nil _ _ _ _, fun x hx => by simp at hx, hB⟩

set_option maxHeartbeats 16000000 in
theorem apart_any (s1 s2 s3 bo co : Option Addr) (m1 m2 m3 k1 k2 k3 nb nc cb cc : Nat) (lb lc : List Nat) (X Y : Nat → Item) (Z : Nat → Int × Int) (w : World) (hm1 : m1 ≤ 1048576) (hm2 : m2 ≤ 1048576) (hm3 : m3 ≤ 1048576) (hb : BRow w bo cb lb) (hc : BRow w co cc lc) (HNb : Hid (lb.length = nb)) (HNc : Hid (lc.length = nc)) (hnb : nb ≤ 1048576) (hnc : nc ≤ 1048576) (hT : Tabs w)
    (HS1 : Hid (ScriptAt w s1 m1 X)) (HS2 : Hid (ScriptAt w s2 m2 Y)) (HS3 : Hid (TurnsAt w s3 m3 Z)) :
    Calls Tryd.prog 6 #[.agg #[.slice s1 m1 k1, .slice s2 m2 k2, .slice bo nb cb, .slice co nc cc, .slice s3 m3 k3]] w fun e w' => e = .returned (.bool true) ∧ Below w.heap.size w w' := by
  obtain ⟨i0, hi, hz0, hz1, hz2⟩ := info_parts Tryd.info5
  have HA0 : Hid (Below w.heap.size w (w.alloc (.cells #[.slice s1 m1 k1, .slice s2 m2 k2, .slice bo nb cb, .slice co nc cc, .slice s3 m3 k3] 40))) := (Below.refl _ _).alloc (Nat.le_refl _) _
  have HT : Hid (Tabs (w.alloc (.cells #[.slice s1 m1 k1, .slice s2 m2 k2, .slice bo nb cb, .slice co nc cc, .slice s3 m3 k3] 40))) := hT.later HA0.out
  have HB : Hid (BRow (w.alloc (.cells #[.slice s1 m1 k1, .slice s2 m2 k2, .slice bo nb cb, .slice co nc cc, .slice s3 m3 k3] 40)) bo cb lb) := hb.later HA0.out
  have HC : Hid (BRow (w.alloc (.cells #[.slice s1 m1 k1, .slice s2 m2 k2, .slice bo nb cb, .slice co nc cc, .slice s3 m3 k3] 40)) co cc lc) := hc.later HA0.out
  have HX : Hid (ScriptAt (w.alloc (.cells #[.slice s1 m1 k1, .slice s2 m2 k2, .slice bo nb cb, .slice co nc cc, .slice s3 m3 k3] 40)) s1 m1 X) := HS1.out.later HA0.out
  have HY : Hid (ScriptAt (w.alloc (.cells #[.slice s1 m1 k1, .slice s2 m2 k2, .slice bo nb cb, .slice co nc cc, .slice s3 m3 k3] 40)) s2 m2 Y) := HS2.out.later HA0.out
  have HZ : Hid (TurnsAt (w.alloc (.cells #[.slice s1 m1 k1, .slice s2 m2 k2, .slice bo nb cb, .slice co nc cc, .slice s3 m3 k3] 40)) s3 m3 Z) := HS3.out.later HA0.out
  have HTb : Hid (((w.alloc (.cells #[.slice s1 m1 k1, .slice s2 m2 k2, .slice bo nb cb, .slice co nc cc, .slice s3 m3 k3] 40))).heap[w.heap.size]? = some (.cells #[.slice s1 m1 k1, .slice s2 m2 k2, .slice bo nb cb, .slice co nc cc, .slice s3 m3 k3] 40)) := heap_new w _
  clear hT hb hc
  have HNW : Hid (∀ W : World, Calls Tryd.prog 16 #[] W fun e w' => e = .returned (.pointer (some ⟨W.heap.size, 0, none⟩)) ∧ w' = W.alloc (.cells #[.bool true, .slice none 0 0] 61)) := fun W => newWriter_any W
  go_enter Tryd.func6, Tryd.ntmps6
  go_wp2_with fail
  have HW0 : Hid (∃ W0, W0 = (w.alloc (.cells #[.slice s1 m1 k1, .slice s2 m2 k2, .slice bo nb cb, .slice co nc cc, .slice s3 m3 k3] 40))) := ⟨_, rfl⟩
  obtain ⟨W0, hW0⟩ := HW0.out
  rw [← hW0] at HA0 HT HB HC HX HY HZ HTb
  refine (HNW.out _).mono ?_
  rintro e w1 ⟨rfl, hw⟩
  rw [← hW0] at hw
  rw [← hW0]
  rw [hw]; clear hw hW0
  have HTc : Hid (∀ W, Below W0.heap.size W0 W → W.cell? ⟨w.heap.size, 0, none⟩ = some (.slice s1 m1 k1) ∧ W.cell? ⟨w.heap.size, 1, none⟩ = some (.slice s2 m2 k2) ∧ W.cell? ⟨w.heap.size, 2, none⟩ = some (.slice bo nb cb) ∧ W.cell? ⟨w.heap.size, 3, none⟩ = some (.slice co nc cc) ∧ W.cell? ⟨w.heap.size, 4, none⟩ = some (.slice s3 m3 k3)) := fun W hW => by
    have hb : W.heap[w.heap.size]? = some (.cells #[.slice s1 m1 k1, .slice s2 m2 k2, .slice bo nb cb, .slice co nc cc, .slice s3 m3 k3] 40) := by rw [hW.block _ (block_lt HTb.out)]; exact HTb.out
    refine ⟨?_, ?_, ?_, ?_, ?_⟩ <;> (rw [blk_at hb]; rfl)
  have HNr : Hid (∀ W, Below W0.heap.size W0 W → Calls Tryd.prog 17 #[.slice bo nb cb] W fun e w' => ∃ r ao' cap', e = .returned (.pointer (some ⟨r, 0, none⟩)) ∧ ROk w' W.heap.size r ao' cap' lb 0 ∧ Below W.heap.size W w') := fun W hW => newReader_any _ _ nb lb W (HB.out.later hW) HNb
  have HNs : Hid (∀ W, Below W0.heap.size W0 W → Calls Tryd.prog 17 #[.slice co nc cc] W fun e w' => ∃ r ao' cap', e = .returned (.pointer (some ⟨r, 0, none⟩)) ∧ ROk w' W.heap.size r ao' cap' lc 0 ∧ Below W.heap.size W w') := fun W hW => newReader_any _ _ nc lc W (HC.out.later hW) HNc
  have HCp : Hid (∀ W, Below W0.heap.size W0 W → Calls Tryd.prog 18 #[.slice bo nb cb] W fun e w' => ∃ ao' cap', e = .returned (.slice ao' nb cap') ∧ w'.ownsRow W.heap.size 5 1 (.slice ao' nb cap') nb (lb.map bv) ∧ Below W.heap.size W w') := fun W hW => by
    have := copy_any bo cb lb W (HB.out.later hW)
    rw [HNb.out] at this; exact this
  have HCq : Hid (∀ W, Below W0.heap.size W0 W → Calls Tryd.prog 18 #[.slice co nc cc] W fun e w' => ∃ ao' cap', e = .returned (.slice ao' nc cap') ∧ w'.ownsRow W.heap.size 5 1 (.slice ao' nc cap') nc (lc.map bv) ∧ Below W.heap.size W w') := fun W hW => by
    have := copy_any co cc lc W (HC.out.later hW)
    rw [HNc.out] at this; exact this
  have B1 : Hid (Below W0.heap.size W0 (W0.alloc (.cells #[.bool true, .slice none 0 0] 61))) := (Below.refl _ _).alloc (Nat.le_refl _) _
  have P1 : Hid (WOk (W0.alloc (.cells #[.bool true, .slice none 0 0] 61)) W0.heap.size W0.heap.size (.slice none 0 0) []) := wok_at W0 _ (Nat.le_refl _)
  have Z1 : Hid ((W0.alloc (.cells #[.bool true, .slice none 0 0] 61)).heap.size = W0.heap.size + 1) := World.size_alloc _ _
  generalize W0.alloc (.cells #[.bool true, .slice none 0 0] 61) = W1 at *
  go_wp2_with fail
  refine (HNW.out W1).mono ?_
  rintro e w2 ⟨rfl, hw⟩
  rw [hw]; clear hw
  have B2 : Hid (Below W0.heap.size W0 (W1.alloc (.cells #[.bool true, .slice none 0 0] 61))) := B1.out.alloc B1.out.size _
  have P2 : Hid (WOk (W1.alloc (.cells #[.bool true, .slice none 0 0] 61)) W0.heap.size W1.heap.size (.slice none 0 0) []) := wok_at W1 _ B1.out.size
  have P1' : Hid (WOk (W1.alloc (.cells #[.bool true, .slice none 0 0] 61)) W0.heap.size W0.heap.size (.slice none 0 0) []) := P1.out.later (S := fun _ => False) (KeptIn.ofBelow ((Below.refl _ _).alloc (Nat.le_refl _) _)) (fun h => h) (fun _ _ h => h)
  have Z2 : Hid ((W1.alloc (.cells #[.bool true, .slice none 0 0] 61)).heap.size = W0.heap.size + 2) := by show _ = _; rw [World.size_alloc, Z1.out]
  have hpw : W1.heap.size = W0.heap.size + 1 := Z1.out
  generalize W1.alloc (.cells #[.bool true, .slice none 0 0] 61) = W2 at *
  rw [hpw] at P2
  rw [hpw]
  clear hpw Z1
  obtain ⟨e0, e1, e2, e3, e4⟩ := HTc.out W2 B2.out
  go_wp2_with fail
  refine (HNr.out W2 B2.out).mono ?_
  rintro e w3 ⟨r, a1, c1, rfl, hr3, hb3⟩
  have R3 : Hid (ROk w3 W2.heap.size r a1 c1 lb 0) := hr3
  have K3 : Hid (Below W2.heap.size W2 w3) := hb3
  have B3 : Hid (Below W0.heap.size W0 w3) := B2.out.trans (hb3.mono B2.out.size)
  clear hr3 hb3 e0 e1 e2 e3 e4
  obtain ⟨e0, e1, e2, e3, e4⟩ := HTc.out w3 B3.out
  go_wp2_with fail
  refine (HNs.out w3 B3.out).mono ?_
  rintro e w4 ⟨s, a3, c3, rfl, hr4, hb4⟩
  have R4 : Hid (ROk w4 w3.heap.size s a3 c3 lc 0) := hr4
  have K4 : Hid (Below w3.heap.size w3 w4) := hb4
  have B4 : Hid (Below W0.heap.size W0 w4) := B3.out.trans (hb4.mono B3.out.size)
  clear hr4 hb4 e0 e1 e2 e3 e4
  obtain ⟨e0, e1, e2, e3, e4⟩ := HTc.out w4 B4.out
  go_wp2_with fail
  refine (HCp.out w4 B4.out).mono ?_
  rintro e w5 ⟨a2, c2, rfl, ho5, hb5⟩
  have O5 : Hid (w5.ownsRow w4.heap.size 5 1 (.slice a2 nb c2) nb (lb.map bv)) := ho5
  have K5 : Hid (Below w4.heap.size w4 (w5.alloc (.cells #[.slice a2 nb c2, .int .i64 0] 48))) := hb5.alloc hb5.size _
  have B5 : Hid (Below W0.heap.size W0 (w5.alloc (.cells #[.slice a2 nb c2, .int .i64 0] 48))) := B4.out.trans (K5.out.mono B4.out.size)
  have L5 : Hid (w4.heap.size ≤ w5.heap.size) := hb5.size
  have Q5 : Hid (POk (w5.alloc (.cells #[.slice a2 nb c2, .int .i64 0] 48)) W0.heap.size w5.heap.size a2 c2 lb 0) := by
    have hn := HNb.out
    subst hn
    exact ⟨heap_new w5 _, (owns_mono O5.out B4.out.size).alloc _, HB.out.lt, HB.out.len, Nat.zero_le _, Nat.le_trans B4.out.size hb5.size⟩
  have Z5 : Hid ((w5.alloc (.cells #[.slice a2 nb c2, .int .i64 0] 48)).heap.size = w5.heap.size + 1) := World.size_alloc _ _
  have B5o : Hid (Below W0.heap.size W0 w5) := B4.out.trans (hb5.mono B4.out.size)
  clear ho5 hb5 e0 e1 e2 e3 e4
  obtain ⟨e0, e1, e2, e3, e4⟩ := HTc.out w5 B5o.out
  obtain ⟨f0, f1, f2, f3, f4⟩ := HTc.out _ B5.out
  go_wp2_with fail
  refine (HCq.out _ B5.out).mono ?_
  clear e0 e1 e2 e3 e4 f0 f1 f2 f3 f4
  generalize w5.alloc (.cells #[.slice a2 nb c2, .int .i64 0] 48) = W5 at *
  rintro e w6 ⟨a4, c4, rfl, ho6, hb6⟩
  have O6 : Hid (w6.ownsRow W5.heap.size 5 1 (.slice a4 nc c4) nc (lc.map bv)) := ho6
  have K6 : Hid (Below W5.heap.size W5 (w6.alloc (.cells #[.slice a4 nc c4, .int .i64 0] 48))) := hb6.alloc hb6.size _
  have L6 : Hid (W5.heap.size ≤ w6.heap.size) := hb6.size
  have B6 : Hid (Below W0.heap.size W0 (w6.alloc (.cells #[.slice a4 nc c4, .int .i64 0] 48))) := B5.out.trans (K6.out.mono B5.out.size)
  have Q6 : Hid (POk (w6.alloc (.cells #[.slice a4 nc c4, .int .i64 0] 48)) W0.heap.size w6.heap.size a4 c4 lc 0) := by
    have hn := HNc.out
    subst hn
    exact ⟨heap_new w6 _, (owns_mono O6.out B5.out.size).alloc _, HC.out.lt, HC.out.len, Nat.zero_le _, Nat.le_trans B5.out.size hb6.size⟩
  clear ho6 hb6
  have HI0 : Hid (AI W0 (w6.alloc (.cells #[.slice a4 nc c4, .int .i64 0] 48)) W0.heap.size (.slice none 0 0) (.slice none 0 0) [] (W0.heap.size + 1) (.slice none 0 0) (.slice none 0 0) [] r a1 c1 w5.heap.size a2 c2 lb 0 s a3 c3 w6.heap.size a4 c4 lc 0) := by
    have k3 := K3.out
    have k4 := K4.out
    have k5 := K5.out
    have k6 := K6.out
    have z2 := Z2.out
    have n3 := k3.size
    have n4 := k4.size
    have n5 := L5.out
    have n6 := L6.out
    have z5 := Z5.out
    have t4 : Below w3.heap.size w3 (w6.alloc (.cells #[.slice a4 nc c4, .int .i64 0] 48)) := (k4.trans (k5.mono n4)).trans (k6.mono (by omega))
    have t5 : Below w4.heap.size w4 (w6.alloc (.cells #[.slice a4 nc c4, .int .i64 0] 48)) := k5.trans (k6.mono (by omega))
    have t2 : Below W2.heap.size W2 (w6.alloc (.cells #[.slice a4 nc c4, .int .i64 0] 48)) := k3.trans (t4.mono n3)
    have kb : ∀ {a b : World}, Below a.heap.size a b → KeptIn (fun _ => False) a b := fun h => KeptIn.ofBelow h
    have g1 : GW (w6.alloc (.cells #[.slice a4 nc c4, .int .i64 0] 48)) W0.heap.size W0.heap.size (.slice none 0 0) (.slice none 0 0) [] := ⟨P1'.out.later (kb t2) (fun h => h) (fun _ _ h => h), World.ownsRow_nil _ _ _ _, fun g h => by simp [Value.ownBlock] at h⟩
    have g2 : GW (w6.alloc (.cells #[.slice a4 nc c4, .int .i64 0] 48)) W0.heap.size (W0.heap.size + 1) (.slice none 0 0) (.slice none 0 0) [] := ⟨P2.out.later (kb t2) (fun h => h) (fun _ _ h => h), World.ownsRow_nil _ _ _ _, fun g h => by simp [Value.ownBlock] at h⟩
    have r3 := R3.out.later (kb t4) (fun h => h) (fun _ _ h => h)
    have r4 := R4.out.later (kb t5) (fun h => h) (fun _ _ h => h)
    have g3 : GR (w6.alloc (.cells #[.slice a4 nc c4, .int .i64 0] 48)) W0.heap.size r a1 c1 w5.heap.size a2 c2 lb 0 := ⟨⟨r3.blk, owns_mono r3.own B2.out.size, r3.lt, r3.len, r3.le, Nat.le_trans B2.out.size r3.hr⟩, Q5.out.later (kb k6) (fun h => h) (fun _ _ h => h)⟩
    have g4 : GR (w6.alloc (.cells #[.slice a4 nc c4, .int .i64 0] 48)) W0.heap.size s a3 c3 w6.heap.size a4 c4 lc 0 := ⟨⟨r4.blk, owns_mono r4.own B3.out.size, r4.lt, r4.len, r4.le, Nat.le_trans B3.out.size r4.hr⟩, Q6.out⟩
    have hnb' := HNb.out
    have hnc' := HNc.out
    refine AI.start (z0 := W2.heap.size) (z1 := w3.heap.size) (z2 := w4.heap.size) (z3 := W5.heap.size) B6.out g1 g2 g3 g4 (by omega) ⟨by omega, by omega⟩ ⟨R3.out.hr, block_lt R3.out.blk, fun g hg => ?_⟩ ⟨R4.out.hr, block_lt R4.out.blk, fun g hg => ?_⟩ ⟨by omega, by omega, fun g hg => ?_⟩ ⟨by omega, fun g hg => ?_⟩
    · have := owns_lt R3.out.own g hg; omega
    · have := owns_lt R4.out.own g hg; omega
    · rw [hnb'] at hg; have := owns_lt O5.out g hg; omega
    · rw [hnc'] at hg; have := owns_lt O6.out g hg; omega
  go_wp2
  go_loopw [9, 10, 11] (fun x y i wr => ∃ k a b : Nat, ∃ v u : Value, k ≤ m1 + m2 + m3 ∧ i = .int .i64 k ∧ AI W0 wr W0.heap.size v x (wrAll X (min k m1)) (W0.heap.size + 1) u y (wrAll Y (min k m2)) r a1 c1 w5.heap.size a2 c2 lb a s a3 c3 w6.heap.size a4 c4 lc b) (fun _ _ i _ => m1 + m2 + m3 - (intOf i).toNat)
  case atStart => exact ⟨0, 0, 0, _, _, Nat.zero_le _, rfl, by simpa [wrAll] using HI0.out⟩
  case round =>
    obtain ⟨k, a, b, v, u, hk, rfl, hinv⟩ := hrel
    obtain ⟨xa, xc, hx9⟩ := owns_form hinv.g1.all
    obtain ⟨ya, yc, hy9⟩ := owns_form hinv.g2.all
    subst hx9
    subst hy9
    have hlx := HX.out.len hm1 (min k m1) (Nat.min_le_right _ _)
    have hly := HY.out.len hm2 (min k m2) (Nat.min_le_right _ _)
    have hlx1 := HX.out.len hm1 (min (k + 1) m1) (Nat.min_le_right _ _)
    have hly1 := HY.out.len hm2 (min (k + 1) m2) (Nat.min_le_right _ _)
    generalize hLx : wrAll X (min k m1) = Lx at *
    generalize hLy : wrAll Y (min k m2) = Ly at *
    have HLx : Hid (wrAll X (min k m1) = Lx) := hLx
    have HLy : Hid (wrAll Y (min k m2) = Ly) := hLy
    clear hLx hLy
    have HI : Hid (AI W0 wr W0.heap.size v (.slice xa Lx.length xc) Lx (W0.heap.size + 1) u (.slice ya Ly.length yc) Ly r a1 c1 w5.heap.size a2 c2 lb a s a3 c3 w6.heap.size a4 c4 lc b) := hinv
    clear hinv
    obtain ⟨e0, e1, e2, e3, e4⟩ := HTc.out wr HI.out.bel
    by_cases h1 : k < m1
    · by_cases h2 : k < m2
      · by_cases h3 : k < m3
        · have t1 : decide ((k : Int) < (m1 : Int)) = true := by simp; omega
          have t2 : decide ((k : Int) < (m2 : Int)) = true := by simp; omega
          have t3 : decide ((k : Int) < (m3 : Int)) = true := by simp; omega
          obtain ⟨sb, so, rfl, hcs⟩ := HX.out k h1
          obtain ⟨hcell, hbr, hv64, hsz, hbl⟩ := hcs k h1
          have q0 : wr.cell? ⟨sb, so + k * 5, none⟩ = some (.int .i64 (X k).kind) := cell_later HI.out.bel (hcell 0 _ rfl)
          have q1 : wr.cell? ⟨sb, so + k * 5 + 1, none⟩ = some (.int .u64 ((X k).v : Int)) := cell_later HI.out.bel (hcell 1 _ rfl)
          have q2 : wr.cell? ⟨sb, so + k * 5 + 2, none⟩ = some (.int .i64 (X k).n) := cell_later HI.out.bel (hcell 2 _ rfl)
          have q3 : wr.cell? ⟨sb, so + k * 5 + 3, none⟩ = some (.slice (X k).ao (X k).b.length (X k).cap) := cell_later HI.out.bel (hcell 3 _ rfl)
          have q4 : wr.cell? ⟨sb, so + k * 5 + 4, none⟩ = some (.string (X k).s) := cell_later HI.out.bel (hcell 4 _ rfl)
          have HWr : Hid (Calls Tryd.prog 19 #[.pointer (some ⟨W0.heap.size, 0, none⟩), .agg #[.int .i64 (X k).kind, .int .u64 ((X k).v : Int), .int .i64 (X k).n, .slice (X k).ao (X k).b.length (X k).cap, .string (X k).s]] wr fun e w' => ∃ ao' cap' v', e = .returned (.tuple #[.slice ao' (X k).wr.length cap', .bool true]) ∧ w'.ownsRow wr.heap.size 5 1 (.slice ao' (X k).wr.length cap') (X k).wr.length ((X k).wr.map bv) ∧ WPost wr w' W0.heap.size W0.heap.size v v' (Lx ++ (X k).wr) ∧ Sep v' (.slice ao' (X k).wr.length cap')) :=
            written_any W0 wr W0.heap.size v Lx (X k) HI.out.g1.wok HI.out.bel HT.out hbr hv64 hsz hbl (by omega)
          have hml : (X k).wr.length ≤ 2097152 := wr_len (X k) hbl
          have HLt : Hid (∀ y ∈ (X k).wr, y < 256) := wr_lt (X k) hbr.lt
          have HLn : Hid (wrAll X (min (k + 1) m1) = Lx ++ (X k).wr) := by
            show wrAll X (min (k + 1) m1) = _
            rw [(min_up h1).1, ← HLx.out]
            show wrAll X (min k m1) ++ (X (min k m1)).wr = _
            rw [(min_up h1).2]
          clear hcs hcell hbr hv64 hsz hbl
          go_wp2_with fail
          refine HWr.out.mono ?_
          rintro e w10a ⟨ab, cb, v10, rfl, ho2, hp2, hs2⟩
          have HPr : Hid (BRow w10a ab cb (X k).wr ∧ w10a.ownsRow W0.heap.size 5 1 (.slice xa Lx.length xc) Lx.length (Lx.map bv) ∧ wr.heap.size ≤ w10a.heap.size) := HI.out.g1.pre HLt.out (by omega) ho2 hp2
          have HW2 : Hid (WPost wr w10a W0.heap.size W0.heap.size v v10 (Lx ++ (X k).wr)) := hp2
          have HZ2 : Hid (W0.heap.size ≤ w10a.heap.size) := Nat.le_trans HI.out.bel.size HPr.out.2.2
          have HDl : Hid ((X k).wr.length = (X k).wr.length) := rfl
          clear ho2 hp2 hs2 q0 q1 q2 q3 q4 e0 e1 e2 e3 e4
          go_wp2_with (at_builtin; refine wpList_append_two _ rfl _ _ 37 rfl W0.heap.size 5 i0 (.int .u8 0) 1 Tryd.underlying37 hi hz0 hz1 hz2 rfl (.slice xa Lx.length xc) Lx.length (Lx.map bv) rfl HPr.out.2.1 ab (X k).wr.length cb ((X k).wr.map bv) rfl HPr.out.1.nil' (by rw [List.length_map]) HPr.out.1.news (bv_one _) (by unfold maxLen; omega) (by omega) HZ2.out ?_)
          intro x3 w10b ho3 hg3 hf3
          obtain ⟨x10a, x10c, hx3⟩ := owns_form ho3
          subst hx3
          have H10 : Hid (AI W0 w10b W0.heap.size v10 (.slice x10a (Lx.length + (X k).wr.length) x10c) (wrAll X (min (k + 1) m1)) (W0.heap.size + 1) u (.slice ya Ly.length yc) Ly r a1 c1 w5.heap.size a2 c2 lb a s a3 c3 w6.heap.size a4 c4 lc b) := by
            have hw3 := HI.out.g1.write HW2.out hg3 ho3 hf3
            have h9 := HI.out.act1 hw3.1 hw3.2.1 hw3.2.2
            rwa [← HLn.out] at h9
          clear ho3 hg3 hf3
          obtain ⟨e0, e1, e2, e3, e4⟩ := HTc.out w10b H10.out.bel
          obtain ⟨sb, so, rfl, hcs⟩ := HY.out k h2
          obtain ⟨hcell, hbr, hv64, hsz, hbl⟩ := hcs k h2
          have q0 : w10b.cell? ⟨sb, so + k * 5, none⟩ = some (.int .i64 (Y k).kind) := cell_later H10.out.bel (hcell 0 _ rfl)
          have q1 : w10b.cell? ⟨sb, so + k * 5 + 1, none⟩ = some (.int .u64 ((Y k).v : Int)) := cell_later H10.out.bel (hcell 1 _ rfl)
          have q2 : w10b.cell? ⟨sb, so + k * 5 + 2, none⟩ = some (.int .i64 (Y k).n) := cell_later H10.out.bel (hcell 2 _ rfl)
          have q3 : w10b.cell? ⟨sb, so + k * 5 + 3, none⟩ = some (.slice (Y k).ao (Y k).b.length (Y k).cap) := cell_later H10.out.bel (hcell 3 _ rfl)
          have q4 : w10b.cell? ⟨sb, so + k * 5 + 4, none⟩ = some (.string (Y k).s) := cell_later H10.out.bel (hcell 4 _ rfl)
          have HWr : Hid (Calls Tryd.prog 19 #[.pointer (some ⟨(W0.heap.size + 1), 0, none⟩), .agg #[.int .i64 (Y k).kind, .int .u64 ((Y k).v : Int), .int .i64 (Y k).n, .slice (Y k).ao (Y k).b.length (Y k).cap, .string (Y k).s]] w10b fun e w' => ∃ ao' cap' v', e = .returned (.tuple #[.slice ao' (Y k).wr.length cap', .bool true]) ∧ w'.ownsRow w10b.heap.size 5 1 (.slice ao' (Y k).wr.length cap') (Y k).wr.length ((Y k).wr.map bv) ∧ WPost w10b w' W0.heap.size (W0.heap.size + 1) u v' (Ly ++ (Y k).wr) ∧ Sep v' (.slice ao' (Y k).wr.length cap')) :=
            written_any W0 w10b (W0.heap.size + 1) u Ly (Y k) H10.out.g2.wok H10.out.bel HT.out hbr hv64 hsz hbl (by omega)
          have hml : (Y k).wr.length ≤ 2097152 := wr_len (Y k) hbl
          have HLt : Hid (∀ y ∈ (Y k).wr, y < 256) := wr_lt (Y k) hbr.lt
          have HLn : Hid (wrAll Y (min (k + 1) m2) = Ly ++ (Y k).wr) := by
            show wrAll Y (min (k + 1) m2) = _
            rw [(min_up h2).1, ← HLy.out]
            show wrAll Y (min k m2) ++ (Y (min k m2)).wr = _
            rw [(min_up h2).2]
          clear hcs hcell hbr hv64 hsz hbl
          go_wp2_with fail
          refine HWr.out.mono ?_
          rintro e w11a ⟨ab, cb, v11, rfl, ho2, hp2, hs2⟩
          have HPr : Hid (BRow w11a ab cb (Y k).wr ∧ w11a.ownsRow W0.heap.size 5 1 (.slice ya Ly.length yc) Ly.length (Ly.map bv) ∧ w10b.heap.size ≤ w11a.heap.size) := H10.out.g2.pre HLt.out (by omega) ho2 hp2
          have HW2 : Hid (WPost w10b w11a W0.heap.size (W0.heap.size + 1) u v11 (Ly ++ (Y k).wr)) := hp2
          have HZ2 : Hid (W0.heap.size ≤ w11a.heap.size) := Nat.le_trans H10.out.bel.size HPr.out.2.2
          have HDl : Hid ((Y k).wr.length = (Y k).wr.length) := rfl
          clear ho2 hp2 hs2 q0 q1 q2 q3 q4 e0 e1 e2 e3 e4
          go_wp2_with (at_builtin; refine wpList_append_two _ rfl _ _ 37 rfl W0.heap.size 5 i0 (.int .u8 0) 1 Tryd.underlying37 hi hz0 hz1 hz2 rfl (.slice ya Ly.length yc) Ly.length (Ly.map bv) rfl HPr.out.2.1 ab (Y k).wr.length cb ((Y k).wr.map bv) rfl HPr.out.1.nil' (by rw [List.length_map]) HPr.out.1.news (bv_one _) (by unfold maxLen; omega) (by omega) HZ2.out ?_)
          intro x3 w11b ho3 hg3 hf3
          obtain ⟨x11a, x11c, hx3⟩ := owns_form ho3
          subst hx3
          have H11 : Hid (AI W0 w11b W0.heap.size v10 (.slice x10a (Lx.length + (X k).wr.length) x10c) (wrAll X (min (k + 1) m1)) (W0.heap.size + 1) v11 (.slice x11a (Ly.length + (Y k).wr.length) x11c) (wrAll Y (min (k + 1) m2)) r a1 c1 w5.heap.size a2 c2 lb a s a3 c3 w6.heap.size a4 c4 lc b) := by
            have hw3 := H10.out.g2.write HW2.out hg3 ho3 hf3
            have h9 := H10.out.act2 hw3.1 hw3.2.1 hw3.2.2
            rwa [← HLn.out] at h9
          clear ho3 hg3 hf3
          obtain ⟨e0, e1, e2, e3, e4⟩ := HTc.out w11b H11.out.bel
          obtain ⟨tbb, tof, rfl, hct⟩ := HZ.out k h3
          obtain ⟨hz0c, hz1c, hz63⟩ := hct k h3
          have HCz : Hid (∀ W, Below W0.heap.size W0 W → W.cell? ⟨tbb, tof + k * 2, none⟩ = some (.int .i64 (Z k).1) ∧ W.cell? ⟨tbb, tof + k * 2 + 1, none⟩ = some (.int .i64 (Z k).2)) := fun W hW => ⟨cell_later hW hz0c, cell_later hW hz1c⟩
          have HRd : Hid (∀ W {B r p c1 c2 a : Nat} {ao1 ao2 : Option Addr} {l : List Nat}, GR W B r ao1 c1 p ao2 c2 l a → Below W0.heap.size W0 W → B ≤ W.heap.size → l.length ≤ 1048576 → Calls Tryd.prog 20 #[.pointer (some ⟨r, 0, none⟩), .pointer (some ⟨p, 0, none⟩), .agg #[.int .i64 (Z k).1, .int .i64 (Z k).2]] W fun e w' => e = .returned (.bool true) ∧ (∃ a', GR w' B r ao1 c1 p ao2 c2 l a') ∧ KeptIn (FR r p (.slice ao1 l.length c1) (.slice ao2 l.length c2)) W w') := fun W _ _ _ _ _ _ _ _ _ hg hW hB hl => hg.reads (HT.out.later hW) hB hl _ _ hz63
          clear hct hz0c hz1c hz63
          generalize (Z k).1 = zk at *
          generalize (Z k).2 = zn at *
          obtain ⟨z0, z1⟩ := HCz.out w11b H11.out.bel
          go_wp2_with fail
          refine (HRd.out w11b H11.out.g3 H11.out.bel H11.out.bel.size (by rw [HNb.out]; exact hnb)).mono ?_
          rintro e w12r ⟨rfl, ⟨a12, hg9⟩, hk9⟩
          have HR12 : Hid (AI W0 w12r W0.heap.size v10 (.slice x10a (Lx.length + (X k).wr.length) x10c) (wrAll X (min (k + 1) m1)) (W0.heap.size + 1) v11 (.slice x11a (Ly.length + (Y k).wr.length) x11c) (wrAll Y (min (k + 1) m2)) r a1 c1 w5.heap.size a2 c2 lb a12 s a3 c3 w6.heap.size a4 c4 lc b) := H11.out.act3 hg9 hk9
          clear hg9 hk9 z0 z1 e0 e1 e2 e3 e4
          obtain ⟨e0, e1, e2, e3, e4⟩ := HTc.out w12r HR12.out.bel
          obtain ⟨z0, z1⟩ := HCz.out w12r HR12.out.bel
          go_wp2_with fail
          refine (HRd.out w12r HR12.out.g4 HR12.out.bel HR12.out.bel.size (by rw [HNc.out]; exact hnc)).mono ?_
          rintro e w12s ⟨rfl, ⟨b12, hg9⟩, hk9⟩
          have HS12 : Hid (AI W0 w12s W0.heap.size v10 (.slice x10a (Lx.length + (X k).wr.length) x10c) (wrAll X (min (k + 1) m1)) (W0.heap.size + 1) v11 (.slice x11a (Ly.length + (Y k).wr.length) x11c) (wrAll Y (min (k + 1) m2)) r a1 c1 w5.heap.size a2 c2 lb a12 s a3 c3 w6.heap.size a4 c4 lc b12) := HR12.out.act4 hg9 hk9
          clear hg9 hk9 z0 z1 e0 e1 e2 e3 e4
          obtain ⟨e0, e1, e2, e3, e4⟩ := HTc.out w12s HS12.out.bel
          go_wp2
          go_roundw
          case rel => exact ⟨k + 1, a12, b12, _, _, by omega, by go_num, HS12.out⟩
          case measure => simp [intOf]; omega
        · have t1 : decide ((k : Int) < (m1 : Int)) = true := by simp; omega
          have t2 : decide ((k : Int) < (m2 : Int)) = true := by simp; omega
          have t3 : decide ((k : Int) < (m3 : Int)) = false := by simp; omega
          obtain ⟨sb, so, rfl, hcs⟩ := HX.out k h1
          obtain ⟨hcell, hbr, hv64, hsz, hbl⟩ := hcs k h1
          have q0 : wr.cell? ⟨sb, so + k * 5, none⟩ = some (.int .i64 (X k).kind) := cell_later HI.out.bel (hcell 0 _ rfl)
          have q1 : wr.cell? ⟨sb, so + k * 5 + 1, none⟩ = some (.int .u64 ((X k).v : Int)) := cell_later HI.out.bel (hcell 1 _ rfl)
          have q2 : wr.cell? ⟨sb, so + k * 5 + 2, none⟩ = some (.int .i64 (X k).n) := cell_later HI.out.bel (hcell 2 _ rfl)
          have q3 : wr.cell? ⟨sb, so + k * 5 + 3, none⟩ = some (.slice (X k).ao (X k).b.length (X k).cap) := cell_later HI.out.bel (hcell 3 _ rfl)
          have q4 : wr.cell? ⟨sb, so + k * 5 + 4, none⟩ = some (.string (X k).s) := cell_later HI.out.bel (hcell 4 _ rfl)
          have HWr : Hid (Calls Tryd.prog 19 #[.pointer (some ⟨W0.heap.size, 0, none⟩), .agg #[.int .i64 (X k).kind, .int .u64 ((X k).v : Int), .int .i64 (X k).n, .slice (X k).ao (X k).b.length (X k).cap, .string (X k).s]] wr fun e w' => ∃ ao' cap' v', e = .returned (.tuple #[.slice ao' (X k).wr.length cap', .bool true]) ∧ w'.ownsRow wr.heap.size 5 1 (.slice ao' (X k).wr.length cap') (X k).wr.length ((X k).wr.map bv) ∧ WPost wr w' W0.heap.size W0.heap.size v v' (Lx ++ (X k).wr) ∧ Sep v' (.slice ao' (X k).wr.length cap')) :=
            written_any W0 wr W0.heap.size v Lx (X k) HI.out.g1.wok HI.out.bel HT.out hbr hv64 hsz hbl (by omega)
          have hml : (X k).wr.length ≤ 2097152 := wr_len (X k) hbl
          have HLt : Hid (∀ y ∈ (X k).wr, y < 256) := wr_lt (X k) hbr.lt
          have HLn : Hid (wrAll X (min (k + 1) m1) = Lx ++ (X k).wr) := by
            show wrAll X (min (k + 1) m1) = _
            rw [(min_up h1).1, ← HLx.out]
            show wrAll X (min k m1) ++ (X (min k m1)).wr = _
            rw [(min_up h1).2]
          clear hcs hcell hbr hv64 hsz hbl
          go_wp2_with fail
          refine HWr.out.mono ?_
          rintro e w10a ⟨ab, cb, v10, rfl, ho2, hp2, hs2⟩
          have HPr : Hid (BRow w10a ab cb (X k).wr ∧ w10a.ownsRow W0.heap.size 5 1 (.slice xa Lx.length xc) Lx.length (Lx.map bv) ∧ wr.heap.size ≤ w10a.heap.size) := HI.out.g1.pre HLt.out (by omega) ho2 hp2
          have HW2 : Hid (WPost wr w10a W0.heap.size W0.heap.size v v10 (Lx ++ (X k).wr)) := hp2
          have HZ2 : Hid (W0.heap.size ≤ w10a.heap.size) := Nat.le_trans HI.out.bel.size HPr.out.2.2
          have HDl : Hid ((X k).wr.length = (X k).wr.length) := rfl
          clear ho2 hp2 hs2 q0 q1 q2 q3 q4 e0 e1 e2 e3 e4
          go_wp2_with (at_builtin; refine wpList_append_two _ rfl _ _ 37 rfl W0.heap.size 5 i0 (.int .u8 0) 1 Tryd.underlying37 hi hz0 hz1 hz2 rfl (.slice xa Lx.length xc) Lx.length (Lx.map bv) rfl HPr.out.2.1 ab (X k).wr.length cb ((X k).wr.map bv) rfl HPr.out.1.nil' (by rw [List.length_map]) HPr.out.1.news (bv_one _) (by unfold maxLen; omega) (by omega) HZ2.out ?_)
          intro x3 w10b ho3 hg3 hf3
          obtain ⟨x10a, x10c, hx3⟩ := owns_form ho3
          subst hx3
          have H10 : Hid (AI W0 w10b W0.heap.size v10 (.slice x10a (Lx.length + (X k).wr.length) x10c) (wrAll X (min (k + 1) m1)) (W0.heap.size + 1) u (.slice ya Ly.length yc) Ly r a1 c1 w5.heap.size a2 c2 lb a s a3 c3 w6.heap.size a4 c4 lc b) := by
            have hw3 := HI.out.g1.write HW2.out hg3 ho3 hf3
            have h9 := HI.out.act1 hw3.1 hw3.2.1 hw3.2.2
            rwa [← HLn.out] at h9
          clear ho3 hg3 hf3
          obtain ⟨e0, e1, e2, e3, e4⟩ := HTc.out w10b H10.out.bel
          obtain ⟨sb, so, rfl, hcs⟩ := HY.out k h2
          obtain ⟨hcell, hbr, hv64, hsz, hbl⟩ := hcs k h2
          have q0 : w10b.cell? ⟨sb, so + k * 5, none⟩ = some (.int .i64 (Y k).kind) := cell_later H10.out.bel (hcell 0 _ rfl)
          have q1 : w10b.cell? ⟨sb, so + k * 5 + 1, none⟩ = some (.int .u64 ((Y k).v : Int)) := cell_later H10.out.bel (hcell 1 _ rfl)
          have q2 : w10b.cell? ⟨sb, so + k * 5 + 2, none⟩ = some (.int .i64 (Y k).n) := cell_later H10.out.bel (hcell 2 _ rfl)
          have q3 : w10b.cell? ⟨sb, so + k * 5 + 3, none⟩ = some (.slice (Y k).ao (Y k).b.length (Y k).cap) := cell_later H10.out.bel (hcell 3 _ rfl)
          have q4 : w10b.cell? ⟨sb, so + k * 5 + 4, none⟩ = some (.string (Y k).s) := cell_later H10.out.bel (hcell 4 _ rfl)
          have HWr : Hid (Calls Tryd.prog 19 #[.pointer (some ⟨(W0.heap.size + 1), 0, none⟩), .agg #[.int .i64 (Y k).kind, .int .u64 ((Y k).v : Int), .int .i64 (Y k).n, .slice (Y k).ao (Y k).b.length (Y k).cap, .string (Y k).s]] w10b fun e w' => ∃ ao' cap' v', e = .returned (.tuple #[.slice ao' (Y k).wr.length cap', .bool true]) ∧ w'.ownsRow w10b.heap.size 5 1 (.slice ao' (Y k).wr.length cap') (Y k).wr.length ((Y k).wr.map bv) ∧ WPost w10b w' W0.heap.size (W0.heap.size + 1) u v' (Ly ++ (Y k).wr) ∧ Sep v' (.slice ao' (Y k).wr.length cap')) :=
            written_any W0 w10b (W0.heap.size + 1) u Ly (Y k) H10.out.g2.wok H10.out.bel HT.out hbr hv64 hsz hbl (by omega)
          have hml : (Y k).wr.length ≤ 2097152 := wr_len (Y k) hbl
          have HLt : Hid (∀ y ∈ (Y k).wr, y < 256) := wr_lt (Y k) hbr.lt
          have HLn : Hid (wrAll Y (min (k + 1) m2) = Ly ++ (Y k).wr) := by
            show wrAll Y (min (k + 1) m2) = _
            rw [(min_up h2).1, ← HLy.out]
            show wrAll Y (min k m2) ++ (Y (min k m2)).wr = _
            rw [(min_up h2).2]
          clear hcs hcell hbr hv64 hsz hbl
          go_wp2_with fail
          refine HWr.out.mono ?_
          rintro e w11a ⟨ab, cb, v11, rfl, ho2, hp2, hs2⟩
          have HPr : Hid (BRow w11a ab cb (Y k).wr ∧ w11a.ownsRow W0.heap.size 5 1 (.slice ya Ly.length yc) Ly.length (Ly.map bv) ∧ w10b.heap.size ≤ w11a.heap.size) := H10.out.g2.pre HLt.out (by omega) ho2 hp2
          have HW2 : Hid (WPost w10b w11a W0.heap.size (W0.heap.size + 1) u v11 (Ly ++ (Y k).wr)) := hp2
          have HZ2 : Hid (W0.heap.size ≤ w11a.heap.size) := Nat.le_trans H10.out.bel.size HPr.out.2.2
          have HDl : Hid ((Y k).wr.length = (Y k).wr.length) := rfl
          clear ho2 hp2 hs2 q0 q1 q2 q3 q4 e0 e1 e2 e3 e4
          go_wp2_with (at_builtin; refine wpList_append_two _ rfl _ _ 37 rfl W0.heap.size 5 i0 (.int .u8 0) 1 Tryd.underlying37 hi hz0 hz1 hz2 rfl (.slice ya Ly.length yc) Ly.length (Ly.map bv) rfl HPr.out.2.1 ab (Y k).wr.length cb ((Y k).wr.map bv) rfl HPr.out.1.nil' (by rw [List.length_map]) HPr.out.1.news (bv_one _) (by unfold maxLen; omega) (by omega) HZ2.out ?_)
          intro x3 w11b ho3 hg3 hf3
          obtain ⟨x11a, x11c, hx3⟩ := owns_form ho3
          subst hx3
          have H11 : Hid (AI W0 w11b W0.heap.size v10 (.slice x10a (Lx.length + (X k).wr.length) x10c) (wrAll X (min (k + 1) m1)) (W0.heap.size + 1) v11 (.slice x11a (Ly.length + (Y k).wr.length) x11c) (wrAll Y (min (k + 1) m2)) r a1 c1 w5.heap.size a2 c2 lb a s a3 c3 w6.heap.size a4 c4 lc b) := by
            have hw3 := H10.out.g2.write HW2.out hg3 ho3 hf3
            have h9 := H10.out.act2 hw3.1 hw3.2.1 hw3.2.2
            rwa [← HLn.out] at h9
          clear ho3 hg3 hf3
          obtain ⟨e0, e1, e2, e3, e4⟩ := HTc.out w11b H11.out.bel
          go_wp2
          go_roundw
          case rel => exact ⟨k + 1, a, b, _, _, by omega, by go_num, H11.out⟩
          case measure => simp [intOf]; omega
      · by_cases h3 : k < m3
        · have t1 : decide ((k : Int) < (m1 : Int)) = true := by simp; omega
          have t2 : decide ((k : Int) < (m2 : Int)) = false := by simp; omega
          have t3 : decide ((k : Int) < (m3 : Int)) = true := by simp; omega
          obtain ⟨sb, so, rfl, hcs⟩ := HX.out k h1
          obtain ⟨hcell, hbr, hv64, hsz, hbl⟩ := hcs k h1
          have q0 : wr.cell? ⟨sb, so + k * 5, none⟩ = some (.int .i64 (X k).kind) := cell_later HI.out.bel (hcell 0 _ rfl)
          have q1 : wr.cell? ⟨sb, so + k * 5 + 1, none⟩ = some (.int .u64 ((X k).v : Int)) := cell_later HI.out.bel (hcell 1 _ rfl)
          have q2 : wr.cell? ⟨sb, so + k * 5 + 2, none⟩ = some (.int .i64 (X k).n) := cell_later HI.out.bel (hcell 2 _ rfl)
          have q3 : wr.cell? ⟨sb, so + k * 5 + 3, none⟩ = some (.slice (X k).ao (X k).b.length (X k).cap) := cell_later HI.out.bel (hcell 3 _ rfl)
          have q4 : wr.cell? ⟨sb, so + k * 5 + 4, none⟩ = some (.string (X k).s) := cell_later HI.out.bel (hcell 4 _ rfl)
          have HWr : Hid (Calls Tryd.prog 19 #[.pointer (some ⟨W0.heap.size, 0, none⟩), .agg #[.int .i64 (X k).kind, .int .u64 ((X k).v : Int), .int .i64 (X k).n, .slice (X k).ao (X k).b.length (X k).cap, .string (X k).s]] wr fun e w' => ∃ ao' cap' v', e = .returned (.tuple #[.slice ao' (X k).wr.length cap', .bool true]) ∧ w'.ownsRow wr.heap.size 5 1 (.slice ao' (X k).wr.length cap') (X k).wr.length ((X k).wr.map bv) ∧ WPost wr w' W0.heap.size W0.heap.size v v' (Lx ++ (X k).wr) ∧ Sep v' (.slice ao' (X k).wr.length cap')) :=
            written_any W0 wr W0.heap.size v Lx (X k) HI.out.g1.wok HI.out.bel HT.out hbr hv64 hsz hbl (by omega)
          have hml : (X k).wr.length ≤ 2097152 := wr_len (X k) hbl
          have HLt : Hid (∀ y ∈ (X k).wr, y < 256) := wr_lt (X k) hbr.lt
          have HLn : Hid (wrAll X (min (k + 1) m1) = Lx ++ (X k).wr) := by
            show wrAll X (min (k + 1) m1) = _
            rw [(min_up h1).1, ← HLx.out]
            show wrAll X (min k m1) ++ (X (min k m1)).wr = _
            rw [(min_up h1).2]
          clear hcs hcell hbr hv64 hsz hbl
          go_wp2_with fail
          refine HWr.out.mono ?_
          rintro e w10a ⟨ab, cb, v10, rfl, ho2, hp2, hs2⟩
          have HPr : Hid (BRow w10a ab cb (X k).wr ∧ w10a.ownsRow W0.heap.size 5 1 (.slice xa Lx.length xc) Lx.length (Lx.map bv) ∧ wr.heap.size ≤ w10a.heap.size) := HI.out.g1.pre HLt.out (by omega) ho2 hp2
          have HW2 : Hid (WPost wr w10a W0.heap.size W0.heap.size v v10 (Lx ++ (X k).wr)) := hp2
          have HZ2 : Hid (W0.heap.size ≤ w10a.heap.size) := Nat.le_trans HI.out.bel.size HPr.out.2.2
          have HDl : Hid ((X k).wr.length = (X k).wr.length) := rfl
          clear ho2 hp2 hs2 q0 q1 q2 q3 q4 e0 e1 e2 e3 e4
          go_wp2_with (at_builtin; refine wpList_append_two _ rfl _ _ 37 rfl W0.heap.size 5 i0 (.int .u8 0) 1 Tryd.underlying37 hi hz0 hz1 hz2 rfl (.slice xa Lx.length xc) Lx.length (Lx.map bv) rfl HPr.out.2.1 ab (X k).wr.length cb ((X k).wr.map bv) rfl HPr.out.1.nil' (by rw [List.length_map]) HPr.out.1.news (bv_one _) (by unfold maxLen; omega) (by omega) HZ2.out ?_)
          intro x3 w10b ho3 hg3 hf3
          obtain ⟨x10a, x10c, hx3⟩ := owns_form ho3
          subst hx3
          have H10 : Hid (AI W0 w10b W0.heap.size v10 (.slice x10a (Lx.length + (X k).wr.length) x10c) (wrAll X (min (k + 1) m1)) (W0.heap.size + 1) u (.slice ya Ly.length yc) Ly r a1 c1 w5.heap.size a2 c2 lb a s a3 c3 w6.heap.size a4 c4 lc b) := by
            have hw3 := HI.out.g1.write HW2.out hg3 ho3 hf3
            have h9 := HI.out.act1 hw3.1 hw3.2.1 hw3.2.2
            rwa [← HLn.out] at h9
          clear ho3 hg3 hf3
          obtain ⟨e0, e1, e2, e3, e4⟩ := HTc.out w10b H10.out.bel
          obtain ⟨tbb, tof, rfl, hct⟩ := HZ.out k h3
          obtain ⟨hz0c, hz1c, hz63⟩ := hct k h3
          have HCz : Hid (∀ W, Below W0.heap.size W0 W → W.cell? ⟨tbb, tof + k * 2, none⟩ = some (.int .i64 (Z k).1) ∧ W.cell? ⟨tbb, tof + k * 2 + 1, none⟩ = some (.int .i64 (Z k).2)) := fun W hW => ⟨cell_later hW hz0c, cell_later hW hz1c⟩
          have HRd : Hid (∀ W {B r p c1 c2 a : Nat} {ao1 ao2 : Option Addr} {l : List Nat}, GR W B r ao1 c1 p ao2 c2 l a → Below W0.heap.size W0 W → B ≤ W.heap.size → l.length ≤ 1048576 → Calls Tryd.prog 20 #[.pointer (some ⟨r, 0, none⟩), .pointer (some ⟨p, 0, none⟩), .agg #[.int .i64 (Z k).1, .int .i64 (Z k).2]] W fun e w' => e = .returned (.bool true) ∧ (∃ a', GR w' B r ao1 c1 p ao2 c2 l a') ∧ KeptIn (FR r p (.slice ao1 l.length c1) (.slice ao2 l.length c2)) W w') := fun W _ _ _ _ _ _ _ _ _ hg hW hB hl => hg.reads (HT.out.later hW) hB hl _ _ hz63
          clear hct hz0c hz1c hz63
          generalize (Z k).1 = zk at *
          generalize (Z k).2 = zn at *
          obtain ⟨z0, z1⟩ := HCz.out w10b H10.out.bel
          go_wp2_with fail
          refine (HRd.out w10b H10.out.g3 H10.out.bel H10.out.bel.size (by rw [HNb.out]; exact hnb)).mono ?_
          rintro e w11r ⟨rfl, ⟨a11, hg9⟩, hk9⟩
          have HR11 : Hid (AI W0 w11r W0.heap.size v10 (.slice x10a (Lx.length + (X k).wr.length) x10c) (wrAll X (min (k + 1) m1)) (W0.heap.size + 1) u (.slice ya Ly.length yc) Ly r a1 c1 w5.heap.size a2 c2 lb a11 s a3 c3 w6.heap.size a4 c4 lc b) := H10.out.act3 hg9 hk9
          clear hg9 hk9 z0 z1 e0 e1 e2 e3 e4
          obtain ⟨e0, e1, e2, e3, e4⟩ := HTc.out w11r HR11.out.bel
          obtain ⟨z0, z1⟩ := HCz.out w11r HR11.out.bel
          go_wp2_with fail
          refine (HRd.out w11r HR11.out.g4 HR11.out.bel HR11.out.bel.size (by rw [HNc.out]; exact hnc)).mono ?_
          rintro e w11s ⟨rfl, ⟨b11, hg9⟩, hk9⟩
          have HS11 : Hid (AI W0 w11s W0.heap.size v10 (.slice x10a (Lx.length + (X k).wr.length) x10c) (wrAll X (min (k + 1) m1)) (W0.heap.size + 1) u (.slice ya Ly.length yc) Ly r a1 c1 w5.heap.size a2 c2 lb a11 s a3 c3 w6.heap.size a4 c4 lc b11) := HR11.out.act4 hg9 hk9
          clear hg9 hk9 z0 z1 e0 e1 e2 e3 e4
          obtain ⟨e0, e1, e2, e3, e4⟩ := HTc.out w11s HS11.out.bel
          have HLy1 : Hid (wrAll Y (min (k + 1) m2) = Ly) := by show wrAll Y (min (k + 1) m2) = Ly; rw [min_st h2]; exact HLy.out
          go_wp2
          go_roundw
          case rel => exact ⟨k + 1, a11, b11, _, _, by omega, by go_num, by rw [HLy1.out]; exact HS11.out⟩
          case measure => simp [intOf]; omega
        · have t1 : decide ((k : Int) < (m1 : Int)) = true := by simp; omega
          have t2 : decide ((k : Int) < (m2 : Int)) = false := by simp; omega
          have t3 : decide ((k : Int) < (m3 : Int)) = false := by simp; omega
          obtain ⟨sb, so, rfl, hcs⟩ := HX.out k h1
          obtain ⟨hcell, hbr, hv64, hsz, hbl⟩ := hcs k h1
          have q0 : wr.cell? ⟨sb, so + k * 5, none⟩ = some (.int .i64 (X k).kind) := cell_later HI.out.bel (hcell 0 _ rfl)
          have q1 : wr.cell? ⟨sb, so + k * 5 + 1, none⟩ = some (.int .u64 ((X k).v : Int)) := cell_later HI.out.bel (hcell 1 _ rfl)
          have q2 : wr.cell? ⟨sb, so + k * 5 + 2, none⟩ = some (.int .i64 (X k).n) := cell_later HI.out.bel (hcell 2 _ rfl)
          have q3 : wr.cell? ⟨sb, so + k * 5 + 3, none⟩ = some (.slice (X k).ao (X k).b.length (X k).cap) := cell_later HI.out.bel (hcell 3 _ rfl)
          have q4 : wr.cell? ⟨sb, so + k * 5 + 4, none⟩ = some (.string (X k).s) := cell_later HI.out.bel (hcell 4 _ rfl)
          have HWr : Hid (Calls Tryd.prog 19 #[.pointer (some ⟨W0.heap.size, 0, none⟩), .agg #[.int .i64 (X k).kind, .int .u64 ((X k).v : Int), .int .i64 (X k).n, .slice (X k).ao (X k).b.length (X k).cap, .string (X k).s]] wr fun e w' => ∃ ao' cap' v', e = .returned (.tuple #[.slice ao' (X k).wr.length cap', .bool true]) ∧ w'.ownsRow wr.heap.size 5 1 (.slice ao' (X k).wr.length cap') (X k).wr.length ((X k).wr.map bv) ∧ WPost wr w' W0.heap.size W0.heap.size v v' (Lx ++ (X k).wr) ∧ Sep v' (.slice ao' (X k).wr.length cap')) :=
            written_any W0 wr W0.heap.size v Lx (X k) HI.out.g1.wok HI.out.bel HT.out hbr hv64 hsz hbl (by omega)
          have hml : (X k).wr.length ≤ 2097152 := wr_len (X k) hbl
          have HLt : Hid (∀ y ∈ (X k).wr, y < 256) := wr_lt (X k) hbr.lt
          have HLn : Hid (wrAll X (min (k + 1) m1) = Lx ++ (X k).wr) := by
            show wrAll X (min (k + 1) m1) = _
            rw [(min_up h1).1, ← HLx.out]
            show wrAll X (min k m1) ++ (X (min k m1)).wr = _
            rw [(min_up h1).2]
          clear hcs hcell hbr hv64 hsz hbl
          go_wp2_with fail
          refine HWr.out.mono ?_
          rintro e w10a ⟨ab, cb, v10, rfl, ho2, hp2, hs2⟩
          have HPr : Hid (BRow w10a ab cb (X k).wr ∧ w10a.ownsRow W0.heap.size 5 1 (.slice xa Lx.length xc) Lx.length (Lx.map bv) ∧ wr.heap.size ≤ w10a.heap.size) := HI.out.g1.pre HLt.out (by omega) ho2 hp2
          have HW2 : Hid (WPost wr w10a W0.heap.size W0.heap.size v v10 (Lx ++ (X k).wr)) := hp2
          have HZ2 : Hid (W0.heap.size ≤ w10a.heap.size) := Nat.le_trans HI.out.bel.size HPr.out.2.2
          have HDl : Hid ((X k).wr.length = (X k).wr.length) := rfl
          clear ho2 hp2 hs2 q0 q1 q2 q3 q4 e0 e1 e2 e3 e4
          go_wp2_with (at_builtin; refine wpList_append_two _ rfl _ _ 37 rfl W0.heap.size 5 i0 (.int .u8 0) 1 Tryd.underlying37 hi hz0 hz1 hz2 rfl (.slice xa Lx.length xc) Lx.length (Lx.map bv) rfl HPr.out.2.1 ab (X k).wr.length cb ((X k).wr.map bv) rfl HPr.out.1.nil' (by rw [List.length_map]) HPr.out.1.news (bv_one _) (by unfold maxLen; omega) (by omega) HZ2.out ?_)
          intro x3 w10b ho3 hg3 hf3
          obtain ⟨x10a, x10c, hx3⟩ := owns_form ho3
          subst hx3
          have H10 : Hid (AI W0 w10b W0.heap.size v10 (.slice x10a (Lx.length + (X k).wr.length) x10c) (wrAll X (min (k + 1) m1)) (W0.heap.size + 1) u (.slice ya Ly.length yc) Ly r a1 c1 w5.heap.size a2 c2 lb a s a3 c3 w6.heap.size a4 c4 lc b) := by
            have hw3 := HI.out.g1.write HW2.out hg3 ho3 hf3
            have h9 := HI.out.act1 hw3.1 hw3.2.1 hw3.2.2
            rwa [← HLn.out] at h9
          clear ho3 hg3 hf3
          obtain ⟨e0, e1, e2, e3, e4⟩ := HTc.out w10b H10.out.bel
          have HLy1 : Hid (wrAll Y (min (k + 1) m2) = Ly) := by show wrAll Y (min (k + 1) m2) = Ly; rw [min_st h2]; exact HLy.out
          go_wp2
          go_roundw
          case rel => exact ⟨k + 1, a, b, _, _, by omega, by go_num, by rw [HLy1.out]; exact H10.out⟩
          case measure => simp [intOf]; omega
    · by_cases h2 : k < m2
      · by_cases h3 : k < m3
        · have t1 : decide ((k : Int) < (m1 : Int)) = false := by simp; omega
          have t2 : decide ((k : Int) < (m2 : Int)) = true := by simp; omega
          have t3 : decide ((k : Int) < (m3 : Int)) = true := by simp; omega
          obtain ⟨sb, so, rfl, hcs⟩ := HY.out k h2
          obtain ⟨hcell, hbr, hv64, hsz, hbl⟩ := hcs k h2
          have q0 : wr.cell? ⟨sb, so + k * 5, none⟩ = some (.int .i64 (Y k).kind) := cell_later HI.out.bel (hcell 0 _ rfl)
          have q1 : wr.cell? ⟨sb, so + k * 5 + 1, none⟩ = some (.int .u64 ((Y k).v : Int)) := cell_later HI.out.bel (hcell 1 _ rfl)
          have q2 : wr.cell? ⟨sb, so + k * 5 + 2, none⟩ = some (.int .i64 (Y k).n) := cell_later HI.out.bel (hcell 2 _ rfl)
          have q3 : wr.cell? ⟨sb, so + k * 5 + 3, none⟩ = some (.slice (Y k).ao (Y k).b.length (Y k).cap) := cell_later HI.out.bel (hcell 3 _ rfl)
          have q4 : wr.cell? ⟨sb, so + k * 5 + 4, none⟩ = some (.string (Y k).s) := cell_later HI.out.bel (hcell 4 _ rfl)
          have HWr : Hid (Calls Tryd.prog 19 #[.pointer (some ⟨(W0.heap.size + 1), 0, none⟩), .agg #[.int .i64 (Y k).kind, .int .u64 ((Y k).v : Int), .int .i64 (Y k).n, .slice (Y k).ao (Y k).b.length (Y k).cap, .string (Y k).s]] wr fun e w' => ∃ ao' cap' v', e = .returned (.tuple #[.slice ao' (Y k).wr.length cap', .bool true]) ∧ w'.ownsRow wr.heap.size 5 1 (.slice ao' (Y k).wr.length cap') (Y k).wr.length ((Y k).wr.map bv) ∧ WPost wr w' W0.heap.size (W0.heap.size + 1) u v' (Ly ++ (Y k).wr) ∧ Sep v' (.slice ao' (Y k).wr.length cap')) :=
            written_any W0 wr (W0.heap.size + 1) u Ly (Y k) HI.out.g2.wok HI.out.bel HT.out hbr hv64 hsz hbl (by omega)
          have hml : (Y k).wr.length ≤ 2097152 := wr_len (Y k) hbl
          have HLt : Hid (∀ y ∈ (Y k).wr, y < 256) := wr_lt (Y k) hbr.lt
          have HLn : Hid (wrAll Y (min (k + 1) m2) = Ly ++ (Y k).wr) := by
            show wrAll Y (min (k + 1) m2) = _
            rw [(min_up h2).1, ← HLy.out]
            show wrAll Y (min k m2) ++ (Y (min k m2)).wr = _
            rw [(min_up h2).2]
          clear hcs hcell hbr hv64 hsz hbl
          go_wp2_with fail
          refine HWr.out.mono ?_
          rintro e w10a ⟨ab, cb, v10, rfl, ho2, hp2, hs2⟩
          have HPr : Hid (BRow w10a ab cb (Y k).wr ∧ w10a.ownsRow W0.heap.size 5 1 (.slice ya Ly.length yc) Ly.length (Ly.map bv) ∧ wr.heap.size ≤ w10a.heap.size) := HI.out.g2.pre HLt.out (by omega) ho2 hp2
          have HW2 : Hid (WPost wr w10a W0.heap.size (W0.heap.size + 1) u v10 (Ly ++ (Y k).wr)) := hp2
          have HZ2 : Hid (W0.heap.size ≤ w10a.heap.size) := Nat.le_trans HI.out.bel.size HPr.out.2.2
          have HDl : Hid ((Y k).wr.length = (Y k).wr.length) := rfl
          clear ho2 hp2 hs2 q0 q1 q2 q3 q4 e0 e1 e2 e3 e4
          go_wp2_with (at_builtin; refine wpList_append_two _ rfl _ _ 37 rfl W0.heap.size 5 i0 (.int .u8 0) 1 Tryd.underlying37 hi hz0 hz1 hz2 rfl (.slice ya Ly.length yc) Ly.length (Ly.map bv) rfl HPr.out.2.1 ab (Y k).wr.length cb ((Y k).wr.map bv) rfl HPr.out.1.nil' (by rw [List.length_map]) HPr.out.1.news (bv_one _) (by unfold maxLen; omega) (by omega) HZ2.out ?_)
          intro x3 w10b ho3 hg3 hf3
          obtain ⟨x10a, x10c, hx3⟩ := owns_form ho3
          subst hx3
          have H10 : Hid (AI W0 w10b W0.heap.size v (.slice xa Lx.length xc) Lx (W0.heap.size + 1) v10 (.slice x10a (Ly.length + (Y k).wr.length) x10c) (wrAll Y (min (k + 1) m2)) r a1 c1 w5.heap.size a2 c2 lb a s a3 c3 w6.heap.size a4 c4 lc b) := by
            have hw3 := HI.out.g2.write HW2.out hg3 ho3 hf3
            have h9 := HI.out.act2 hw3.1 hw3.2.1 hw3.2.2
            rwa [← HLn.out] at h9
          clear ho3 hg3 hf3
          obtain ⟨e0, e1, e2, e3, e4⟩ := HTc.out w10b H10.out.bel
          obtain ⟨tbb, tof, rfl, hct⟩ := HZ.out k h3
          obtain ⟨hz0c, hz1c, hz63⟩ := hct k h3
          have HCz : Hid (∀ W, Below W0.heap.size W0 W → W.cell? ⟨tbb, tof + k * 2, none⟩ = some (.int .i64 (Z k).1) ∧ W.cell? ⟨tbb, tof + k * 2 + 1, none⟩ = some (.int .i64 (Z k).2)) := fun W hW => ⟨cell_later hW hz0c, cell_later hW hz1c⟩
          have HRd : Hid (∀ W {B r p c1 c2 a : Nat} {ao1 ao2 : Option Addr} {l : List Nat}, GR W B r ao1 c1 p ao2 c2 l a → Below W0.heap.size W0 W → B ≤ W.heap.size → l.length ≤ 1048576 → Calls Tryd.prog 20 #[.pointer (some ⟨r, 0, none⟩), .pointer (some ⟨p, 0, none⟩), .agg #[.int .i64 (Z k).1, .int .i64 (Z k).2]] W fun e w' => e = .returned (.bool true) ∧ (∃ a', GR w' B r ao1 c1 p ao2 c2 l a') ∧ KeptIn (FR r p (.slice ao1 l.length c1) (.slice ao2 l.length c2)) W w') := fun W _ _ _ _ _ _ _ _ _ hg hW hB hl => hg.reads (HT.out.later hW) hB hl _ _ hz63
          clear hct hz0c hz1c hz63
          generalize (Z k).1 = zk at *
          generalize (Z k).2 = zn at *
          obtain ⟨z0, z1⟩ := HCz.out w10b H10.out.bel
          go_wp2_with fail
          refine (HRd.out w10b H10.out.g3 H10.out.bel H10.out.bel.size (by rw [HNb.out]; exact hnb)).mono ?_
          rintro e w11r ⟨rfl, ⟨a11, hg9⟩, hk9⟩
          have HR11 : Hid (AI W0 w11r W0.heap.size v (.slice xa Lx.length xc) Lx (W0.heap.size + 1) v10 (.slice x10a (Ly.length + (Y k).wr.length) x10c) (wrAll Y (min (k + 1) m2)) r a1 c1 w5.heap.size a2 c2 lb a11 s a3 c3 w6.heap.size a4 c4 lc b) := H10.out.act3 hg9 hk9
          clear hg9 hk9 z0 z1 e0 e1 e2 e3 e4
          obtain ⟨e0, e1, e2, e3, e4⟩ := HTc.out w11r HR11.out.bel
          obtain ⟨z0, z1⟩ := HCz.out w11r HR11.out.bel
          go_wp2_with fail
          refine (HRd.out w11r HR11.out.g4 HR11.out.bel HR11.out.bel.size (by rw [HNc.out]; exact hnc)).mono ?_
          rintro e w11s ⟨rfl, ⟨b11, hg9⟩, hk9⟩
          have HS11 : Hid (AI W0 w11s W0.heap.size v (.slice xa Lx.length xc) Lx (W0.heap.size + 1) v10 (.slice x10a (Ly.length + (Y k).wr.length) x10c) (wrAll Y (min (k + 1) m2)) r a1 c1 w5.heap.size a2 c2 lb a11 s a3 c3 w6.heap.size a4 c4 lc b11) := HR11.out.act4 hg9 hk9
          clear hg9 hk9 z0 z1 e0 e1 e2 e3 e4
          obtain ⟨e0, e1, e2, e3, e4⟩ := HTc.out w11s HS11.out.bel
          have HLx1 : Hid (wrAll X (min (k + 1) m1) = Lx) := by show wrAll X (min (k + 1) m1) = Lx; rw [min_st h1]; exact HLx.out
          go_wp2
          go_roundw
          case rel => exact ⟨k + 1, a11, b11, _, _, by omega, by go_num, by rw [HLx1.out]; exact HS11.out⟩
          case measure => simp [intOf]; omega
        · have t1 : decide ((k : Int) < (m1 : Int)) = false := by simp; omega
          have t2 : decide ((k : Int) < (m2 : Int)) = true := by simp; omega
          have t3 : decide ((k : Int) < (m3 : Int)) = false := by simp; omega
          obtain ⟨sb, so, rfl, hcs⟩ := HY.out k h2
          obtain ⟨hcell, hbr, hv64, hsz, hbl⟩ := hcs k h2
          have q0 : wr.cell? ⟨sb, so + k * 5, none⟩ = some (.int .i64 (Y k).kind) := cell_later HI.out.bel (hcell 0 _ rfl)
          have q1 : wr.cell? ⟨sb, so + k * 5 + 1, none⟩ = some (.int .u64 ((Y k).v : Int)) := cell_later HI.out.bel (hcell 1 _ rfl)
          have q2 : wr.cell? ⟨sb, so + k * 5 + 2, none⟩ = some (.int .i64 (Y k).n) := cell_later HI.out.bel (hcell 2 _ rfl)
          have q3 : wr.cell? ⟨sb, so + k * 5 + 3, none⟩ = some (.slice (Y k).ao (Y k).b.length (Y k).cap) := cell_later HI.out.bel (hcell 3 _ rfl)
          have q4 : wr.cell? ⟨sb, so + k * 5 + 4, none⟩ = some (.string (Y k).s) := cell_later HI.out.bel (hcell 4 _ rfl)
          have HWr : Hid (Calls Tryd.prog 19 #[.pointer (some ⟨(W0.heap.size + 1), 0, none⟩), .agg #[.int .i64 (Y k).kind, .int .u64 ((Y k).v : Int), .int .i64 (Y k).n, .slice (Y k).ao (Y k).b.length (Y k).cap, .string (Y k).s]] wr fun e w' => ∃ ao' cap' v', e = .returned (.tuple #[.slice ao' (Y k).wr.length cap', .bool true]) ∧ w'.ownsRow wr.heap.size 5 1 (.slice ao' (Y k).wr.length cap') (Y k).wr.length ((Y k).wr.map bv) ∧ WPost wr w' W0.heap.size (W0.heap.size + 1) u v' (Ly ++ (Y k).wr) ∧ Sep v' (.slice ao' (Y k).wr.length cap')) :=
            written_any W0 wr (W0.heap.size + 1) u Ly (Y k) HI.out.g2.wok HI.out.bel HT.out hbr hv64 hsz hbl (by omega)
          have hml : (Y k).wr.length ≤ 2097152 := wr_len (Y k) hbl
          have HLt : Hid (∀ y ∈ (Y k).wr, y < 256) := wr_lt (Y k) hbr.lt
          have HLn : Hid (wrAll Y (min (k + 1) m2) = Ly ++ (Y k).wr) := by
            show wrAll Y (min (k + 1) m2) = _
            rw [(min_up h2).1, ← HLy.out]
            show wrAll Y (min k m2) ++ (Y (min k m2)).wr = _
            rw [(min_up h2).2]
          clear hcs hcell hbr hv64 hsz hbl
          go_wp2_with fail
          refine HWr.out.mono ?_
          rintro e w10a ⟨ab, cb, v10, rfl, ho2, hp2, hs2⟩
          have HPr : Hid (BRow w10a ab cb (Y k).wr ∧ w10a.ownsRow W0.heap.size 5 1 (.slice ya Ly.length yc) Ly.length (Ly.map bv) ∧ wr.heap.size ≤ w10a.heap.size) := HI.out.g2.pre HLt.out (by omega) ho2 hp2
          have HW2 : Hid (WPost wr w10a W0.heap.size (W0.heap.size + 1) u v10 (Ly ++ (Y k).wr)) := hp2
          have HZ2 : Hid (W0.heap.size ≤ w10a.heap.size) := Nat.le_trans HI.out.bel.size HPr.out.2.2
          have HDl : Hid ((Y k).wr.length = (Y k).wr.length) := rfl
          clear ho2 hp2 hs2 q0 q1 q2 q3 q4 e0 e1 e2 e3 e4
          go_wp2_with (at_builtin; refine wpList_append_two _ rfl _ _ 37 rfl W0.heap.size 5 i0 (.int .u8 0) 1 Tryd.underlying37 hi hz0 hz1 hz2 rfl (.slice ya Ly.length yc) Ly.length (Ly.map bv) rfl HPr.out.2.1 ab (Y k).wr.length cb ((Y k).wr.map bv) rfl HPr.out.1.nil' (by rw [List.length_map]) HPr.out.1.news (bv_one _) (by unfold maxLen; omega) (by omega) HZ2.out ?_)
          intro x3 w10b ho3 hg3 hf3
          obtain ⟨x10a, x10c, hx3⟩ := owns_form ho3
          subst hx3
          have H10 : Hid (AI W0 w10b W0.heap.size v (.slice xa Lx.length xc) Lx (W0.heap.size + 1) v10 (.slice x10a (Ly.length + (Y k).wr.length) x10c) (wrAll Y (min (k + 1) m2)) r a1 c1 w5.heap.size a2 c2 lb a s a3 c3 w6.heap.size a4 c4 lc b) := by
            have hw3 := HI.out.g2.write HW2.out hg3 ho3 hf3
            have h9 := HI.out.act2 hw3.1 hw3.2.1 hw3.2.2
            rwa [← HLn.out] at h9
          clear ho3 hg3 hf3
          obtain ⟨e0, e1, e2, e3, e4⟩ := HTc.out w10b H10.out.bel
          have HLx1 : Hid (wrAll X (min (k + 1) m1) = Lx) := by show wrAll X (min (k + 1) m1) = Lx; rw [min_st h1]; exact HLx.out
          go_wp2
          go_roundw
          case rel => exact ⟨k + 1, a, b, _, _, by omega, by go_num, by rw [HLx1.out]; exact H10.out⟩
          case measure => simp [intOf]; omega
      · by_cases h3 : k < m3
        · have t1 : decide ((k : Int) < (m1 : Int)) = false := by simp; omega
          have t2 : decide ((k : Int) < (m2 : Int)) = false := by simp; omega
          have t3 : decide ((k : Int) < (m3 : Int)) = true := by simp; omega
          obtain ⟨tbb, tof, rfl, hct⟩ := HZ.out k h3
          obtain ⟨hz0c, hz1c, hz63⟩ := hct k h3
          have HCz : Hid (∀ W, Below W0.heap.size W0 W → W.cell? ⟨tbb, tof + k * 2, none⟩ = some (.int .i64 (Z k).1) ∧ W.cell? ⟨tbb, tof + k * 2 + 1, none⟩ = some (.int .i64 (Z k).2)) := fun W hW => ⟨cell_later hW hz0c, cell_later hW hz1c⟩
          have HRd : Hid (∀ W {B r p c1 c2 a : Nat} {ao1 ao2 : Option Addr} {l : List Nat}, GR W B r ao1 c1 p ao2 c2 l a → Below W0.heap.size W0 W → B ≤ W.heap.size → l.length ≤ 1048576 → Calls Tryd.prog 20 #[.pointer (some ⟨r, 0, none⟩), .pointer (some ⟨p, 0, none⟩), .agg #[.int .i64 (Z k).1, .int .i64 (Z k).2]] W fun e w' => e = .returned (.bool true) ∧ (∃ a', GR w' B r ao1 c1 p ao2 c2 l a') ∧ KeptIn (FR r p (.slice ao1 l.length c1) (.slice ao2 l.length c2)) W w') := fun W _ _ _ _ _ _ _ _ _ hg hW hB hl => hg.reads (HT.out.later hW) hB hl _ _ hz63
          clear hct hz0c hz1c hz63
          generalize (Z k).1 = zk at *
          generalize (Z k).2 = zn at *
          obtain ⟨z0, z1⟩ := HCz.out wr HI.out.bel
          go_wp2_with fail
          refine (HRd.out wr HI.out.g3 HI.out.bel HI.out.bel.size (by rw [HNb.out]; exact hnb)).mono ?_
          rintro e w10r ⟨rfl, ⟨a10, hg9⟩, hk9⟩
          have HR10 : Hid (AI W0 w10r W0.heap.size v (.slice xa Lx.length xc) Lx (W0.heap.size + 1) u (.slice ya Ly.length yc) Ly r a1 c1 w5.heap.size a2 c2 lb a10 s a3 c3 w6.heap.size a4 c4 lc b) := HI.out.act3 hg9 hk9
          clear hg9 hk9 z0 z1 e0 e1 e2 e3 e4
          obtain ⟨e0, e1, e2, e3, e4⟩ := HTc.out w10r HR10.out.bel
          obtain ⟨z0, z1⟩ := HCz.out w10r HR10.out.bel
          go_wp2_with fail
          refine (HRd.out w10r HR10.out.g4 HR10.out.bel HR10.out.bel.size (by rw [HNc.out]; exact hnc)).mono ?_
          rintro e w10s ⟨rfl, ⟨b10, hg9⟩, hk9⟩
          have HS10 : Hid (AI W0 w10s W0.heap.size v (.slice xa Lx.length xc) Lx (W0.heap.size + 1) u (.slice ya Ly.length yc) Ly r a1 c1 w5.heap.size a2 c2 lb a10 s a3 c3 w6.heap.size a4 c4 lc b10) := HR10.out.act4 hg9 hk9
          clear hg9 hk9 z0 z1 e0 e1 e2 e3 e4
          obtain ⟨e0, e1, e2, e3, e4⟩ := HTc.out w10s HS10.out.bel
          have HLx1 : Hid (wrAll X (min (k + 1) m1) = Lx) := by show wrAll X (min (k + 1) m1) = Lx; rw [min_st h1]; exact HLx.out
          have HLy1 : Hid (wrAll Y (min (k + 1) m2) = Ly) := by show wrAll Y (min (k + 1) m2) = Ly; rw [min_st h2]; exact HLy.out
          go_wp2
          go_roundw
          case rel => exact ⟨k + 1, a10, b10, _, _, by omega, by go_num, by rw [HLx1.out, HLy1.out]; exact HS10.out⟩
          case measure => simp [intOf]; omega
        · have t1 : decide ((k : Int) < (m1 : Int)) = false := by simp; omega
          have t2 : decide ((k : Int) < (m2 : Int)) = false := by simp; omega
          have t3 : decide ((k : Int) < (m3 : Int)) = false := by simp; omega
          have HOut : Hid (∀ W p' v' L', WOk W W0.heap.size p' v' L' → L'.length ≤ 2199023255552 → Calls Tryd.prog 21 #[.pointer (some ⟨p', 0, none⟩)] W fun e w' => ∃ ao' cap', e = .returned (.slice ao' L'.length cap') ∧ w'.ownsRow W.heap.size 5 1 (.slice ao' L'.length cap') L'.length (L'.map bv) ∧ Below W.heap.size W w') := fun W p' v' L' hW hl => wout_any _ _ v' _ W hW (by omega)
          have HHd : Hid (∀ W, Below W0.heap.size W0 W → Calls Tryd.prog 23 #[] W fun e w' => e = .returned (.bool true) ∧ Below W0.heap.size W0 w') := fun W hb =>
            (heads_any _ (HT.out.later hb)).mono fun e w' hh => ⟨hh.1, hb.trans (hh.2.mono hb.size)⟩
          go_wp2_with fail
          refine (HOut.out wr _ _ _ HI.out.g1.wok hlx).mono ?_
          rintro e w10 ⟨o1, d1, rfl, ho1, hb1⟩
          have HO1 : Hid (w10.ownsRow wr.heap.size 5 1 (.slice o1 Lx.length d1) Lx.length (Lx.map bv)) := ho1
          have HJ : Hid (AI W0 w10 W0.heap.size v (.slice xa Lx.length xc) Lx (W0.heap.size + 1) u (.slice ya Ly.length yc) Ly r a1 c1 w5.heap.size a2 c2 lb a s a3 c3 w6.heap.size a4 c4 lc b) := HI.out.below hb1
          clear ho1 hb1
          go_wp2_with fail
          refine (HOut.out w10 _ _ _ HJ.out.g2.wok hly).mono ?_
          rintro e w11 ⟨o2, d2, rfl, ho2, hb2⟩
          have HO2 : Hid (w11.ownsRow w10.heap.size 5 1 (.slice o2 Ly.length d2) Ly.length (Ly.map bv)) := ho2
          have HO1' : Hid (w11.ownsRow wr.heap.size 5 1 (.slice o1 Lx.length d1) Lx.length (Lx.map bv)) := owns_same HO1.out fun g hg => hb2.block g (owns_lt HO1.out g hg).1
          have HK : Hid (AI W0 w11 W0.heap.size v (.slice xa Lx.length xc) Lx (W0.heap.size + 1) u (.slice ya Ly.length yc) Ly r a1 c1 w5.heap.size a2 c2 lb a s a3 c3 w6.heap.size a4 c4 lc b) := HJ.out.below hb2
          clear ho2 hb2
          have HS1 : Hid (Calls Tryd.prog 22 #[.slice o1 Lx.length d1, .slice xa Lx.length xc] w11 fun e w' => e = .returned (.bool true) ∧ ∃ q, w' = w11.drewN q) := sameX_own HO1'.out HK.out.g1.all HK.out.g1.wok.lt (by omega)
          have HS2 : Hid (∀ q, Calls Tryd.prog 22 #[.slice o2 Ly.length d2, .slice ya Ly.length yc] (w11.drewN q) fun e w' => e = .returned (.bool true) ∧ ∃ q', w' = (w11.drewN q).drewN q') := fun q => sameX_own (owns_same HO2.out (fun _ _ => rfl)) (owns_same HK.out.g2.all (fun _ _ => rfl)) HK.out.g2.wok.lt (by omega)
          go_wp2_with fail
          refine HS1.out.mono ?_
          rintro e w12 ⟨rfl, q1, hw⟩
          rw [hw]; clear hw
          go_wp2_with fail
          refine (HS2.out q1).mono ?_
          rintro e w12 ⟨rfl, q2, hw⟩
          rw [hw]; clear hw
          go_wp2_with fail
          refine (HHd.out (w11.drewN (q1 + q2)) (HK.out.bel.trans ((belowF w11 (q1 + q2)).mono HK.out.bel.size))).mono ?_
          rintro e w13 ⟨rfl, hb13⟩
          have HB13 : Hid (Below w.heap.size w w13) := HA0.out.trans (hb13.mono HA0.out.size)
          clear hb13
          go_wp2
          go_ret
          exact ⟨rfl, HB13.out⟩
end Go.Proofs.YtpkobgnbjmefnabDoor
