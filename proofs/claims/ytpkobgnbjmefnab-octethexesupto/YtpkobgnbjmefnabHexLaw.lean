import Derived.Test.YtpkobgnbjmefnabRUnhexW
import Derived.Test.YtpkobgnbjmefnabOwnW
namespace Go.Proofs.Ytpkobgnbjmefnab
open Go.RowKit
set_option linter.unusedVariables false
set_option maxRecDepth 100000

theorem UnRes.flat {s : ByteArray} {w w' : World} {e : Ending} (h : UnRes s w e w') :
    ∃ ao cap, e = .returned (.tuple #[.slice ao ((unhexR s).getD []).length cap, .int .i64 (if (unhexR s).isSome then 0 else 15)]) ∧ w'.ownsRow w.heap.size 5 1 (.slice ao ((unhexR s).getD []).length cap) ((unhexR s).getD []).length (((unhexR s).getD []).map bv) ∧ Below w.heap.size w w' := by
  obtain ⟨h1 | ⟨l, ao, cap, h1, h2, h3⟩, hb⟩ := h
  · rw [h1.1]; exact ⟨none, 0, h1.2, World.ownsRow_nil _ _ _ _, hb⟩
  · rw [h1]; exact ⟨ao, cap, h2, h3, hb⟩
theorem flat_lt (s : ByteArray) (hs : s.size ≤ 16777216) : (∀ x ∈ (unhexR s).getD [], x < 256) ∧ ((unhexR s).getD []).length ≤ 16777216 := by
  cases h : unhexR s with
  | none => simp
  | some l => obtain ⟨h1, h2⟩ := unhexR_lt s l h; exact ⟨h1, by simp; omega⟩

def three {α : Type} (x y z : α) (i : Nat) : α := if i = 0 then x else if i = 1 then y else z
theorem lists_three {w : World} {B : Nat} {x y z : Value} {lx ly lz : List Nat} {b1 b2 b3 b4 : Nat} (hB : B ≤ b1)
    (hx : w.ownsRow B 5 1 x lx.length (lx.map bv)) (hx1 : ∀ g, x.ownBlock = some g → b1 ≤ g ∧ g < b2) (hy : w.ownsRow B 5 1 y ly.length (ly.map bv)) (hy1 : ∀ g, y.ownBlock = some g → b2 ≤ g ∧ g < b3)
    (hz : w.ownsRow B 5 1 z lz.length (lz.map bv)) (hz1 : ∀ g, z.ownBlock = some g → b3 ≤ g ∧ g < b4) (h12 : b1 ≤ b2) (h23 : b2 ≤ b3) (h34 : b3 ≤ b4) (hw : b4 ≤ w.heap.size)
    (s1 : lx.length ≤ 16777216) (s2 : ly.length ≤ 16777216) (s3 : lz.length ≤ 16777216) (t : TypeId) :
    Lists (w.alloc (.cells #[x, y, z] t)) B w.heap.size 0 3 (three x y z) (three lx.length ly.length lz.length) ∧ ∀ g, OwnSet 3 (three x y z) g → b1 ≤ g := by
  have hr : ∀ i, i < 3 → ∀ g, (three x y z i).ownBlock = some g → b1 ≤ g ∧ g < b4 := fun i hi g hg => by
    match i, hi with
    | 0, _ => have := hx1 g hg; omega
    | 1, _ => have := hy1 g hg; omega
    | 2, _ => have := hz1 g hg; omega
  have hxy : Sep x y := fun g h1 h2 => by have := hx1 g h1; have := hy1 g h2; omega
  have hxz : Sep x z := fun g h1 h2 => by have := hx1 g h1; have := hz1 g h2; omega
  have hyz : Sep y z := fun g h1 h2 => by have := hy1 g h1; have := hz1 g h2; omega
  refine ⟨⟨fun i hi => ?_, fun i hi => ?_, fun i j hi hj hne => ?_, fun i hi e => ?_, fun i hi => ?_, ?_⟩, fun g ⟨i, hi, e⟩ => (hr i hi g e).1⟩
  · rw [World.cell?_alloc_mark]
    match i, hi with
    | 0, _ => rfl
    | 1, _ => rfl
    | 2, _ => rfl
  · match i, hi with
    | 0, _ => exact ⟨lx, hx.alloc _⟩
    | 1, _ => exact ⟨ly, hy.alloc _⟩
    | 2, _ => exact ⟨lz, hz.alloc _⟩
  · match i, hi, j, hj with
    | 0, _, 0, _ => exact absurd rfl hne
    | 0, _, 1, _ => exact hxy
    | 0, _, 2, _ => exact hxz
    | 1, _, 0, _ => exact hxy.symm
    | 1, _, 1, _ => exact absurd rfl hne
    | 1, _, 2, _ => exact hyz
    | 2, _, 0, _ => exact hxz.symm
    | 2, _, 1, _ => exact hyz.symm
    | 2, _, 2, _ => exact absurd rfl hne
  · have := (hr i hi _ e).2; omega
  · match i, hi with
    | 0, _ => exact s1
    | 1, _ => exact s2
    | 2, _ => exact s3
  · simp; omega
theorem lent_later {w w' : World} {g : Nat} {o : Obj} (h : w.heap[g]? = some o) (hb : Below w.heap.size w w') : w'.heap[g]? = some o := by rw [hb.block g (block_lt h)]; exact h
theorem owns_later {w w' : World} {base e n : Nat} {v : Value} {xs : List Value} (h : w.ownsRow base e 1 v n xs) (hb : Below w.heap.size w w') : w'.ownsRow base e 1 v n xs := owns_same h fun g hg => hb.block g (owns_lt h g hg).1
theorem below_drewN (w : World) (q : Nat) : Below w.heap.size w (w.drewN q) := ⟨rfl, rfl, rfl, Nat.le_refl _, fun _ _ => rfl⟩

set_option maxHeartbeats 4000000 in
theorem hexes_any (ao : Option Addr) (cap n : Nat) (l : List Nat) (s : ByteArray) (w : World) (h : BRow w ao cap l) (hl : l.length = n) (hn : n ≤ 1048576) (hs : s.size ≤ 1048576) :
    Calls Try.prog 3 #[.slice ao n cap, .string s] w fun e w' => e = .returned (.bool true) ∧ Below w.heap.size w w' := by
  have HR : Hid (BRow w ao cap l) := h
  have HN : Hid (l.length = n) := hl
  clear h hl
  have HLd : Hid (Calls Try.prog 4 #[.slice ao n cap] w fun e w' => ∃ g, e = .returned (.slice (some ⟨g, 0, none⟩) n (n + 70)) ∧ Lent w w' g l) := lend_any ao cap n l w HR.out HN (by omega)
  have HHx : Hid (∀ w1 g, Lent w w1 g l → Calls Try.prog 5 #[.slice (some ⟨g, 0, none⟩) n (n + 70)] w1 fun e w' => e = .returned (.string (bstr (hexL l))) ∧ Below w1.heap.size w1 w') := fun w1 g hl =>
    hex_any _ _ n l w1 (lent_brow hl.blk HR.out.lt HR.out.len _) HN.out (by omega)
  have HRx : Hid (∀ w2, Below w.heap.size w w2 → Calls Try.prog 6 #[.slice ao n cap] w2 fun e w' => e = .returned (.string (bstr (hexL l))) ∧ Below w2.heap.size w2 w') := fun w2 hb =>
    rhex_any ao cap n l w2 (HR.out.later hb) HN.out (by omega)
  have HKp : Hid (∀ w3 g, Below w.heap.size w w3 → w3.heap[g]? = some (.cells ((l ++ marksTo 70).map bv).toArray 5 (0, 0)) → Calls Try.prog 7 #[.slice (some ⟨g, 0, none⟩) n (n + 70), .slice ao n cap] w3 fun e w' => e = .returned (.bool true) ∧ ∃ q, w' = w3.drewN q) := fun w3 g hb hg =>
    kept_true g ao cap n l w3 hg (HR.out.later hb) HN (by omega)
  have HFl : Hid ((∀ x ∈ (unhexR s).getD [], x < 256) ∧ ((unhexR s).getD []).length ≤ 16777216) := flat_lt s (by omega)
  have HU : Hid (∀ W, Calls Try.prog 8 #[.string s] W fun e w' => ∃ ao cap, e = .returned (.tuple #[.slice ao ((unhexR s).getD []).length cap, .int .i64 (if (unhexR s).isSome then 0 else 15)]) ∧ w'.ownsRow W.heap.size 5 1 (.slice ao ((unhexR s).getD []).length cap) ((unhexR s).getD []).length (((unhexR s).getD []).map bv) ∧ Below W.heap.size W w') := fun W => (unhex_any s W (by omega)).mono fun e w' hh => hh.flat
  have HRU : Hid (∀ W, Calls Try.prog 9 #[.string s] W fun e w' => ∃ ao cap, e = .returned (.tuple #[.slice ao ((unhexR s).getD []).length cap, .int .i64 (if (unhexR s).isSome then 0 else 15)]) ∧ w'.ownsRow W.heap.size 5 1 (.slice ao ((unhexR s).getD []).length cap) ((unhexR s).getD []).length (((unhexR s).getD []).map bv) ∧ Below W.heap.size W w') := fun W => (runhex_any s W (by omega)).mono fun e w' hh => hh.flat
  have HUh : Hid (∀ W, Calls Try.prog 8 #[.string (bstr (hexL l))] W fun e w' => ∃ ao cap, e = .returned (.tuple #[.slice ao n cap, .int .i64 0]) ∧ w'.ownsRow W.heap.size 5 1 (.slice ao n cap) n (l.map bv) ∧ Below W.heap.size W w') := fun W => by
    have hsz : (bstr (hexL l)).size ≤ 16777216 := by rw [bstr_size, hexL_length, HN.out]; omega
    refine (unhex_any _ W hsz).mono fun e w' hh => ?_
    have := hh.flat
    rw [unhexR_hex l HR.out.lt] at this
    simp only [Option.getD_some, Option.isSome_some, if_true, HN.out] at this
    exact this
  generalize (unhexR s).getD [] = lx at *
  generalize (if (unhexR s).isSome then (0 : Int) else 15) = c at *
  generalize bstr (hexL l) = hx at *
  generalize hm : lx.length = m at *
  have HM : Hid (lx.length = m) := hm
  clear hm
  go_enter Try.func3, Try.ntmps3
  go_wp2_with fail
  refine HLd.out.mono ?_
  rintro e w1 ⟨g, rfl, hlent⟩
  have HLt : Hid (Lent w w1 g l) := hlent
  clear hlent
  go_wp2_with fail
  refine (HHx.out w1 g HLt.out).mono ?_
  rintro e w2 ⟨rfl, hb2⟩
  have HB2 : Hid (Below w.heap.size w w2) := HLt.out.bel.trans (hb2.mono HLt.out.bel.size)
  have HG2 : Hid (w2.heap[g]? = some (.cells ((l ++ marksTo 70).map bv).toArray 5 (0, 0))) := lent_later HLt.out.blk hb2
  clear hb2
  go_wp2_with fail
  refine (HRx.out w2 HB2.out).mono ?_
  rintro e w3 ⟨rfl, hb3⟩
  have HB3 : Hid (Below w.heap.size w w3) := HB2.out.trans (hb3.mono HB2.out.size)
  have HG3 : Hid (w3.heap[g]? = some (.cells ((l ++ marksTo 70).map bv).toArray 5 (0, 0))) := lent_later HG2.out hb3
  clear hb3
  go_wp2_with fail
  refine (HKp.out w3 g HB3.out HG3.out).mono ?_
  rintro e w4 ⟨rfl, q, hw⟩
  rw [hw]; clear hw
  have HB4 : Hid (Below w.heap.size w (w3.drewN q)) := HB3.out.trans ((below_drewN w3 q).mono HB3.out.size)
  generalize w3.drewN q = W4 at *
  go_wp2_with fail
  refine (HU.out W4).mono ?_
  rintro e w5 ⟨ax, cx, rfl, ho5, hb5⟩
  have HO5 : Hid (w5.ownsRow W4.heap.size 5 1 (.slice ax m cx) m (lx.map bv)) := ho5
  have HB5 : Hid (Below W4.heap.size W4 w5) := hb5
  clear ho5 hb5
  go_wp2_with fail
  refine (HRU.out w5).mono ?_
  rintro e w6 ⟨ay, cy, rfl, ho6, hb6⟩
  have HO6 : Hid (w6.ownsRow w5.heap.size 5 1 (.slice ay m cy) m (lx.map bv)) := ho6
  have HB6 : Hid (Below w5.heap.size w5 w6) := hb6
  have HO5' : Hid (w6.ownsRow W4.heap.size 5 1 (.slice ax m cx) m (lx.map bv)) := owns_later HO5.out hb6
  clear ho6 hb6
  have HSm : Hid (Calls Try.prog 10 #[.slice ax m cx, .slice ay m cy] w6 fun e w' => e = .returned (.bool true) ∧ ∃ q, w' = w6.drewN q) := by
    have hm := HM.out
    subst hm
    obtain ⟨a1, c1, e1, r1⟩ := BRow.own HO5'.out HFl.out.1 (by have := HFl.out.2; omega)
    obtain ⟨a2, c2, e2, r2⟩ := BRow.own HO6.out HFl.out.1 (by have := HFl.out.2; omega)
    simp only [Value.slice.injEq] at e1 e2
    obtain ⟨rfl, _, rfl⟩ := e1
    obtain ⟨rfl, _, rfl⟩ := e2
    have := same_any _ _ _ _ lx lx w6 r1 r2
    rwa [decide_eq_true rfl] at this
  go_wp2_with fail
  refine HSm.out.mono ?_
  rintro e w7 ⟨rfl, q2, hw⟩
  rw [hw]; clear hw
  have HB7 : Hid (Below w6.heap.size w6 (w6.drewN q2)) := below_drewN w6 q2
  generalize w6.drewN q2 = W7 at *
  go_wp2_with fail
  refine (HUh.out W7).mono ?_
  rintro e w8 ⟨ab, cb, rfl, ho8, hb8⟩
  have HO8 : Hid (w8.ownsRow W7.heap.size 5 1 (.slice ab n cb) n (l.map bv)) := ho8
  have HB8 : Hid (Below W7.heap.size W7 w8) := hb8
  clear ho8 hb8
  go_wp2_with fail
  refine (HUh.out w8).mono ?_
  rintro e w9 ⟨ac, cc, rfl, ho9, hb9⟩
  have HO9 : Hid (w9.ownsRow w8.heap.size 5 1 (.slice ac n cc) n (l.map bv)) := ho9
  have HB9 : Hid (Below w8.heap.size w8 w9) := hb9
  clear ho9 hb9
  -- all that is owned, in the last world
  have HZ : Hid (w.heap.size ≤ W4.heap.size ∧ W4.heap.size ≤ w5.heap.size ∧ w5.heap.size ≤ W7.heap.size ∧ W7.heap.size ≤ w8.heap.size ∧ w8.heap.size ≤ w9.heap.size) :=
    ⟨HB4.out.size, HB5.out.size, Nat.le_trans HB6.out.size HB7.out.size, HB8.out.size, HB9.out.size⟩
  have HBe : Hid (Below w.heap.size w w9) := by
    have z := HZ.out
    have b5 := HB4.out.trans (HB5.out.mono z.1)
    have b6 := b5.trans (HB6.out.mono (by omega))
    have b7 := b6.trans (HB7.out.mono (by have := HB6.out.size; omega))
    have b8 := b7.trans (HB8.out.mono (by omega))
    exact b8.trans (HB9.out.mono (by omega))
  have HX : Hid (w9.ownsRow w.heap.size 5 1 (.slice ax m cx) m (lx.map bv) ∧ ∀ g, (Value.slice ax m cx).ownBlock = some g → W4.heap.size ≤ g ∧ g < w5.heap.size) :=
    ⟨owns_mono (owns_later (owns_later (owns_later HO5'.out HB7.out) HB8.out) HB9.out) HZ.out.1, fun g hg => ⟨(owns_lt HO5.out g hg).2, (owns_lt HO5.out g hg).1⟩⟩
  have HY : Hid (w9.ownsRow w.heap.size 5 1 (.slice ab n cb) n (l.map bv) ∧ ∀ g, (Value.slice ab n cb).ownBlock = some g → W7.heap.size ≤ g ∧ g < w8.heap.size) :=
    ⟨owns_mono (owns_later HO8.out HB9.out) (by have := HZ.out; omega), fun g hg => ⟨(owns_lt HO8.out g hg).2, (owns_lt HO8.out g hg).1⟩⟩
  have HV : Hid (w9.ownsRow w.heap.size 5 1 (.slice ac n cc) n (l.map bv) ∧ ∀ g, (Value.slice ac n cc).ownBlock = some g → w8.heap.size ≤ g ∧ g < w9.heap.size) :=
    ⟨owns_mono HO9.out (by have := HZ.out; omega), fun g hg => ⟨(owns_lt HO9.out g hg).2, (owns_lt HO9.out g hg).1⟩⟩
  have HS1 : Hid (Calls Try.prog 10 #[.slice ab n cb, .slice ao n cap] w9 fun e w' => e = .returned (.bool true) ∧ ∃ q, w' = w9.drewN q) := by
    have hn' := HN.out
    subst hn'
    obtain ⟨a1, c1, e1, r1⟩ := BRow.own HY.out.1 HR.out.lt HR.out.len
    simp only [Value.slice.injEq] at e1
    obtain ⟨rfl, _, rfl⟩ := e1
    have := same_any _ _ _ _ l l w9 r1 (HR.out.later HBe.out)
    rwa [decide_eq_true rfl] at this
  have HS2 : Hid (∀ q, Calls Try.prog 10 #[.slice ac n cc, .slice ao n cap] (w9.drewN q) fun e w' => e = .returned (.bool true) ∧ ∃ q', w' = (w9.drewN q).drewN q') := fun q => by
    have hn' := HN.out
    subst hn'
    obtain ⟨a1, c1, e1, r1⟩ := BRow.own HV.out.1 HR.out.lt HR.out.len
    simp only [Value.slice.injEq] at e1
    obtain ⟨rfl, _, rfl⟩ := e1
    have := same_any _ _ _ _ l l (w9.drewN q) (r1.drewN q) ((HR.out.later HBe.out).drewN q)
    rwa [decide_eq_true rfl] at this
  have HOw : Hid (∀ q, Calls Try.prog 11 #[.slice (some ⟨w9.heap.size, 0, none⟩) 3 3] ((w9.drewN q).alloc (.cells #[.slice ax m cx, .slice ab n cb, .slice ac n cc] 22)) fun e w' => e = .returned (.bool true) ∧ Below w.heap.size w w') := fun q => by
    have hn' := HN.out
    subst hn'
    have hm' := HM.out
    subst hm'
    have z := HZ.out
    obtain ⟨hli, hset⟩ := lists_three (w := w9.drewN q) (b1 := W4.heap.size) (b2 := w5.heap.size) (b3 := w8.heap.size) (b4 := w9.heap.size) z.1 (owns_later HX.out.1 (below_drewN w9 q)) HX.out.2
      (owns_later HY.out.1 (below_drewN w9 q)) (fun g hg => by have := HY.out.2 g hg; omega) (owns_later HV.out.1 (below_drewN w9 q)) HV.out.2 z.2.1 (by omega) (by omega) (Nat.le_refl _) HFl.out.2 (by omega) (by omega) 22
    refine (own_some w.heap.size w9.heap.size 0 3 3 _ _ _ (by decide) hli).mono fun e w' hh => ⟨hh.1, ?_⟩
    have hb0 : Below w.heap.size w ((w9.drewN q).alloc (.cells #[.slice ax lx.length cx, .slice ab l.length cb, .slice ac l.length cc] 22)) :=
      (HBe.out.trans ((below_drewN w9 q).mono (by omega))).alloc (Nat.le_trans z.1 (by show _ ≤ w9.heap.size; omega)) _
    exact hb0.trans (hh.2.below hb0.size (fun g hg hS => by have := hset g hS; omega))
  go_wp2_with fail
  refine HS1.out.mono ?_
  rintro e w10 ⟨rfl, q3, hw⟩
  rw [hw]; clear hw
  go_wp2_with fail
  refine (HS2.out q3).mono ?_
  rintro e w10 ⟨rfl, q4, hw⟩
  rw [hw]; clear hw
  go_wp2_with fail
  refine (HOw.out _).mono ?_
  rintro e w11 ⟨rfl, hbe⟩
  have HBf : Hid (Below w.heap.size w w11) := hbe
  clear hbe
  go_wp2
  go_ret
  exact ⟨rfl, HBf.out⟩
end Go.Proofs.Ytpkobgnbjmefnab
