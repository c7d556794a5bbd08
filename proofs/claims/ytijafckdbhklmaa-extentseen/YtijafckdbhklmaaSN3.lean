import Derived.Test.YtijafckdbhklmaaSN2
import Derived.Test.YtijafckdbhklmaaXO
import Derived.BigFrame
import Derived.BigGuard
import Derived.BigFrameIn
import Derived.BigGuardIn
namespace Go.Proofs.Ytijafckdbhklmaa.I
open Go.RowKit Go.Sort Go.Lib Go.Shelf Go.Proofs.Ytijafckdbhklmaa Classical
attribute [local go_sem] Oper.semAt_some
set_option linter.unusedVariables false
set_option linter.unusedSimpArgs false
set_option maxRecDepth 100000

theorem st_func {P : Program} {w : World} {a : Addr} {m : Mode} (fn : Fn) (x y : Array Value) : (store a (.func fn x y) m).run P w = stored P w a (.func fn x y) m := run_store P w a _ m rfl
attribute [local go_sem] st_func
abbrev TPutsS : TypeId := 51
abbrev TMapS : TypeId := 26
theorem res_boolS {tmps : Array Value} {w : World} {g : Nat} {b : Bool} (hp : tmps.getD 10 undef = .pointer (some ⟨g, 0, none⟩)) (hb : Boxed w g 4 (.bool b)) : (results Try.f7 tmps).run Try.prog w = .ok (.bool b) w := by
  have h : Try.f7.results = #[.cell 10 4] := rfl
  have hp' : tmps[10]?.getD undef = .pointer (some ⟨g, 0, none⟩) := by simpa using hp
  have hc := hb.cell
  have ha := Try.isAgg4
  simp [results, h, hp', asAddr]
  go_simp
theorem boxesS (w : World) (size leave : Int) (sl : Value) : let W := (((w.alloc (.cells #[.int .i64 size] 2)).alloc (.cells #[sl] TPutsS)).alloc (.cells #[.int .i64 leave] 3)).alloc (.cells #[.bool false] 4)
    Boxed W w.heap.size 2 (.int .i64 size) ∧ Boxed W (w.heap.size + 1) TPutsS sl ∧ Boxed W (w.heap.size + 1 + 1) 3 (.int .i64 leave) ∧ Boxed W (w.heap.size + 1 + 1 + 1) 4 (.bool false) ∧ Below w.heap.size w W ∧ W.heap.size = w.heap.size + 1 + 1 + 1 + 1 := by
  intro W
  have a0 := Boxed.new w 2 (.int .i64 size)
  have a1 := Boxed.new (w.alloc (.cells #[.int .i64 size] 2)) TPutsS sl
  have a2 := Boxed.new ((w.alloc (.cells #[.int .i64 size] 2)).alloc (.cells #[sl] TPutsS)) 3 (.int .i64 leave)
  have a3 := Boxed.new (((w.alloc (.cells #[.int .i64 size] 2)).alloc (.cells #[sl] TPutsS)).alloc (.cells #[.int .i64 leave] 3)) 4 (.bool false)
  simp only [World.size_alloc] at a1 a2 a3
  refine ⟨((a0.alloc _).alloc _).alloc _, (a1.alloc _).alloc _, a2.alloc _, a3, ?_, by simp [W]⟩
  exact ((((Below.refl _ w).alloc (Nat.le_refl _) _).alloc (by simp) _).alloc (by simp; omega) _).alloc (by simp; omega) _
def EC2 : List (Nat × Nat) := [(3, 1), (3, 2), (4, 3), (5, 4), (8, 6), (8, 7), (9, 8), (10, 9), (13, 11), (13, 12), (14, 13), (15, 14), (16, 0), (16, 5), (16, 10), (16, 15)]
set_option maxHeartbeats 8000000 in
theorem lawSeen_bad (size first leave : Int) (vl : Value) (am : Option Addr) (nm cm : Nat) (w : World) (h : size < 0 ∨ 1099511627776 < size) : Calls Try.prog 7 #[.int .i64 size, .int .i64 first, vl, .slice am nm cm, .int .i64 leave] w fun e w' => e = .returned (.bool true) ∧ Below w.heap.size w w' := by
  have qp : ∀ (w : World), (binOp .eql TMapS (.pointer none) (.pointer none)).run Try.prog w = .ok (.bool true) w := fun _ => rfl
  refine (callsIn_wide (n := 4)).1 ?_
  have f0 : Fence.wide.fn 7 := trivial
  have f1 : Fence.wide.fn 19 := trivial
  have f2 : Fence.wide.fn 20 := trivial
  have f11 : Fence.wide.fn 18 := trivial
  have HS : Hid (∀ W, Calls Try.prog 20 #[.int .i64 size] W fun e w' => e = .returned (.bool false) ∧ w' = W) := fun W => sized_no size W h
  have HL : Hid (∀ W, Calls Try.prog 19 #[.int .i64 size, .int .i64 first, vl] W fun e w' => e = .returned (.pointer none) ∧ w' = W) := fun W => laid_bad size first _ W h
  obtain ⟨W5, hW5⟩ : ∃ W5, W5 = ((((w.alloc (.cells #[.int .i64 size] 2)).alloc (.cells #[.slice am nm cm] TPutsS)).alloc (.cells #[.int .i64 leave] 3)).alloc (.cells #[.bool false] 4)).alloc (.cells #[.pointer none] TMapS) := ⟨_, rfl⟩
  obtain ⟨b0, b1, b2, b3, bB, bs⟩ := boxesS w size leave (.slice am nm cm)
  have hB5 : Below w.heap.size w W5 := by rw [hW5]; exact bB.alloc bB.size _
  have k0 : Boxed W5 w.heap.size 2 (.int .i64 size) := by rw [hW5]; exact b0.alloc _
  have k3 : Boxed W5 (w.heap.size + 1 + 1 + 1) 4 (.bool false) := by rw [hW5]; exact b3.alloc _
  have HX : Hid (∀ W, Below W5.heap.size W5 W → Boxed W (w.heap.size + 1 + 1 + 1) 4 (.bool false) ∧ Below w.heap.size w W) := fun W hW => ⟨boxed_later k3 hW, hB5.trans (hW.mono hB5.size)⟩
  have c0 := k0.cell
  have b0c := b0.cell
  rw [hW5] at c0
  clear h b1 b2 b3 bB bs b0 k0 k3 hB5
  refine callsIn_of_wp_marks Try.func7 rfl f0 ?_ rfl
  simp only [Try.ntmps7, List.size_toArray, List.length_cons, List.length_nil, Nat.reduceAdd, Nat.reduceSub, Array.replicate_succ, Array.replicate_zero, List.push_toArray, List.append_toArray, List.nil_append, List.cons_append]
  gi_big_wp2_with (first | (gi_at_call 19; refine (callsIn_wide.2 (HL.out _)).mono ?_; rintro e w9 ⟨rfl, hw9⟩; rw [hw9]; clear hw9) | (gi_at_call 20; refine (callsIn_wide.2 (HS.out _)).mono ?_; rintro e w9 ⟨rfl, hw9⟩; rw [hw9]; clear hw9) | (gi_at_call 18; refine (callsIn_wide.2 (alive_any _)).mono ?_; rintro e w9 ⟨rfl, hb⟩; have hx := HX.out w9 (by rw [hW5]; exact hb); have hxc := hx.1.cell; have hxf := hx.1.frozen; clear hb))
  exact ⟨_, res_boolS rfl (hx.1.set _), rfl, hx.2.grown (grownBy_setCell' _ _ _) (by have := hx.2.size; omega) (fun k e => by cases e; omega)⟩
set_option maxHeartbeats 8000000 in
theorem lawSeen_good (size first leave : Int) (l more : List Put) (al am : Option Addr) (cl cm n nm : Nat) (w : World) (HLl : Hid (n = l.length)) (HLm : Hid (nm = more.length)) (hn : n ≤ 9223372036854775807) (hnm : nm ≤ 9223372036854775807) (PL : Hid (Puts w al l)) (PM : Hid (Puts w am more)) (h0 : 0 ≤ size) (h1 : size ≤ 1099511627776) :
    Calls Try.prog 7 #[.int .i64 size, .int .i64 first, .slice al n cl, .slice am nm cm, .int .i64 leave] w fun e w' => e = .returned (.bool true) ∧ Below w.heap.size w w' := by
  have qp : ∀ (w : World) (a : Addr), (binOp .eql TMapS (.pointer (some a)) (.pointer none)).run Try.prog w = .ok (.bool false) w := fun _ _ => rfl
  refine (callsIn_wide (n := 12)).1 ?_
  have f0 : Fence.wide.fn 7 := trivial
  have f1 : Fence.wide.fn 19 := trivial
  have f3 : Fence.wide.fn 21 := trivial
  have f4 : Fence.wide.fn 36 := trivial
  have f5 : Fence.wide.fn 16 := trivial
  have f6 : Fence.wide.fn 15 := trivial
  have f7 : Fence.wide.fn 24 := trivial
  have f11 : Fence.wide.fn 18 := trivial
  obtain ⟨W4, hW4⟩ : ∃ W4, W4 = (((w.alloc (.cells #[.int .i64 size] 2)).alloc (.cells #[.slice am nm cm] TPutsS)).alloc (.cells #[.int .i64 leave] 3)).alloc (.cells #[.bool false] 4) := ⟨_, rfl⟩
  have HB := boxesS w size leave (.slice am nm cm)
  simp only [← hW4] at HB
  obtain ⟨b0, b1, b2, b3, hB4, hs4⟩ := HB
  have HLd : Hid (Calls Try.prog 19 #[.int .i64 size, .int .i64 first, .slice al n cl] W4 fun e w' => ∃ bm v, e = .returned (.pointer (some ⟨bm, 0, none⟩)) ∧ MO w' W4.heap.size bm v size (runsL size first l) ∧ Below W4.heap.size W4 w') := laid_any size first al n cl l W4 HLl (by omega) (PL.out.later hB4) h0 h1
  have HBX : Hid (Boxed W4 w.heap.size 2 (.int .i64 size) ∧ Boxed W4 (w.heap.size + 1) TPutsS (.slice am nm cm) ∧ Boxed W4 (w.heap.size + 1 + 1) 3 (.int .i64 leave) ∧ Boxed W4 (w.heap.size + 1 + 1 + 1) 4 (.bool false) ∧ Below w.heap.size w W4 ∧ W4.heap.size = w.heap.size + 1 + 1 + 1 + 1) := ⟨b0, b1, b2, b3, hB4, hs4⟩
  have c40 := b0.cell
  rw [hW4] at c40
  have HCx : Hid (∀ W (k : Nat), Below W4.heap.size W4 W → W.cell? ⟨w.heap.size, 0, none⟩ = some (.int .i64 size)) := fun W _ hb => (boxed_later HBX.out.1 hb).cell
  clear b0 b1 b2 b3 hB4 hs4
  refine callsIn_of_wp_marks Try.func7 rfl f0 ?_ rfl
  simp only [Try.ntmps7, List.size_toArray, List.length_cons, List.length_nil, Nat.reduceAdd, Nat.reduceSub, Array.replicate_succ, Array.replicate_zero, List.push_toArray, List.append_toArray, List.nil_append, List.cons_append]
  gi_big_wp2_with (first | (gi_at_call 19; rw [← hW4]; refine (callsIn_wide.2 HLd.out).mono ?_; rintro e w1 ⟨bm, vm0, rfl, hMO, hb1⟩; have bB1 := Boxed.new w1 TMapS (.pointer (some ⟨bm, 0, none⟩)); have e1 : (w1.alloc (.cells #[.pointer (some ⟨bm, 0, none⟩)] TMapS)).cell? ⟨w.heap.size, 0, none⟩ = some (.int .i64 size) := HCx.out _ 0 (hb1.alloc hb1.size _); have e2 := bB1.cell) | (gi_at_call 16; refine (callsIn_wide.2 (runsF_any (hMO.later ((Below.refl _ w1).alloc (Nat.le_refl _) (.cells #[.pointer (some ⟨bm, 0, none⟩)] TMapS))))).mono ?_; rintro e w2 ⟨wv, rfl, hwr, hb2⟩; have bB2 := boxed_later bB1 hb2; have e3 := bB2.cell; have e4 : w2.cell? ⟨w.heap.size, 0, none⟩ = some (.int .i64 size) := cell_later hb2 e1) | (gi_at_call 21; refine (callsIn_wide.2 (runs_any _ _ _ _)).mono ?_; rintro e w' ⟨rfl, rfl⟩))
  obtain ⟨W0, hW0⟩ : ∃ W0, W0 = (((((w2.alloc (.cells #[.pointer (some ⟨bm, 0, none⟩)] TMapS)).alloc (.cells #[.int .i64 0] 2)).alloc (.cells #[.int .i64 size] 2)).alloc (.cells #[(.func (.func 36) #[] #[.pointer (some ⟨w2.heap.size, 0, none⟩), .pointer (some ⟨w2.heap.size + 1, 0, none⟩), .pointer (some ⟨w2.heap.size + 2, 0, none⟩)])] TSeqI)).alloc (.cells #[.slice none 0 0] TEnts)).alloc (.cells #[.int .i64 0] 3) := ⟨_, rfl⟩
  have hB20 : Below w2.heap.size w2 W0 := by rw [hW0]; exact ((((((Below.refl _ w2).alloc (Nat.le_refl _) _).alloc (by simp) _).alloc (by simp; omega) _).alloc (by simp; omega) _).alloc (by simp; omega) _).alloc (by simp; omega) _
  have hs0 : W0.heap.size = w2.heap.size + 6 := by rw [hW0]; simp
  have z1 : Boxed W0 w2.heap.size TMapS (.pointer (some ⟨bm, 0, none⟩)) := by
    have := Boxed.new w2 TMapS (.pointer (some ⟨bm, 0, none⟩))
    rw [hW0]; exact ((((this.alloc _).alloc _).alloc _).alloc _).alloc _
  have z2 : Boxed W0 (w2.heap.size + 1) 2 (.int .i64 0) := by
    have := Boxed.new (w2.alloc (.cells #[.pointer (some ⟨bm, 0, none⟩)] TMapS)) 2 (.int .i64 0)
    simp only [World.size_alloc] at this
    rw [hW0]; exact (((this.alloc _).alloc _).alloc _).alloc _
  have z3 : Boxed W0 (w2.heap.size + 2) 2 (.int .i64 size) := by
    have := Boxed.new ((w2.alloc (.cells #[.pointer (some ⟨bm, 0, none⟩)] TMapS)).alloc (.cells #[.int .i64 0] 2)) 2 (.int .i64 size)
    simp only [World.size_alloc] at this
    rw [hW0]; exact ((this.alloc _).alloc _).alloc _
  have z4 : Boxed W0 (w2.heap.size + 1 + 1 + 1) TSeqI (.func (.func 36) #[] #[.pointer (some ⟨w2.heap.size, 0, none⟩), .pointer (some ⟨w2.heap.size + 1, 0, none⟩), .pointer (some ⟨w2.heap.size + 2, 0, none⟩)]) := by
    have := Boxed.new (((w2.alloc (.cells #[.pointer (some ⟨bm, 0, none⟩)] TMapS)).alloc (.cells #[.int .i64 0] 2)).alloc (.cells #[.int .i64 size] 2)) TSeqI (.func (.func 36) #[] #[.pointer (some ⟨w2.heap.size, 0, none⟩), .pointer (some ⟨w2.heap.size + 1, 0, none⟩), .pointer (some ⟨w2.heap.size + 2, 0, none⟩)])
    simp only [World.size_alloc] at this
    rw [hW0]; exact (this.alloc _).alloc _
  have z5 : Boxed W0 (w2.heap.size + 1 + 1 + 1 + 1) TEnts (.slice none 0 0) := by
    have := Boxed.new ((((w2.alloc (.cells #[.pointer (some ⟨bm, 0, none⟩)] TMapS)).alloc (.cells #[.int .i64 0] 2)).alloc (.cells #[.int .i64 size] 2)).alloc (.cells #[(.func (.func 36) #[] #[.pointer (some ⟨w2.heap.size, 0, none⟩), .pointer (some ⟨w2.heap.size + 1, 0, none⟩), .pointer (some ⟨w2.heap.size + 2, 0, none⟩)])] TSeqI)) TEnts (.slice none 0 0)
    simp only [World.size_alloc] at this
    rw [hW0]; exact this.alloc _
  have z6 : Boxed W0 (w2.heap.size + 1 + 1 + 1 + 1 + 1) 3 (.int .i64 0) := by
    have := Boxed.new (((((w2.alloc (.cells #[.pointer (some ⟨bm, 0, none⟩)] TMapS)).alloc (.cells #[.int .i64 0] 2)).alloc (.cells #[.int .i64 size] 2)).alloc (.cells #[(.func (.func 36) #[] #[.pointer (some ⟨w2.heap.size, 0, none⟩), .pointer (some ⟨w2.heap.size + 1, 0, none⟩), .pointer (some ⟨w2.heap.size + 2, 0, none⟩)])] TSeqI)).alloc (.cells #[.slice none 0 0] TEnts)) 3 (.int .i64 0)
    simp only [World.size_alloc] at this
    rw [hW0]; exact this
  rw [← hW0]
  have hb1a : Below w1.heap.size w1 w2 := ((Below.refl _ w1).alloc (Nat.le_refl _) (.cells #[.pointer (some ⟨bm, 0, none⟩)] TMapS)).trans (hb2.mono (by simp))
  have hb10 : Below w1.heap.size w1 W0 := hb1a.trans (hB20.mono hb1a.size)
  have hMO0 : MO W0 W4.heap.size bm vm0 size (runsL size first l) := hMO.later hb10
  have hbm : bm < w1.heap.size := hMO.ltm
  have hs21 : w1.heap.size + 1 ≤ w2.heap.size := by have := hb2.size; simpa using this
  have hw40 : Below w.heap.size w W0 := HBX.out.2.2.2.2.1.trans ((hb1.trans (hb10.mono hb1.size)).mono HBX.out.2.2.2.2.1.size)
  have hvm0 : ∀ g, vm0.ownBlock = some g → W4.heap.size ≤ g ∧ g < w1.heap.size := fun g e => ⟨(row_lt hMO.row g e).2.1, (row_lt hMO.row g e).1⟩
  have hbmB : W4.heap.size ≤ bm := hMO.base
  have hs4 : W4.heap.size = w.heap.size + 1 + 1 + 1 + 1 := HBX.out.2.2.2.2.2
  have hb41 : W4.heap.size ≤ w1.heap.size := hb1.size
  -- the boxes that stay
  have HFx : Hid (Boxed W0 w.heap.size 2 (.int .i64 size) ∧ Boxed W0 (w.heap.size + 1) TPutsS (.slice am nm cm) ∧ Boxed W0 (w.heap.size + 1 + 1) 3 (.int .i64 leave) ∧ Boxed W0 (w.heap.size + 1 + 1 + 1) 4 (.bool false) ∧ Boxed W0 w1.heap.size TMapS (.pointer (some ⟨bm, 0, none⟩)) ∧ Boxed W0 w2.heap.size TMapS (.pointer (some ⟨bm, 0, none⟩)) ∧ Boxed W0 (w2.heap.size + 1) 2 (.int .i64 0) ∧ Boxed W0 (w2.heap.size + 2) 2 (.int .i64 size) ∧ Boxed W0 (w2.heap.size + 1 + 1 + 1) TSeqI (.func (.func 36) #[] #[.pointer (some ⟨w2.heap.size, 0, none⟩), .pointer (some ⟨w2.heap.size + 1, 0, none⟩), .pointer (some ⟨w2.heap.size + 2, 0, none⟩)])) := by
    have q := hb1.trans (hb10.mono hb1.size)
    exact ⟨boxed_later HBX.out.1 q, boxed_later HBX.out.2.1 q, boxed_later HBX.out.2.2.1 q, boxed_later HBX.out.2.2.2.1 q, boxed_later bB2 hB20, z1, z2, z3, z4⟩
  have HKX : Hid (∀ W, KX (S0 bm (w2.heap.size + 1 + 1 + 1 + 1 + 1) (w2.heap.size + 1 + 1 + 1 + 1) vm0) W0 W → (Boxed W w.heap.size 2 (.int .i64 size) ∧ Boxed W (w.heap.size + 1) TPutsS (.slice am nm cm) ∧ Boxed W (w.heap.size + 1 + 1) 3 (.int .i64 leave) ∧ Boxed W (w.heap.size + 1 + 1 + 1) 4 (.bool false) ∧ Boxed W w1.heap.size TMapS (.pointer (some ⟨bm, 0, none⟩)) ∧ Boxed W w2.heap.size TMapS (.pointer (some ⟨bm, 0, none⟩)) ∧ Boxed W (w2.heap.size + 1) 2 (.int .i64 0) ∧ Boxed W (w2.heap.size + 2) 2 (.int .i64 size) ∧ Boxed W (w2.heap.size + 1 + 1 + 1) TSeqI (.func (.func 36) #[] #[.pointer (some ⟨w2.heap.size, 0, none⟩), .pointer (some ⟨w2.heap.size + 1, 0, none⟩), .pointer (some ⟨w2.heap.size + 2, 0, none⟩)])) ∧ Below w.heap.size w W ∧ W.ownsRow (w1.heap.size + 1) TEnt 3 wv (runsL size first l).length (rcells E (runsL size first l))) := fun W hk => by
    obtain ⟨q1, q2, q3, q4, q5, q6, q7, q8, q9⟩ := HFx.out
    have no : ∀ k, (k < W4.heap.size ∨ (w1.heap.size ≤ k ∧ k ≤ w2.heap.size + 1 + 1 + 1)) → ¬ S0 bm (w2.heap.size + 1 + 1 + 1 + 1 + 1) (w2.heap.size + 1 + 1 + 1 + 1) vm0 k := fun k hk hS => by
      rcases hS with e | e | e | e
      · omega
      · omega
      · omega
      · have := hvm0 k e; omega
    refine ⟨⟨hk.box q1 (no _ (by omega)), hk.box q2 (no _ (by omega)), hk.box q3 (no _ (by omega)), hk.box q4 (no _ (by omega)), hk.box q5 (no _ (by omega)), hk.box q6 (no _ (by omega)), hk.box q7 (no _ (by omega)), hk.box q8 (no _ (by omega)), hk.box q9 (no _ (by omega))⟩, KX.below hw40 hk hw40.size (fun i hS => ?_), ?_⟩
    · rcases hS with e | e | e | e
      · omega
      · omega
      · omega
      · have := hvm0 i e; omega
    · have hwr0 : W0.ownsRow (w1.heap.size + 1) TEnt 3 wv (runsL size first l).length (rcells E (runsL size first l)) := owns_same (owns_mono hwr (by simp)) (fun g e => hB20.block g (row_lt hwr g e).1)
      refine hk.row hwr0 (fun g e => no g ?_)
      have h3 := row_lt hwr g e
      have h4 := h3.2.1
      simp at h4
      omega
  have HSJ0 : Hid (SJ W0 W4.heap.size bm (w2.heap.size + 1 + 1 + 1 + 1 + 1) (w2.heap.size + 1 + 1 + 1 + 1) vm0 size [] 0 (runsL size first l) W0) := ⟨KX.refl _ _, ⟨vm0, hMO0, fun g e => .inl e⟩, z6, ⟨_, z5, World.ownsRow_nil _ _ _ _⟩, by omega, by omega, by omega, by omega⟩
  have hseq := runs1_gen 11 (by omega) (fun r : Rn Int => r) (keepsRowC bm) hMO0 0 size z1.cell z2.cell z3.cell (runsL size first l) (cutA_whole hMO0.tiles) (fun W w1' k hb1' hb2' hk1 hk2 => ⟨size, vm0, (hb2'.block _ (by have := hb1'.size; omega)).trans ((hb1'.block _ (by omega)).trans hMO0.blk), fun e => by have := hvm0 k e; have := hb1'.size; omega, hk2⟩)
  have hlen : (runsL size first l).length ≤ 1099511627776 := hMO.len
  clear z1 z2 z3 z4 z5 z6 hW0 hMO hMO0 hb1 hb2 hb1a hb10 hB20 hwr e1 e2 e3 e4 bB1 bB2 c40 hW4 HLd HCx hw40
  refine wpIn_rangeFunc_ownH rfl (by omega) (gf := 36) (lb := #[.pointer (some ⟨w2.heap.size, 0, none⟩), .pointer (some ⟨w2.heap.size + 1, 0, none⟩), .pointer (some ⟨w2.heap.size + 2, 0, none⟩)]) rfl f4 (enters_of Try.func36 (by kernel_rfl) rfl)
    hseq kpC_t (kpC_b (w := W0)) (Below.refl _ _) (fun _ => rfl)
    (fun pre W => SJ W0 W4.heap.size bm (w2.heap.size + 1 + 1 + 1 + 1 + 1) (w2.heap.size + 1 + 1 + 1 + 1) vm0 size pre (min pre.length nm : Nat) (runsL size first (l ++ more.take pre.length)) W)
    (fun _ _ _ => False)
    (fun pre X Y row hs hg hr => SJ.own (Nat.le_refl _) () X Y row hs hg hr)
    (fun _ _ _ _ _ hs _ _ => hs)
    (by simpa using HSJ0.out)
    (fun x a' W => ∃ Bx, W.heap[Bx]? = some (.cells #[.int .i64 x.lo, .int .i64 x.hi, .int .i64 x.v] TRun (0, 0)) ∧ a' = { tmps := #[.int .i64 size, .int .i64 first, .slice al n cl, .slice am nm cm, .int .i64 leave, .pointer (some ⟨w.heap.size, 0, none⟩), undef, undef, .pointer (some ⟨w.heap.size + 1, 0, none⟩), .pointer (some ⟨w.heap.size + 1 + 1, 0, none⟩), .pointer (some ⟨w.heap.size + 1 + 1 + 1, 0, none⟩), .pointer (some ⟨w1.heap.size, 0, none⟩), wv, .pointer (some ⟨w2.heap.size + 1 + 1 + 1, 0, none⟩), .pointer (some ⟨w2.heap.size + 1 + 1 + 1 + 1, 0, none⟩), .pointer (some ⟨w2.heap.size + 1 + 1 + 1 + 1 + 1, 0, none⟩), .pointer (some ⟨Bx, 0, none⟩), undef, undef, undef, .int .i64 size, .int .i64 first, .slice al n cl, .pointer (some ⟨bm, 0, none⟩), .pointer (some ⟨bm, 0, none⟩), .bool false, undef, undef, undef, undef, undef, undef, .pointer (some ⟨bm, 0, none⟩), .int .i64 size, wv, .pointer (some ⟨bm, 0, none⟩), .int .i64 size, (.func (.func 36) #[] #[.pointer (some ⟨w2.heap.size, 0, none⟩), .pointer (some ⟨w2.heap.size + 1, 0, none⟩), .pointer (some ⟨w2.heap.size + 2, 0, none⟩)]), (.func (.func 36) #[] #[.pointer (some ⟨w2.heap.size, 0, none⟩), .pointer (some ⟨w2.heap.size + 1, 0, none⟩), .pointer (some ⟨w2.heap.size + 2, 0, none⟩)]), .agg #[.int .i64 x.lo, .int .i64 x.hi, .int .i64 x.v], undef, undef, undef, undef, undef, undef, undef, undef, undef, undef, undef, undef, undef, undef, undef, undef, undef, undef, undef, undef, undef, undef, undef, undef, undef, undef, undef, undef, undef, undef, undef, undef, undef, undef, undef, undef, undef, undef, undef, undef, undef, undef, undef, undef, undef, undef, undef, undef, undef, undef, undef, undef, undef, undef, undef, undef, undef, undef, undef, undef, undef, undef, undef, undef, undef, undef, undef, undef, undef, undef, undef, undef, undef, undef, undef, undef, undef, undef, undef, undef, undef, undef, undef, undef, undef, undef, undef, undef, undef, undef, undef, undef], defers := [] })
    (fun x a' s X Y row hs hg hrow => by
      obtain ⟨Bx, hx, e⟩ := hs
      exact ⟨Bx, cells_ownC Bx _ _ _ () X Y row hx hg hrow, e⟩)
    ?assign ?body ?done ?stop
  case assign =>
    rintro l' pre x W K hSJ hK
    gi_big_wp2
    have hba : Below W.heap.size W (W.alloc (.cells #[.int .i64 x.lo, .int .i64 x.hi, .int .i64 x.v] TRun)) := (Below.refl _ W).alloc (Nat.le_refl _) _
    exact hK _ _ ((KeepsOthers.alloc _ _).from _) (kpC_below _ hba) (hSJ.later hba) ⟨W.heap.size, heap_alloc_new W _, rfl⟩
  case body =>
    rintro l' pre x a' W hl' ⟨r, hr⟩ hSJ ⟨Bx, hx, rfl⟩ hlt
    obtain ⟨⟨q1, q2, q3, q4, q5, q6, q7, q8, q9⟩, hbw, hwr⟩ := HKX.out W hSJ.kx
    obtain ⟨gv, hg, hgr⟩ := hSJ.g
    have hc := hg.cell
    have hfz := hg.frozen
    have ic := hSJ.i.cell
    have mc := q2.cell
    have x0 : W.cell? ⟨Bx, 0, none⟩ = some (.int .i64 x.lo) := by unfold World.cell?; simp only [hx]; rfl
    have x1 : W.cell? ⟨Bx, 1, none⟩ = some (.int .i64 x.hi) := by unfold World.cell?; simp only [hx]; rfl
    have x2 : W.cell? ⟨Bx, 2, none⟩ = some (.int .i64 x.v) := by unfold World.cell?; simp only [hx]; rfl
    have hszW : W0.heap.size ≤ W.heap.size := hSJ.kx.size
    obtain ⟨i0, hi, hz0, hz1, hz2⟩ := info_parts infoEnt
    by_cases hlm : pre.length < nm
    · have hmin : min pre.length nm = pre.length := by omega
      rw [hmin] at hSJ ic
      have hkz : (pre.length : Int) < (nm : Int) := by omega
      gi_big_wp2_with (first | (gi_at_builtin; refine wpListIn_append_own _ rfl _ _ TEnts rfl W0.heap.size TEnt i0 _ 3 24 Try.underlying38 hi hz0 hz1 hz2 rfl (by decide) _ _ _ rfl (hgr.alloc _) ⟨W.heap.size, 0, none⟩ 1 1 [.int .i64 x.lo, .int .i64 x.hi, .int .i64 x.v] rfl rfl (newsE _ _ _ _) (by simp [Value.oneCell']) (by unfold maxLen; omega) (by omega) (by simp; omega) ?_; intro v' wa hown' hgrow _; obtain ⟨g', cap', rfl⟩ := ownsRow_succ hown'; obtain ⟨hA, kA, oA, hvA⟩ := hSJ.app (x := x) hg hgr hown' hgrow; have hc1 := hvA.cell; have hf1 := hvA.frozen; obtain ⟨⟨p1, p2, p3, p4, p5, p6, p7, p8, p9⟩, hbwA, hwrA⟩ := HKX.out _ hA.kx; have icA := hA.i.cell; have mcA := p2.cell))
      obtain ⟨WA, hWA⟩ : ∃ WA, WA = wa.setCell ⟨w2.heap.size + 1 + 1 + 1 + 1, 0, none⟩ (.slice (some ⟨g', 0, none⟩) (pre.length + 1) cap') := ⟨_, rfl⟩
      rw [← hWA] at hA kA oA p1 p2 p3 p4 p5 p6 p7 p8 p9 hbwA hwrA icA mcA ⊢
      obtain ⟨q, hq⟩ : ∃ q, more[pre.length]? = some q := ⟨_, List.getElem?_eq_getElem (by have := HLm.out; omega)⟩
      obtain ⟨qb, qo, rfl, u0, u1, u2⟩ := (PM.out.later hbwA) pre.length q hq
      have hbd : Below WA.heap.size WA WA.drew := below_drewN (Below.refl _ WA) 1
      have HCe : Hid (WA.drew.cell? ⟨w1.heap.size, 0, none⟩ = some (.pointer (some ⟨bm, 0, none⟩)) ∧ WA.drew.cell? ⟨w.heap.size + 1, 0, none⟩ = some (.slice (some ⟨qb, qo, none⟩) nm cm) ∧ WA.drew.cell? ⟨w2.heap.size + 1 + 1 + 1 + 1 + 1, 0, none⟩ = some (.int .i64 (pre.length : Int)) ∧ WA.drew.cell? ⟨qb, qo + pre.length * 3, none⟩ = some (.int .i64 q.1) ∧ WA.drew.cell? ⟨qb, qo + pre.length * 3 + 1, none⟩ = some (.int .i64 q.2.1) ∧ WA.drew.cell? ⟨qb, qo + pre.length * 3 + 2, none⟩ = some (.int .i64 q.2.2)) := ⟨p5.cell, mcA, icA, u0, u1, u2⟩
      obtain ⟨vm, hm, hf⟩ := hA.m
      have HSt : Hid (Calls Try.prog 24 #[.pointer (some ⟨bm, 0, none⟩), .int .i64 q.1, .int .i64 q.2.1, .int .i64 q.2.2] WA.drew fun e w' => e = .returned (.int .i64 (setE size q.1 q.2.1)) ∧ (SJ W0 W4.heap.size bm (w2.heap.size + 1 + 1 + 1 + 1 + 1) (w2.heap.size + 1 + 1 + 1 + 1) vm0 size (pre ++ [x]) (pre.length : Nat) (runsL size first (l ++ more.take (pre.length + 1))) w' ∧ KpC bm W w' ∧ KeepsOthers W w')) := by
        refine (set_any (hm.later hbd) q.1 q.2.1 q.2.2).mono fun e w' ⟨he, v', hm', hk'⟩ => ⟨he, ?_⟩
        obtain ⟨j1, j2, j3⟩ := (hA.later hbd).set (hm.later hbd) hf hm' hk'
        refine ⟨?_, kpC_t (kpC_t kA (kpC_below bm hbd)) j2, (oA.trans ⟨hbd.size, fun k o ho _ => (hbd.block k (Array.getElem?_eq_some_iff.1 ho).1).trans ho⟩).trans j3⟩
        rw [List.take_add_one, hq, show (some q).toList = [q] from rfl, ← List.append_assoc, runsL_snoc]
        exact j1
      clear u0 u1 u2 hq hc1 hf1 hvA hown' hgrow hWA hbd hm hf icA mcA p1 p2 p3 p4 p5 p6 p7 p8 p9 hwrA q1 q2 q3 q4 q5 q6 q7 q8 q9 x0 x1 x2 hc hfz ic mc hg hgr
      refine wpIn_region_any (by kernel_rfl) ?_
      refine wpAnyIn_by (fun l2 a2 w' => l2.size = 17 ∧ Cl EC2 l2 ∧ a2 = { tmps := #[.int .i64 size, .int .i64 first, .slice al n cl, .slice (some ⟨qb, qo, none⟩) nm cm, .int .i64 leave, .pointer (some ⟨w.heap.size, 0, none⟩), undef, undef, .pointer (some ⟨w.heap.size + 1, 0, none⟩), .pointer (some ⟨w.heap.size + 1 + 1, 0, none⟩), .pointer (some ⟨w.heap.size + 1 + 1 + 1, 0, none⟩), .pointer (some ⟨w1.heap.size, 0, none⟩), wv, .pointer (some ⟨w2.heap.size + 1 + 1 + 1, 0, none⟩), .pointer (some ⟨w2.heap.size + 1 + 1 + 1 + 1, 0, none⟩), .pointer (some ⟨w2.heap.size + 1 + 1 + 1 + 1 + 1, 0, none⟩), .pointer (some ⟨Bx, 0, none⟩), undef, undef, undef, .int .i64 size, .int .i64 first, .slice al n cl, .pointer (some ⟨bm, 0, none⟩), .pointer (some ⟨bm, 0, none⟩), .bool false, undef, undef, undef, undef, undef, undef, .pointer (some ⟨bm, 0, none⟩), .int .i64 size, wv, .pointer (some ⟨bm, 0, none⟩), .int .i64 size, (.func (.func 36) #[] #[.pointer (some ⟨w2.heap.size, 0, none⟩), .pointer (some ⟨w2.heap.size + 1, 0, none⟩), .pointer (some ⟨w2.heap.size + 2, 0, none⟩)]), (.func (.func 36) #[] #[.pointer (some ⟨w2.heap.size, 0, none⟩), .pointer (some ⟨w2.heap.size + 1, 0, none⟩), .pointer (some ⟨w2.heap.size + 2, 0, none⟩)]), .agg #[.int .i64 x.lo, .int .i64 x.hi, .int .i64 x.v], gv, .pointer (some ⟨Bx, 0, none⟩), .int .i64 x.lo, .pointer (some ⟨Bx, 1, none⟩), .int .i64 x.hi, .pointer (some ⟨Bx, 2, none⟩), .int .i64 x.v, .agg #[.int .i64 x.lo, .int .i64 x.hi, .int .i64 x.v], .slice (some ⟨W.heap.size, 0, none⟩) 1 1, (.slice (some ⟨g', 0, none⟩) (pre.length + 1) cap'), .int .i64 (pre.length : Int), .slice (some ⟨qb, qo, none⟩) nm cm, .int .i64 (nm : Int), .bool true, (if l2.getD 0 true = true then .pointer (some ⟨bm, 0, none⟩) else undef), (if l2.getD 1 true = true then .slice (some ⟨qb, qo, none⟩) nm cm else undef), (if l2.getD 2 true = true then .int .i64 (pre.length : Int) else undef), (if l2.getD 3 true = true then .pointer (some ⟨qb, qo + pre.length * 3, none⟩) else undef), (if l2.getD 4 true = true then .pointer (some ⟨qb, qo + pre.length * 3, none⟩) else undef), (if l2.getD 5 true = true then .int .i64 q.1 else undef), (if l2.getD 6 true = true then .slice (some ⟨qb, qo, none⟩) nm cm else undef), (if l2.getD 7 true = true then .int .i64 (pre.length : Int) else undef), (if l2.getD 8 true = true then .pointer (some ⟨qb, qo + pre.length * 3, none⟩) else undef), (if l2.getD 9 true = true then .pointer (some ⟨qb, qo + pre.length * 3 + 1, none⟩) else undef), (if l2.getD 10 true = true then .int .i64 q.2.1 else undef), (if l2.getD 11 true = true then .slice (some ⟨qb, qo, none⟩) nm cm else undef), (if l2.getD 12 true = true then .int .i64 (pre.length : Int) else undef), (if l2.getD 13 true = true then .pointer (some ⟨qb, qo + pre.length * 3, none⟩) else undef), (if l2.getD 14 true = true then .pointer (some ⟨qb, qo + pre.length * 3 + 2, none⟩) else undef), (if l2.getD 15 true = true then .int .i64 q.2.2 else undef), (if l2.getD 16 true = true then .int .i64 (setE size q.1 q.2.1) else undef), undef, undef, undef, undef, undef, undef, undef, undef, undef, undef, undef, undef, undef, undef, undef, undef, undef, undef, undef, undef, undef, undef, undef, undef, undef, undef, undef, undef, undef, undef, undef, undef, undef, undef, undef, undef, undef, undef, undef, undef, undef, undef, undef, undef, undef, undef, undef, undef, undef, undef, undef, undef, undef, undef, undef, undef, undef, undef, undef, undef, undef], defers := [] } ∧ (l2.getD 16 true = false → w' = WA.drew) ∧ (l2.getD 16 true = true → SJ W0 W4.heap.size bm (w2.heap.size + 1 + 1 + 1 + 1 + 1) (w2.heap.size + 1 + 1 + 1 + 1) vm0 size (pre ++ [x]) (pre.length : Nat) (runsL size first (l ++ more.take (pre.length + 1))) w' ∧ KpC bm W w' ∧ KeepsOthers W w')) ?_ ?_ _ _ _ _ ?_ ?_
      case refine_3 => simp
      case refine_4 =>
        refine ⟨rfl, ?_, ?_, fun _ => rfl, fun h => by cases h⟩
        · intro e he h1
          simp only [EC2, List.mem_cons, List.not_mem_nil, or_false] at he
          rcases he with rfl | rfl | rfl | rfl | rfl | rfl | rfl | rfl | rfl | rfl | rfl | rfl | rfl | rfl | rfl | rfl <;> cases h1
        · rfl
      case refine_2 =>
        rintro l2 a2 wv2 i ⟨hsz, hcl, rfl, hW1, hW2⟩ hm2
        obtain ⟨hun, o, ho0, hall⟩ := mem_ready.1 hm2
        have ho := ho0
        have hi17 : i < 17 := (Array.getElem?_eq_some_iff.1 ho).1
        have hcase : i = 0 ∨ i = 1 ∨ i = 2 ∨ i = 3 ∨ i = 4 ∨ i = 5 ∨ i = 6 ∨ i = 7 ∨ i = 8 ∨ i = 9 ∨ i = 10 ∨ i = 11 ∨ i = 12 ∨ i = 13 ∨ i = 14 ∨ i = 15 ∨ i = 16 := by omega
        clear hi17 hm2
        rcases hcase with rfl | rfl | rfl | rfl | rfl | rfl | rfl | rfl | rfl | rfl | rfl | rfl | rfl | rfl | rfl | rfl | rfl
        · simp only [List.getElem?_toArray, List.getElem?_cons_succ, List.getElem?_cons_zero, Option.some.injEq] at ho
          subst ho
          have n16 := hcl.no (a := 16) (b := 0) (by simp [EC2]) hun
          have hwv := hW1 n16
          subst hwv
          have hc2 : Cl EC2 (l2.setIfInBounds 0 true) := hcl.step (by intro e he h1; simp only [EC2, List.mem_cons, List.not_mem_nil, or_false] at he; rcases he with rfl | rfl | rfl | rfl | rfl | rfl | rfl | rfl | rfl | rfl | rfl | rfl | rfl | rfl | rfl | rfl <;> first | (simp at h1; done) | assumption)
          have s0 : (l2.setIfInBounds 0 true).getD 0 true = true := getD_eq
          have s1 : (l2.setIfInBounds 0 true).getD 1 true = l2.getD 1 true := getD_ne (by decide)
          have s2 : (l2.setIfInBounds 0 true).getD 2 true = l2.getD 2 true := getD_ne (by decide)
          have s3 : (l2.setIfInBounds 0 true).getD 3 true = l2.getD 3 true := getD_ne (by decide)
          have s4 : (l2.setIfInBounds 0 true).getD 4 true = l2.getD 4 true := getD_ne (by decide)
          have s5 : (l2.setIfInBounds 0 true).getD 5 true = l2.getD 5 true := getD_ne (by decide)
          have s6 : (l2.setIfInBounds 0 true).getD 6 true = l2.getD 6 true := getD_ne (by decide)
          have s7 : (l2.setIfInBounds 0 true).getD 7 true = l2.getD 7 true := getD_ne (by decide)
          have s8 : (l2.setIfInBounds 0 true).getD 8 true = l2.getD 8 true := getD_ne (by decide)
          have s9 : (l2.setIfInBounds 0 true).getD 9 true = l2.getD 9 true := getD_ne (by decide)
          have s10 : (l2.setIfInBounds 0 true).getD 10 true = l2.getD 10 true := getD_ne (by decide)
          have s11 : (l2.setIfInBounds 0 true).getD 11 true = l2.getD 11 true := getD_ne (by decide)
          have s12 : (l2.setIfInBounds 0 true).getD 12 true = l2.getD 12 true := getD_ne (by decide)
          have s13 : (l2.setIfInBounds 0 true).getD 13 true = l2.getD 13 true := getD_ne (by decide)
          have s14 : (l2.setIfInBounds 0 true).getD 14 true = l2.getD 14 true := getD_ne (by decide)
          have s15 : (l2.setIfInBounds 0 true).getD 15 true = l2.getD 15 true := getD_ne (by decide)
          have s16 : (l2.setIfInBounds 0 true).getD 16 true = l2.getD 16 true := getD_ne (by decide)
          refine wpOpIn_want ho0 rfl (fun K hK => ?_)
          simp only [hun, n16, if_true, if_false, Bool.false_eq_true]
          have y0 := HCe.out.1
          first | gi_big_move | gi_big_op
          refine hK _ _ ?_
          refine ⟨by rw [Array.size_setIfInBounds]; exact hsz, hc2, ?_, fun _ => rfl, fun h16 => ?_⟩
          · simp only [s0, s1, s2, s3, s4, s5, s6, s7, s8, s9, s10, s11, s12, s13, s14, s15, s16, hun, n16, if_true, if_false, Bool.false_eq_true] <;> rfl
          · rw [s16, n16] at h16; cases h16
        · simp only [List.getElem?_toArray, List.getElem?_cons_succ, List.getElem?_cons_zero, Option.some.injEq] at ho
          subst ho
          have n3 := hcl.no (a := 3) (b := 1) (by simp [EC2]) hun
          have n4 := hcl.no (a := 4) (b := 3) (by simp [EC2]) n3
          have n5 := hcl.no (a := 5) (b := 4) (by simp [EC2]) n4
          have n16 := hcl.no (a := 16) (b := 5) (by simp [EC2]) n5
          have hwv := hW1 n16
          subst hwv
          have hc2 : Cl EC2 (l2.setIfInBounds 1 true) := hcl.step (by intro e he h1; simp only [EC2, List.mem_cons, List.not_mem_nil, or_false] at he; rcases he with rfl | rfl | rfl | rfl | rfl | rfl | rfl | rfl | rfl | rfl | rfl | rfl | rfl | rfl | rfl | rfl <;> first | (simp at h1; done) | assumption)
          have s0 : (l2.setIfInBounds 1 true).getD 0 true = l2.getD 0 true := getD_ne (by decide)
          have s1 : (l2.setIfInBounds 1 true).getD 1 true = true := getD_eq
          have s2 : (l2.setIfInBounds 1 true).getD 2 true = l2.getD 2 true := getD_ne (by decide)
          have s3 : (l2.setIfInBounds 1 true).getD 3 true = l2.getD 3 true := getD_ne (by decide)
          have s4 : (l2.setIfInBounds 1 true).getD 4 true = l2.getD 4 true := getD_ne (by decide)
          have s5 : (l2.setIfInBounds 1 true).getD 5 true = l2.getD 5 true := getD_ne (by decide)
          have s6 : (l2.setIfInBounds 1 true).getD 6 true = l2.getD 6 true := getD_ne (by decide)
          have s7 : (l2.setIfInBounds 1 true).getD 7 true = l2.getD 7 true := getD_ne (by decide)
          have s8 : (l2.setIfInBounds 1 true).getD 8 true = l2.getD 8 true := getD_ne (by decide)
          have s9 : (l2.setIfInBounds 1 true).getD 9 true = l2.getD 9 true := getD_ne (by decide)
          have s10 : (l2.setIfInBounds 1 true).getD 10 true = l2.getD 10 true := getD_ne (by decide)
          have s11 : (l2.setIfInBounds 1 true).getD 11 true = l2.getD 11 true := getD_ne (by decide)
          have s12 : (l2.setIfInBounds 1 true).getD 12 true = l2.getD 12 true := getD_ne (by decide)
          have s13 : (l2.setIfInBounds 1 true).getD 13 true = l2.getD 13 true := getD_ne (by decide)
          have s14 : (l2.setIfInBounds 1 true).getD 14 true = l2.getD 14 true := getD_ne (by decide)
          have s15 : (l2.setIfInBounds 1 true).getD 15 true = l2.getD 15 true := getD_ne (by decide)
          have s16 : (l2.setIfInBounds 1 true).getD 16 true = l2.getD 16 true := getD_ne (by decide)
          refine wpOpIn_want ho0 rfl (fun K hK => ?_)
          simp only [hun, n3, n4, n5, n16, if_true, if_false, Bool.false_eq_true]
          have y0 := HCe.out.2.1
          first | gi_big_move | gi_big_op
          refine hK _ _ ?_
          refine ⟨by rw [Array.size_setIfInBounds]; exact hsz, hc2, ?_, fun _ => rfl, fun h16 => ?_⟩
          · simp only [s0, s1, s2, s3, s4, s5, s6, s7, s8, s9, s10, s11, s12, s13, s14, s15, s16, hun, n3, n4, n5, n16, if_true, if_false, Bool.false_eq_true] <;> rfl
          · rw [s16, n16] at h16; cases h16
        · simp only [List.getElem?_toArray, List.getElem?_cons_succ, List.getElem?_cons_zero, Option.some.injEq] at ho
          subst ho
          have n3 := hcl.no (a := 3) (b := 2) (by simp [EC2]) hun
          have n4 := hcl.no (a := 4) (b := 3) (by simp [EC2]) n3
          have n5 := hcl.no (a := 5) (b := 4) (by simp [EC2]) n4
          have n16 := hcl.no (a := 16) (b := 5) (by simp [EC2]) n5
          have hwv := hW1 n16
          subst hwv
          have hc2 : Cl EC2 (l2.setIfInBounds 2 true) := hcl.step (by intro e he h1; simp only [EC2, List.mem_cons, List.not_mem_nil, or_false] at he; rcases he with rfl | rfl | rfl | rfl | rfl | rfl | rfl | rfl | rfl | rfl | rfl | rfl | rfl | rfl | rfl | rfl <;> first | (simp at h1; done) | assumption)
          have s0 : (l2.setIfInBounds 2 true).getD 0 true = l2.getD 0 true := getD_ne (by decide)
          have s1 : (l2.setIfInBounds 2 true).getD 1 true = l2.getD 1 true := getD_ne (by decide)
          have s2 : (l2.setIfInBounds 2 true).getD 2 true = true := getD_eq
          have s3 : (l2.setIfInBounds 2 true).getD 3 true = l2.getD 3 true := getD_ne (by decide)
          have s4 : (l2.setIfInBounds 2 true).getD 4 true = l2.getD 4 true := getD_ne (by decide)
          have s5 : (l2.setIfInBounds 2 true).getD 5 true = l2.getD 5 true := getD_ne (by decide)
          have s6 : (l2.setIfInBounds 2 true).getD 6 true = l2.getD 6 true := getD_ne (by decide)
          have s7 : (l2.setIfInBounds 2 true).getD 7 true = l2.getD 7 true := getD_ne (by decide)
          have s8 : (l2.setIfInBounds 2 true).getD 8 true = l2.getD 8 true := getD_ne (by decide)
          have s9 : (l2.setIfInBounds 2 true).getD 9 true = l2.getD 9 true := getD_ne (by decide)
          have s10 : (l2.setIfInBounds 2 true).getD 10 true = l2.getD 10 true := getD_ne (by decide)
          have s11 : (l2.setIfInBounds 2 true).getD 11 true = l2.getD 11 true := getD_ne (by decide)
          have s12 : (l2.setIfInBounds 2 true).getD 12 true = l2.getD 12 true := getD_ne (by decide)
          have s13 : (l2.setIfInBounds 2 true).getD 13 true = l2.getD 13 true := getD_ne (by decide)
          have s14 : (l2.setIfInBounds 2 true).getD 14 true = l2.getD 14 true := getD_ne (by decide)
          have s15 : (l2.setIfInBounds 2 true).getD 15 true = l2.getD 15 true := getD_ne (by decide)
          have s16 : (l2.setIfInBounds 2 true).getD 16 true = l2.getD 16 true := getD_ne (by decide)
          refine wpOpIn_want ho0 rfl (fun K hK => ?_)
          simp only [hun, n3, n4, n5, n16, if_true, if_false, Bool.false_eq_true]
          have y0 := HCe.out.2.2.1
          first | gi_big_move | gi_big_op
          refine hK _ _ ?_
          refine ⟨by rw [Array.size_setIfInBounds]; exact hsz, hc2, ?_, fun _ => rfl, fun h16 => ?_⟩
          · simp only [s0, s1, s2, s3, s4, s5, s6, s7, s8, s9, s10, s11, s12, s13, s14, s15, s16, hun, n3, n4, n5, n16, if_true, if_false, Bool.false_eq_true] <;> rfl
          · rw [s16, n16] at h16; cases h16
        · simp only [List.getElem?_toArray, List.getElem?_cons_succ, List.getElem?_cons_zero, Option.some.injEq] at ho
          subst ho
          have e1 := getD_tt (hall ⟨1, .data⟩ (by simp) (by rfl))
          have e2 := getD_tt (hall ⟨2, .data⟩ (by simp) (by rfl))
          have n4 := hcl.no (a := 4) (b := 3) (by simp [EC2]) hun
          have n5 := hcl.no (a := 5) (b := 4) (by simp [EC2]) n4
          have n16 := hcl.no (a := 16) (b := 5) (by simp [EC2]) n5
          have hwv := hW1 n16
          subst hwv
          have hc2 : Cl EC2 (l2.setIfInBounds 3 true) := hcl.step (by intro e he h1; simp only [EC2, List.mem_cons, List.not_mem_nil, or_false] at he; rcases he with rfl | rfl | rfl | rfl | rfl | rfl | rfl | rfl | rfl | rfl | rfl | rfl | rfl | rfl | rfl | rfl <;> first | (simp at h1; done) | assumption)
          have s0 : (l2.setIfInBounds 3 true).getD 0 true = l2.getD 0 true := getD_ne (by decide)
          have s1 : (l2.setIfInBounds 3 true).getD 1 true = l2.getD 1 true := getD_ne (by decide)
          have s2 : (l2.setIfInBounds 3 true).getD 2 true = l2.getD 2 true := getD_ne (by decide)
          have s3 : (l2.setIfInBounds 3 true).getD 3 true = true := getD_eq
          have s4 : (l2.setIfInBounds 3 true).getD 4 true = l2.getD 4 true := getD_ne (by decide)
          have s5 : (l2.setIfInBounds 3 true).getD 5 true = l2.getD 5 true := getD_ne (by decide)
          have s6 : (l2.setIfInBounds 3 true).getD 6 true = l2.getD 6 true := getD_ne (by decide)
          have s7 : (l2.setIfInBounds 3 true).getD 7 true = l2.getD 7 true := getD_ne (by decide)
          have s8 : (l2.setIfInBounds 3 true).getD 8 true = l2.getD 8 true := getD_ne (by decide)
          have s9 : (l2.setIfInBounds 3 true).getD 9 true = l2.getD 9 true := getD_ne (by decide)
          have s10 : (l2.setIfInBounds 3 true).getD 10 true = l2.getD 10 true := getD_ne (by decide)
          have s11 : (l2.setIfInBounds 3 true).getD 11 true = l2.getD 11 true := getD_ne (by decide)
          have s12 : (l2.setIfInBounds 3 true).getD 12 true = l2.getD 12 true := getD_ne (by decide)
          have s13 : (l2.setIfInBounds 3 true).getD 13 true = l2.getD 13 true := getD_ne (by decide)
          have s14 : (l2.setIfInBounds 3 true).getD 14 true = l2.getD 14 true := getD_ne (by decide)
          have s15 : (l2.setIfInBounds 3 true).getD 15 true = l2.getD 15 true := getD_ne (by decide)
          have s16 : (l2.setIfInBounds 3 true).getD 16 true = l2.getD 16 true := getD_ne (by decide)
          refine wpOpIn_want ho0 rfl (fun K hK => ?_)
          simp only [hun, e1, e2, n4, n5, n16, if_true, if_false, Bool.false_eq_true]
          first | gi_big_move | gi_big_op
          refine hK _ _ ?_
          refine ⟨by rw [Array.size_setIfInBounds]; exact hsz, hc2, ?_, fun _ => rfl, fun h16 => ?_⟩
          · simp only [s0, s1, s2, s3, s4, s5, s6, s7, s8, s9, s10, s11, s12, s13, s14, s15, s16, hun, e1, e2, n4, n5, n16, if_true, if_false, Bool.false_eq_true] <;> rfl
          · rw [s16, n16] at h16; cases h16
        · simp only [List.getElem?_toArray, List.getElem?_cons_succ, List.getElem?_cons_zero, Option.some.injEq] at ho
          subst ho
          have e3 := getD_tt (hall ⟨3, .data⟩ (by simp) (by rfl))
          have n5 := hcl.no (a := 5) (b := 4) (by simp [EC2]) hun
          have n16 := hcl.no (a := 16) (b := 5) (by simp [EC2]) n5
          have hwv := hW1 n16
          subst hwv
          have hc2 : Cl EC2 (l2.setIfInBounds 4 true) := hcl.step (by intro e he h1; simp only [EC2, List.mem_cons, List.not_mem_nil, or_false] at he; rcases he with rfl | rfl | rfl | rfl | rfl | rfl | rfl | rfl | rfl | rfl | rfl | rfl | rfl | rfl | rfl | rfl <;> first | (simp at h1; done) | assumption)
          have s0 : (l2.setIfInBounds 4 true).getD 0 true = l2.getD 0 true := getD_ne (by decide)
          have s1 : (l2.setIfInBounds 4 true).getD 1 true = l2.getD 1 true := getD_ne (by decide)
          have s2 : (l2.setIfInBounds 4 true).getD 2 true = l2.getD 2 true := getD_ne (by decide)
          have s3 : (l2.setIfInBounds 4 true).getD 3 true = l2.getD 3 true := getD_ne (by decide)
          have s4 : (l2.setIfInBounds 4 true).getD 4 true = true := getD_eq
          have s5 : (l2.setIfInBounds 4 true).getD 5 true = l2.getD 5 true := getD_ne (by decide)
          have s6 : (l2.setIfInBounds 4 true).getD 6 true = l2.getD 6 true := getD_ne (by decide)
          have s7 : (l2.setIfInBounds 4 true).getD 7 true = l2.getD 7 true := getD_ne (by decide)
          have s8 : (l2.setIfInBounds 4 true).getD 8 true = l2.getD 8 true := getD_ne (by decide)
          have s9 : (l2.setIfInBounds 4 true).getD 9 true = l2.getD 9 true := getD_ne (by decide)
          have s10 : (l2.setIfInBounds 4 true).getD 10 true = l2.getD 10 true := getD_ne (by decide)
          have s11 : (l2.setIfInBounds 4 true).getD 11 true = l2.getD 11 true := getD_ne (by decide)
          have s12 : (l2.setIfInBounds 4 true).getD 12 true = l2.getD 12 true := getD_ne (by decide)
          have s13 : (l2.setIfInBounds 4 true).getD 13 true = l2.getD 13 true := getD_ne (by decide)
          have s14 : (l2.setIfInBounds 4 true).getD 14 true = l2.getD 14 true := getD_ne (by decide)
          have s15 : (l2.setIfInBounds 4 true).getD 15 true = l2.getD 15 true := getD_ne (by decide)
          have s16 : (l2.setIfInBounds 4 true).getD 16 true = l2.getD 16 true := getD_ne (by decide)
          refine wpOpIn_want ho0 rfl (fun K hK => ?_)
          simp only [hun, e3, n5, n16, if_true, if_false, Bool.false_eq_true]
          first | gi_big_move | gi_big_op
          refine hK _ _ ?_
          refine ⟨by rw [Array.size_setIfInBounds]; exact hsz, hc2, ?_, fun _ => rfl, fun h16 => ?_⟩
          · simp only [s0, s1, s2, s3, s4, s5, s6, s7, s8, s9, s10, s11, s12, s13, s14, s15, s16, hun, e3, n5, n16, if_true, if_false, Bool.false_eq_true] <;> rfl
          · rw [s16, n16] at h16; cases h16
        · simp only [List.getElem?_toArray, List.getElem?_cons_succ, List.getElem?_cons_zero, Option.some.injEq] at ho
          subst ho
          have e4 := getD_tt (hall ⟨4, .data⟩ (by simp) (by rfl))
          have n16 := hcl.no (a := 16) (b := 5) (by simp [EC2]) hun
          have hwv := hW1 n16
          subst hwv
          have hc2 : Cl EC2 (l2.setIfInBounds 5 true) := hcl.step (by intro e he h1; simp only [EC2, List.mem_cons, List.not_mem_nil, or_false] at he; rcases he with rfl | rfl | rfl | rfl | rfl | rfl | rfl | rfl | rfl | rfl | rfl | rfl | rfl | rfl | rfl | rfl <;> first | (simp at h1; done) | assumption)
          have s0 : (l2.setIfInBounds 5 true).getD 0 true = l2.getD 0 true := getD_ne (by decide)
          have s1 : (l2.setIfInBounds 5 true).getD 1 true = l2.getD 1 true := getD_ne (by decide)
          have s2 : (l2.setIfInBounds 5 true).getD 2 true = l2.getD 2 true := getD_ne (by decide)
          have s3 : (l2.setIfInBounds 5 true).getD 3 true = l2.getD 3 true := getD_ne (by decide)
          have s4 : (l2.setIfInBounds 5 true).getD 4 true = l2.getD 4 true := getD_ne (by decide)
          have s5 : (l2.setIfInBounds 5 true).getD 5 true = true := getD_eq
          have s6 : (l2.setIfInBounds 5 true).getD 6 true = l2.getD 6 true := getD_ne (by decide)
          have s7 : (l2.setIfInBounds 5 true).getD 7 true = l2.getD 7 true := getD_ne (by decide)
          have s8 : (l2.setIfInBounds 5 true).getD 8 true = l2.getD 8 true := getD_ne (by decide)
          have s9 : (l2.setIfInBounds 5 true).getD 9 true = l2.getD 9 true := getD_ne (by decide)
          have s10 : (l2.setIfInBounds 5 true).getD 10 true = l2.getD 10 true := getD_ne (by decide)
          have s11 : (l2.setIfInBounds 5 true).getD 11 true = l2.getD 11 true := getD_ne (by decide)
          have s12 : (l2.setIfInBounds 5 true).getD 12 true = l2.getD 12 true := getD_ne (by decide)
          have s13 : (l2.setIfInBounds 5 true).getD 13 true = l2.getD 13 true := getD_ne (by decide)
          have s14 : (l2.setIfInBounds 5 true).getD 14 true = l2.getD 14 true := getD_ne (by decide)
          have s15 : (l2.setIfInBounds 5 true).getD 15 true = l2.getD 15 true := getD_ne (by decide)
          have s16 : (l2.setIfInBounds 5 true).getD 16 true = l2.getD 16 true := getD_ne (by decide)
          refine wpOpIn_want ho0 rfl (fun K hK => ?_)
          simp only [hun, e4, n16, if_true, if_false, Bool.false_eq_true]
          have y0 := HCe.out.2.2.2.1
          first | gi_big_move | gi_big_op
          refine hK _ _ ?_
          refine ⟨by rw [Array.size_setIfInBounds]; exact hsz, hc2, ?_, fun _ => rfl, fun h16 => ?_⟩
          · simp only [s0, s1, s2, s3, s4, s5, s6, s7, s8, s9, s10, s11, s12, s13, s14, s15, s16, hun, e4, n16, if_true, if_false, Bool.false_eq_true] <;> rfl
          · rw [s16, n16] at h16; cases h16
        · simp only [List.getElem?_toArray, List.getElem?_cons_succ, List.getElem?_cons_zero, Option.some.injEq] at ho
          subst ho
          have n8 := hcl.no (a := 8) (b := 6) (by simp [EC2]) hun
          have n9 := hcl.no (a := 9) (b := 8) (by simp [EC2]) n8
          have n10 := hcl.no (a := 10) (b := 9) (by simp [EC2]) n9
          have n16 := hcl.no (a := 16) (b := 10) (by simp [EC2]) n10
          have hwv := hW1 n16
          subst hwv
          have hc2 : Cl EC2 (l2.setIfInBounds 6 true) := hcl.step (by intro e he h1; simp only [EC2, List.mem_cons, List.not_mem_nil, or_false] at he; rcases he with rfl | rfl | rfl | rfl | rfl | rfl | rfl | rfl | rfl | rfl | rfl | rfl | rfl | rfl | rfl | rfl <;> first | (simp at h1; done) | assumption)
          have s0 : (l2.setIfInBounds 6 true).getD 0 true = l2.getD 0 true := getD_ne (by decide)
          have s1 : (l2.setIfInBounds 6 true).getD 1 true = l2.getD 1 true := getD_ne (by decide)
          have s2 : (l2.setIfInBounds 6 true).getD 2 true = l2.getD 2 true := getD_ne (by decide)
          have s3 : (l2.setIfInBounds 6 true).getD 3 true = l2.getD 3 true := getD_ne (by decide)
          have s4 : (l2.setIfInBounds 6 true).getD 4 true = l2.getD 4 true := getD_ne (by decide)
          have s5 : (l2.setIfInBounds 6 true).getD 5 true = l2.getD 5 true := getD_ne (by decide)
          have s6 : (l2.setIfInBounds 6 true).getD 6 true = true := getD_eq
          have s7 : (l2.setIfInBounds 6 true).getD 7 true = l2.getD 7 true := getD_ne (by decide)
          have s8 : (l2.setIfInBounds 6 true).getD 8 true = l2.getD 8 true := getD_ne (by decide)
          have s9 : (l2.setIfInBounds 6 true).getD 9 true = l2.getD 9 true := getD_ne (by decide)
          have s10 : (l2.setIfInBounds 6 true).getD 10 true = l2.getD 10 true := getD_ne (by decide)
          have s11 : (l2.setIfInBounds 6 true).getD 11 true = l2.getD 11 true := getD_ne (by decide)
          have s12 : (l2.setIfInBounds 6 true).getD 12 true = l2.getD 12 true := getD_ne (by decide)
          have s13 : (l2.setIfInBounds 6 true).getD 13 true = l2.getD 13 true := getD_ne (by decide)
          have s14 : (l2.setIfInBounds 6 true).getD 14 true = l2.getD 14 true := getD_ne (by decide)
          have s15 : (l2.setIfInBounds 6 true).getD 15 true = l2.getD 15 true := getD_ne (by decide)
          have s16 : (l2.setIfInBounds 6 true).getD 16 true = l2.getD 16 true := getD_ne (by decide)
          refine wpOpIn_want ho0 rfl (fun K hK => ?_)
          simp only [hun, n8, n9, n10, n16, if_true, if_false, Bool.false_eq_true]
          have y0 := HCe.out.2.1
          first | gi_big_move | gi_big_op
          refine hK _ _ ?_
          refine ⟨by rw [Array.size_setIfInBounds]; exact hsz, hc2, ?_, fun _ => rfl, fun h16 => ?_⟩
          · simp only [s0, s1, s2, s3, s4, s5, s6, s7, s8, s9, s10, s11, s12, s13, s14, s15, s16, hun, n8, n9, n10, n16, if_true, if_false, Bool.false_eq_true] <;> rfl
          · rw [s16, n16] at h16; cases h16
        · simp only [List.getElem?_toArray, List.getElem?_cons_succ, List.getElem?_cons_zero, Option.some.injEq] at ho
          subst ho
          have n8 := hcl.no (a := 8) (b := 7) (by simp [EC2]) hun
          have n9 := hcl.no (a := 9) (b := 8) (by simp [EC2]) n8
          have n10 := hcl.no (a := 10) (b := 9) (by simp [EC2]) n9
          have n16 := hcl.no (a := 16) (b := 10) (by simp [EC2]) n10
          have hwv := hW1 n16
          subst hwv
          have hc2 : Cl EC2 (l2.setIfInBounds 7 true) := hcl.step (by intro e he h1; simp only [EC2, List.mem_cons, List.not_mem_nil, or_false] at he; rcases he with rfl | rfl | rfl | rfl | rfl | rfl | rfl | rfl | rfl | rfl | rfl | rfl | rfl | rfl | rfl | rfl <;> first | (simp at h1; done) | assumption)
          have s0 : (l2.setIfInBounds 7 true).getD 0 true = l2.getD 0 true := getD_ne (by decide)
          have s1 : (l2.setIfInBounds 7 true).getD 1 true = l2.getD 1 true := getD_ne (by decide)
          have s2 : (l2.setIfInBounds 7 true).getD 2 true = l2.getD 2 true := getD_ne (by decide)
          have s3 : (l2.setIfInBounds 7 true).getD 3 true = l2.getD 3 true := getD_ne (by decide)
          have s4 : (l2.setIfInBounds 7 true).getD 4 true = l2.getD 4 true := getD_ne (by decide)
          have s5 : (l2.setIfInBounds 7 true).getD 5 true = l2.getD 5 true := getD_ne (by decide)
          have s6 : (l2.setIfInBounds 7 true).getD 6 true = l2.getD 6 true := getD_ne (by decide)
          have s7 : (l2.setIfInBounds 7 true).getD 7 true = true := getD_eq
          have s8 : (l2.setIfInBounds 7 true).getD 8 true = l2.getD 8 true := getD_ne (by decide)
          have s9 : (l2.setIfInBounds 7 true).getD 9 true = l2.getD 9 true := getD_ne (by decide)
          have s10 : (l2.setIfInBounds 7 true).getD 10 true = l2.getD 10 true := getD_ne (by decide)
          have s11 : (l2.setIfInBounds 7 true).getD 11 true = l2.getD 11 true := getD_ne (by decide)
          have s12 : (l2.setIfInBounds 7 true).getD 12 true = l2.getD 12 true := getD_ne (by decide)
          have s13 : (l2.setIfInBounds 7 true).getD 13 true = l2.getD 13 true := getD_ne (by decide)
          have s14 : (l2.setIfInBounds 7 true).getD 14 true = l2.getD 14 true := getD_ne (by decide)
          have s15 : (l2.setIfInBounds 7 true).getD 15 true = l2.getD 15 true := getD_ne (by decide)
          have s16 : (l2.setIfInBounds 7 true).getD 16 true = l2.getD 16 true := getD_ne (by decide)
          refine wpOpIn_want ho0 rfl (fun K hK => ?_)
          simp only [hun, n8, n9, n10, n16, if_true, if_false, Bool.false_eq_true]
          have y0 := HCe.out.2.2.1
          first | gi_big_move | gi_big_op
          refine hK _ _ ?_
          refine ⟨by rw [Array.size_setIfInBounds]; exact hsz, hc2, ?_, fun _ => rfl, fun h16 => ?_⟩
          · simp only [s0, s1, s2, s3, s4, s5, s6, s7, s8, s9, s10, s11, s12, s13, s14, s15, s16, hun, n8, n9, n10, n16, if_true, if_false, Bool.false_eq_true] <;> rfl
          · rw [s16, n16] at h16; cases h16
        · simp only [List.getElem?_toArray, List.getElem?_cons_succ, List.getElem?_cons_zero, Option.some.injEq] at ho
          subst ho
          have e6 := getD_tt (hall ⟨6, .data⟩ (by simp) (by rfl))
          have e7 := getD_tt (hall ⟨7, .data⟩ (by simp) (by rfl))
          have n9 := hcl.no (a := 9) (b := 8) (by simp [EC2]) hun
          have n10 := hcl.no (a := 10) (b := 9) (by simp [EC2]) n9
          have n16 := hcl.no (a := 16) (b := 10) (by simp [EC2]) n10
          have hwv := hW1 n16
          subst hwv
          have hc2 : Cl EC2 (l2.setIfInBounds 8 true) := hcl.step (by intro e he h1; simp only [EC2, List.mem_cons, List.not_mem_nil, or_false] at he; rcases he with rfl | rfl | rfl | rfl | rfl | rfl | rfl | rfl | rfl | rfl | rfl | rfl | rfl | rfl | rfl | rfl <;> first | (simp at h1; done) | assumption)
          have s0 : (l2.setIfInBounds 8 true).getD 0 true = l2.getD 0 true := getD_ne (by decide)
          have s1 : (l2.setIfInBounds 8 true).getD 1 true = l2.getD 1 true := getD_ne (by decide)
          have s2 : (l2.setIfInBounds 8 true).getD 2 true = l2.getD 2 true := getD_ne (by decide)
          have s3 : (l2.setIfInBounds 8 true).getD 3 true = l2.getD 3 true := getD_ne (by decide)
          have s4 : (l2.setIfInBounds 8 true).getD 4 true = l2.getD 4 true := getD_ne (by decide)
          have s5 : (l2.setIfInBounds 8 true).getD 5 true = l2.getD 5 true := getD_ne (by decide)
          have s6 : (l2.setIfInBounds 8 true).getD 6 true = l2.getD 6 true := getD_ne (by decide)
          have s7 : (l2.setIfInBounds 8 true).getD 7 true = l2.getD 7 true := getD_ne (by decide)
          have s8 : (l2.setIfInBounds 8 true).getD 8 true = true := getD_eq
          have s9 : (l2.setIfInBounds 8 true).getD 9 true = l2.getD 9 true := getD_ne (by decide)
          have s10 : (l2.setIfInBounds 8 true).getD 10 true = l2.getD 10 true := getD_ne (by decide)
          have s11 : (l2.setIfInBounds 8 true).getD 11 true = l2.getD 11 true := getD_ne (by decide)
          have s12 : (l2.setIfInBounds 8 true).getD 12 true = l2.getD 12 true := getD_ne (by decide)
          have s13 : (l2.setIfInBounds 8 true).getD 13 true = l2.getD 13 true := getD_ne (by decide)
          have s14 : (l2.setIfInBounds 8 true).getD 14 true = l2.getD 14 true := getD_ne (by decide)
          have s15 : (l2.setIfInBounds 8 true).getD 15 true = l2.getD 15 true := getD_ne (by decide)
          have s16 : (l2.setIfInBounds 8 true).getD 16 true = l2.getD 16 true := getD_ne (by decide)
          refine wpOpIn_want ho0 rfl (fun K hK => ?_)
          simp only [hun, e6, e7, n9, n10, n16, if_true, if_false, Bool.false_eq_true]
          first | gi_big_move | gi_big_op
          refine hK _ _ ?_
          refine ⟨by rw [Array.size_setIfInBounds]; exact hsz, hc2, ?_, fun _ => rfl, fun h16 => ?_⟩
          · simp only [s0, s1, s2, s3, s4, s5, s6, s7, s8, s9, s10, s11, s12, s13, s14, s15, s16, hun, e6, e7, n9, n10, n16, if_true, if_false, Bool.false_eq_true] <;> rfl
          · rw [s16, n16] at h16; cases h16
        · simp only [List.getElem?_toArray, List.getElem?_cons_succ, List.getElem?_cons_zero, Option.some.injEq] at ho
          subst ho
          have e8 := getD_tt (hall ⟨8, .data⟩ (by simp) (by rfl))
          have n10 := hcl.no (a := 10) (b := 9) (by simp [EC2]) hun
          have n16 := hcl.no (a := 16) (b := 10) (by simp [EC2]) n10
          have hwv := hW1 n16
          subst hwv
          have hc2 : Cl EC2 (l2.setIfInBounds 9 true) := hcl.step (by intro e he h1; simp only [EC2, List.mem_cons, List.not_mem_nil, or_false] at he; rcases he with rfl | rfl | rfl | rfl | rfl | rfl | rfl | rfl | rfl | rfl | rfl | rfl | rfl | rfl | rfl | rfl <;> first | (simp at h1; done) | assumption)
          have s0 : (l2.setIfInBounds 9 true).getD 0 true = l2.getD 0 true := getD_ne (by decide)
          have s1 : (l2.setIfInBounds 9 true).getD 1 true = l2.getD 1 true := getD_ne (by decide)
          have s2 : (l2.setIfInBounds 9 true).getD 2 true = l2.getD 2 true := getD_ne (by decide)
          have s3 : (l2.setIfInBounds 9 true).getD 3 true = l2.getD 3 true := getD_ne (by decide)
          have s4 : (l2.setIfInBounds 9 true).getD 4 true = l2.getD 4 true := getD_ne (by decide)
          have s5 : (l2.setIfInBounds 9 true).getD 5 true = l2.getD 5 true := getD_ne (by decide)
          have s6 : (l2.setIfInBounds 9 true).getD 6 true = l2.getD 6 true := getD_ne (by decide)
          have s7 : (l2.setIfInBounds 9 true).getD 7 true = l2.getD 7 true := getD_ne (by decide)
          have s8 : (l2.setIfInBounds 9 true).getD 8 true = l2.getD 8 true := getD_ne (by decide)
          have s9 : (l2.setIfInBounds 9 true).getD 9 true = true := getD_eq
          have s10 : (l2.setIfInBounds 9 true).getD 10 true = l2.getD 10 true := getD_ne (by decide)
          have s11 : (l2.setIfInBounds 9 true).getD 11 true = l2.getD 11 true := getD_ne (by decide)
          have s12 : (l2.setIfInBounds 9 true).getD 12 true = l2.getD 12 true := getD_ne (by decide)
          have s13 : (l2.setIfInBounds 9 true).getD 13 true = l2.getD 13 true := getD_ne (by decide)
          have s14 : (l2.setIfInBounds 9 true).getD 14 true = l2.getD 14 true := getD_ne (by decide)
          have s15 : (l2.setIfInBounds 9 true).getD 15 true = l2.getD 15 true := getD_ne (by decide)
          have s16 : (l2.setIfInBounds 9 true).getD 16 true = l2.getD 16 true := getD_ne (by decide)
          refine wpOpIn_want ho0 rfl (fun K hK => ?_)
          simp only [hun, e8, n10, n16, if_true, if_false, Bool.false_eq_true]
          first | gi_big_move | gi_big_op
          refine hK _ _ ?_
          refine ⟨by rw [Array.size_setIfInBounds]; exact hsz, hc2, ?_, fun _ => rfl, fun h16 => ?_⟩
          · simp only [s0, s1, s2, s3, s4, s5, s6, s7, s8, s9, s10, s11, s12, s13, s14, s15, s16, hun, e8, n10, n16, if_true, if_false, Bool.false_eq_true] <;> rfl
          · rw [s16, n16] at h16; cases h16
        · simp only [List.getElem?_toArray, List.getElem?_cons_succ, List.getElem?_cons_zero, Option.some.injEq] at ho
          subst ho
          have e9 := getD_tt (hall ⟨9, .data⟩ (by simp) (by rfl))
          have n16 := hcl.no (a := 16) (b := 10) (by simp [EC2]) hun
          have hwv := hW1 n16
          subst hwv
          have hc2 : Cl EC2 (l2.setIfInBounds 10 true) := hcl.step (by intro e he h1; simp only [EC2, List.mem_cons, List.not_mem_nil, or_false] at he; rcases he with rfl | rfl | rfl | rfl | rfl | rfl | rfl | rfl | rfl | rfl | rfl | rfl | rfl | rfl | rfl | rfl <;> first | (simp at h1; done) | assumption)
          have s0 : (l2.setIfInBounds 10 true).getD 0 true = l2.getD 0 true := getD_ne (by decide)
          have s1 : (l2.setIfInBounds 10 true).getD 1 true = l2.getD 1 true := getD_ne (by decide)
          have s2 : (l2.setIfInBounds 10 true).getD 2 true = l2.getD 2 true := getD_ne (by decide)
          have s3 : (l2.setIfInBounds 10 true).getD 3 true = l2.getD 3 true := getD_ne (by decide)
          have s4 : (l2.setIfInBounds 10 true).getD 4 true = l2.getD 4 true := getD_ne (by decide)
          have s5 : (l2.setIfInBounds 10 true).getD 5 true = l2.getD 5 true := getD_ne (by decide)
          have s6 : (l2.setIfInBounds 10 true).getD 6 true = l2.getD 6 true := getD_ne (by decide)
          have s7 : (l2.setIfInBounds 10 true).getD 7 true = l2.getD 7 true := getD_ne (by decide)
          have s8 : (l2.setIfInBounds 10 true).getD 8 true = l2.getD 8 true := getD_ne (by decide)
          have s9 : (l2.setIfInBounds 10 true).getD 9 true = l2.getD 9 true := getD_ne (by decide)
          have s10 : (l2.setIfInBounds 10 true).getD 10 true = true := getD_eq
          have s11 : (l2.setIfInBounds 10 true).getD 11 true = l2.getD 11 true := getD_ne (by decide)
          have s12 : (l2.setIfInBounds 10 true).getD 12 true = l2.getD 12 true := getD_ne (by decide)
          have s13 : (l2.setIfInBounds 10 true).getD 13 true = l2.getD 13 true := getD_ne (by decide)
          have s14 : (l2.setIfInBounds 10 true).getD 14 true = l2.getD 14 true := getD_ne (by decide)
          have s15 : (l2.setIfInBounds 10 true).getD 15 true = l2.getD 15 true := getD_ne (by decide)
          have s16 : (l2.setIfInBounds 10 true).getD 16 true = l2.getD 16 true := getD_ne (by decide)
          refine wpOpIn_want ho0 rfl (fun K hK => ?_)
          simp only [hun, e9, n16, if_true, if_false, Bool.false_eq_true]
          have y0 := HCe.out.2.2.2.2.1
          first | gi_big_move | gi_big_op
          refine hK _ _ ?_
          refine ⟨by rw [Array.size_setIfInBounds]; exact hsz, hc2, ?_, fun _ => rfl, fun h16 => ?_⟩
          · simp only [s0, s1, s2, s3, s4, s5, s6, s7, s8, s9, s10, s11, s12, s13, s14, s15, s16, hun, e9, n16, if_true, if_false, Bool.false_eq_true] <;> rfl
          · rw [s16, n16] at h16; cases h16
        · simp only [List.getElem?_toArray, List.getElem?_cons_succ, List.getElem?_cons_zero, Option.some.injEq] at ho
          subst ho
          have n13 := hcl.no (a := 13) (b := 11) (by simp [EC2]) hun
          have n14 := hcl.no (a := 14) (b := 13) (by simp [EC2]) n13
          have n15 := hcl.no (a := 15) (b := 14) (by simp [EC2]) n14
          have n16 := hcl.no (a := 16) (b := 15) (by simp [EC2]) n15
          have hwv := hW1 n16
          subst hwv
          have hc2 : Cl EC2 (l2.setIfInBounds 11 true) := hcl.step (by intro e he h1; simp only [EC2, List.mem_cons, List.not_mem_nil, or_false] at he; rcases he with rfl | rfl | rfl | rfl | rfl | rfl | rfl | rfl | rfl | rfl | rfl | rfl | rfl | rfl | rfl | rfl <;> first | (simp at h1; done) | assumption)
          have s0 : (l2.setIfInBounds 11 true).getD 0 true = l2.getD 0 true := getD_ne (by decide)
          have s1 : (l2.setIfInBounds 11 true).getD 1 true = l2.getD 1 true := getD_ne (by decide)
          have s2 : (l2.setIfInBounds 11 true).getD 2 true = l2.getD 2 true := getD_ne (by decide)
          have s3 : (l2.setIfInBounds 11 true).getD 3 true = l2.getD 3 true := getD_ne (by decide)
          have s4 : (l2.setIfInBounds 11 true).getD 4 true = l2.getD 4 true := getD_ne (by decide)
          have s5 : (l2.setIfInBounds 11 true).getD 5 true = l2.getD 5 true := getD_ne (by decide)
          have s6 : (l2.setIfInBounds 11 true).getD 6 true = l2.getD 6 true := getD_ne (by decide)
          have s7 : (l2.setIfInBounds 11 true).getD 7 true = l2.getD 7 true := getD_ne (by decide)
          have s8 : (l2.setIfInBounds 11 true).getD 8 true = l2.getD 8 true := getD_ne (by decide)
          have s9 : (l2.setIfInBounds 11 true).getD 9 true = l2.getD 9 true := getD_ne (by decide)
          have s10 : (l2.setIfInBounds 11 true).getD 10 true = l2.getD 10 true := getD_ne (by decide)
          have s11 : (l2.setIfInBounds 11 true).getD 11 true = true := getD_eq
          have s12 : (l2.setIfInBounds 11 true).getD 12 true = l2.getD 12 true := getD_ne (by decide)
          have s13 : (l2.setIfInBounds 11 true).getD 13 true = l2.getD 13 true := getD_ne (by decide)
          have s14 : (l2.setIfInBounds 11 true).getD 14 true = l2.getD 14 true := getD_ne (by decide)
          have s15 : (l2.setIfInBounds 11 true).getD 15 true = l2.getD 15 true := getD_ne (by decide)
          have s16 : (l2.setIfInBounds 11 true).getD 16 true = l2.getD 16 true := getD_ne (by decide)
          refine wpOpIn_want ho0 rfl (fun K hK => ?_)
          simp only [hun, n13, n14, n15, n16, if_true, if_false, Bool.false_eq_true]
          have y0 := HCe.out.2.1
          first | gi_big_move | gi_big_op
          refine hK _ _ ?_
          refine ⟨by rw [Array.size_setIfInBounds]; exact hsz, hc2, ?_, fun _ => rfl, fun h16 => ?_⟩
          · simp only [s0, s1, s2, s3, s4, s5, s6, s7, s8, s9, s10, s11, s12, s13, s14, s15, s16, hun, n13, n14, n15, n16, if_true, if_false, Bool.false_eq_true] <;> rfl
          · rw [s16, n16] at h16; cases h16
        · simp only [List.getElem?_toArray, List.getElem?_cons_succ, List.getElem?_cons_zero, Option.some.injEq] at ho
          subst ho
          have n13 := hcl.no (a := 13) (b := 12) (by simp [EC2]) hun
          have n14 := hcl.no (a := 14) (b := 13) (by simp [EC2]) n13
          have n15 := hcl.no (a := 15) (b := 14) (by simp [EC2]) n14
          have n16 := hcl.no (a := 16) (b := 15) (by simp [EC2]) n15
          have hwv := hW1 n16
          subst hwv
          have hc2 : Cl EC2 (l2.setIfInBounds 12 true) := hcl.step (by intro e he h1; simp only [EC2, List.mem_cons, List.not_mem_nil, or_false] at he; rcases he with rfl | rfl | rfl | rfl | rfl | rfl | rfl | rfl | rfl | rfl | rfl | rfl | rfl | rfl | rfl | rfl <;> first | (simp at h1; done) | assumption)
          have s0 : (l2.setIfInBounds 12 true).getD 0 true = l2.getD 0 true := getD_ne (by decide)
          have s1 : (l2.setIfInBounds 12 true).getD 1 true = l2.getD 1 true := getD_ne (by decide)
          have s2 : (l2.setIfInBounds 12 true).getD 2 true = l2.getD 2 true := getD_ne (by decide)
          have s3 : (l2.setIfInBounds 12 true).getD 3 true = l2.getD 3 true := getD_ne (by decide)
          have s4 : (l2.setIfInBounds 12 true).getD 4 true = l2.getD 4 true := getD_ne (by decide)
          have s5 : (l2.setIfInBounds 12 true).getD 5 true = l2.getD 5 true := getD_ne (by decide)
          have s6 : (l2.setIfInBounds 12 true).getD 6 true = l2.getD 6 true := getD_ne (by decide)
          have s7 : (l2.setIfInBounds 12 true).getD 7 true = l2.getD 7 true := getD_ne (by decide)
          have s8 : (l2.setIfInBounds 12 true).getD 8 true = l2.getD 8 true := getD_ne (by decide)
          have s9 : (l2.setIfInBounds 12 true).getD 9 true = l2.getD 9 true := getD_ne (by decide)
          have s10 : (l2.setIfInBounds 12 true).getD 10 true = l2.getD 10 true := getD_ne (by decide)
          have s11 : (l2.setIfInBounds 12 true).getD 11 true = l2.getD 11 true := getD_ne (by decide)
          have s12 : (l2.setIfInBounds 12 true).getD 12 true = true := getD_eq
          have s13 : (l2.setIfInBounds 12 true).getD 13 true = l2.getD 13 true := getD_ne (by decide)
          have s14 : (l2.setIfInBounds 12 true).getD 14 true = l2.getD 14 true := getD_ne (by decide)
          have s15 : (l2.setIfInBounds 12 true).getD 15 true = l2.getD 15 true := getD_ne (by decide)
          have s16 : (l2.setIfInBounds 12 true).getD 16 true = l2.getD 16 true := getD_ne (by decide)
          refine wpOpIn_want ho0 rfl (fun K hK => ?_)
          simp only [hun, n13, n14, n15, n16, if_true, if_false, Bool.false_eq_true]
          have y0 := HCe.out.2.2.1
          first | gi_big_move | gi_big_op
          refine hK _ _ ?_
          refine ⟨by rw [Array.size_setIfInBounds]; exact hsz, hc2, ?_, fun _ => rfl, fun h16 => ?_⟩
          · simp only [s0, s1, s2, s3, s4, s5, s6, s7, s8, s9, s10, s11, s12, s13, s14, s15, s16, hun, n13, n14, n15, n16, if_true, if_false, Bool.false_eq_true] <;> rfl
          · rw [s16, n16] at h16; cases h16
        · simp only [List.getElem?_toArray, List.getElem?_cons_succ, List.getElem?_cons_zero, Option.some.injEq] at ho
          subst ho
          have e11 := getD_tt (hall ⟨11, .data⟩ (by simp) (by rfl))
          have e12 := getD_tt (hall ⟨12, .data⟩ (by simp) (by rfl))
          have n14 := hcl.no (a := 14) (b := 13) (by simp [EC2]) hun
          have n15 := hcl.no (a := 15) (b := 14) (by simp [EC2]) n14
          have n16 := hcl.no (a := 16) (b := 15) (by simp [EC2]) n15
          have hwv := hW1 n16
          subst hwv
          have hc2 : Cl EC2 (l2.setIfInBounds 13 true) := hcl.step (by intro e he h1; simp only [EC2, List.mem_cons, List.not_mem_nil, or_false] at he; rcases he with rfl | rfl | rfl | rfl | rfl | rfl | rfl | rfl | rfl | rfl | rfl | rfl | rfl | rfl | rfl | rfl <;> first | (simp at h1; done) | assumption)
          have s0 : (l2.setIfInBounds 13 true).getD 0 true = l2.getD 0 true := getD_ne (by decide)
          have s1 : (l2.setIfInBounds 13 true).getD 1 true = l2.getD 1 true := getD_ne (by decide)
          have s2 : (l2.setIfInBounds 13 true).getD 2 true = l2.getD 2 true := getD_ne (by decide)
          have s3 : (l2.setIfInBounds 13 true).getD 3 true = l2.getD 3 true := getD_ne (by decide)
          have s4 : (l2.setIfInBounds 13 true).getD 4 true = l2.getD 4 true := getD_ne (by decide)
          have s5 : (l2.setIfInBounds 13 true).getD 5 true = l2.getD 5 true := getD_ne (by decide)
          have s6 : (l2.setIfInBounds 13 true).getD 6 true = l2.getD 6 true := getD_ne (by decide)
          have s7 : (l2.setIfInBounds 13 true).getD 7 true = l2.getD 7 true := getD_ne (by decide)
          have s8 : (l2.setIfInBounds 13 true).getD 8 true = l2.getD 8 true := getD_ne (by decide)
          have s9 : (l2.setIfInBounds 13 true).getD 9 true = l2.getD 9 true := getD_ne (by decide)
          have s10 : (l2.setIfInBounds 13 true).getD 10 true = l2.getD 10 true := getD_ne (by decide)
          have s11 : (l2.setIfInBounds 13 true).getD 11 true = l2.getD 11 true := getD_ne (by decide)
          have s12 : (l2.setIfInBounds 13 true).getD 12 true = l2.getD 12 true := getD_ne (by decide)
          have s13 : (l2.setIfInBounds 13 true).getD 13 true = true := getD_eq
          have s14 : (l2.setIfInBounds 13 true).getD 14 true = l2.getD 14 true := getD_ne (by decide)
          have s15 : (l2.setIfInBounds 13 true).getD 15 true = l2.getD 15 true := getD_ne (by decide)
          have s16 : (l2.setIfInBounds 13 true).getD 16 true = l2.getD 16 true := getD_ne (by decide)
          refine wpOpIn_want ho0 rfl (fun K hK => ?_)
          simp only [hun, e11, e12, n14, n15, n16, if_true, if_false, Bool.false_eq_true]
          first | gi_big_move | gi_big_op
          refine hK _ _ ?_
          refine ⟨by rw [Array.size_setIfInBounds]; exact hsz, hc2, ?_, fun _ => rfl, fun h16 => ?_⟩
          · simp only [s0, s1, s2, s3, s4, s5, s6, s7, s8, s9, s10, s11, s12, s13, s14, s15, s16, hun, e11, e12, n14, n15, n16, if_true, if_false, Bool.false_eq_true] <;> rfl
          · rw [s16, n16] at h16; cases h16
        · simp only [List.getElem?_toArray, List.getElem?_cons_succ, List.getElem?_cons_zero, Option.some.injEq] at ho
          subst ho
          have e13 := getD_tt (hall ⟨13, .data⟩ (by simp) (by rfl))
          have n15 := hcl.no (a := 15) (b := 14) (by simp [EC2]) hun
          have n16 := hcl.no (a := 16) (b := 15) (by simp [EC2]) n15
          have hwv := hW1 n16
          subst hwv
          have hc2 : Cl EC2 (l2.setIfInBounds 14 true) := hcl.step (by intro e he h1; simp only [EC2, List.mem_cons, List.not_mem_nil, or_false] at he; rcases he with rfl | rfl | rfl | rfl | rfl | rfl | rfl | rfl | rfl | rfl | rfl | rfl | rfl | rfl | rfl | rfl <;> first | (simp at h1; done) | assumption)
          have s0 : (l2.setIfInBounds 14 true).getD 0 true = l2.getD 0 true := getD_ne (by decide)
          have s1 : (l2.setIfInBounds 14 true).getD 1 true = l2.getD 1 true := getD_ne (by decide)
          have s2 : (l2.setIfInBounds 14 true).getD 2 true = l2.getD 2 true := getD_ne (by decide)
          have s3 : (l2.setIfInBounds 14 true).getD 3 true = l2.getD 3 true := getD_ne (by decide)
          have s4 : (l2.setIfInBounds 14 true).getD 4 true = l2.getD 4 true := getD_ne (by decide)
          have s5 : (l2.setIfInBounds 14 true).getD 5 true = l2.getD 5 true := getD_ne (by decide)
          have s6 : (l2.setIfInBounds 14 true).getD 6 true = l2.getD 6 true := getD_ne (by decide)
          have s7 : (l2.setIfInBounds 14 true).getD 7 true = l2.getD 7 true := getD_ne (by decide)
          have s8 : (l2.setIfInBounds 14 true).getD 8 true = l2.getD 8 true := getD_ne (by decide)
          have s9 : (l2.setIfInBounds 14 true).getD 9 true = l2.getD 9 true := getD_ne (by decide)
          have s10 : (l2.setIfInBounds 14 true).getD 10 true = l2.getD 10 true := getD_ne (by decide)
          have s11 : (l2.setIfInBounds 14 true).getD 11 true = l2.getD 11 true := getD_ne (by decide)
          have s12 : (l2.setIfInBounds 14 true).getD 12 true = l2.getD 12 true := getD_ne (by decide)
          have s13 : (l2.setIfInBounds 14 true).getD 13 true = l2.getD 13 true := getD_ne (by decide)
          have s14 : (l2.setIfInBounds 14 true).getD 14 true = true := getD_eq
          have s15 : (l2.setIfInBounds 14 true).getD 15 true = l2.getD 15 true := getD_ne (by decide)
          have s16 : (l2.setIfInBounds 14 true).getD 16 true = l2.getD 16 true := getD_ne (by decide)
          refine wpOpIn_want ho0 rfl (fun K hK => ?_)
          simp only [hun, e13, n15, n16, if_true, if_false, Bool.false_eq_true]
          first | gi_big_move | gi_big_op
          refine hK _ _ ?_
          refine ⟨by rw [Array.size_setIfInBounds]; exact hsz, hc2, ?_, fun _ => rfl, fun h16 => ?_⟩
          · simp only [s0, s1, s2, s3, s4, s5, s6, s7, s8, s9, s10, s11, s12, s13, s14, s15, s16, hun, e13, n15, n16, if_true, if_false, Bool.false_eq_true] <;> rfl
          · rw [s16, n16] at h16; cases h16
        · simp only [List.getElem?_toArray, List.getElem?_cons_succ, List.getElem?_cons_zero, Option.some.injEq] at ho
          subst ho
          have e14 := getD_tt (hall ⟨14, .data⟩ (by simp) (by rfl))
          have n16 := hcl.no (a := 16) (b := 15) (by simp [EC2]) hun
          have hwv := hW1 n16
          subst hwv
          have hc2 : Cl EC2 (l2.setIfInBounds 15 true) := hcl.step (by intro e he h1; simp only [EC2, List.mem_cons, List.not_mem_nil, or_false] at he; rcases he with rfl | rfl | rfl | rfl | rfl | rfl | rfl | rfl | rfl | rfl | rfl | rfl | rfl | rfl | rfl | rfl <;> first | (simp at h1; done) | assumption)
          have s0 : (l2.setIfInBounds 15 true).getD 0 true = l2.getD 0 true := getD_ne (by decide)
          have s1 : (l2.setIfInBounds 15 true).getD 1 true = l2.getD 1 true := getD_ne (by decide)
          have s2 : (l2.setIfInBounds 15 true).getD 2 true = l2.getD 2 true := getD_ne (by decide)
          have s3 : (l2.setIfInBounds 15 true).getD 3 true = l2.getD 3 true := getD_ne (by decide)
          have s4 : (l2.setIfInBounds 15 true).getD 4 true = l2.getD 4 true := getD_ne (by decide)
          have s5 : (l2.setIfInBounds 15 true).getD 5 true = l2.getD 5 true := getD_ne (by decide)
          have s6 : (l2.setIfInBounds 15 true).getD 6 true = l2.getD 6 true := getD_ne (by decide)
          have s7 : (l2.setIfInBounds 15 true).getD 7 true = l2.getD 7 true := getD_ne (by decide)
          have s8 : (l2.setIfInBounds 15 true).getD 8 true = l2.getD 8 true := getD_ne (by decide)
          have s9 : (l2.setIfInBounds 15 true).getD 9 true = l2.getD 9 true := getD_ne (by decide)
          have s10 : (l2.setIfInBounds 15 true).getD 10 true = l2.getD 10 true := getD_ne (by decide)
          have s11 : (l2.setIfInBounds 15 true).getD 11 true = l2.getD 11 true := getD_ne (by decide)
          have s12 : (l2.setIfInBounds 15 true).getD 12 true = l2.getD 12 true := getD_ne (by decide)
          have s13 : (l2.setIfInBounds 15 true).getD 13 true = l2.getD 13 true := getD_ne (by decide)
          have s14 : (l2.setIfInBounds 15 true).getD 14 true = l2.getD 14 true := getD_ne (by decide)
          have s15 : (l2.setIfInBounds 15 true).getD 15 true = true := getD_eq
          have s16 : (l2.setIfInBounds 15 true).getD 16 true = l2.getD 16 true := getD_ne (by decide)
          refine wpOpIn_want ho0 rfl (fun K hK => ?_)
          simp only [hun, e14, n16, if_true, if_false, Bool.false_eq_true]
          have y0 := HCe.out.2.2.2.2.2
          first | gi_big_move | gi_big_op
          refine hK _ _ ?_
          refine ⟨by rw [Array.size_setIfInBounds]; exact hsz, hc2, ?_, fun _ => rfl, fun h16 => ?_⟩
          · simp only [s0, s1, s2, s3, s4, s5, s6, s7, s8, s9, s10, s11, s12, s13, s14, s15, s16, hun, e14, n16, if_true, if_false, Bool.false_eq_true] <;> rfl
          · rw [s16, n16] at h16; cases h16
        · simp only [List.getElem?_toArray, List.getElem?_cons_succ, List.getElem?_cons_zero, Option.some.injEq] at ho
          subst ho
          have e0 := getD_tt (hall ⟨0, .data⟩ (by simp) (by rfl))
          have e5 := getD_tt (hall ⟨5, .data⟩ (by simp) (by rfl))
          have e10 := getD_tt (hall ⟨10, .data⟩ (by simp) (by rfl))
          have e15 := getD_tt (hall ⟨15, .data⟩ (by simp) (by rfl))
          have hwv := hW1 hun
          subst hwv
          have hc2 : Cl EC2 (l2.setIfInBounds 16 true) := hcl.step (by intro e he h1; simp only [EC2, List.mem_cons, List.not_mem_nil, or_false] at he; rcases he with rfl | rfl | rfl | rfl | rfl | rfl | rfl | rfl | rfl | rfl | rfl | rfl | rfl | rfl | rfl | rfl <;> first | (simp at h1; done) | assumption)
          have s0 : (l2.setIfInBounds 16 true).getD 0 true = l2.getD 0 true := getD_ne (by decide)
          have s1 : (l2.setIfInBounds 16 true).getD 1 true = l2.getD 1 true := getD_ne (by decide)
          have s2 : (l2.setIfInBounds 16 true).getD 2 true = l2.getD 2 true := getD_ne (by decide)
          have s3 : (l2.setIfInBounds 16 true).getD 3 true = l2.getD 3 true := getD_ne (by decide)
          have s4 : (l2.setIfInBounds 16 true).getD 4 true = l2.getD 4 true := getD_ne (by decide)
          have s5 : (l2.setIfInBounds 16 true).getD 5 true = l2.getD 5 true := getD_ne (by decide)
          have s6 : (l2.setIfInBounds 16 true).getD 6 true = l2.getD 6 true := getD_ne (by decide)
          have s7 : (l2.setIfInBounds 16 true).getD 7 true = l2.getD 7 true := getD_ne (by decide)
          have s8 : (l2.setIfInBounds 16 true).getD 8 true = l2.getD 8 true := getD_ne (by decide)
          have s9 : (l2.setIfInBounds 16 true).getD 9 true = l2.getD 9 true := getD_ne (by decide)
          have s10 : (l2.setIfInBounds 16 true).getD 10 true = l2.getD 10 true := getD_ne (by decide)
          have s11 : (l2.setIfInBounds 16 true).getD 11 true = l2.getD 11 true := getD_ne (by decide)
          have s12 : (l2.setIfInBounds 16 true).getD 12 true = l2.getD 12 true := getD_ne (by decide)
          have s13 : (l2.setIfInBounds 16 true).getD 13 true = l2.getD 13 true := getD_ne (by decide)
          have s14 : (l2.setIfInBounds 16 true).getD 14 true = l2.getD 14 true := getD_ne (by decide)
          have s15 : (l2.setIfInBounds 16 true).getD 15 true = l2.getD 15 true := getD_ne (by decide)
          have s16 : (l2.setIfInBounds 16 true).getD 16 true = true := getD_eq
          refine wpOpIn_want ho0 rfl (fun K hK => ?_)
          simp only [hun, e0, e5, e10, e15, if_true, if_false, Bool.false_eq_true]
          gi_big_op
          refine (CallsIn.inRound l' (callsIn_wide.2 HSt.out)).mono ?_
          rintro e w9 ⟨rfl, hP⟩
          refine hK _ _ ?_
          refine ⟨by rw [Array.size_setIfInBounds]; exact hsz, hc2, ?_, fun h16 => ?_, fun _ => hP⟩
          · simp only [s0, s1, s2, s3, s4, s5, s6, s7, s8, s9, s10, s11, s12, s13, s14, s15, s16, hun, e0, e5, e10, e15, if_true, if_false, Bool.false_eq_true] <;> rfl
          · rw [s16] at h16; cases h16
      case refine_1 =>
        rintro l2 a2 wv2 ⟨hsz, hcl, rfl, hW1, hW2⟩ hre
        have hall := ready_all (by kernel_rfl) hsz hre
        obtain ⟨hS, kS, oS⟩ := hW2 (hall 16)
        simp only [hall, if_true]
        have sc := hS.i.cell
        have sf := hS.i.frozen
        obtain ⟨hSB, kB, oB⟩ := hS.setI ((pre.length : Int) + 1)
        obtain ⟨WB, hWB⟩ : ∃ WB, WB = wv2.setCell ⟨w2.heap.size + 1 + 1 + 1 + 1 + 1, 0, none⟩ (.int .i64 ((pre.length : Int) + 1)) := ⟨_, rfl⟩
        rw [← hWB] at hSB kB oB
        have kWB := kpC_t kS kB
        have oWB := oS.trans oB
        obtain ⟨rs2, hrs2⟩ : ∃ r, r = runsL size first (l ++ more.take (pre.length + 1)) := ⟨_, rfl⟩
        rw [← hrs2] at hSB
        have HR2 : Hid (SJ W0 W4.heap.size bm (w2.heap.size + 1 + 1 + 1 + 1 + 1) (w2.heap.size + 1 + 1 + 1 + 1) vm0 size (pre ++ [x]) ((pre.length : Int) + 1) rs2 = SJ W0 W4.heap.size bm (w2.heap.size + 1 + 1 + 1 + 1 + 1) (w2.heap.size + 1 + 1 + 1 + 1) vm0 size (pre ++ [x]) ((min (pre ++ [x]).length nm : Nat) : Int) (runsL size first (l ++ more.take (pre ++ [x]).length))) := by
          have e1 : min (pre ++ [x]).length nm = pre.length + 1 := by simp; omega
          rw [e1, hrs2, List.length_append]
          rfl
        clear hW1 hW2 hall hre hrs2 hS kS oS kB oB hsz hcl
        obtain ⟨⟨p1, p2, p3, p4, p5, p6, p7, p8, p9⟩, hbwB, hwrB⟩ := HKX.out WB hSB.kx
        obtain ⟨vm2, hm2, hf2⟩ := hSB.m
        have hbn : Below WB.heap.size WB (WB.alloc (.cells #[.int .i64 0] 3)) := (Below.refl _ WB).alloc (Nat.le_refl _) _
        have HRn : Hid (Calls Try.prog 16 #[.pointer (some ⟨bm, 0, none⟩), .int .i64 0, .int .i64 size] (WB.alloc (.cells #[.int .i64 0] 3)) fun e w' => ∃ v', e = .returned v' ∧ w'.ownsRow (WB.alloc (.cells #[.int .i64 0] 3)).heap.size TEnt 3 v' rs2.length (rcells E rs2) ∧ Below (WB.alloc (.cells #[.int .i64 0] 3)).heap.size (WB.alloc (.cells #[.int .i64 0] 3)) w') := runsF_any (hm2.later hbn)
        have n5 := (boxed_later p5 hbn).cell
        have n1 := (boxed_later p1 hbn).cell
        have n9 := boxed_later p9 hbn
        have HSB : Hid (SJ W0 W4.heap.size bm (w2.heap.size + 1 + 1 + 1 + 1 + 1) (w2.heap.size + 1 + 1 + 1 + 1) vm0 size (pre ++ [x]) ((pre.length : Int) + 1) rs2 WB ∧ KpC bm W WB ∧ KeepsOthers W WB) := ⟨hSB, kWB, oWB⟩
        rw [hWB] at n5 n1
        gi_big_wp2_with (gi_at_call 16; rw [← hWB]; refine (CallsIn.inRound l' (callsIn_wide.2 HRn.out)).mono ?_; rintro e wD ⟨nv, rfl, hnr, hbD⟩; obtain ⟨no, nc, rfl⟩ := own_slice hnr; have a9 := ((boxed_later n9 hbD).alloc (.cells #[.slice no rs2.length nc] TEnts)).cell)
        obtain ⟨WE, hWE⟩ : ∃ WE, WE = wD.alloc (.cells #[.slice no rs2.length nc] TEnts) := ⟨_, rfl⟩
        rw [← hWE]
        have hsn : (WB.alloc (.cells #[.int .i64 0] 3)).heap.size = WB.heap.size + 1 := by simp
        have hbE : Below wD.heap.size wD WE := by rw [hWE]; exact (Below.refl _ wD).alloc (Nat.le_refl _) _
        have hbBE : Below WB.heap.size WB WE := (hbn.trans (hbD.mono hbn.size)).trans (hbE.mono (Nat.le_trans hbn.size hbD.size))
        have hsE : WE.heap.size = wD.heap.size + 1 := by rw [hWE]; simp
        have hsD : WB.heap.size + 1 ≤ wD.heap.size := by have := hbD.size; omega
        have hSE := hSB.later hbBE
        have hmE := hm2.later hbBE
        have hr1 : WE.heap[l']? = some (.loop r) := by
          have h3 := oWB.same l' _ hr rfl
          exact (hbBE.block l' (Array.getElem?_eq_some_iff.1 h3).1).trans h3
        have y0 : Boxed WE WB.heap.size 3 (.int .i64 0) := by
          have h3 := Boxed.new WB 3 (.int .i64 0)
          exact boxed_later (boxed_later h3 hbD) hbE
        have y1 : Boxed WE wD.heap.size TEnts (.slice no rs2.length nc) := by rw [hWE]; exact Boxed.new wD TEnts _
        have hnE : WE.ownsRow (WB.heap.size + 1) TEnt 3 (.slice no rs2.length nc) rs2.length (rcells E rs2) := by
          rw [hsn] at hnr
          exact owns_same hnr (fun g e => hbE.block g (row_lt hnr g e).1)
        have k6 := boxed_later p6 hbBE
        have k7 := boxed_later p7 hbBE
        have k8 := boxed_later p8 hbBE
        have hseq2 := runs1_gen 9 (by omega) (fun r : Rn Int => r) (keepsRowC bm) hmE 0 size k6.cell k7.cell k8.cell rs2 (cutA_whole hmE.tiles) (fun W' w1' k hb1' hb2' hk1 hk2 => ⟨size, vm2, (hb2'.block _ (by have := hb1'.size; have := hmE.ltm; omega)).trans ((hb1'.block _ hmE.ltm).trans hmE.blk), fun e => by have := (row_lt hmE.row k e).1; have := hb1'.size; omega, hk2⟩)
        have hlen2 : rs2.length ≤ 1099511627776 := hmE.len
        -- what the inner rounds leave
        have HKE : Hid (∀ W', KX (· = WB.heap.size) WE W' → KpC bm W W' ∧ KeepsOthers W W' ∧ SJ W0 W4.heap.size bm (w2.heap.size + 1 + 1 + 1 + 1 + 1) (w2.heap.size + 1 + 1 + 1 + 1) vm0 size (pre ++ [x]) ((pre.length : Int) + 1) rs2 W' ∧ Boxed W' wD.heap.size TEnts (.slice no rs2.length nc) ∧ W'.ownsRow (WB.heap.size + 1) TEnt 3 (.slice no rs2.length nc) rs2.length (rcells E rs2) ∧ Boxed W' (w.heap.size + 1 + 1) 3 (.int .i64 leave) ∧ Boxed W' (w.heap.size + 1 + 1 + 1) 4 (.bool false)) := fun W' hk => by
          have hn0 : W0.heap.size ≤ WB.heap.size := hSB.kx.size
          have q := hSE.other hk (fun k e => ⟨by omega, #[.int .i64 0], 3, by rw [e]; exact y0, by decide, by decide⟩)
          have hcE : ∀ k, k = WB.heap.size → ∃ cs T, WE.heap[k]? = some (.cells cs T (0, 0)) ∧ T ≠ TRun ∧ T ≠ TMap := fun k e => ⟨#[.int .i64 0], 3, by rw [e]; exact y0, by decide, by decide⟩
          refine ⟨kpC_t (kpC_t kWB (kpC_below bm hbBE)) (kpC_kx hk hcE ⟨_, hmE.blk⟩), (oWB.trans ⟨hbBE.size, fun k o ho _ => (hbBE.block k (Array.getElem?_eq_some_iff.1 ho).1).trans ho⟩).trans (keeps_kx hk (fun k e => by obtain ⟨cs, T, h3, _⟩ := hcE k e; exact ⟨cs, T, h3⟩)), q, hk.box y1 (by omega), hk.row hnE (fun g e => by have := (row_lt hnE g e).2.1; omega), (HKX.out W' q.kx).1.2.2.1, (HKX.out W' q.kx).1.2.2.2.1⟩
        have HYl : Hid (rs2.length ≤ 1099511627776) := hlen2
        have hnb : WB.heap.size < WE.heap.size := y0.lt
        have hW0B : W0.heap.size ≤ WB.heap.size := hSB.kx.size
        have hnbs : WB.heap.size = wv2.heap.size := by rw [hWB]; simp
        rw [hnbs] at y0 HKE hnb hW0B hsD
        clear p1 p2 p3 p4 p5 p6 p7 p8 p9 hbwB hwrB hbn HRn n1 n5 n9 a9 hWE hWB hbE hbBE hsE hnr hbD hm2 hf2 hSB kWB oWB hmE hSE y1 hnE k6 k7 k8 hsn hnbs
        refine wpIn_rangeFunc_ownN (l₀ := l') (r₀ := r) rfl hr1 (by omega) (gf := 36) (lb := #[.pointer (some ⟨w2.heap.size, 0, none⟩), .pointer (some ⟨w2.heap.size + 1, 0, none⟩), .pointer (some ⟨w2.heap.size + 2, 0, none⟩)]) rfl f4 (enters_of Try.func36 (by kernel_rfl) rfl)
          (hseq2.inRound l') kpC_t (kpC_b (w := WE)) (Below.refl _ _) (fun _ => rfl)
          (fun pre' W' => Boxed W' wv2.heap.size 3 (.int .i64 pre'.length) ∧ KX (· = wv2.heap.size) WE W')
          (fun c pre' W' => (c = .ret ∧ ∃ (p : List (Rn Int)) (y : Rn Int), pre' = p ++ [y] ∧ rs2[p.length]? ≠ some y) ∨ (c = .exit 2 ∧ leave = pre'.length ∧ Boxed W' wv2.heap.size 3 (.int .i64 pre'.length) ∧ KX (· = wv2.heap.size) WE W'))
          (fun pre' X Y row hs hg hrr => ⟨boxed_own _ _ (fun _ : Unit => _) () X Y row hs.1 hg (fun r e => (hrr r e).2), KX.own_grown hs.2 hg (fun r e => (hrr r e).1)⟩)
          (fun c pre' X Y row hs hg hrr => hs.elim (fun h => .inl h) (fun h => .inr ⟨h.1, h.2.1, boxed_own _ _ (fun _ : Unit => _) () X Y row h.2.2.1 hg (fun r e => (hrr r e).2), KX.own_grown h.2.2.2 hg (fun r e => (hrr r e).1)⟩))
          ⟨y0, KX.refl _ _⟩
          (fun y a'' W' => ∃ By, W'.heap[By]? = some (.cells #[.int .i64 y.lo, .int .i64 y.hi, .int .i64 y.v] TRun (0, 0)) ∧ a'' = { tmps := #[.int .i64 size, .int .i64 first, .slice al n cl, .slice (some ⟨qb, qo, none⟩) nm cm, .int .i64 leave, .pointer (some ⟨w.heap.size, 0, none⟩), undef, undef, .pointer (some ⟨w.heap.size + 1, 0, none⟩), .pointer (some ⟨w.heap.size + 1 + 1, 0, none⟩), .pointer (some ⟨w.heap.size + 1 + 1 + 1, 0, none⟩), .pointer (some ⟨w1.heap.size, 0, none⟩), wv, .pointer (some ⟨w2.heap.size + 1 + 1 + 1, 0, none⟩), .pointer (some ⟨w2.heap.size + 1 + 1 + 1 + 1, 0, none⟩), .pointer (some ⟨w2.heap.size + 1 + 1 + 1 + 1 + 1, 0, none⟩), .pointer (some ⟨Bx, 0, none⟩), .pointer (some ⟨wv2.heap.size, 0, none⟩), .pointer (some ⟨wD.heap.size, 0, none⟩), .pointer (some ⟨By, 0, none⟩), .int .i64 size, .int .i64 first, .slice al n cl, .pointer (some ⟨bm, 0, none⟩), .pointer (some ⟨bm, 0, none⟩), .bool false, undef, undef, undef, undef, undef, undef, .pointer (some ⟨bm, 0, none⟩), .int .i64 size, wv, .pointer (some ⟨bm, 0, none⟩), .int .i64 size, (.func (.func 36) #[] #[.pointer (some ⟨w2.heap.size, 0, none⟩), .pointer (some ⟨w2.heap.size + 1, 0, none⟩), .pointer (some ⟨w2.heap.size + 2, 0, none⟩)]), (.func (.func 36) #[] #[.pointer (some ⟨w2.heap.size, 0, none⟩), .pointer (some ⟨w2.heap.size + 1, 0, none⟩), .pointer (some ⟨w2.heap.size + 2, 0, none⟩)]), .agg #[.int .i64 x.lo, .int .i64 x.hi, .int .i64 x.v], gv, .pointer (some ⟨Bx, 0, none⟩), .int .i64 x.lo, .pointer (some ⟨Bx, 1, none⟩), .int .i64 x.hi, .pointer (some ⟨Bx, 2, none⟩), .int .i64 x.v, .agg #[.int .i64 x.lo, .int .i64 x.hi, .int .i64 x.v], .slice (some ⟨W.heap.size, 0, none⟩) 1 1, (.slice (some ⟨g', 0, none⟩) (pre.length + 1) cap'), .int .i64 (pre.length : Int), .slice (some ⟨qb, qo, none⟩) nm cm, .int .i64 (nm : Int), .bool true, .pointer (some ⟨bm, 0, none⟩), .slice (some ⟨qb, qo, none⟩) nm cm, .int .i64 (pre.length : Int), .pointer (some ⟨qb, qo + pre.length * 3, none⟩), .pointer (some ⟨qb, qo + pre.length * 3, none⟩), .int .i64 q.1, .slice (some ⟨qb, qo, none⟩) nm cm, .int .i64 (pre.length : Int), .pointer (some ⟨qb, qo + pre.length * 3, none⟩), .pointer (some ⟨qb, qo + pre.length * 3 + 1, none⟩), .int .i64 q.2.1, .slice (some ⟨qb, qo, none⟩) nm cm, .int .i64 (pre.length : Int), .pointer (some ⟨qb, qo + pre.length * 3, none⟩), .pointer (some ⟨qb, qo + pre.length * 3 + 2, none⟩), .int .i64 q.2.2, .int .i64 (setE size q.1 q.2.1), .int .i64 (pre.length : Int), .int .i64 ((pre.length : Int) + 1), .pointer (some ⟨bm, 0, none⟩), .int .i64 size, .slice no rs2.length nc, (.func (.func 36) #[] #[.pointer (some ⟨w2.heap.size, 0, none⟩), .pointer (some ⟨w2.heap.size + 1, 0, none⟩), .pointer (some ⟨w2.heap.size + 2, 0, none⟩)]), .agg #[.int .i64 y.lo, .int .i64 y.hi, .int .i64 y.v], undef, undef, undef, undef, undef, undef, undef, undef, undef, undef, undef, undef, undef, undef, undef, undef, undef, undef, undef, undef, undef, undef, undef, undef, undef, undef, undef, undef, undef, undef, undef, undef, undef, undef, undef, undef, undef, undef, undef, undef, undef, undef, undef, undef, undef, undef, undef, undef, undef, undef, undef, undef, undef, undef], defers := [] })
          (fun y a'' s X Y row hs hg hrow => by
            obtain ⟨By, hy, e⟩ := hs
            exact ⟨By, cells_ownC By _ _ _ () X Y row hy hg hrow, e⟩)
          ?assign2 ?body2 ?done2 ?stop2
        case assign2 =>
          rintro l2 pre' y W' K ⟨hn, hk⟩ hK
          gi_big_wp2
          have hba : Below W'.heap.size W' (W'.alloc (.cells #[.int .i64 y.lo, .int .i64 y.hi, .int .i64 y.v] TRun)) := (Below.refl _ W').alloc (Nat.le_refl _) _
          exact hK _ _ ((KeepsOthers.alloc _ _).from _) (kpC_below _ hba) ⟨hn.alloc _, hk.trans (KX.of_below hba)⟩ ⟨W'.heap.size, heap_alloc_new W' _, rfl⟩
        case body2 =>
          rintro l2 pre' ⟨ylo, yhi, yv⟩ a'' W' _ _ ⟨hn, hk⟩ ⟨By, hy, rfl⟩ hlt2
          simp only at hy ⊢
          obtain ⟨kE, oE, sE, b1, rw1, b2, b3⟩ := HKE.out W' hk
          obtain ⟨⟨zlo, zhi, zv⟩, hz⟩ : ∃ z, rs2[pre'.length]? = some z := ⟨_, List.getElem?_eq_getElem hlt2⟩
          obtain ⟨ng, rfl, d0, d1, d2⟩ := ent_cells rw1 hz
          simp only at d0 d1 d2
          have mixed : Try.prog.follows .mixedOrders = true := by kernel_rfl
          have t0 : W'.cell? ⟨By, 0, none⟩ = some (.int .i64 ylo) := by unfold World.cell?; simp only [hy]; rfl
          have t1 : W'.cell? ⟨By, 1, none⟩ = some (.int .i64 yhi) := by unfold World.cell?; simp only [hy]; rfl
          have t2 : W'.cell? ⟨By, 2, none⟩ = some (.int .i64 yv) := by unfold World.cell?; simp only [hy]; rfl
          have HKF : Hid (∀ q u, KeepsFrom WE.heap.size W' ((W'.drewN q).setCell ⟨w.heap.size + 1 + 1 + 1, 0, none⟩ u)) := fun q u => (KeepsOthers.trans (⟨Nat.le_refl _, fun _ _ h _ => h⟩ : KeepsOthers W' (W'.drewN q)) (KeepsOthers.setCell (W'.drewN q) _ u)).from _
          have HFin : Hid (∀ q, KeepsFrom WE.heap.size W' ((W'.drewN q).setCell ⟨wv2.heap.size, 0, none⟩ (.int .i64 ((pre'.length : Int) + 1))) ∧ KpC bm W' ((W'.drewN q).setCell ⟨wv2.heap.size, 0, none⟩ (.int .i64 ((pre'.length : Int) + 1))) ∧ Boxed ((W'.drewN q).setCell ⟨wv2.heap.size, 0, none⟩ (.int .i64 ((pre'.length : Int) + 1))) wv2.heap.size 3 (.int .i64 (pre' ++ [(⟨ylo, yhi, yv⟩ : Rn Int)]).length) ∧ KX (· = wv2.heap.size) WE ((W'.drewN q).setCell ⟨wv2.heap.size, 0, none⟩ (.int .i64 ((pre'.length : Int) + 1)))) := fun q => by
            have j0 : Boxed (W'.drewN q) wv2.heap.size 3 (.int .i64 pre'.length) := hn
            have jk : KX (· = wv2.heap.size) W' (W'.drewN q) := ⟨rfl, rfl, rfl, Nat.le_refl _, fun _ _ _ => rfl⟩
            have jx := jk.trans (kx_set (W'.drewN q) wv2.heap.size 0 (.int .i64 ((pre'.length : Int) + 1)))
            refine ⟨(KeepsOthers.trans (⟨Nat.le_refl _, fun _ _ h _ => h⟩ : KeepsOthers W' (W'.drewN q)) (KeepsOthers.setCell (W'.drewN q) _ _)).from _, kpC_kx jx (fun k e => ⟨#[.int .i64 pre'.length], 3, by rw [e]; exact hn, by decide, by decide⟩) (by obtain ⟨vv, mm, _⟩ := sE.m; exact ⟨_, mm.blk⟩), ?_, hk.trans jx⟩
            rw [List.length_append]
            exact j0.set _
          have HLv : Hid (∀ q u, ((W'.drewN q).setCell ⟨wv2.heap.size, 0, none⟩ u).cell? ⟨w.heap.size + 1 + 1, 0, none⟩ = some (.int .i64 leave)) := fun q u => (Boxed.other (W := W'.drewN q) b2 (by omega) u).cell
          have lv := HLv.out
          have nc0 := hn.cell
          have nf0 := hn.frozen
          have ns : ∀ q u, ((W'.drewN q).setCell ⟨wv2.heap.size, 0, none⟩ u).cell? ⟨wv2.heap.size, 0, none⟩ = some u := fun q u => ((show Boxed (W'.drewN q) wv2.heap.size 3 (.int .i64 pre'.length) from hn).set u).cell
          have b1c := b1.cell
          have b3c := b3.cell
          have b3f := b3.frozen
          have dn : decide ((rs2.length : Int) ≤ (pre'.length : Int)) = false := decide_eq_false (by omega)
          have dn2 : decide ((pre'.length : Int) ≥ (rs2.length : Int)) = false := decide_eq_false (by omega)
          have dn3 : decide (rs2.length ≤ pre'.length) = false := decide_eq_false (by omega)
          have hN2 : (pre'.length : Int) + 1 ≤ 1099511627776 := by have := HYl.out; omega
          have hlt3 : (pre'.length : Int) < (rs2.length : Int) := by omega
          have g1 : 1 ≤ 12 - 1 - 1 - 1 - 1 := by omega
          have HZ : Hid (rs2[pre'.length]? = some (⟨zlo, zhi, zv⟩ : Rn Int)) := hz
          clear hz hn hk kE oE sE b1 rw1 b2 b3 hy HLv
          by_cases c1 : ylo = zlo
          · have e1 : (ylo != zlo) = false := by simpa using c1
            by_cases c2 : yhi = zhi
            · have e2 : (yhi != zhi) = false := by simpa using c2
              by_cases c3 : yv = zv
              · have e3 : (yv != zv) = false := by simpa using c3
                have C : Hid (ylo = zlo ∧ yhi = zhi ∧ yv = zv) := ⟨c1, c2, c3⟩
                clear c1 c2 c3
                by_cases c4 : (pre'.length : Int) + 1 = leave
                · have e4 : ((pre'.length : Int) + 1 == leave) = true := by simpa using c4
                  have C4 : Hid ((pre'.length : Int) + 1 = leave) := c4
                  clear c4
                  gi_big_wp2
                  refine region_quiet (by kernel_rfl) mixed (by kernel_rfl) ?_
                  repeat (gi_big_quiet_step (fail))
                  refine wpQuietIn_nil ?_
                  intro _ hw'
                  obtain ⟨nq, hw''⟩ := hw'
                  subst hw''
                  gi_big_wp2
                  exact ⟨(HFin.out _).1, .inr ⟨rfl, by have := C4.out; rw [List.length_append]; simp; omega, (HFin.out _).2.2.1, (HFin.out _).2.2.2⟩⟩
                · have e4 : ((pre'.length : Int) + 1 == leave) = false := by simpa using c4
                  clear c4
                  gi_big_wp2
                  refine region_quiet (by kernel_rfl) mixed (by kernel_rfl) ?_
                  repeat (gi_big_quiet_step (fail))
                  refine wpQuietIn_nil ?_
                  intro _ hw'
                  obtain ⟨nq, hw''⟩ := hw'
                  subst hw''
                  gi_big_wp2
                  exact HFin.out _
              · have e3 : (yv != zv) = true := by simpa using c3
                gi_big_wp2
                refine region_quiet (by kernel_rfl) mixed (by kernel_rfl) ?_
                repeat (gi_big_quiet_step (fail))
                refine wpQuietIn_nil ?_
                intro _ hw'
                obtain ⟨nq, hw''⟩ := hw'
                subst hw''
                gi_big_wp2
                exact ⟨HKF.out _ _, .inl ⟨rfl, pre', ⟨ylo, yhi, yv⟩, rfl, fun e => by have := HZ.out.symm.trans e; simp at this; exact c3 this.2.2.symm⟩⟩
            · have e2 : (yhi != zhi) = true := by simpa using c2
              gi_big_wp2
              refine region_quiet (by kernel_rfl) mixed (by kernel_rfl) ?_
              repeat (gi_big_quiet_step (fail))
              refine wpQuietIn_nil ?_
              intro _ hw'
              obtain ⟨nq, hw''⟩ := hw'
              subst hw''
              gi_big_wp2
              exact ⟨HKF.out _ _, .inl ⟨rfl, pre', ⟨ylo, yhi, yv⟩, rfl, fun e => by have := HZ.out.symm.trans e; simp at this; exact c2 this.2.1.symm⟩⟩
          · have e1 : (ylo != zlo) = true := by simpa using c1
            gi_big_wp2
            refine region_quiet (by kernel_rfl) mixed (by kernel_rfl) ?_
            repeat (gi_big_quiet_step (fail))
            refine wpQuietIn_nil ?_
            intro _ hw'
            obtain ⟨nq, hw''⟩ := hw'
            subst hw''
            gi_big_wp2
            exact ⟨HKF.out _ _, .inl ⟨rfl, pre', ⟨ylo, yhi, yv⟩, rfl, fun e => by have := HZ.out.symm.trans e; simp at this; exact c1 this.1.symm⟩⟩
        case done2 =>
          rintro ys' W' rfl ⟨hn, hk⟩
          obtain ⟨kE, oE, sE, b1, rw1, b2, b3⟩ := HKE.out W' hk
          have nc0 := hn.cell
          have b1c := b1.cell
          have b2c := b2.cell
          have e1 : ((ys'.length : Int) != (ys'.length : Int)) = false := by simp
          gi_big_wp2
          exact ⟨oE.from _, kE, (congrFun HR2.out W').mp sE⟩
        case stop2 =>
          rintro c pre' W' ⟨rest, hrest⟩ hIx
          rcases hIx with ⟨rfl, p, y, rfl, hne⟩ | ⟨rfl, hlv, hn, hk⟩
          · exact absurd (by rw [hrest]; simp) hne
          · obtain ⟨kE, oE, sE, b1, rw1, b2, b3⟩ := HKE.out W' hk
            have nc0 := hn.cell
            have b1c := b1.cell
            have b2c := b2.cell
            have e2 : ((pre'.length : Int) != leave) = false := by rw [hlv]; simp
            clear hlv hn hk hrest b1 b2 b3 rw1
            by_cases c1 : (pre'.length : Int) = (rs2.length : Int)
            · have e1 : ((pre'.length : Int) != (rs2.length : Int)) = false := by simpa using c1
              clear c1
              gi_big_wp2
              exact ⟨oE.from _, kE, (congrFun HR2.out W').mp sE⟩
            · have e1 : ((pre'.length : Int) != (rs2.length : Int)) = true := by simpa using c1
              clear c1
              gi_big_wp2
              exact ⟨oE.from _, kE, (congrFun HR2.out W').mp sE⟩
    · have hmin : min pre.length nm = nm := by omega
      rw [hmin] at hSJ ic
      have hkz : ¬ (nm : Int) < (nm : Int) := by omega
      gi_big_wp2_with (first | (gi_at_builtin; refine wpListIn_append_own _ rfl _ _ TEnts rfl W0.heap.size TEnt i0 _ 3 24 Try.underlying38 hi hz0 hz1 hz2 rfl (by decide) _ _ _ rfl (hgr.alloc _) ⟨W.heap.size, 0, none⟩ 1 1 [.int .i64 x.lo, .int .i64 x.hi, .int .i64 x.v] rfl rfl (newsE _ _ _ _) (by simp [Value.oneCell']) (by unfold maxLen; omega) (by omega) (by simp; omega) ?_; intro v' wa hown' hgrow _; obtain ⟨g', cap', rfl⟩ := ownsRow_succ hown'; obtain ⟨hA, kA, oA, hvA⟩ := hSJ.app (x := x) hg hgr hown' hgrow; have hc1 := hvA.cell; have hf1 := hvA.frozen; obtain ⟨⟨p1, p2, p3, p4, p5, p6, p7, p8, p9⟩, hbwA, hwrA⟩ := HKX.out _ hA.kx; have icA := hA.i.cell; have mcA := p2.cell; have n5 := (boxed_later p5 ((Below.refl _ _).alloc (Nat.le_refl _) (.cells #[.int .i64 0] 3))).cell; have n1 := (boxed_later p1 ((Below.refl _ _).alloc (Nat.le_refl _) (.cells #[.int .i64 0] 3))).cell) | (gi_at_call 16; fail))
      obtain ⟨WB, hWB⟩ : ∃ WB, WB = wa.setCell ⟨w2.heap.size + 1 + 1 + 1 + 1, 0, none⟩ (.slice (some ⟨g', 0, none⟩) (pre.length + 1) cap') := ⟨_, rfl⟩
      rw [← hWB] at hA kA oA
      obtain ⟨rs2, hrs2⟩ : ∃ r, r = runsL size first (l ++ more.take pre.length) := ⟨_, rfl⟩
      rw [← hrs2] at hA
      have HR2 : Hid (SJ W0 W4.heap.size bm (w2.heap.size + 1 + 1 + 1 + 1 + 1) (w2.heap.size + 1 + 1 + 1 + 1) vm0 size (pre ++ [x]) (nm : Int) rs2 = SJ W0 W4.heap.size bm (w2.heap.size + 1 + 1 + 1 + 1 + 1) (w2.heap.size + 1 + 1 + 1 + 1) vm0 size (pre ++ [x]) ((min (pre ++ [x]).length nm : Nat) : Int) (runsL size first (l ++ more.take (pre ++ [x]).length))) := by
        have e1 : min (pre ++ [x]).length nm = nm := by simp; omega
        have e2 : more.take (pre ++ [x]).length = more.take pre.length := by
          have := HLm.out
          rw [List.take_of_length_le (by simp; omega), List.take_of_length_le (by omega)]
        rw [e1, e2, hrs2]
        rfl
      have hSB := hA
      have kWB := kA
      have oWB := oA
      clear hrs2 hA kA oA n5 n1 p1 p2 p3 p4 p5 p6 p7 p8 p9 hbwA hwrA icA mcA hc1 hf1 hvA hown' hgrow q1 q2 q3 q4 q5 q6 q7 q8 q9 x0 x1 x2 hc hfz ic mc hg hgr
      obtain ⟨⟨p1, p2, p3, p4, p5, p6, p7, p8, p9⟩, hbwB, hwrB⟩ := HKX.out WB hSB.kx
      obtain ⟨vm2, hm2, hf2⟩ := hSB.m
      have hbn : Below WB.heap.size WB (WB.alloc (.cells #[.int .i64 0] 3)) := (Below.refl _ WB).alloc (Nat.le_refl _) _
      have HRn : Hid (Calls Try.prog 16 #[.pointer (some ⟨bm, 0, none⟩), .int .i64 0, .int .i64 size] (WB.alloc (.cells #[.int .i64 0] 3)) fun e w' => ∃ v', e = .returned v' ∧ w'.ownsRow (WB.alloc (.cells #[.int .i64 0] 3)).heap.size TEnt 3 v' rs2.length (rcells E rs2) ∧ Below (WB.alloc (.cells #[.int .i64 0] 3)).heap.size (WB.alloc (.cells #[.int .i64 0] 3)) w') := runsF_any (hm2.later hbn)
      have n5 := (boxed_later p5 hbn).cell
      have n1 := (boxed_later p1 hbn).cell
      have n9 := boxed_later p9 hbn
      have HSB : Hid (SJ W0 W4.heap.size bm (w2.heap.size + 1 + 1 + 1 + 1 + 1) (w2.heap.size + 1 + 1 + 1 + 1) vm0 size (pre ++ [x]) ((nm : Int)) rs2 WB ∧ KpC bm W WB ∧ KeepsOthers W WB) := ⟨hSB, kWB, oWB⟩
      rw [← hWB]
      refine (CallsIn.inRound l' (callsIn_wide.2 HRn.out)).mono ?_
      rintro e wD ⟨nv, rfl, hnr, hbD⟩
      obtain ⟨no, nc, rfl⟩ := own_slice hnr
      have a9 := ((boxed_later n9 hbD).alloc (.cells #[.slice no rs2.length nc] TEnts)).cell
      gi_big_wp2
      obtain ⟨WE, hWE⟩ : ∃ WE, WE = wD.alloc (.cells #[.slice no rs2.length nc] TEnts) := ⟨_, rfl⟩
      rw [← hWE]
      have hsn : (WB.alloc (.cells #[.int .i64 0] 3)).heap.size = WB.heap.size + 1 := by simp
      have hbE : Below wD.heap.size wD WE := by rw [hWE]; exact (Below.refl _ wD).alloc (Nat.le_refl _) _
      have hbBE : Below WB.heap.size WB WE := (hbn.trans (hbD.mono hbn.size)).trans (hbE.mono (Nat.le_trans hbn.size hbD.size))
      have hsE : WE.heap.size = wD.heap.size + 1 := by rw [hWE]; simp
      have hsD : WB.heap.size + 1 ≤ wD.heap.size := by have := hbD.size; omega
      have hSE := hSB.later hbBE
      have hmE := hm2.later hbBE
      have hr1 : WE.heap[l']? = some (.loop r) := by
        have h3 := oWB.same l' _ hr rfl
        exact (hbBE.block l' (Array.getElem?_eq_some_iff.1 h3).1).trans h3
      have y0 : Boxed WE WB.heap.size 3 (.int .i64 0) := by
        have h3 := Boxed.new WB 3 (.int .i64 0)
        exact boxed_later (boxed_later h3 hbD) hbE
      have y1 : Boxed WE wD.heap.size TEnts (.slice no rs2.length nc) := by rw [hWE]; exact Boxed.new wD TEnts _
      have hnE : WE.ownsRow (WB.heap.size + 1) TEnt 3 (.slice no rs2.length nc) rs2.length (rcells E rs2) := by
        rw [hsn] at hnr
        exact owns_same hnr (fun g e => hbE.block g (row_lt hnr g e).1)
      have k6 := boxed_later p6 hbBE
      have k7 := boxed_later p7 hbBE
      have k8 := boxed_later p8 hbBE
      have hseq2 := runs1_gen 9 (by omega) (fun r : Rn Int => r) (keepsRowC bm) hmE 0 size k6.cell k7.cell k8.cell rs2 (cutA_whole hmE.tiles) (fun W' w1' k hb1' hb2' hk1 hk2 => ⟨size, vm2, (hb2'.block _ (by have := hb1'.size; have := hmE.ltm; omega)).trans ((hb1'.block _ hmE.ltm).trans hmE.blk), fun e => by have := (row_lt hmE.row k e).1; have := hb1'.size; omega, hk2⟩)
      have hlen2 : rs2.length ≤ 1099511627776 := hmE.len
      -- what the inner rounds leave
      have HKE : Hid (∀ W', KX (· = WB.heap.size) WE W' → KpC bm W W' ∧ KeepsOthers W W' ∧ SJ W0 W4.heap.size bm (w2.heap.size + 1 + 1 + 1 + 1 + 1) (w2.heap.size + 1 + 1 + 1 + 1) vm0 size (pre ++ [x]) ((nm : Int)) rs2 W' ∧ Boxed W' wD.heap.size TEnts (.slice no rs2.length nc) ∧ W'.ownsRow (WB.heap.size + 1) TEnt 3 (.slice no rs2.length nc) rs2.length (rcells E rs2) ∧ Boxed W' (w.heap.size + 1 + 1) 3 (.int .i64 leave) ∧ Boxed W' (w.heap.size + 1 + 1 + 1) 4 (.bool false)) := fun W' hk => by
        have hn0 : W0.heap.size ≤ WB.heap.size := hSB.kx.size
        have q := hSE.other hk (fun k e => ⟨by omega, #[.int .i64 0], 3, by rw [e]; exact y0, by decide, by decide⟩)
        have hcE : ∀ k, k = WB.heap.size → ∃ cs T, WE.heap[k]? = some (.cells cs T (0, 0)) ∧ T ≠ TRun ∧ T ≠ TMap := fun k e => ⟨#[.int .i64 0], 3, by rw [e]; exact y0, by decide, by decide⟩
        refine ⟨kpC_t (kpC_t kWB (kpC_below bm hbBE)) (kpC_kx hk hcE ⟨_, hmE.blk⟩), (oWB.trans ⟨hbBE.size, fun k o ho _ => (hbBE.block k (Array.getElem?_eq_some_iff.1 ho).1).trans ho⟩).trans (keeps_kx hk (fun k e => by obtain ⟨cs, T, h3, _⟩ := hcE k e; exact ⟨cs, T, h3⟩)), q, hk.box y1 (by omega), hk.row hnE (fun g e => by have := (row_lt hnE g e).2.1; omega), (HKX.out W' q.kx).1.2.2.1, (HKX.out W' q.kx).1.2.2.2.1⟩
      have HYl : Hid (rs2.length ≤ 1099511627776) := hlen2
      have hnb : WB.heap.size < WE.heap.size := y0.lt
      have hW0B : W0.heap.size ≤ WB.heap.size := hSB.kx.size
      have hnbs : WB.heap.size = wa.heap.size := by rw [hWB]; simp
      rw [hnbs] at y0 HKE hnb hW0B hsD
      clear p1 p2 p3 p4 p5 p6 p7 p8 p9 hbwB hwrB hbn HRn n1 n5 n9 a9 hWE hWB hbE hbBE hsE hnr hbD hm2 hf2 hSB kWB oWB hmE hSE y1 hnE k6 k7 k8 hsn hnbs
      refine wpIn_rangeFunc_ownN (l₀ := l') (r₀ := r) rfl hr1 (by omega) (gf := 36) (lb := #[.pointer (some ⟨w2.heap.size, 0, none⟩), .pointer (some ⟨w2.heap.size + 1, 0, none⟩), .pointer (some ⟨w2.heap.size + 2, 0, none⟩)]) rfl f4 (enters_of Try.func36 (by kernel_rfl) rfl)
        (hseq2.inRound l') kpC_t (kpC_b (w := WE)) (Below.refl _ _) (fun _ => rfl)
        (fun pre' W' => Boxed W' wa.heap.size 3 (.int .i64 pre'.length) ∧ KX (· = wa.heap.size) WE W')
        (fun c pre' W' => (c = .ret ∧ ∃ (p : List (Rn Int)) (y : Rn Int), pre' = p ++ [y] ∧ rs2[p.length]? ≠ some y) ∨ (c = .exit 2 ∧ leave = pre'.length ∧ Boxed W' wa.heap.size 3 (.int .i64 pre'.length) ∧ KX (· = wa.heap.size) WE W'))
        (fun pre' X Y row hs hg hrr => ⟨boxed_own _ _ (fun _ : Unit => _) () X Y row hs.1 hg (fun r e => (hrr r e).2), KX.own_grown hs.2 hg (fun r e => (hrr r e).1)⟩)
        (fun c pre' X Y row hs hg hrr => hs.elim (fun h => .inl h) (fun h => .inr ⟨h.1, h.2.1, boxed_own _ _ (fun _ : Unit => _) () X Y row h.2.2.1 hg (fun r e => (hrr r e).2), KX.own_grown h.2.2.2 hg (fun r e => (hrr r e).1)⟩))
        ⟨y0, KX.refl _ _⟩
        (fun y a'' W' => ∃ By, W'.heap[By]? = some (.cells #[.int .i64 y.lo, .int .i64 y.hi, .int .i64 y.v] TRun (0, 0)) ∧ a'' = { tmps := #[.int .i64 size, .int .i64 first, .slice al n cl, .slice am nm cm, .int .i64 leave, .pointer (some ⟨w.heap.size, 0, none⟩), undef, undef, .pointer (some ⟨w.heap.size + 1, 0, none⟩), .pointer (some ⟨w.heap.size + 1 + 1, 0, none⟩), .pointer (some ⟨w.heap.size + 1 + 1 + 1, 0, none⟩), .pointer (some ⟨w1.heap.size, 0, none⟩), wv, .pointer (some ⟨w2.heap.size + 1 + 1 + 1, 0, none⟩), .pointer (some ⟨w2.heap.size + 1 + 1 + 1 + 1, 0, none⟩), .pointer (some ⟨w2.heap.size + 1 + 1 + 1 + 1 + 1, 0, none⟩), .pointer (some ⟨Bx, 0, none⟩), .pointer (some ⟨wa.heap.size, 0, none⟩), .pointer (some ⟨wD.heap.size, 0, none⟩), .pointer (some ⟨By, 0, none⟩), .int .i64 size, .int .i64 first, .slice al n cl, .pointer (some ⟨bm, 0, none⟩), .pointer (some ⟨bm, 0, none⟩), .bool false, undef, undef, undef, undef, undef, undef, .pointer (some ⟨bm, 0, none⟩), .int .i64 size, wv, .pointer (some ⟨bm, 0, none⟩), .int .i64 size, (.func (.func 36) #[] #[.pointer (some ⟨w2.heap.size, 0, none⟩), .pointer (some ⟨w2.heap.size + 1, 0, none⟩), .pointer (some ⟨w2.heap.size + 2, 0, none⟩)]), (.func (.func 36) #[] #[.pointer (some ⟨w2.heap.size, 0, none⟩), .pointer (some ⟨w2.heap.size + 1, 0, none⟩), .pointer (some ⟨w2.heap.size + 2, 0, none⟩)]), .agg #[.int .i64 x.lo, .int .i64 x.hi, .int .i64 x.v], gv, .pointer (some ⟨Bx, 0, none⟩), .int .i64 x.lo, .pointer (some ⟨Bx, 1, none⟩), .int .i64 x.hi, .pointer (some ⟨Bx, 2, none⟩), .int .i64 x.v, .agg #[.int .i64 x.lo, .int .i64 x.hi, .int .i64 x.v], .slice (some ⟨W.heap.size, 0, none⟩) 1 1, (.slice (some ⟨g', 0, none⟩) (pre.length + 1) cap'), .int .i64 (nm : Int), .slice am nm cm, .int .i64 (nm : Int), .bool false, undef, undef, undef, undef, undef, undef, undef, undef, undef, undef, undef, undef, undef, undef, undef, undef, undef, undef, undef, .pointer (some ⟨bm, 0, none⟩), .int .i64 size, .slice no rs2.length nc, (.func (.func 36) #[] #[.pointer (some ⟨w2.heap.size, 0, none⟩), .pointer (some ⟨w2.heap.size + 1, 0, none⟩), .pointer (some ⟨w2.heap.size + 2, 0, none⟩)]), .agg #[.int .i64 y.lo, .int .i64 y.hi, .int .i64 y.v], undef, undef, undef, undef, undef, undef, undef, undef, undef, undef, undef, undef, undef, undef, undef, undef, undef, undef, undef, undef, undef, undef, undef, undef, undef, undef, undef, undef, undef, undef, undef, undef, undef, undef, undef, undef, undef, undef, undef, undef, undef, undef, undef, undef, undef, undef, undef, undef, undef, undef, undef, undef, undef, undef], defers := [] })
        (fun y a'' s X Y row hs hg hrow => by
          obtain ⟨By, hy, e⟩ := hs
          exact ⟨By, cells_ownC By _ _ _ () X Y row hy hg hrow, e⟩)
        ?assign2 ?body2 ?done2 ?stop2
      case assign2 =>
        rintro l2 pre' y W' K ⟨hn, hk⟩ hK
        gi_big_wp2
        have hba : Below W'.heap.size W' (W'.alloc (.cells #[.int .i64 y.lo, .int .i64 y.hi, .int .i64 y.v] TRun)) := (Below.refl _ W').alloc (Nat.le_refl _) _
        exact hK _ _ ((KeepsOthers.alloc _ _).from _) (kpC_below _ hba) ⟨hn.alloc _, hk.trans (KX.of_below hba)⟩ ⟨W'.heap.size, heap_alloc_new W' _, rfl⟩
      case body2 =>
        rintro l2 pre' ⟨ylo, yhi, yv⟩ a'' W' _ _ ⟨hn, hk⟩ ⟨By, hy, rfl⟩ hlt2
        simp only at hy ⊢
        obtain ⟨kE, oE, sE, b1, rw1, b2, b3⟩ := HKE.out W' hk
        obtain ⟨⟨zlo, zhi, zv⟩, hz⟩ : ∃ z, rs2[pre'.length]? = some z := ⟨_, List.getElem?_eq_getElem hlt2⟩
        obtain ⟨ng, rfl, d0, d1, d2⟩ := ent_cells rw1 hz
        simp only at d0 d1 d2
        have mixed : Try.prog.follows .mixedOrders = true := by kernel_rfl
        have t0 : W'.cell? ⟨By, 0, none⟩ = some (.int .i64 ylo) := by unfold World.cell?; simp only [hy]; rfl
        have t1 : W'.cell? ⟨By, 1, none⟩ = some (.int .i64 yhi) := by unfold World.cell?; simp only [hy]; rfl
        have t2 : W'.cell? ⟨By, 2, none⟩ = some (.int .i64 yv) := by unfold World.cell?; simp only [hy]; rfl
        have HKF : Hid (∀ q u, KeepsFrom WE.heap.size W' ((W'.drewN q).setCell ⟨w.heap.size + 1 + 1 + 1, 0, none⟩ u)) := fun q u => (KeepsOthers.trans (⟨Nat.le_refl _, fun _ _ h _ => h⟩ : KeepsOthers W' (W'.drewN q)) (KeepsOthers.setCell (W'.drewN q) _ u)).from _
        have HFin : Hid (∀ q, KeepsFrom WE.heap.size W' ((W'.drewN q).setCell ⟨wa.heap.size, 0, none⟩ (.int .i64 ((pre'.length : Int) + 1))) ∧ KpC bm W' ((W'.drewN q).setCell ⟨wa.heap.size, 0, none⟩ (.int .i64 ((pre'.length : Int) + 1))) ∧ Boxed ((W'.drewN q).setCell ⟨wa.heap.size, 0, none⟩ (.int .i64 ((pre'.length : Int) + 1))) wa.heap.size 3 (.int .i64 (pre' ++ [(⟨ylo, yhi, yv⟩ : Rn Int)]).length) ∧ KX (· = wa.heap.size) WE ((W'.drewN q).setCell ⟨wa.heap.size, 0, none⟩ (.int .i64 ((pre'.length : Int) + 1)))) := fun q => by
          have j0 : Boxed (W'.drewN q) wa.heap.size 3 (.int .i64 pre'.length) := hn
          have jk : KX (· = wa.heap.size) W' (W'.drewN q) := ⟨rfl, rfl, rfl, Nat.le_refl _, fun _ _ _ => rfl⟩
          have jx := jk.trans (kx_set (W'.drewN q) wa.heap.size 0 (.int .i64 ((pre'.length : Int) + 1)))
          refine ⟨(KeepsOthers.trans (⟨Nat.le_refl _, fun _ _ h _ => h⟩ : KeepsOthers W' (W'.drewN q)) (KeepsOthers.setCell (W'.drewN q) _ _)).from _, kpC_kx jx (fun k e => ⟨#[.int .i64 pre'.length], 3, by rw [e]; exact hn, by decide, by decide⟩) (by obtain ⟨vv, mm, _⟩ := sE.m; exact ⟨_, mm.blk⟩), ?_, hk.trans jx⟩
          rw [List.length_append]
          exact j0.set _
        have HLv : Hid (∀ q u, ((W'.drewN q).setCell ⟨wa.heap.size, 0, none⟩ u).cell? ⟨w.heap.size + 1 + 1, 0, none⟩ = some (.int .i64 leave)) := fun q u => (Boxed.other (W := W'.drewN q) b2 (by omega) u).cell
        have lv := HLv.out
        have nc0 := hn.cell
        have nf0 := hn.frozen
        have ns : ∀ q u, ((W'.drewN q).setCell ⟨wa.heap.size, 0, none⟩ u).cell? ⟨wa.heap.size, 0, none⟩ = some u := fun q u => ((show Boxed (W'.drewN q) wa.heap.size 3 (.int .i64 pre'.length) from hn).set u).cell
        have b1c := b1.cell
        have b3c := b3.cell
        have b3f := b3.frozen
        have dn : decide ((rs2.length : Int) ≤ (pre'.length : Int)) = false := decide_eq_false (by omega)
        have dn2 : decide ((pre'.length : Int) ≥ (rs2.length : Int)) = false := decide_eq_false (by omega)
        have dn3 : decide (rs2.length ≤ pre'.length) = false := decide_eq_false (by omega)
        have hN2 : (pre'.length : Int) + 1 ≤ 1099511627776 := by have := HYl.out; omega
        have hlt3 : (pre'.length : Int) < (rs2.length : Int) := by omega
        have g1 : 1 ≤ 12 - 1 - 1 - 1 - 1 := by omega
        have HZ : Hid (rs2[pre'.length]? = some (⟨zlo, zhi, zv⟩ : Rn Int)) := hz
        clear hz hn hk kE oE sE b1 rw1 b2 b3 hy HLv
        by_cases c1 : ylo = zlo
        · have e1 : (ylo != zlo) = false := by simpa using c1
          by_cases c2 : yhi = zhi
          · have e2 : (yhi != zhi) = false := by simpa using c2
            by_cases c3 : yv = zv
            · have e3 : (yv != zv) = false := by simpa using c3
              have C : Hid (ylo = zlo ∧ yhi = zhi ∧ yv = zv) := ⟨c1, c2, c3⟩
              clear c1 c2 c3
              by_cases c4 : (pre'.length : Int) + 1 = leave
              · have e4 : ((pre'.length : Int) + 1 == leave) = true := by simpa using c4
                have C4 : Hid ((pre'.length : Int) + 1 = leave) := c4
                clear c4
                gi_big_wp2
                refine region_quiet (by kernel_rfl) mixed (by kernel_rfl) ?_
                repeat (gi_big_quiet_step (fail))
                refine wpQuietIn_nil ?_
                intro _ hw'
                obtain ⟨nq, hw''⟩ := hw'
                subst hw''
                gi_big_wp2
                exact ⟨(HFin.out _).1, .inr ⟨rfl, by have := C4.out; rw [List.length_append]; simp; omega, (HFin.out _).2.2.1, (HFin.out _).2.2.2⟩⟩
              · have e4 : ((pre'.length : Int) + 1 == leave) = false := by simpa using c4
                clear c4
                gi_big_wp2
                refine region_quiet (by kernel_rfl) mixed (by kernel_rfl) ?_
                repeat (gi_big_quiet_step (fail))
                refine wpQuietIn_nil ?_
                intro _ hw'
                obtain ⟨nq, hw''⟩ := hw'
                subst hw''
                gi_big_wp2
                exact HFin.out _
            · have e3 : (yv != zv) = true := by simpa using c3
              gi_big_wp2
              refine region_quiet (by kernel_rfl) mixed (by kernel_rfl) ?_
              repeat (gi_big_quiet_step (fail))
              refine wpQuietIn_nil ?_
              intro _ hw'
              obtain ⟨nq, hw''⟩ := hw'
              subst hw''
              gi_big_wp2
              exact ⟨HKF.out _ _, .inl ⟨rfl, pre', ⟨ylo, yhi, yv⟩, rfl, fun e => by have := HZ.out.symm.trans e; simp at this; exact c3 this.2.2.symm⟩⟩
          · have e2 : (yhi != zhi) = true := by simpa using c2
            gi_big_wp2
            refine region_quiet (by kernel_rfl) mixed (by kernel_rfl) ?_
            repeat (gi_big_quiet_step (fail))
            refine wpQuietIn_nil ?_
            intro _ hw'
            obtain ⟨nq, hw''⟩ := hw'
            subst hw''
            gi_big_wp2
            exact ⟨HKF.out _ _, .inl ⟨rfl, pre', ⟨ylo, yhi, yv⟩, rfl, fun e => by have := HZ.out.symm.trans e; simp at this; exact c2 this.2.1.symm⟩⟩
        · have e1 : (ylo != zlo) = true := by simpa using c1
          gi_big_wp2
          refine region_quiet (by kernel_rfl) mixed (by kernel_rfl) ?_
          repeat (gi_big_quiet_step (fail))
          refine wpQuietIn_nil ?_
          intro _ hw'
          obtain ⟨nq, hw''⟩ := hw'
          subst hw''
          gi_big_wp2
          exact ⟨HKF.out _ _, .inl ⟨rfl, pre', ⟨ylo, yhi, yv⟩, rfl, fun e => by have := HZ.out.symm.trans e; simp at this; exact c1 this.1.symm⟩⟩
      case done2 =>
        rintro ys' W' rfl ⟨hn, hk⟩
        obtain ⟨kE, oE, sE, b1, rw1, b2, b3⟩ := HKE.out W' hk
        have nc0 := hn.cell
        have b1c := b1.cell
        have b2c := b2.cell
        have e1 : ((ys'.length : Int) != (ys'.length : Int)) = false := by simp
        gi_big_wp2
        exact ⟨oE.from _, kE, (congrFun HR2.out W').mp sE⟩
      case stop2 =>
        rintro c pre' W' ⟨rest, hrest⟩ hIx
        rcases hIx with ⟨rfl, p, y, rfl, hne⟩ | ⟨rfl, hlv, hn, hk⟩
        · exact absurd (by rw [hrest]; simp) hne
        · obtain ⟨kE, oE, sE, b1, rw1, b2, b3⟩ := HKE.out W' hk
          have nc0 := hn.cell
          have b1c := b1.cell
          have b2c := b2.cell
          have e2 : ((pre'.length : Int) != leave) = false := by rw [hlv]; simp
          clear hlv hn hk hrest b1 b2 b3 rw1
          by_cases c1 : (pre'.length : Int) = (rs2.length : Int)
          · have e1 : ((pre'.length : Int) != (rs2.length : Int)) = false := by simpa using c1
            clear c1
            gi_big_wp2
            exact ⟨oE.from _, kE, (congrFun HR2.out W').mp sE⟩
          · have e1 : ((pre'.length : Int) != (rs2.length : Int)) = true := by simpa using c1
            clear c1
            gi_big_wp2
            exact ⟨oE.from _, kE, (congrFun HR2.out W').mp sE⟩
  case done =>
    rintro D ys W hD rfl hSJ hK
    obtain ⟨⟨q1, q2, q3, q4, q5, q6, q7, q8, q9⟩, hbw, hwr⟩ := HKX.out W hSJ.kx
    obtain ⟨gv, hg, hgr⟩ := hSJ.g
    have hc := hg.cell
    have HSm : Hid (Calls Try.prog 15 #[gv, wv] W fun e w' => e = .returned (.bool true) ∧ Below W.heap.size W w') := sameE_any hgr hwr hlen
    have HAl : Hid (∀ X, Below W.heap.size W X → Calls Try.prog 18 #[] X fun e w' => e = .returned (.bool true) ∧ Below W.heap.size W w') := fun X hX => (alive_any X).mono fun e w' ⟨he, hb⟩ => ⟨he, hX.trans (hb.mono hX.size)⟩
    have HRes : Hid (∀ X, Below W.heap.size W X → Boxed X (w.heap.size + 1 + 1 + 1) 4 (.bool false) ∧ Below w.heap.size w X ∧ X.heap[D]? = some (.deferred (some []))) := fun X hX => ⟨boxed_later q4 hX, hbw.trans (hX.mono hbw.size), (hX.block D (Array.getElem?_eq_some_iff.1 hK).1).trans hK⟩
    have hDw : w.heap.size + 1 + 1 + 1 < D := by omega
    clear hgr hwr hg q1 q2 q3 q4 q5 q6 q7 q8 q9 hSJ hK
    gi_big_wp2_with (first | (gi_at_call 15; refine (callsIn_wide.2 HSm.out).mono ?_; rintro e wA ⟨rfl, hbA⟩) | (gi_at_call 18; refine (callsIn_wide.2 (HAl.out _ hbA)).mono ?_; rintro e wB ⟨rfl, hbB⟩; obtain ⟨r1, r2, r3⟩ := HRes.out wB hbB; have r4 := r1.cell; have r5 := r1.frozen))
    have kz := (KeepsOthers.setCell wB ⟨w.heap.size + 1 + 1 + 1, 0, none⟩ (.bool true)).same D _ r3 rfl
    have lX : Below w.heap.size w (wB.setCell ⟨w.heap.size + 1 + 1 + 1, 0, none⟩ (.bool true)) := r2.grown (grownBy_setCell' _ _ _) r2.size (fun k e => by cases e; omega)
    refine ⟨by simp, .inl ⟨_, _, rfl, run_takeDeferred kz, ?_⟩⟩
    exact ⟨_, res_boolS rfl ((r1.set (.bool true)).kept (grownBy_putObj' _ _ _) (fun e => by cases e; omega)), rfl, lX.trans (belowK_b (w := w) (Nat.le_refl _) _ D _ _ (by omega) kz rfl rfl)⟩
  case stop =>
    rintro D c pre W _ _ h _
    exact h.elim
theorem lawSeen_any (size first leave : Int) (l more : List Put) (al am : Option Addr) (cl cm n nm : Nat) (w : World) (HLl : n = l.length) (HLm : nm = more.length) (hn : n ≤ 9223372036854775807) (hnm : nm ≤ 9223372036854775807) (PL : Puts w al l) (PM : Puts w am more) :
    Calls Try.prog 7 #[.int .i64 size, .int .i64 first, .slice al n cl, .slice am nm cm, .int .i64 leave] w fun e w' => e = .returned (.bool true) ∧ Below w.heap.size w w' := by
  by_cases hs : 0 ≤ size ∧ size ≤ 1099511627776
  · exact lawSeen_good size first leave l more al am cl cm n nm w HLl HLm hn hnm PL PM hs.1 hs.2
  · exact lawSeen_bad size first leave _ am nm cm w (by omega)
end Go.Proofs.Ytijafckdbhklmaa.I
