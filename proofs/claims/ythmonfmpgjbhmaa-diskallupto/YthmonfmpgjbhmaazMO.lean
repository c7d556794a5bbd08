import Derived.Test.YthmonfmpgjbhmaazMN
namespace Go.Proofs.Ythmonfmpgjbhmaa.K
open Go.RowKit Go.Maps Go.Proofs.Ythmonfmpgjbhmaa
attribute [local go_sem] Oper.semAt_some
set_option linter.unusedVariables false
set_option linter.unusedSimpArgs false
set_option maxRecDepth 100000

theorem infoBo : (Try.prog.info? 4).map (fun i => (i.zero, i.size, i.bytes)) = some (some (.bool false), 1, 1) := by kernel_rfl
theorem bo_own {w : World} {B n : Nat} {v : Value} {l : List Bool} (h : w.ownsRow B 4 1 v n (l.map Value.bool)) (hn : l.length = n) (hl : n ≤ 1048576) : ∃ ao cap, v = .slice ao n cap ∧ BoRow w ao cap l := by
  rcases h.2 with ⟨rfl, h0⟩ | ⟨g, cap, cur, rfl, _⟩
  · have : l = [] := List.length_eq_zero_iff.1 (by omega)
    subst this
    exact ⟨none, 0, by rw [h0], ⟨by simp, fun _ => ⟨rfl, rfl⟩, fun h => absurd rfl h⟩⟩
  · refine ⟨_, cap, rfl, ⟨by omega, (fun e => by cases e), fun _ => ⟨g, 0, rfl, fun k x hx => ?_⟩⟩⟩
    have hk := (List.getElem?_eq_some_iff.1 hx).1
    rw [Nat.zero_add, h.cellAt k (by omega), List.getElem?_map, hx]
    rfl
set_option maxHeartbeats 4000000 in
theorem acts_bar {W : World} {b p : Nat} {S : Dk} {N : Nat} {H : List Nat} (h : PP W b p S S N H) (hN : N < 1048576) (osec : Int) (ofill : Nat) (omore fk fsec fa ft : Int) (fl : Bool) (oao : Option Addr) (ocap : Nat) (okeep : List Bool) :
    Calls Try.prog 43 #[.pointer (some ⟨b, 0, none⟩), .pointer (some ⟨p, 0, none⟩), .agg #[.int .i64 3, .int .i64 osec, .int .u8 ofill, .int .i64 omore, .int .i64 fk, .int .i64 fsec, .int .i64 fa, .int .i64 ft, .bool fl, .slice oao okeep.length ocap]] W fun r W' => r = .returned (.bool true) ∧ ∃ S' H', PP W' b p S' S' (N + 1) H' ∧ Mv W W' H H' := by
  have hB0 : Below W.heap.size W (W.alloc (.cells #[.int .i64 3, .int .i64 osec, .int .u8 ofill, .int .i64 omore, .int .i64 fk, .int .i64 fsec, .int .i64 fa, .int .i64 ft, .bool fl, .slice oao okeep.length ocap] TOp)) := (Below.refl _ W).alloc (Nat.le_refl _) _
  obtain ⟨W0, hW0⟩ : ∃ W0, W0 = W.alloc (.cells #[.int .i64 3, .int .i64 osec, .int .u8 ofill, .int .i64 omore, .int .i64 fk, .int .i64 fsec, .int .i64 fa, .int .i64 ft, .bool fl, .slice oao okeep.length ocap] TOp) := ⟨_, rfl⟩
  rw [← hW0] at hB0
  have HP0 : Hid (PP W0 b p S S N H) := h.later hB0
  have hx0 : W0.heap[W.heap.size]? = some (.cells #[.int .i64 3, .int .i64 osec, .int .u8 ofill, .int .i64 omore, .int .i64 fk, .int .i64 fsec, .int .i64 fa, .int .i64 ft, .bool fl, .slice oao okeep.length ocap] TOp) := by rw [hW0]; exact heap_alloc_new W _
  have HXk : Hid (∀ W' F, Kp W0 W' F → (∀ i ∈ F, i ∈ H ∨ W0.heap.size ≤ i) → W'.heap[W.heap.size]? = some (.cells #[.int .i64 3, .int .i64 osec, .int .u8 ofill, .int .i64 omore, .int .i64 fk, .int .i64 fsec, .int .i64 fa, .int .i64 ft, .bool fl, .slice oao okeep.length ocap] TOp)) := fun W' F hk hs => by
    have hl := (Array.getElem?_eq_some_iff.1 hx0).1
    refine (hk.block _ hl (fun hm => ?_)).trans hx0
    rcases hs _ hm with h1 | h1
    · have := h.lt _ h1; omega
    · omega
  have HMv : Hid (∀ W' H', Mv W0 W' H H' → Mv W W' H H') := fun W' H' hm => ⟨(Kp.of_below hB0 _).trans hm.kp (fun i hi => .inl hi), fun i hi => (hm.sub i hi).imp id (fun h1 => Nat.le_trans hB0.size h1)⟩
  have HW0 : Hid (W0 = W.alloc (.cells #[.int .i64 3, .int .i64 osec, .int .u8 ofill, .int .i64 omore, .int .i64 fk, .int .i64 fsec, .int .i64 fa, .int .i64 ft, .bool fl, .slice oao okeep.length ocap] TOp)) := hW0
  have hq : S.q.length ≤ 1048576 := by have := h.qlen; omega
  have HQ : Hid (S.q.length ≤ 1048576) := hq
  clear h hx0 hB0 hW0 hq HXk
  go_enter Try.func43, Try.ntmps43
  go_wp2_with fail
  rw [← HW0.out]
  refine (HP0.out.barD HQ.out).mono ?_
  rintro r W1 ⟨rfl, H1, hp1, hm1⟩
  have HP1 : Hid (PP W1 b p (baS S) S N H1) := hp1
  have HM1 : Hid (Mv W0 W1 H H1) := hm1
  clear hp1 hm1
  go_wp2_with fail
  refine (HP1.out.barR (by omega)).mono ?_
  rintro r W2 ⟨rfl, H2, hp2, hm2⟩
  have HP2 : Hid (PP W2 b p (baS S) (baS S) (N + 1) H2) := hp2.more (by omega)
  have HM2 : Hid (Mv W W2 H H2) := HMv.out W2 H2 (HM1.out.trans hm2)
  clear hp2 hm2
  go_wp2
  go_ret
  exact ⟨by simp, _, H2, HP2.out, HM2.out⟩
set_option maxHeartbeats 4000000 in
theorem acts_fault {W : World} {b p : Nat} {S : Dk} {N : Nat} {H : List Nat} (h : PP W b p S S N H) (hN : N < 1048576) (osec : Int) (ofill : Nat) (omore fk fsec fa ft : Int) (fl : Bool) (oao : Option Addr) (ocap : Nat) (okeep : List Bool) (hfa : I64 fa) (hft : I64 ft) :
    Calls Try.prog 43 #[.pointer (some ⟨b, 0, none⟩), .pointer (some ⟨p, 0, none⟩), .agg #[.int .i64 4, .int .i64 osec, .int .u8 ofill, .int .i64 omore, .int .i64 fk, .int .i64 fsec, .int .i64 fa, .int .i64 ft, .bool fl, .slice oao okeep.length ocap]] W fun r W' => r = .returned (.bool true) ∧ ∃ S' H', PP W' b p S' S' (N + 1) H' ∧ Mv W W' H H' := by
  have hB0 : Below W.heap.size W (W.alloc (.cells #[.int .i64 4, .int .i64 osec, .int .u8 ofill, .int .i64 omore, .int .i64 fk, .int .i64 fsec, .int .i64 fa, .int .i64 ft, .bool fl, .slice oao okeep.length ocap] TOp)) := (Below.refl _ W).alloc (Nat.le_refl _) _
  obtain ⟨W0, hW0⟩ : ∃ W0, W0 = W.alloc (.cells #[.int .i64 4, .int .i64 osec, .int .u8 ofill, .int .i64 omore, .int .i64 fk, .int .i64 fsec, .int .i64 fa, .int .i64 ft, .bool fl, .slice oao okeep.length ocap] TOp) := ⟨_, rfl⟩
  rw [← hW0] at hB0
  have HP0 : Hid (PP W0 b p S S N H) := h.later hB0
  have hx0 : W0.heap[W.heap.size]? = some (.cells #[.int .i64 4, .int .i64 osec, .int .u8 ofill, .int .i64 omore, .int .i64 fk, .int .i64 fsec, .int .i64 fa, .int .i64 ft, .bool fl, .slice oao okeep.length ocap] TOp) := by rw [hW0]; exact heap_alloc_new W _
  have HXk : Hid (∀ W' F, Kp W0 W' F → (∀ i ∈ F, i ∈ H ∨ W0.heap.size ≤ i) → W'.heap[W.heap.size]? = some (.cells #[.int .i64 4, .int .i64 osec, .int .u8 ofill, .int .i64 omore, .int .i64 fk, .int .i64 fsec, .int .i64 fa, .int .i64 ft, .bool fl, .slice oao okeep.length ocap] TOp)) := fun W' F hk hs => by
    have hl := (Array.getElem?_eq_some_iff.1 hx0).1
    refine (hk.block _ hl (fun hm => ?_)).trans hx0
    rcases hs _ hm with h1 | h1
    · have := h.lt _ h1; omega
    · omega
  have HMv : Hid (∀ W' H', Mv W0 W' H H' → Mv W W' H H') := fun W' H' hm => ⟨(Kp.of_below hB0 _).trans hm.kp (fun i hi => .inl hi), fun i hi => (hm.sub i hi).imp id (fun h1 => Nat.le_trans hB0.size h1)⟩
  have HW0 : Hid (W0 = W.alloc (.cells #[.int .i64 4, .int .i64 osec, .int .u8 ofill, .int .i64 omore, .int .i64 fk, .int .i64 fsec, .int .i64 fa, .int .i64 ft, .bool fl, .slice oao okeep.length ocap] TOp)) := hW0
  have HA : Hid (I64 fa ∧ I64 ft) := ⟨hfa, hft⟩
  have HXc : Hid (∀ W', Mv W0 W' H H → True) := fun _ _ => trivial
  clear hfa hft
  have z4 : W0.cell? ⟨W.heap.size, 4, none⟩ = some (.int .i64 fk) := (cell_of hx0).trans rfl
  have z5 : W0.cell? ⟨W.heap.size, 5, none⟩ = some (.int .i64 fsec) := (cell_of hx0).trans rfl
  have z6 : W0.cell? ⟨W.heap.size, 6, none⟩ = some (.int .i64 fa) := (cell_of hx0).trans rfl
  have z7 : W0.cell? ⟨W.heap.size, 7, none⟩ = some (.int .i64 ft) := (cell_of hx0).trans rfl
  have z8 : W0.cell? ⟨W.heap.size, 8, none⟩ = some (.bool fl) := (cell_of hx0).trans rfl
  clear h hx0 hB0 hW0
  go_enter Try.func43, Try.ntmps43
  go_wp2_with fail
  rw [← HW0.out]
  have HZ : Hid (∀ W' F, Kp W0 W' F → (∀ i ∈ F, i ∈ H ∨ W0.heap.size ≤ i) → W'.cell? ⟨W.heap.size, 4, none⟩ = some (.int .i64 fk) ∧ W'.cell? ⟨W.heap.size, 5, none⟩ = some (.int .i64 fsec) ∧ W'.cell? ⟨W.heap.size, 6, none⟩ = some (.int .i64 fa) ∧ W'.cell? ⟨W.heap.size, 7, none⟩ = some (.int .i64 ft) ∧ W'.cell? ⟨W.heap.size, 8, none⟩ = some (.bool fl)) := fun W' F hk hs => by
    have h1 := HXk.out W' F hk hs
    exact ⟨(cell_of h1).trans rfl, (cell_of h1).trans rfl, (cell_of h1).trans rfl, (cell_of h1).trans rfl, (cell_of h1).trans rfl⟩
  have HPd : Hid (PP W0.drew b p S S N H) := HP0.out.later (below_drew W0)
  have HKd : Hid (Kp W0 W0.drew []) := Kp.of_below (below_drew W0) []
  have hfD := HPd.out.faultD ⟨fk, fsec, fa, ft, fl⟩ HA.out.1 HA.out.2
  go_region_held3 (fun w' => w'.cell? ⟨W.heap.size, 4, none⟩ = some (.int .i64 fk) ∧ w'.cell? ⟨W.heap.size, 5, none⟩ = some (.int .i64 fsec) ∧ w'.cell? ⟨W.heap.size, 6, none⟩ = some (.int .i64 fa) ∧ w'.cell? ⟨W.heap.size, 7, none⟩ = some (.int .i64 ft) ∧ w'.cell? ⟨W.heap.size, 8, none⟩ = some (.bool fl)) (first | exact ⟨z4, z5, z6, z7, z8⟩ | exact HZ.out _ [] HKd.out (by simp) | exact HZ.out _ H HK1.out (fun i hi => .inl hi) | exact HZ.out _ H HK2.out (fun i hi => .inl hi) | go_keep) (first | (go_at_call 41; refine hfD.mono ?_; rintro r W1 ⟨rfl, H1, hp1, hm1⟩; have HP1 : Hid (PP W1 b p (faS S ⟨fk, fsec, fa, ft, fl⟩) S N H1) := hp1; have HM1 : Hid (Mv W0.drew W1 H H1) := hm1; have HK1 : Hid (Kp W0 W1 H) := (Kp.of_below (below_drew W0) _).trans hm1.kp (fun i hi => .inl hi); have hfR := HP1.out.faultR ⟨fk, fsec, fa, ft, fl⟩ HA.out.1 HA.out.2; clear hp1 hm1 hfD) | (go_at_call 60; refine hfR.mono ?_; rintro r W2 ⟨rfl, H2, hp2, hm2⟩; have HP2 : Hid (PP W2 b p (faS S ⟨fk, fsec, fa, ft, fl⟩) (faS S ⟨fk, fsec, fa, ft, fl⟩) (N + 1) H2) := hp2.more (by omega); have HMd : Hid (Mv W0.drew W2 H H2) := HM1.out.trans hm2; have HK2 : Hid (Kp W0 W2 H) := (Kp.of_below (below_drew W0) _).trans HMd.out.kp (fun i hi => .inl hi); clear hp2 hm2 hfR))
  have HM2 : Hid (Mv W W2 H H2) := HMv.out W2 H2 ⟨HK2.out, HMd.out.sub⟩
  go_wp2
  go_ret
  exact ⟨by simp, _, H2, HP2.out, HM2.out⟩
set_option maxHeartbeats 4000000 in
theorem acts_crash {W : World} {b p : Nat} {S : Dk} {N : Nat} {H : List Nat} (h : PP W b p S S N H) (hN : N < 1048576) (osec : Int) (ofill : Nat) (omore fk fsec fa ft : Int) (fl : Bool) (oao : Option Addr) (ocap : Nat) (okeep : List Bool) (hr : BoRow W oao ocap okeep) (hap : ∀ ad, oao = some ad → okeep ≠ [] → ad.block ∉ H) :
    Calls Try.prog 43 #[.pointer (some ⟨b, 0, none⟩), .pointer (some ⟨p, 0, none⟩), .agg #[.int .i64 5, .int .i64 osec, .int .u8 ofill, .int .i64 omore, .int .i64 fk, .int .i64 fsec, .int .i64 fa, .int .i64 ft, .bool fl, .slice oao okeep.length ocap]] W fun r W' => r = .returned (.bool true) ∧ ∃ S' H', PP W' b p S' S' (N + 1) H' ∧ Mv W W' H H' := by
  have hB0 : Below W.heap.size W (W.alloc (.cells #[.int .i64 5, .int .i64 osec, .int .u8 ofill, .int .i64 omore, .int .i64 fk, .int .i64 fsec, .int .i64 fa, .int .i64 ft, .bool fl, .slice oao okeep.length ocap] TOp)) := (Below.refl _ W).alloc (Nat.le_refl _) _
  obtain ⟨W0, hW0⟩ : ∃ W0, W0 = W.alloc (.cells #[.int .i64 5, .int .i64 osec, .int .u8 ofill, .int .i64 omore, .int .i64 fk, .int .i64 fsec, .int .i64 fa, .int .i64 ft, .bool fl, .slice oao okeep.length ocap] TOp) := ⟨_, rfl⟩
  rw [← hW0] at hB0
  have HP0 : Hid (PP W0 b p S S N H) := h.later hB0
  have hx0 : W0.heap[W.heap.size]? = some (.cells #[.int .i64 5, .int .i64 osec, .int .u8 ofill, .int .i64 omore, .int .i64 fk, .int .i64 fsec, .int .i64 fa, .int .i64 ft, .bool fl, .slice oao okeep.length ocap] TOp) := by rw [hW0]; exact heap_alloc_new W _
  have HXk : Hid (∀ W' F, Kp W0 W' F → (∀ i ∈ F, i ∈ H ∨ W0.heap.size ≤ i) → W'.heap[W.heap.size]? = some (.cells #[.int .i64 5, .int .i64 osec, .int .u8 ofill, .int .i64 omore, .int .i64 fk, .int .i64 fsec, .int .i64 fa, .int .i64 ft, .bool fl, .slice oao okeep.length ocap] TOp)) := fun W' F hk hs => by
    have hl := (Array.getElem?_eq_some_iff.1 hx0).1
    refine (hk.block _ hl (fun hm => ?_)).trans hx0
    rcases hs _ hm with h1 | h1
    · have := h.lt _ h1; omega
    · omega
  have HMv : Hid (∀ W' H', Mv W0 W' H H' → Mv W W' H H') := fun W' H' hm => ⟨(Kp.of_below hB0 _).trans hm.kp (fun i hi => .inl hi), fun i hi => (hm.sub i hi).imp id (fun h1 => Nat.le_trans hB0.size h1)⟩
  have HW0 : Hid (W0 = W.alloc (.cells #[.int .i64 5, .int .i64 osec, .int .u8 ofill, .int .i64 omore, .int .i64 fk, .int .i64 fsec, .int .i64 fa, .int .i64 ft, .bool fl, .slice oao okeep.length ocap] TOp)) := hW0
  have hq : S.q.length ≤ 1048576 := by have := h.qlen; omega
  have HQ : Hid (S.q.length ≤ 1048576) := hq
  have HR : Hid (BoRow W0 oao ocap okeep) := hr.kept (Kp.of_below hB0 []) (by simp)
  have HAp : Hid (∀ ad, oao = some ad → okeep ≠ [] → ad.block ∉ H) := hap
  have HXl : Hid (∀ i ∈ H, i < W.heap.size) := h.lt
  have y9 : W0.cell? ⟨W.heap.size, 9, none⟩ = some (.slice oao okeep.length ocap) := (cell_of hx0).trans rfl
  clear h hx0 hB0 hW0 hq hr hap
  obtain ⟨i0, hi0, hz0, hz1, hz2⟩ := info_parts infoBo
  obtain ⟨kn, hkn⟩ : ∃ kn, kn = okeep.length := ⟨_, rfl⟩
  have HKn : Hid (okeep.length = kn) := hkn.symm
  have hkl : kn ≤ 1048576 := by rw [hkn]; exact HR.out.len
  rw [← hkn] at y9 HW0 HXk ⊢
  have HNil : Hid (oao = none → kn = 0 ∧ ocap = 0) := fun e => by have h1 := HR.out.nil e; rw [h1.1] at hkn; simp at hkn; exact ⟨hkn, h1.2⟩
  have HNw : Hid (∀ ad, oao = some ad → ∀ j u, (okeep.map Value.bool)[j]? = some u → W0.cell? (ad.add j) = some u) := fun ad e j u hu => by
    rw [List.getElem?_map] at hu
    obtain ⟨x, hx, rfl⟩ := Option.map_eq_some_iff.1 hu
    obtain ⟨bb, off, e2, hc⟩ := HR.out.at_ (by rintro rfl; simp at hx)
    rw [e] at e2
    cases e2
    rw [add_plain]
    exact hc j x hx
  clear hkn
  go_enter Try.func43, Try.ntmps43
  go_wp2_with (first | (at_builtin; rw [← HW0.out]; refine wpList_append_two W0 rfl _ _ 88 rfl W0.heap.size 4 i0 (.bool false) 1 Try.underlying88 hi0 hz0 hz1 hz2 rfl (.slice none 0 0) 0 [] rfl (World.ownsRow_nil _ _ _ _) oao kn ocap (okeep.map Value.bool) rfl HNil.out (by rw [List.length_map]; exact HKn.out) HNw.out (fun u hu => by obtain ⟨x, _, rfl⟩ := List.mem_map.1 hu; rfl) (by unfold maxLen; omega) (by omega) (Nat.le_refl _) ?_))
  intro v1 W1 ho1 hg1 _
  have hB1 : Below W0.heap.size W0 W1 := (Below.refl _ _).grown hg1 (Nat.le_refl _) (by simp [Value.ownBlock])
  obtain ⟨a1, c1, e1, hr1⟩ := bo_own ho1 HKn.out hkl
  subst e1
  have HB1 : Hid (Below W0.heap.size W0 W1) := hB1
  have HR1 : Hid (BoRow W1 a1 c1 okeep) := hr1
  have HA1 : Hid (∀ ad, a1 = some ad → okeep ≠ [] → W0.heap.size ≤ ad.block ∧ ad.block < W1.heap.size) := fun ad e hne => by
    obtain ⟨bb, off, e2, hc⟩ := hr1.at_ hne
    rw [e] at e2
    cases e2
    rcases ho1.2 with ⟨e3, h0⟩ | ⟨g, cap', cur, e3, hb, hg, _⟩
    · simp at e3; rw [e] at e3; exact absurd e3.1 (by simp)
    · simp at e3
      rw [e] at e3
      simp at e3
      rw [e3.1.1]
      exact ⟨hb, (Array.getElem?_eq_some_iff.1 hg).1⟩
  have HA0 : Hid (∀ ad, oao = some ad → okeep ≠ [] → ad.block < W0.heap.size) := fun ad e hne => by
    obtain ⟨bb, off, e2, hc⟩ := HR.out.at_ hne
    rw [e] at e2
    cases e2
    cases okeep with
    | nil => exact absurd rfl hne
    | cons x r => exact cell_lt (hc 0 x rfl)
  have HXl0 : Hid (W.heap.size ≤ W0.heap.size) := by show _ ≤ _; rw [HW0.out, World.size_alloc]; omega
  have hcD := (HP0.out.later hB1).crashD HQ.out hr1 HKn.out (fun ad e hne hm => by have h1 := (HA1.out ad e hne).1; have h2 := HXl.out _ hm; have h3 := HXl0.out; omega)
  clear ho1 hg1 hB1 hr1 HNil HNw
  go_wp2_with fail
  refine hcD.mono ?_
  clear hcD
  rintro r W2 ⟨rfl, H2, hp2, hm2⟩
  have HP2 : Hid (PP W2 b p (crashed okeep S) S N H2) := hp2
  have HM2 : Hid (Mv W1 W2 H H2) := hm2
  have HK02 : Hid (Kp W0 W2 H) := (Kp.of_below HB1.out _).trans hm2.kp (fun i hi => .inl hi)
  have y92 : W2.cell? ⟨W.heap.size, 9, none⟩ = some (.slice oao kn ocap) := (cell_of (HXk.out W2 H HK02.out (fun i hi => .inl hi))).trans rfl
  have HR2 : Hid (BoRow W2 oao ocap okeep) := HR.out.kept HK02.out HAp.out
  have hcR := HP2.out.crashR (by omega) HR2.out HKn.out (fun ad e hne hm => by
    rcases hm2.sub _ hm with h1 | h1
    · exact HAp.out ad e hne h1
    · have h2 := HA0.out ad e hne
      have h3 := HB1.out.size
      omega)
  have HR12 : Hid (BoRow W2 a1 c1 okeep) := HR1.out.kept hm2.kp (fun ad e hne hm => by have h1 := (HA1.out ad e hne).1; have h2 := HXl.out _ hm; have h3 := HXl0.out; omega)
  clear hp2 hm2
  go_wp2_with fail
  refine hcR.mono ?_
  clear hcR
  rintro r W3 ⟨rfl, H3, hp3, hm3⟩
  have HP3 : Hid (PP W3 b p (crashed okeep S) (crashed okeep S) (N + 1) H3) := hp3.more (by omega)
  have HM13 : Hid (Mv W1 W3 H H3) := HM2.out.trans hm3
  have HM3 : Hid (Mv W W3 H H3) := HMv.out W3 H3 ⟨(Kp.of_below HB1.out _).trans HM13.out.kp (fun i hi => .inl hi), fun i hi => (HM13.out.sub i hi).imp id (fun h1 => Nat.le_trans HB1.out.size h1)⟩
  have HK03 : Hid (Kp W0 W3 H) := (Kp.of_below HB1.out _).trans HM13.out.kp (fun i hi => .inl hi)
  have y93 : W3.cell? ⟨W.heap.size, 9, none⟩ = some (.slice oao kn ocap) := (cell_of (HXk.out W3 H HK03.out (fun i hi => .inl hi))).trans rfl
  have HR3 : Hid (BoRow W3 oao ocap okeep) := HR.out.kept HK03.out HAp.out
  have HR13 : Hid (BoRow W3 a1 c1 okeep) := HR1.out.kept HM13.out.kp (fun ad e hne hm => by have h1 := (HA1.out ad e hne).1; have h2 := HXl.out _ hm; have h3 := HXl0.out; omega)
  have hke := kept_yes HR13.out HR3.out HKn.out
  clear hp3 hm3
  go_wp2_with fail
  refine hke.mono ?_
  clear hke
  rintro r W4 ⟨rfl, hb4⟩
  have HF : Hid (PP W4 b p (crashed okeep S) (crashed okeep S) (N + 1) H3 ∧ Mv W W4 H H3) := ⟨HP3.out.later hb4, HM3.out.later hb4⟩
  clear hb4
  go_wp2
  go_ret
  exact ⟨rfl, _, H3, HF.out⟩
end Go.Proofs.Ythmonfmpgjbhmaa.K
