import Derived.Test.YthmonfmpgjbhmaazMP
namespace Go.Proofs.Ythmonfmpgjbhmaa.K
open Go.RowKit Go.Maps Go.Proofs.Ythmonfmpgjbhmaa
attribute [local go_sem] Oper.semAt_some
set_option linter.unusedVariables false
set_option linter.unusedSimpArgs false
set_option maxRecDepth 100000

set_option maxHeartbeats 4000000 in
theorem asks_waits {W : World} {b p : Nat} {S : Dk} {N : Nat} {H : List Nat} (h : PP W b p S S N H) (hN : N < 1048576) (osec : Int) (ofill : Nat) (omore fk fsec fa ft : Int) (fl : Bool) (oao : Option Addr) (ocap : Nat) (okeep : List Bool) (hwf : (Lit.int .i64 osec).wf = true) :
    Calls Try.prog 63 #[.pointer (some ⟨b, 0, none⟩), .pointer (some ⟨p, 0, none⟩), .agg #[.int .i64 8, .int .i64 osec, .int .u8 ofill, .int .i64 omore, .int .i64 fk, .int .i64 fsec, .int .i64 fa, .int .i64 ft, .bool fl, .slice oao okeep.length ocap]] W fun r W' => r = .returned (.bool true) ∧ ∃ S' H', PP W' b p S' S' (N + 1) H' ∧ Mv W W' H H' := by
  have hB0 : Below W.heap.size W (W.alloc (.cells #[.int .i64 8, .int .i64 osec, .int .u8 ofill, .int .i64 omore, .int .i64 fk, .int .i64 fsec, .int .i64 fa, .int .i64 ft, .bool fl, .slice oao okeep.length ocap] TOp)) := (Below.refl _ W).alloc (Nat.le_refl _) _
  obtain ⟨W0, hW0⟩ : ∃ W0, W0 = W.alloc (.cells #[.int .i64 8, .int .i64 osec, .int .u8 ofill, .int .i64 omore, .int .i64 fk, .int .i64 fsec, .int .i64 fa, .int .i64 ft, .bool fl, .slice oao okeep.length ocap] TOp) := ⟨_, rfl⟩
  rw [← hW0] at hB0
  have HP0 : Hid (PP W0 b p S S N H) := h.later hB0
  have hx0 : W0.heap[W.heap.size]? = some (.cells #[.int .i64 8, .int .i64 osec, .int .u8 ofill, .int .i64 omore, .int .i64 fk, .int .i64 fsec, .int .i64 fa, .int .i64 ft, .bool fl, .slice oao okeep.length ocap] TOp) := by rw [hW0]; exact heap_alloc_new W _
  have HXk : Hid (∀ W' F, Kp W0 W' F → (∀ i ∈ F, i ∈ H ∨ W0.heap.size ≤ i) → W'.heap[W.heap.size]? = some (.cells #[.int .i64 8, .int .i64 osec, .int .u8 ofill, .int .i64 omore, .int .i64 fk, .int .i64 fsec, .int .i64 fa, .int .i64 ft, .bool fl, .slice oao okeep.length ocap] TOp)) := fun W' F hk hs => by
    have hl := (Array.getElem?_eq_some_iff.1 hx0).1
    refine (hk.block _ hl (fun hm => ?_)).trans hx0
    rcases hs _ hm with h1 | h1
    · have := h.lt _ h1; omega
    · omega
  have HMv : Hid (∀ W' H', Mv W0 W' H H' → Mv W W' H H') := fun W' H' hm => ⟨(Kp.of_below hB0 _).trans hm.kp (fun i hi => .inl hi), fun i hi => (hm.sub i hi).imp id (fun h1 => Nat.le_trans hB0.size h1)⟩
  have HW0 : Hid (W0 = W.alloc (.cells #[.int .i64 8, .int .i64 osec, .int .u8 ofill, .int .i64 omore, .int .i64 fk, .int .i64 fsec, .int .i64 fa, .int .i64 ft, .bool fl, .slice oao okeep.length ocap] TOp)) := hW0
  have y1 : W0.cell? ⟨W.heap.size, 1, none⟩ = some (.int .i64 osec) := (cell_of hx0).trans rfl
  have HWf : Hid ((Lit.int .i64 osec).wf = true) := hwf
  clear h hx0 hB0 hW0 hwf
  go_enter Try.func63, Try.ntmps63
  go_wp2_with fail
  rw [← HW0.out]
  have HZ : Hid (∀ W' F, Kp W0 W' F → (∀ i ∈ F, i ∈ H ∨ W0.heap.size ≤ i) → W'.cell? ⟨W.heap.size, 1, none⟩ = some (.int .i64 osec)) := fun W' F hk hs => (cell_of (HXk.out W' F hk hs)).trans rfl
  have HPd : Hid (PP W0.drew b p S S N H) := HP0.out.later (below_drew W0)
  have HKd : Hid (Kp W0 W0.drew []) := Kp.of_below (below_drew W0) []
  have hwD := HPd.out.waitsD HWf.out
  go_region_held3 (fun w' => w'.cell? ⟨W.heap.size, 1, none⟩ = some (.int .i64 osec)) (first | exact y1 | exact HZ.out _ [] HKd.out (by simp) | exact HZ.out _ H HK1.out (fun i hi => .inl hi) | exact HZ.out _ H HK2.out (fun i hi => .inl hi) | go_keep) (first | (go_at_call 25; refine hwD.mono ?_; rintro r W1 ⟨rfl, hp1, hk1⟩; have HP1 : Hid (PP W1 b p S S N H) := hp1; have HK1 : Hid (Kp W0 W1 H) := (Kp.of_below (below_drew W0) _).trans hk1 (fun i hi => .inl hi); have hwR := HP1.out.waitsR (by omega) osec; clear hp1 hk1 hwD) | (go_at_call 78; refine hwR.mono ?_; rintro r W2 ⟨rfl, hb2⟩; have HP2 : Hid (PP W2 b p S S (N + 1) H) := (HP1.out.later hb2).more (by omega); have HK2 : Hid (Kp W0 W2 H) := HK1.out.trans (Kp.of_below hb2 []) (by simp); clear hb2 hwR))
  have HM2 : Hid (Mv W W2 H H) := HMv.out W2 H ⟨HK2.out, fun i hi => .inl hi⟩
  go_wp2
  go_ret
  exact ⟨by simp, _, H, HP2.out, HM2.out⟩
set_option maxHeartbeats 4000000 in
theorem asks_stats {W : World} {b p : Nat} {S : Dk} {N : Nat} {H : List Nat} (h : PP W b p S S N H) (hN : N < 1048576) (osec : Int) (ofill : Nat) (omore fk fsec fa ft : Int) (fl : Bool) (oao : Option Addr) (ocap : Nat) (okeep : List Bool) :
    Calls Try.prog 63 #[.pointer (some ⟨b, 0, none⟩), .pointer (some ⟨p, 0, none⟩), .agg #[.int .i64 10, .int .i64 osec, .int .u8 ofill, .int .i64 omore, .int .i64 fk, .int .i64 fsec, .int .i64 fa, .int .i64 ft, .bool fl, .slice oao okeep.length ocap]] W fun r W' => r = .returned (.bool true) ∧ ∃ S' H', PP W' b p S' S' (N + 1) H' ∧ Mv W W' H H' := by
  have hB0 : Below W.heap.size W (W.alloc (.cells #[.int .i64 10, .int .i64 osec, .int .u8 ofill, .int .i64 omore, .int .i64 fk, .int .i64 fsec, .int .i64 fa, .int .i64 ft, .bool fl, .slice oao okeep.length ocap] TOp)) := (Below.refl _ W).alloc (Nat.le_refl _) _
  obtain ⟨W0, hW0⟩ : ∃ W0, W0 = W.alloc (.cells #[.int .i64 10, .int .i64 osec, .int .u8 ofill, .int .i64 omore, .int .i64 fk, .int .i64 fsec, .int .i64 fa, .int .i64 ft, .bool fl, .slice oao okeep.length ocap] TOp) := ⟨_, rfl⟩
  rw [← hW0] at hB0
  have HP0 : Hid (PP W0 b p S S N H) := h.later hB0
  have hx0 : W0.heap[W.heap.size]? = some (.cells #[.int .i64 10, .int .i64 osec, .int .u8 ofill, .int .i64 omore, .int .i64 fk, .int .i64 fsec, .int .i64 fa, .int .i64 ft, .bool fl, .slice oao okeep.length ocap] TOp) := by rw [hW0]; exact heap_alloc_new W _
  have HXk : Hid (∀ W' F, Kp W0 W' F → (∀ i ∈ F, i ∈ H ∨ W0.heap.size ≤ i) → W'.heap[W.heap.size]? = some (.cells #[.int .i64 10, .int .i64 osec, .int .u8 ofill, .int .i64 omore, .int .i64 fk, .int .i64 fsec, .int .i64 fa, .int .i64 ft, .bool fl, .slice oao okeep.length ocap] TOp)) := fun W' F hk hs => by
    have hl := (Array.getElem?_eq_some_iff.1 hx0).1
    refine (hk.block _ hl (fun hm => ?_)).trans hx0
    rcases hs _ hm with h1 | h1
    · have := h.lt _ h1; omega
    · omega
  have HMv : Hid (∀ W' H', Mv W0 W' H H' → Mv W W' H H') := fun W' H' hm => ⟨(Kp.of_below hB0 _).trans hm.kp (fun i hi => .inl hi), fun i hi => (hm.sub i hi).imp id (fun h1 => Nat.le_trans hB0.size h1)⟩
  have HW0 : Hid (W0 = W.alloc (.cells #[.int .i64 10, .int .i64 osec, .int .u8 ofill, .int .i64 omore, .int .i64 fk, .int .i64 fsec, .int .i64 fa, .int .i64 ft, .bool fl, .slice oao okeep.length ocap] TOp)) := hW0
  clear h hx0 hB0 hW0
  go_enter Try.func63, Try.ntmps63
  go_wp2_with fail
  rw [← HW0.out]
  have HZ : Hid (∀ W', PP W' b p S S N H → W'.cell? ⟨p, 0, none⟩ = some (.int .i64 S.n) ∧ W'.cell? ⟨p, 5, none⟩ = some (.int .u64 S.st.reads) ∧ W'.cell? ⟨p, 6, none⟩ = some (.int .u64 S.st.writes) ∧ W'.cell? ⟨p, 7, none⟩ = some (.int .u64 S.st.bars) ∧ W'.cell? ⟨p, 8, none⟩ = some (.int .u64 S.st.failed) ∧ W'.cell? ⟨p, 9, none⟩ = some (.int .u64 S.st.crashes)) := fun W' hp => by
    obtain ⟨c0, c5⟩ := hp.cells
    refine ⟨?_, c5⟩
    rcases c0 0 with h1 | h1
    · exact h1
    · omega
  have HPd : Hid (PP W0.drew b p S S N H) := HP0.out.later (below_drew W0)
  have hsD := HPd.out.statsD
  go_region_held3 (fun w' => w'.cell? ⟨p, 0, none⟩ = some (.int .i64 S.n) ∧ w'.cell? ⟨p, 5, none⟩ = some (.int .u64 S.st.reads) ∧ w'.cell? ⟨p, 6, none⟩ = some (.int .u64 S.st.writes) ∧ w'.cell? ⟨p, 7, none⟩ = some (.int .u64 S.st.bars) ∧ w'.cell? ⟨p, 8, none⟩ = some (.int .u64 S.st.failed) ∧ w'.cell? ⟨p, 9, none⟩ = some (.int .u64 S.st.crashes)) (first | exact HZ.out _ HP0.out | exact HZ.out _ HPd.out | exact HZ.out _ HP1.out | exact HZ.out _ HP2.out | go_keep) (first | (go_at_call 18; refine hsD.mono ?_; rintro r W1 ⟨rfl, hp1, hk1⟩; have HP1 : Hid (PP W1 b p S S N H) := hp1; have HK1 : Hid (Kp W0 W1 H) := (Kp.of_below (below_drew W0) _).trans hk1 (fun i hi => .inl hi); have hsC := HP1.out.sectorsD; clear hp1 hk1 hsD) | (go_at_call 11; refine hsC.mono ?_; rintro r W2 ⟨rfl, hp2, hk2⟩; have HP2 : Hid (PP W2 b p S S N H) := hp2; have HK2 : Hid (Kp W0 W2 H) := HK1.out.trans hk2 (fun i hi => .inl hi); clear hp2 hk2 hsC))
  have HM2 : Hid (Mv W W2 H H) := HMv.out W2 H ⟨HK2.out, fun i hi => .inl hi⟩
  go_wp2
  go_ret
  exact ⟨by simp, _, H, HP2.out.more (by omega), HM2.out⟩
set_option maxHeartbeats 4000000 in
theorem asks_none {W : World} {b p : Nat} {S : Dk} {N : Nat} {H : List Nat} (h : PP W b p S S N H) (hN : N < 1048576) (okind osec : Int) (ofill : Nat) (omore fk fsec fa ft : Int) (fl : Bool) (oao : Option Addr) (ocap : Nat) (okeep : List Bool) (hk : okind < 6 ∨ 10 < okind) :
    Calls Try.prog 63 #[.pointer (some ⟨b, 0, none⟩), .pointer (some ⟨p, 0, none⟩), .agg #[.int .i64 okind, .int .i64 osec, .int .u8 ofill, .int .i64 omore, .int .i64 fk, .int .i64 fsec, .int .i64 fa, .int .i64 ft, .bool fl, .slice oao okeep.length ocap]] W fun r W' => r = .returned (.bool true) ∧ ∃ S' H', PP W' b p S' S' (N + 1) H' ∧ Mv W W' H H' := by
  have hB0 : Below W.heap.size W (W.alloc (.cells #[.int .i64 okind, .int .i64 osec, .int .u8 ofill, .int .i64 omore, .int .i64 fk, .int .i64 fsec, .int .i64 fa, .int .i64 ft, .bool fl, .slice oao okeep.length ocap] TOp)) := (Below.refl _ W).alloc (Nat.le_refl _) _
  obtain ⟨W0, hW0⟩ : ∃ W0, W0 = W.alloc (.cells #[.int .i64 okind, .int .i64 osec, .int .u8 ofill, .int .i64 omore, .int .i64 fk, .int .i64 fsec, .int .i64 fa, .int .i64 ft, .bool fl, .slice oao okeep.length ocap] TOp) := ⟨_, rfl⟩
  rw [← hW0] at hB0
  have HP0 : Hid (PP W0 b p S S N H) := h.later hB0
  have hx0 : W0.heap[W.heap.size]? = some (.cells #[.int .i64 okind, .int .i64 osec, .int .u8 ofill, .int .i64 omore, .int .i64 fk, .int .i64 fsec, .int .i64 fa, .int .i64 ft, .bool fl, .slice oao okeep.length ocap] TOp) := by rw [hW0]; exact heap_alloc_new W _
  have HXk : Hid (∀ W' F, Kp W0 W' F → (∀ i ∈ F, i ∈ H ∨ W0.heap.size ≤ i) → W'.heap[W.heap.size]? = some (.cells #[.int .i64 okind, .int .i64 osec, .int .u8 ofill, .int .i64 omore, .int .i64 fk, .int .i64 fsec, .int .i64 fa, .int .i64 ft, .bool fl, .slice oao okeep.length ocap] TOp)) := fun W' F hk hs => by
    have hl := (Array.getElem?_eq_some_iff.1 hx0).1
    refine (hk.block _ hl (fun hm => ?_)).trans hx0
    rcases hs _ hm with h1 | h1
    · have := h.lt _ h1; omega
    · omega
  have HMv : Hid (∀ W' H', Mv W0 W' H H' → Mv W W' H H') := fun W' H' hm => ⟨(Kp.of_below hB0 _).trans hm.kp (fun i hi => .inl hi), fun i hi => (hm.sub i hi).imp id (fun h1 => Nat.le_trans hB0.size h1)⟩
  have HW0 : Hid (W0 = W.alloc (.cells #[.int .i64 okind, .int .i64 osec, .int .u8 ofill, .int .i64 omore, .int .i64 fk, .int .i64 fsec, .int .i64 fa, .int .i64 ft, .bool fl, .slice oao okeep.length ocap] TOp)) := hW0
  have k6 : ¬ okind = 6 := by omega
  have k7 : ¬ okind = 7 := by omega
  have k8 : ¬ okind = 8 := by omega
  have k9 : ¬ okind = 9 := by omega
  have k10 : ¬ okind = 10 := by omega
  have HF : Hid (PP W0 b p S S (N + 1) H ∧ Mv W W0 H H) := ⟨HP0.out.more (by omega), HMv.out W0 H (Mv.refl _ _)⟩
  clear h hx0 hB0 hW0 hk
  go_enter Try.func63, Try.ntmps63
  go_wp2
  rw [← HW0.out]
  go_ret
  exact ⟨rfl, S, H, HF.out⟩
end Go.Proofs.Ythmonfmpgjbhmaa.K
