import Derived.Test.YthmonfmpgjbhmaazMU
import Derived.Test.YthmonfmpgjbhmaaG15
import Derived.Test.YthmonfmpgjbhmaazLP
namespace Go.Proofs.Ythmonfmpgjbhmaa.K
open Go.RowKit Go.Maps Go.Proofs.Ythmonfmpgjbhmaa
attribute [local go_sem] Oper.semAt_some
set_option linter.unusedVariables false
set_option linter.unusedSimpArgs false
set_option maxRecDepth 100000

theorem asks_any {W : World} {b p : Nat} {S : Dk} {N : Nat} {H : List Nat} (h : PP W b p S S N H) (hN : N < 1048576) (okind osec : Int) (ofill : Nat) (omore fk fsec fa ft : Int) (fl : Bool) (oao : Option Addr) (ocap : Nat) (okeep : List Bool) (hwf : (Lit.int .i64 osec).wf = true) :
    Calls Try.prog 63 #[.pointer (some ⟨b, 0, none⟩), .pointer (some ⟨p, 0, none⟩), .agg #[.int .i64 okind, .int .i64 osec, .int .u8 ofill, .int .i64 omore, .int .i64 fk, .int .i64 fsec, .int .i64 fa, .int .i64 ft, .bool fl, .slice oao okeep.length ocap]] W fun r W' => r = .returned (.bool true) ∧ ∃ S' H', PP W' b p S' S' (N + 1) H' ∧ Mv W W' H H' := by
  by_cases hk : okind < 6 ∨ 10 < okind
  · exact asks_none h hN okind osec ofill omore fk fsec fa ft fl oao ocap okeep hk
  · have : okind = 6 ∨ okind = 7 ∨ okind = 8 ∨ okind = 9 ∨ okind = 10 := by omega
    rcases this with rfl | rfl | rfl | rfl | rfl
    · exact asks_faults h hN osec ofill omore fk fsec fa ft fl oao ocap okeep
    · exact asks_queue h hN osec ofill omore fk fsec fa ft fl oao ocap okeep
    · exact asks_waits h hN osec ofill omore fk fsec fa ft fl oao ocap okeep hwf
    · exact asks_image h hN osec ofill omore fk fsec fa ft fl oao ocap okeep
    · exact asks_stats h hN osec ofill omore fk fsec fa ft fl oao ocap okeep
set_option maxHeartbeats 4000000 in
theorem acts_other {W : World} {b p : Nat} {S : Dk} {N : Nat} {H : List Nat} (h : PP W b p S S N H) (hN : N < 1048576) (okind osec : Int) (ofill : Nat) (omore fk fsec fa ft : Int) (fl : Bool) (oao : Option Addr) (ocap : Nat) (okeep : List Bool) (hwf : (Lit.int .i64 osec).wf = true) (hk : okind < 1 ∨ 5 < okind) :
    Calls Try.prog 43 #[.pointer (some ⟨b, 0, none⟩), .pointer (some ⟨p, 0, none⟩), .agg #[.int .i64 okind, .int .i64 osec, .int .u8 ofill, .int .i64 omore, .int .i64 fk, .int .i64 fsec, .int .i64 fa, .int .i64 ft, .bool fl, .slice oao okeep.length ocap]] W fun r W' => r = .returned (.bool true) ∧ ∃ S' H', PP W' b p S' S' (N + 1) H' ∧ Mv W W' H H' := by
  have hB0 : Below W.heap.size W (W.alloc (.cells #[.int .i64 okind, .int .i64 osec, .int .u8 ofill, .int .i64 omore, .int .i64 fk, .int .i64 fsec, .int .i64 fa, .int .i64 ft, .bool fl, .slice oao okeep.length ocap] TOp)) := (Below.refl _ W).alloc (Nat.le_refl _) _
  obtain ⟨W0, hW0⟩ : ∃ W0, W0 = W.alloc (.cells #[.int .i64 okind, .int .i64 osec, .int .u8 ofill, .int .i64 omore, .int .i64 fk, .int .i64 fsec, .int .i64 fa, .int .i64 ft, .bool fl, .slice oao okeep.length ocap] TOp) := ⟨_, rfl⟩
  rw [← hW0] at hB0
  have HP0 : Hid (PP W0 b p S S N H) := h.later hB0
  have HMv : Hid (∀ W' H', Mv W0 W' H H' → Mv W W' H H') := fun W' H' hm => ⟨(Kp.of_below hB0 _).trans hm.kp (fun i hi => .inl hi), fun i hi => (hm.sub i hi).imp id (fun h1 => Nat.le_trans hB0.size h1)⟩
  have HW0 : Hid (W0 = W.alloc (.cells #[.int .i64 okind, .int .i64 osec, .int .u8 ofill, .int .i64 omore, .int .i64 fk, .int .i64 fsec, .int .i64 fa, .int .i64 ft, .bool fl, .slice oao okeep.length ocap] TOp)) := hW0
  have HAs : Hid (Calls Try.prog 63 #[.pointer (some ⟨b, 0, none⟩), .pointer (some ⟨p, 0, none⟩), .agg #[.int .i64 okind, .int .i64 osec, .int .u8 ofill, .int .i64 omore, .int .i64 fk, .int .i64 fsec, .int .i64 fa, .int .i64 ft, .bool fl, .slice oao okeep.length ocap]] W0 fun r W' => r = .returned (.bool true) ∧ ∃ S' H', PP W' b p S' S' (N + 1) H' ∧ Mv W0 W' H H') := asks_any HP0.out hN okind osec ofill omore fk fsec fa ft fl oao ocap okeep hwf
  have n1 : ¬ okind = 1 := by omega
  have n2 : ¬ okind = 2 := by omega
  have n3 : ¬ okind = 3 := by omega
  have n4 : ¬ okind = 4 := by omega
  have n5 : ¬ okind = 5 := by omega
  clear h hB0 hW0 hwf hk
  go_enter Try.func43, Try.ntmps43
  go_wp2_with fail
  rw [← HW0.out]
  refine HAs.out.mono ?_
  rintro r W1 ⟨rfl, S', H', hp, hm⟩
  have HR : Hid (PP W1 b p S' S' (N + 1) H' ∧ Mv W W1 H H') := ⟨hp, HMv.out W1 H' hm⟩
  clear hp hm
  go_wp2
  go_ret
  exact ⟨rfl, _, _, HR.out⟩
theorem acts_any {W : World} {b p : Nat} {S : Dk} {N : Nat} {H : List Nat} (h : PP W b p S S N H) (hN : N < 1048576) (okind osec : Int) (ofill : Nat) (omore fk fsec fa ft : Int) (fl : Bool) (oao : Option Addr) (ocap : Nat) (okeep : List Bool) (hwf : (Lit.int .i64 osec).wf = true) (hfill : ofill < 256) (hfa : I64 fa) (hft : I64 ft) (hr : BoRow W oao ocap okeep) (hap : ∀ ad, oao = some ad → okeep ≠ [] → ad.block ∉ H) :
    Calls Try.prog 43 #[.pointer (some ⟨b, 0, none⟩), .pointer (some ⟨p, 0, none⟩), .agg #[.int .i64 okind, .int .i64 osec, .int .u8 ofill, .int .i64 omore, .int .i64 fk, .int .i64 fsec, .int .i64 fa, .int .i64 ft, .bool fl, .slice oao okeep.length ocap]] W fun r W' => r = .returned (.bool true) ∧ ∃ S' H', PP W' b p S' S' (N + 1) H' ∧ Mv W W' H H' := by
  by_cases hk : okind < 1 ∨ 5 < okind
  · exact acts_other h hN okind osec ofill omore fk fsec fa ft fl oao ocap okeep hwf hk
  · have : okind = 1 ∨ okind = 2 ∨ okind = 3 ∨ okind = 4 ∨ okind = 5 := by omega
    rcases this with rfl | rfl | rfl | rfl | rfl
    · exact acts_read h hN osec ofill omore fk fsec fa ft fl oao ocap okeep
    · exact acts_write h hN osec ofill omore fk fsec fa ft fl oao ocap okeep hfill
    · exact acts_bar h hN osec ofill omore fk fsec fa ft fl oao ocap okeep
    · exact acts_fault h hN osec ofill omore fk fsec fa ft fl oao ocap okeep hfa hft
    · exact acts_crash h hN osec ofill omore fk fsec fa ft fl oao ocap okeep hr hap
end Go.Proofs.Ythmonfmpgjbhmaa.K

namespace Go.Proofs.Ythmonfmpgjbhmaa.K
open Go.RowKit Go.Maps Go.Proofs.Ythmonfmpgjbhmaa
attribute [local go_sem] Oper.semAt_some
set_option linter.unusedVariables false
set_option linter.unusedSimpArgs false
set_option maxRecDepth 100000

theorem PP.new {w W : World} {b p n ms ml : Nat} (h0 : 1 ≤ n) (h1 : n ≤ 65536) (h : Hs w W b ms ml (.slice none 0 0) (.slice none 0 0) (newDk n)) (hr : RRf W p n (.slice none 0 0) 0) (hp : p ∉ fp b ms ml (.slice none 0 0) (.slice none 0 0)) :
    PP W b p (newDk n) (newDk n) 0 (fp b ms ml (.slice none 0 0) (.slice none 0 0) ++ fr p (.slice none 0 0) (.slice none 0 0) (.slice none 0 0) ([] ++ [])) := by
  refine ⟨⟨ms, ml, _, _, _, _, _, [], [], h.rk, ?_, Nat.le_refl _, fun i hi hm => ?_, rfl⟩, ⟨by simp [newDk], by simp [newDk]⟩, ⟨by simp [newDk], by simp [newDk]⟩⟩
  · exact ⟨hr, h0, h1, World.ownsRow_nil _ _ _ _, World.ownsRow_nil _ _ _ _, World.ownsRow_nil _ _ _ _, by simp, by simp, fun g e => by simp [Value.ownBlock] at e, rfl, fun s hs => rfl, fun _ => rfl⟩
  · rcases mem_fr.1 hm with rfl | hm | hm | hm | ⟨x, hx, _⟩
    · exact hp hi
    · simp [Value.ownBlock] at hm
    · simp [Value.ownBlock] at hm
    · simp [Value.ownBlock] at hm
    · simp at hx
/-- the old disk beside the pair that plays on -/
structure Cy (w W : World) (b b' p : Nat) (S : Dk) (N M : Nat) (H : List Nat) : Prop where
  pp : PP W b' p S S N H
  bl : Below w.heap.size w W
  own : ∀ i ∈ H, w.heap.size ≤ i
  old : ∃ ms ml qv fv S', RK W 0 b ms ml qv fv S' ∧ FsOk S'.fs ∧ S'.q.length ≤ M ∧ ∀ i ∈ fp b ms ml qv fv, i ∉ H ∧ w.heap.size ≤ i
theorem Cy.later {w W W' : World} {b b' p : Nat} {S : Dk} {N M : Nat} {H : List Nat} (h : Cy w W b b' p S N M H) (hb : Below W.heap.size W W') : Cy w W' b b' p S N M H := by
  obtain ⟨ms, ml, qv, fv, S', h1, h2⟩ := h.old
  exact ⟨h.pp.later hb, h.bl.trans (hb.mono h.bl.size), h.own, ms, ml, qv, fv, S', h1.later hb, h2⟩
theorem Cy.act {w W W' : World} {b b' p : Nat} {S S1 : Dk} {N M' : Nat} {H : List Nat} {ms ml ms' ml' : Nat} {qv fv qv' fv' : Value} (hpp : PP W b' p S S N H) (hbl : Below w.heap.size w W) (hown : ∀ i ∈ H, w.heap.size ≤ i) (hfp : ∀ i ∈ fp b ms ml qv fv, i ∉ H ∧ w.heap.size ≤ i) (ha : DAct W W' 0 b ms ml ms' ml' qv fv qv' fv' S1) (hf : FsOk S1.fs) (hq : S1.q.length ≤ M') : Cy w W' b b' p S N M' H := by
  refine ⟨hpp.kept ha.kp (fun i hi hm => (hfp i hm).1 hi), hbl.trans (ha.kp.below (fun i hi => (hfp i hi).2) hbl.size), hown, ms', ml', qv', fv', S1, ha.rk, hf, hq, fun i hi => ?_⟩
  rcases ha.sub i hi with h1 | h1
  · exact hfp i h1
  · exact ⟨fun hm => by have := hpp.lt i hm; omega, Nat.le_trans hbl.size h1⟩
theorem PP.copy {w W : World} {b p : Nat} {S : Dk} {N : Nat} {H : List Nat} (h : PP W b p S S N H) (hN : N ≤ 1048576) (hbl : Below w.heap.size w W) (hown : ∀ i ∈ H, w.heap.size ≤ i) :
    Calls Try.prog 40 #[.pointer (some ⟨b, 0, none⟩)] W fun r W' => ∃ b' H', r = .returned (.pointer (some ⟨b', 0, none⟩)) ∧ Cy w W' b b' p S N N H' := by
  have hql := h.qlen
  have hlt := h.lt
  obtain ⟨ms, ml, qv, fv, dv, rq, av, D, Q, hk, hr, hNN, hd, rfl⟩ := h.ex
  refine (copy_any hk h.fs (by omega)).mono ?_
  rintro r W' ⟨b', ms', ml', qv', fv', rfl, hk', hnew, ha⟩
  have hrr := hr.kept ha.kp (fun i hi hm => hd i hm hi)
  have hlr := hr.lt
  refine ⟨b', _, rfl, ⟨⟨ms', ml', qv', fv', dv, rq, av, D, Q, hk', hrr, hNN, fun i hi hm => ?_, rfl⟩, h.fs, h.ft⟩, hbl.trans (ha.kp.below (fun i hi => hown i (List.mem_append_left _ hi)) hbl.size), fun i hi => ?_, ms, ml, qv, fv, S, ha.rk, h.fs, hql, fun i hi => ⟨fun hm => ?_, hown i (List.mem_append_left _ hi)⟩⟩
  · have h1 := hnew i hi
    have h2 := hlr i hm
    omega
  · rcases List.mem_append.1 hi with hi | hi
    · exact Nat.le_trans hbl.size (hnew i hi)
    · exact hown i (List.mem_append_right _ hi)
  · rcases List.mem_append.1 hm with hm | hm
    · have h1 := hnew i hm
      have h2 := hk.lt i hi
      omega
    · exact hd i hi hm
section
variable {w W : World} {b b' p : Nat} {S : Dk} {N M : Nat} {H : List Nat}
theorem Cy.write {W3 : World} (h : Cy w W b b' p S N M H) (hb : Below W.heap.size W W3) (hM : M < 1048576) (s : Int) {l : List Nat} (hlt : ∀ x ∈ l, x < 256) {m : Nat} (hm : l.length = m) (hm0 : 0 < m) (hm1 : m ≤ 140737488351232) {v : Value} (hsrc : W3.ownsRow W.heap.size 5 1 v m (l.map bv)) : Calls Try.prog 23 #[.pointer (some ⟨b, 0, none⟩), .int .i64 s, v] W3 fun r W' => (∃ e : Int, r = .returned (.int .i64 e)) ∧ Cy w W' b b' p S N (M + 1) H := by
  have h' := h.later hb
  obtain ⟨ms, ml, qv, fv, S', h1, h2, h3, h4⟩ := h.old
  obtain ⟨g, c, cur, rfl, hg, hh, hc⟩ := own_form hsrc hm0
  refine (write_gen (h1.later hb) h2 (by omega) s hlt hm hm1 (sb := g) (so := 0) (cap := c) (fun j v hv => ?_) (fun hx => by have := h1.lt g hx; omega)).mono ?_
  · rw [List.getElem?_map] at hv
    cases hx : l[j]? with
    | none => rw [hx] at hv; cases hv
    | some x => rw [hx] at hv; cases hv; rw [Nat.zero_add]; exact (cell_of hh).trans (hc j x hx)
  · rintro r W' ⟨rfl, qv', fv1, ha⟩
    exact ⟨⟨_, rfl⟩, Cy.act h'.pp h'.bl h'.own h4 ha (wrS_ok h2 s l) (Nat.le_trans (wrS_q S' s l) (by omega))⟩
theorem Cy.bar (h : Cy w W b b' p S N M H) (hM : M ≤ 1048576) : Calls Try.prog 26 #[.pointer (some ⟨b, 0, none⟩)] W fun r W' => (∃ e : Int, r = .returned (.int .i64 e)) ∧ Cy w W' b b' p S N M H := by
  obtain ⟨ms, ml, qv, fv, S', h1, h2, h3, h4⟩ := h.old
  refine (barrier_gen h1 h2 (by omega)).mono ?_
  rintro r W' ⟨rfl, ml', qv', fv1, ha⟩
  refine ⟨⟨_, rfl⟩, Cy.act h.pp h.bl h.own h4 ha (baS_ok h2) ?_⟩
  unfold baS
  split
  · rw [failS_q]; exact h3
  · simp [barred, settled]
theorem Cy.fault (h : Cy w W b b' p S N M H) (f : Flt) (ha : I64 f.after) (ht : I64 f.times) : Calls Try.prog 41 #[.pointer (some ⟨b, 0, none⟩), .agg #[.int .i64 f.kind, .int .i64 f.sector, .int .i64 f.after, .int .i64 f.times, .bool f.land]] W fun r W' => (∃ e : Int, r = .returned (.int .i64 e)) ∧ Cy w W' b b' p S N M H := by
  obtain ⟨ms, ml, qv, fv, S', h1, h2, h3, h4⟩ := h.old
  refine (fault_gen h1 h2 f).mono ?_
  rintro r W' ⟨rfl, fv1, hx⟩
  exact ⟨⟨_, rfl⟩, Cy.act h.pp h.bl h.own h4 hx (faS_ok h2 ha ht) (by rw [faS_q]; exact h3)⟩
theorem Cy.crash (h : Cy w W b b' p S N M H) (hM : M ≤ 1048576) : Calls Try.prog 42 #[.pointer (some ⟨b, 0, none⟩), .slice none 0 0] W fun r W' => r = .returned (.tuple #[]) ∧ Cy w W' b b' p S N M H := by
  obtain ⟨ms, ml, qv, fv, S', h1, h2, h3, h4⟩ := h.old
  refine (crash_any h1 (by omega) (ao := none) (cap := 0) (n := 0) (l := []) ⟨by simp, fun _ => ⟨rfl, rfl⟩, fun h => absurd rfl h⟩ rfl (fun ad e => by cases e)).mono ?_
  rintro r W' ⟨rfl, ml', ha⟩
  exact ⟨rfl, Cy.act h.pp h.bl h.own h4 ha (crashed_ok [] S') (by simp [crashed, settled])⟩
end
end Go.Proofs.Ythmonfmpgjbhmaa.K
