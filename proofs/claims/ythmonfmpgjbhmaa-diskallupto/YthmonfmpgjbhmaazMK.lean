import Derived.Test.YthmonfmpgjbhmaazMJ
namespace Go.Proofs.Ythmonfmpgjbhmaa.K
open Go.RowKit Go.Maps Go.Proofs.Ythmonfmpgjbhmaa
attribute [local go_sem] Oper.semAt_some
set_option linter.unusedVariables false
set_option linter.unusedSimpArgs false
set_option maxRecDepth 100000

/-- a disk and the document's, apart; H: their blocks -/
structure PP (W : World) (b p : Nat) (S T : Dk) (N : Nat) (H : List Nat) : Prop where
  ex : ∃ ms ml qv fv dv rq av D Q, RK W 0 b ms ml qv fv S ∧ RR W p dv rq av D Q T ∧ D.length + Q.length ≤ N ∧ (∀ i ∈ fp b ms ml qv fv, i ∉ fr p dv rq av (D ++ Q)) ∧ H = fp b ms ml qv fv ++ fr p dv rq av (D ++ Q)
  fs : FsOk S.fs
  ft : FsOk T.fs
/-- what a step keeps -/
structure Mv (W W' : World) (H H' : List Nat) : Prop where
  kp : Kp W W' H
  sub : ∀ i ∈ H', i ∈ H ∨ W.heap.size ≤ i
theorem Mv.refl (W : World) (H : List Nat) : Mv W W H H := ⟨Kp.refl _ _, fun _ h => .inl h⟩
theorem Mv.trans {A B C : World} {H H' H'' : List Nat} (h : Mv A B H H') (h' : Mv B C H' H'') : Mv A C H H'' :=
  ⟨h.kp.trans h'.kp h.sub, fun i hi => (h'.sub i hi).elim (h.sub i) (fun h1 => .inr (Nat.le_trans h.kp.size h1))⟩
theorem Mv.later {A B C : World} {H H' : List Nat} (h : Mv A B H H') (hb : Below B.heap.size B C) : Mv A C H H' :=
  ⟨h.kp.trans (Kp.of_below hb []) (by simp), h.sub⟩
theorem Mv.below {A B : World} {H : List Nat} (h : Mv A B H H) : True := trivial
section
variable {W W' : World} {b p : Nat} {S T : Dk} {N : Nat} {H : List Nat}
theorem PP.later (h : PP W b p S T N H) (hb : Below W.heap.size W W') : PP W' b p S T N H := by
  obtain ⟨ms, ml, qv, fv, dv, rq, av, D, Q, hk, hr, hN, hd, e⟩ := h.ex
  exact ⟨⟨ms, ml, qv, fv, dv, rq, av, D, Q, hk.later hb, hr.later hb, hN, hd, e⟩, h.fs, h.ft⟩
theorem PP.lt (h : PP W b p S T N H) : ∀ i ∈ H, i < W.heap.size := by
  obtain ⟨ms, ml, qv, fv, dv, rq, av, D, Q, hk, hr, hN, hd, rfl⟩ := h.ex
  intro i hi
  rcases List.mem_append.1 hi with hi | hi
  · exact hk.lt i hi
  · exact hr.lt i hi
theorem PP.kept {F : List Nat} (h : PP W b p S T N H) (hk : Kp W W' F) (hd : ∀ i ∈ H, i ∉ F) : PP W' b p S T N H := by
  obtain ⟨ms, ml, qv, fv, dv, rq, av, D, Q, hk0, hr, hN, hdd, rfl⟩ := h.ex
  exact ⟨⟨ms, ml, qv, fv, dv, rq, av, D, Q, hk0.kept hk (fun i hi => hd i (List.mem_append_left _ hi)), hr.kept hk (fun i hi => hd i (List.mem_append_right _ hi)), hN, hdd, rfl⟩, h.fs, h.ft⟩
theorem PP.more {N' : Nat} (h : PP W b p S T N H) (hN : N ≤ N') : PP W b p S T N' H := by
  obtain ⟨ms, ml, qv, fv, dv, rq, av, D, Q, hk, hr, hn, hd, e⟩ := h.ex
  exact ⟨⟨ms, ml, qv, fv, dv, rq, av, D, Q, hk, hr, Nat.le_trans hn hN, hd, e⟩, h.fs, h.ft⟩
/-- the disk has moved -/
theorem actD {ms ml ms' ml' : Nat} {qv fv qv' fv' dv rq av : Value} {D Q : List Pv} {S' : Dk} (hr : RR W p dv rq av D Q T) (hN : D.length + Q.length ≤ N) (hd : ∀ i ∈ fp b ms ml qv fv, i ∉ fr p dv rq av (D ++ Q)) (ha : DAct W W' 0 b ms ml ms' ml' qv fv qv' fv' S') (hf : FsOk S'.fs) (ht : FsOk T.fs) : PP W' b p S' T N (fp b ms' ml' qv' fv' ++ fr p dv rq av (D ++ Q)) ∧ Mv W W' (fp b ms ml qv fv ++ fr p dv rq av (D ++ Q)) (fp b ms' ml' qv' fv' ++ fr p dv rq av (D ++ Q)) := by
  have hrl := hr.lt
  refine ⟨⟨⟨ms', ml', qv', fv', dv, rq, av, D, Q, ha.rk, hr.kept ha.kp (fun i hi hm => hd i hm hi), hN, fun i hi hm => ?_, rfl⟩, hf, ht⟩, ⟨ha.kp.sub (fun i hi => .inl (List.mem_append_left _ hi)), fun i hi => ?_⟩⟩
  · rcases ha.sub i hi with h1 | h1
    · exact hd i h1 hm
    · have := hrl i hm; omega
  · rcases List.mem_append.1 hi with hi | hi
    · exact (ha.sub i hi).imp (List.mem_append_left _) id
    · exact .inl (List.mem_append_right _ hi)
/-- the document's disk has moved -/
theorem actR {ms ml N' : Nat} {qv fv dv rq av dv' rq' av' : Value} {D Q D' Q' : List Pv} {T' : Dk} (hk : RK W 0 b ms ml qv fv S) (hN : D'.length + Q'.length ≤ N') (hd : ∀ i ∈ fp b ms ml qv fv, i ∉ fr p dv rq av (D ++ Q)) (ha : RAct W W' p dv rq av D Q dv' rq' av' D' Q' T') (hf : FsOk S.fs) (ht : FsOk T'.fs) : ∃ H', PP W' b p S T' N' H' ∧ Mv W W' (fp b ms ml qv fv ++ fr p dv rq av (D ++ Q)) H' := by
  have hkl := hk.lt
  refine ⟨_, ⟨⟨ms, ml, qv, fv, dv', rq', av', D', Q', hk.kept ha.kp hd, ha.rk, hN, fun i hi hm => ?_, rfl⟩, hf, ht⟩, ⟨ha.kp.sub (fun i hi => .inl (List.mem_append_right _ hi)), fun i hi => ?_⟩⟩
  · rcases ha.sub i hm with h1 | h1
    · exact hd i hi h1
    · have := hkl i hi; omega
  · rcases List.mem_append.1 hi with hi | hi
    · exact .inl (List.mem_append_left _ hi)
    · exact (ha.sub i hi).imp (List.mem_append_right _) id
theorem act0 {ms ml : Nat} {qv fv dv rq av : Value} {D Q : List Pv} (hr : RR W p dv rq av D Q T) (hN : D.length + Q.length ≤ N) (hd : ∀ i ∈ fp b ms ml qv fv, i ∉ fr p dv rq av (D ++ Q)) (ha : DAct W W' 0 b ms ml ms ml qv fv qv fv S) (hf : FsOk S.fs) (ht : FsOk T.fs) : PP W' b p S T N (fp b ms ml qv fv ++ fr p dv rq av (D ++ Q)) ∧ Kp W W' (fp b ms ml qv fv ++ fr p dv rq av (D ++ Q)) := by
  obtain ⟨h1, h2⟩ := actD (N := N) hr hN hd ha hf ht
  exact ⟨h1, h2.kp⟩
/-- a row of bytes is none of the disk's blocks -/
theorem RK.notbyte {ms ml : Nat} {lk : Int} {qv fv : Value} {g : Nat} {cs : Array Value} (h : RK W lk b ms ml qv fv S) (hg : W.heap[g]? = some (.cells cs 5 (0, 0))) : g ∉ fp b ms ml qv fv := by
  obtain ⟨D, ⟨es, ck, hm, _⟩, _⟩ := h.sm
  obtain ⟨D', ⟨es', ck', hm', _⟩, _⟩ := h.lm
  intro hmem
  simp only [fp, List.mem_cons, List.mem_append, Option.mem_toList] at hmem
  rcases hmem with rfl | rfl | rfl | hi | hi
  · rw [h.blk] at hg; simp at hg; exact absurd hg.2 (by decide)
  · rw [hm] at hg; cases hg
  · rw [hm'] at hg; cases hg
  · obtain ⟨_, cs', h1⟩ := row_lt h.qr g hi; rw [h1] at hg; simp at hg; exact absurd hg.2 (by decide)
  · obtain ⟨_, cs', h1⟩ := row_lt h.fr g hi; rw [h1] at hg; simp at hg; exact absurd hg.2 (by decide)
theorem new_out {ms ml n : Nat} {lk : Int} {qv fv dv rq av v : Value} {D Q : List Pv} {S' : Dk} {xs : List Value} (hk : RK W' lk b ms ml qv fv S') (hr : RR W p dv rq av D Q T) (ho : W'.ownsRow W.heap.size 5 1 v n xs) : ∀ g, v.ownBlock = some g → g ∉ fp b ms ml qv fv ++ fr p dv rq av (D ++ Q) := fun g e hm => by
  obtain ⟨_, cs, hc⟩ := row_lt ho g e
  rcases List.mem_append.1 hm with hm | hm
  · exact hk.notbyte hc hm
  · have := hr.lt g hm
    have := (ho.lt g e).1
    omega
/-- the disk's calls -/
theorem PP.readD (h : PP W b p S T N H) (s : Int) : Calls Try.prog 14 #[.pointer (some ⟨b, 0, none⟩), .int .i64 s] W fun r W' => ∃ v, r = .returned (.tuple #[v, .int .i64 (rdE S s)]) ∧ W'.ownsRow W.heap.size 5 1 v (rdL S s).length ((rdL S s).map bv) ∧ ∃ H', (PP W' b p (rdS S s) T N H' ∧ Mv W W' H H') ∧ ∀ g, v.ownBlock = some g → g ∉ H' := by
  obtain ⟨ms, ml, qv, fv, dv, rq, av, D, Q, hk, hr, hN, hd, rfl⟩ := h.ex
  refine (read_gen hk h.fs s).mono ?_
  rintro r W' ⟨v, fv1, rfl, ho, ha⟩
  exact ⟨v, rfl, ho, _, actD hr hN hd ha (rdS_ok h.fs s) h.ft, new_out ha.rk hr ho⟩
theorem PP.readR (h : PP W b p S T N H) (hN1 : N ≤ 1048576) (s : Int) : Calls Try.prog 15 #[.pointer (some ⟨p, 0, none⟩), .int .i64 s] W fun r W' => ∃ v, r = .returned (.tuple #[v, .int .i64 (rdE T s)]) ∧ W'.ownsRow W.heap.size 5 1 v (rdL T s).length ((rdL T s).map bv) ∧ ∃ H', PP W' b p S (rdS T s) N H' ∧ Mv W W' H H' := by
  obtain ⟨ms, ml, qv, fv, dv, rq, av, D, Q, hk, hr, hN, hd, rfl⟩ := h.ex
  refine (rRead_any hr h.ft (by omega) (by omega) s).mono ?_
  rintro r W' ⟨v, av', rfl, ho, ha⟩
  exact ⟨v, rfl, ho, actR hk hN hd ha h.fs (rdS_ok h.ft s)⟩
theorem PP.qlen (h : PP W b p S T N H) : T.q.length ≤ N := by
  obtain ⟨ms, ml, qv, fv, dv, rq, av, D, Q, hk, hr, hN, hd, rfl⟩ := h.ex
  rw [← hr.q, List.length_map]
  omega
theorem PP.writeD (h : PP W b p S T N H) (hq : S.q.length < 1048576) (s : Int) {l : List Nat} (hlt : ∀ x ∈ l, x < 256) {m : Nat} (hm : l.length = m) (hm1 : m ≤ 140737488351232) {sb so cap : Nat} (hsrc : ∀ j v, (l.map bv)[j]? = some v → W.cell? ⟨sb, so + j, none⟩ = some v) (hsb : sb ∉ H) : Calls Try.prog 23 #[.pointer (some ⟨b, 0, none⟩), .int .i64 s, .slice (some ⟨sb, so, none⟩) m cap] W fun r W' => r = .returned (.int .i64 (wrE S s l)) ∧ ∃ H', PP W' b p (wrS S s l) T N H' ∧ Mv W W' H H' := by
  obtain ⟨ms, ml, qv, fv, dv, rq, av, D, Q, hk, hr, hN, hd, rfl⟩ := h.ex
  refine (write_gen hk h.fs hq s hlt hm hm1 hsrc (fun hx => hsb (List.mem_append_left _ hx))).mono ?_
  rintro r W' ⟨rfl, qv', fv1, ha⟩
  exact ⟨rfl, _, actD hr hN hd ha (wrS_ok h.fs s l) h.ft⟩
theorem PP.writeR (h : PP W b p S T N H) (hN1 : N < 1048576) (s : Int) {l : List Nat} {m : Nat} (hm : l.length = m) {ad : Addr} {cap : Nat} (hb : BRow W (some ad) cap l) (hap : ad.block ∉ H) : Calls Try.prog 58 #[.pointer (some ⟨p, 0, none⟩), .int .i64 s, .slice (some ad) m cap] W fun r W' => r = .returned (.int .i64 (wrE T s l)) ∧ ∃ H', PP W' b p S (wrS T s l) (N + 1) H' ∧ Mv W W' H H' := by
  obtain ⟨ms, ml, qv, fv, dv, rq, av, D, Q, hk, hr, hN, hd, rfl⟩ := h.ex
  refine (rWrite_any hr h.ft (by omega) s hm hb (fun hx => hap (List.mem_append_right _ hx))).mono ?_
  rintro r W' ⟨rfl, qv', av', Q', ha⟩
  refine ⟨rfl, actR hk ?_ hd ha h.fs (wrS_ok h.ft s l)⟩
  have h1 := wrS_q T s l
  rw [← ha.rk.q, ← hr.q, List.length_map, List.length_map] at h1
  omega
theorem PP.barD (h : PP W b p S T N H) (hq : S.q.length ≤ 1048576) : Calls Try.prog 26 #[.pointer (some ⟨b, 0, none⟩)] W fun r W' => r = .returned (.int .i64 (baE S)) ∧ ∃ H', PP W' b p (baS S) T N H' ∧ Mv W W' H H' := by
  obtain ⟨ms, ml, qv, fv, dv, rq, av, D, Q, hk, hr, hN, hd, rfl⟩ := h.ex
  refine (barrier_gen hk h.fs hq).mono ?_
  rintro r W' ⟨rfl, ml', qv', fv1, ha⟩
  exact ⟨rfl, _, actD hr hN hd ha (baS_ok h.fs) h.ft⟩
theorem PP.barR (h : PP W b p S T N H) (hN1 : N ≤ 1048576) : Calls Try.prog 59 #[.pointer (some ⟨p, 0, none⟩)] W fun r W' => r = .returned (.int .i64 (baE T)) ∧ ∃ H', PP W' b p S (baS T) N H' ∧ Mv W W' H H' := by
  obtain ⟨ms, ml, qv, fv, dv, rq, av, D, Q, hk, hr, hN, hd, rfl⟩ := h.ex
  refine (rBarrier_any hr h.ft (by omega)).mono ?_
  rintro r W' ⟨rfl, dv', qv', av', D', Q', ha, he⟩
  exact ⟨rfl, actR hk (by omega) hd ha h.fs (baS_ok h.ft)⟩
theorem PP.faultD (h : PP W b p S T N H) (f : Flt) (ha : I64 f.after) (ht : I64 f.times) : Calls Try.prog 41 #[.pointer (some ⟨b, 0, none⟩), .agg #[.int .i64 f.kind, .int .i64 f.sector, .int .i64 f.after, .int .i64 f.times, .bool f.land]] W fun r W' => r = .returned (.int .i64 (faE S f)) ∧ ∃ H', PP W' b p (faS S f) T N H' ∧ Mv W W' H H' := by
  obtain ⟨ms, ml, qv, fv, dv, rq, av, D, Q, hk, hr, hN, hd, rfl⟩ := h.ex
  refine (fault_gen hk h.fs f).mono ?_
  rintro r W' ⟨rfl, fv1, hx⟩
  exact ⟨rfl, _, actD hr hN hd hx (faS_ok h.fs ha ht) h.ft⟩
theorem PP.faultR (h : PP W b p S T N H) (f : Flt) (ha : I64 f.after) (ht : I64 f.times) : Calls Try.prog 60 #[.pointer (some ⟨p, 0, none⟩), .agg #[.int .i64 f.kind, .int .i64 f.sector, .int .i64 f.after, .int .i64 f.times, .bool f.land]] W fun r W' => r = .returned (.int .i64 (faE T f)) ∧ ∃ H', PP W' b p S (faS T f) N H' ∧ Mv W W' H H' := by
  obtain ⟨ms, ml, qv, fv, dv, rq, av, D, Q, hk, hr, hN, hd, rfl⟩ := h.ex
  refine (rFault_any hr h.ft f).mono ?_
  rintro r W' ⟨rfl, av', hx⟩
  exact ⟨rfl, actR hk hN hd hx h.fs (faS_ok h.ft ha ht)⟩
theorem crashed_ok (l : List Bool) (S : Dk) : FsOk (crashed l S).fs := ⟨by simp [crashed], by simp [crashed]⟩
theorem PP.crashD (h : PP W b p S T N H) (hq : S.q.length ≤ 1048576) {ao : Option Addr} {cap n : Nat} {l : List Bool} (hr : BoRow W ao cap l) (hn : l.length = n) (hap : ∀ ad, ao = some ad → l ≠ [] → ad.block ∉ H) : Calls Try.prog 42 #[.pointer (some ⟨b, 0, none⟩), .slice ao n cap] W fun r W' => r = .returned (.tuple #[]) ∧ ∃ H', PP W' b p (crashed l S) T N H' ∧ Mv W W' H H' := by
  obtain ⟨ms, ml, qv, fv, dv, rq, av, D, Q, hk, hrr, hN, hd, rfl⟩ := h.ex
  refine (crash_any hk hq hr hn (fun ad e hne hx => hap ad e hne (List.mem_append_left _ hx))).mono ?_
  rintro r W' ⟨rfl, ml', ha⟩
  exact ⟨rfl, _, actD hrr hN hd ha (crashed_ok l S) h.ft⟩
theorem PP.crashR (h : PP W b p S T N H) (hN1 : N ≤ 1048576) {ao : Option Addr} {cap n : Nat} {l : List Bool} (hr : BoRow W ao cap l) (hn : l.length = n) (hap : ∀ ad, ao = some ad → l ≠ [] → ad.block ∉ H) : Calls Try.prog 61 #[.pointer (some ⟨p, 0, none⟩), .slice ao n cap] W fun r W' => r = .returned (.tuple #[]) ∧ ∃ H', PP W' b p S (crashed l T) N H' ∧ Mv W W' H H' := by
  obtain ⟨ms, ml, qv, fv, dv, rq, av, D, Q, hk, hrr, hN, hd, rfl⟩ := h.ex
  refine (rCrash_any hrr (by omega) hr hn (fun ad e hne hx => hap ad e hne (List.mem_append_right _ hx))).mono ?_
  rintro r W' ⟨rfl, dv', D', ha, he⟩
  exact ⟨rfl, actR hk (by simp; omega) hd ha h.fs (crashed_ok l T)⟩
theorem PP.faultsD (h : PP W b p S T N H) : Calls Try.prog 73 #[.pointer (some ⟨b, 0, none⟩)] W fun r W' => ∃ v, r = .returned v ∧ W'.ownsRow W.heap.size TFa 5 v S.fs.length (fcells S.fs) ∧ PP W' b p S T N H ∧ Kp W W' H := by
  obtain ⟨ms, ml, qv, fv, dv, rq, av, D, Q, hk, hr, hN, hd, rfl⟩ := h.ex
  refine (faults_any hk h.fs).mono ?_
  rintro r W' ⟨v, rfl, ho, ha⟩
  exact ⟨v, rfl, ho, act0 hr hN hd ha h.fs h.ft⟩
theorem PP.faultsR (h : PP W b p S T N H) : Calls Try.prog 75 #[.pointer (some ⟨p, 0, none⟩)] W fun r W' => ∃ v, r = .returned v ∧ W'.ownsRow W.heap.size TFa 5 v T.fs.length (fcells T.fs) ∧ Below W.heap.size W W' := by
  obtain ⟨ms, ml, qv, fv, dv, rq, av, D, Q, hk, hr, hN, hd, rfl⟩ := h.ex
  exact rFaults_any hr h.ft
theorem PP.queueD (h : PP W b p S T N H) (hq : S.q.length ≤ 1048576) : Calls Try.prog 19 #[.pointer (some ⟨b, 0, none⟩)] W fun r W' => ∃ v ps, r = .returned v ∧ Told W' W.heap.size v ps ∧ ps.map bare = S.q ∧ PP W' b p S T N H ∧ Kp W W' H := by
  obtain ⟨ms, ml, qv, fv, dv, rq, av, D, Q, hk, hr, hN, hd, rfl⟩ := h.ex
  refine (queue_any hk hq).mono ?_
  rintro r W' ⟨v, ps, rfl, ht, he, ha⟩
  exact ⟨v, ps, rfl, ht, he, act0 hr hN hd ha h.fs h.ft⟩
theorem PP.waitsD (h : PP W b p S T N H) {s : Int} (hwf : (Lit.int .i64 s).wf = true) : Calls Try.prog 25 #[.pointer (some ⟨b, 0, none⟩), .int .i64 s] W fun r W' => r = .returned (.bool (waitsI S.q s)) ∧ PP W' b p S T N H ∧ Kp W W' H := by
  obtain ⟨ms, ml, qv, fv, dv, rq, av, D, Q, hk, hr, hN, hd, rfl⟩ := h.ex
  refine (waits_gen hk hwf).mono ?_
  rintro r W' ⟨rfl, ha⟩
  exact ⟨rfl, act0 hr hN hd ha h.fs h.ft⟩
theorem PP.waitsR (h : PP W b p S T N H) (hN1 : N ≤ 1048576) (s : Int) : Calls Try.prog 78 #[.pointer (some ⟨p, 0, none⟩), .int .i64 s] W fun r W' => r = .returned (.bool (waitsI T.q s)) ∧ Below W.heap.size W W' := by
  obtain ⟨ms, ml, qv, fv, dv, rq, av, D, Q, hk, hr, hN, hd, rfl⟩ := h.ex
  exact rWaits_any hr (by omega) s
theorem PP.imageD (h : PP W b p S T N H) : Calls Try.prog 17 #[.pointer (some ⟨b, 0, none⟩)] W fun r W' => ∃ v, r = .returned v ∧ W'.ownsRow W.heap.size 5 1 v (S.n * 512) ((imgL S.n S.safe).map bv) ∧ PP W' b p S T N H ∧ Kp W W' H := by
  obtain ⟨ms, ml, qv, fv, dv, rq, av, D, Q, hk, hr, hN, hd, rfl⟩ := h.ex
  refine (image_any hk).mono ?_
  rintro r W' ⟨v, rfl, ho, ha⟩
  exact ⟨v, rfl, ho, act0 hr hN hd ha h.fs h.ft⟩
theorem PP.imageR (h : PP W b p S T N H) (hN1 : N ≤ 1048576) : Calls Try.prog 79 #[.pointer (some ⟨p, 0, none⟩)] W fun r W' => ∃ v, r = .returned v ∧ W'.ownsRow W.heap.size 5 1 v (T.n * 512) ((imgL T.n T.safe).map bv) ∧ Below W.heap.size W W' := by
  obtain ⟨ms, ml, qv, fv, dv, rq, av, D, Q, hk, hr, hN, hd, rfl⟩ := h.ex
  exact rImage_any hr (by omega)
theorem PP.statsD (h : PP W b p S T N H) : Calls Try.prog 18 #[.pointer (some ⟨b, 0, none⟩)] W fun r W' => r = .returned (.agg #[.int .u64 S.st.reads, .int .u64 S.st.writes, .int .u64 S.st.bars, .int .u64 S.st.failed, .int .u64 S.st.crashes]) ∧ PP W' b p S T N H ∧ Kp W W' H := by
  obtain ⟨ms, ml, qv, fv, dv, rq, av, D, Q, hk, hr, hN, hd, rfl⟩ := h.ex
  refine (stats_any hk).mono ?_
  rintro r W' ⟨rfl, ha⟩
  exact ⟨rfl, act0 hr hN hd ha h.fs h.ft⟩
theorem PP.sectorsD (h : PP W b p S T N H) : Calls Try.prog 11 #[.pointer (some ⟨b, 0, none⟩)] W fun r W' => r = .returned (.int .i64 S.n) ∧ PP W' b p S T N H ∧ Kp W W' H := by
  obtain ⟨ms, ml, qv, fv, dv, rq, av, D, Q, hk, hr, hN, hd, rfl⟩ := h.ex
  refine (sectors_any hk).mono ?_
  rintro r W' ⟨rfl, ha⟩
  exact ⟨rfl, act0 hr hN hd ha h.fs h.ft⟩
theorem PP.cells (h : PP W b p S T N H) : (∀ j, W.cell? ⟨p, j, none⟩ = (#[.int .i64 T.n, .slice none 0 0] : Array Value)[j]? ∨ 2 ≤ j) ∧ W.cell? ⟨p, 5, none⟩ = some (.int .u64 T.st.reads) ∧ W.cell? ⟨p, 6, none⟩ = some (.int .u64 T.st.writes) ∧ W.cell? ⟨p, 7, none⟩ = some (.int .u64 T.st.bars) ∧ W.cell? ⟨p, 8, none⟩ = some (.int .u64 T.st.failed) ∧ W.cell? ⟨p, 9, none⟩ = some (.int .u64 T.st.crashes) := by
  obtain ⟨ms, ml, qv, fv, dv, rq, av, D, Q, hk, hr, hN, hd, rfl⟩ := h.ex
  refine ⟨fun j => ?_, hr.c 5, hr.c 6, hr.c 7, hr.c 8, hr.c 9⟩
  match j with
  | 0 => exact .inl (hr.c 0)
  | 1 => exact .inl (hr.c 1)
  | j + 2 => exact .inr (by omega)
end
end Go.Proofs.Ythmonfmpgjbhmaa.K
