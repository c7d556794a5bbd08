import Derived.Test.YtlacligofhinmaaGreatV20
namespace Go.Proofs.YtlacligofhinmaaGreat.K
open Go.RowKit Go.Maps Go.Proofs.YtlacligofhinmaaGreat
attribute [local go_sem] Oper.semAt_some
set_option linter.unusedVariables false
set_option linter.unusedSimpArgs false
set_option maxRecDepth 100000

theorem rHas_any {w : World} {p : Nat} {dv qv av : Value} {D Q : List Pv} {S : Dk} (h : RR w p dv qv av D Q S) (s : Int) : Calls Tryz.prog 47 #[.pointer (some ⟨p, 0, none⟩), .int .i64 s] w fun r w' => r = .returned (.bool (inD S.n s)) ∧ w' = w := by
  have c2 : w.cell? ⟨p, 0, none⟩ = some (.int .i64 S.n) := h.c 0
  clear h
  unfold inD
  by_cases h1 : 0 ≤ s
  · by_cases h2 : s < S.n
    · rw [decide_eq_true ⟨h1, h2⟩]
      go_enter Tryz.func47, Tryz.ntmps47
      go_wp2
      go_ret
      exact ⟨rfl, rfl⟩
    · rw [decide_eq_false (fun h => h2 h.2)]
      go_enter Tryz.func47, Tryz.ntmps47
      go_wp2
      go_ret
      exact ⟨rfl, rfl⟩
  · rw [decide_eq_false (fun h => h1 h.1)]
    go_enter Tryz.func47, Tryz.ntmps47
    go_wp2
    go_ret
    exact ⟨rfl, rfl⟩
theorem run_zero512 (w : World) : (Instr.makeSlice 52 (.int .i64 512) (.int .i64 512)).run Tryz.prog w = .ok (.slice (some ⟨w.heap.size, 0, none⟩) 512 512) (w.alloc (.cells (Lc z512) 5)) := by
  have h := run_image w (n := 1) (by decide)
  have e : ((imgL 1 (fun _ => z512)).map bv).toArray = Lc z512 := by simp [imgL, Lc]
  rw [e] at h
  exact h
/-- a row of bytes is copied -/
theorem rbytes_row {w : World} {B : Nat} {v : Value} {l : Bl} (h : w.ownsRow B 5 1 v 512 (l.map bv)) (hl : OkB l) :
    Calls Tryz.prog 50 #[v] w fun e w' => ∃ v', e = .returned v' ∧ w'.ownsRow w.heap.size 5 1 v' 512 (l.map bv) ∧ Below w.heap.size w w' := by
  obtain ⟨ao, cap, rfl, hr⟩ := own_brow h hl.len hl.lt (by decide)
  cases ao with
  | none => have := (hr.nil rfl).1; rw [this] at hl; exact absurd hl.len (by decide)
  | some ad =>
    have := rbytes_some ad cap l w hr
    rw [hl.len] at this
    exact this
set_option maxHeartbeats 2000000 in
theorem rSafe_any {w : World} {p : Nat} {dv qv av : Value} {D Q : List Pv} {S : Dk} (h : RR w p dv qv av D Q S) (hl : D.length ≤ 1048576) {s : Nat} (hs : s < S.n) :
    Calls Tryz.prog 130 #[.pointer (some ⟨p, 0, none⟩), .int .i64 s] w fun r w' => ∃ v, r = .returned v ∧ w'.ownsRow w.heap.size 5 1 v 512 ((S.safe s).map bv) ∧ Below w.heap.size w w' := by
  have c1 : w.cell? ⟨p, 1, none⟩ = some (.slice none 0 0) := h.c 1
  have c2 : w.cell? ⟨p, 2, none⟩ = some dv := h.c 2
  have hla := rlast_any h.dr hl s
  have hsf := h.sf s hs
  rw [← lastV_bare] at hsf
  unfold lastR at hla
  cases hv : lastV s D with
  | some x =>
    rw [hv] at hla hsf
    simp only [Option.map_some, Option.getD_some] at hsf
    have hx := (lastV_mem hv).1
    have hok := (h.ok x (by simp [hx])).2
    have HD : Hid (w.ownsRow 0 5 1 x.2.1 512 (x.2.2.map bv)) := h.dat x (by simp [hx])
    have HO : Hid (OkB x.2.2) := hok
    rw [hsf]
    clear h hl hs hsf hv hok hx
    go_enter Tryz.func130, Tryz.ntmps130
    go_wp2_with fail
    refine hla.mono ?_
    clear hla
    rintro e w1 ⟨rfl, hb1⟩
    have HB : Hid (Below w.heap.size w w1) := hb1
    have hby := rbytes_row (ownsRow_block HD.out (fun g e => hb1.block g (row_lt HD.out g e).1)) HO.out
    clear hb1
    go_wp2_with fail
    refine hby.mono ?_
    clear hby
    rintro e w2 ⟨v, rfl, ho, hb⟩
    have H2 : Hid (w2.ownsRow w1.heap.size 5 1 v 512 (x.2.2.map bv) ∧ Below w1.heap.size w1 w2) := ⟨ho, hb⟩
    clear ho hb
    go_wp2
    go_ret
    exact ⟨v, rfl, owns_mono H2.out.1 HB.out.size, HB.out.trans (H2.out.2.mono HB.out.size)⟩
  | none =>
    rw [hv] at hla hsf
    simp only [Option.map_none, Option.getD_none] at hsf
    rw [hsf]
    have HC : Hid (∀ W, Below w.heap.size w W → W.cell? ⟨p, 1, none⟩ = some (.slice none 0 0)) := fun W hW => (h.later hW).c 1
    have hmk := run_zero512
    clear h hl hs hsf hv
    go_enter Tryz.func130, Tryz.ntmps130
    go_wp2_with fail
    refine hla.mono ?_
    clear hla
    rintro e w1 ⟨rfl, hb1⟩
    have HB : Hid (Below w.heap.size w w1) := hb1
    have c11 := HC.out w1 hb1
    clear hb1
    go_wp2
    go_ret
    refine ⟨_, rfl, ?_, HB.out.trans (((Below.refl _ w1).alloc (Nat.le_refl _) _).mono HB.out.size)⟩
    have := World.ownsRow_lit w1 (e := 5) (size := 1) (Lc z512) 512 (Nat.le_refl _) (by decide) (by rw [Lc_size okZ])
    exact owns_mono (by simpa [Lc] using this) HB.out.size
set_option maxHeartbeats 2000000 in
theorem rLook_any {w : World} {p : Nat} {dv qv av : Value} {D Q : List Pv} {S : Dk} (h : RR w p dv qv av D Q S) (hl : D.length ≤ 1048576) (hq : Q.length ≤ 1048576) {s : Nat} (hs : s < S.n) :
    Calls Tryz.prog 103 #[.pointer (some ⟨p, 0, none⟩), .int .i64 s] w fun r w' => ∃ v, r = .returned v ∧ w'.ownsRow w.heap.size 5 1 v 512 ((look S s).map bv) ∧ Below w.heap.size w w' := by
  have c3 : w.cell? ⟨p, 3, none⟩ = some qv := h.c 3
  have hla := rlast_any h.qr hq s
  have hlk : look S s = ((lastV s Q).map (fun x => x.2.2)).getD (S.safe s) := by unfold look; rw [← h.q, ← lastV_bare]
  unfold lastR at hla
  cases hv : lastV s Q with
  | some x =>
    rw [hv] at hla hlk
    simp only [Option.map_some, Option.getD_some] at hlk
    have hx := (lastV_mem hv).1
    have HD : Hid (w.ownsRow 0 5 1 x.2.1 512 (x.2.2.map bv)) := h.dat x (by simp [hx])
    have HO : Hid (OkB x.2.2) := (h.ok x (by simp [hx])).2
    rw [hlk]
    clear h hl hs hlk hv hx hq
    go_enter Tryz.func103, Tryz.ntmps103
    go_wp2_with fail
    refine hla.mono ?_
    clear hla
    rintro e w1 ⟨rfl, hb1⟩
    have HB : Hid (Below w.heap.size w w1) := hb1
    have hby := rbytes_row (ownsRow_block HD.out (fun g e => hb1.block g (row_lt HD.out g e).1)) HO.out
    clear hb1
    go_wp2_with fail
    refine hby.mono ?_
    clear hby
    rintro e w2 ⟨v, rfl, ho, hb⟩
    have H2 : Hid (w2.ownsRow w1.heap.size 5 1 v 512 (x.2.2.map bv) ∧ Below w1.heap.size w1 w2) := ⟨ho, hb⟩
    clear ho hb
    go_wp2
    go_ret
    exact ⟨v, rfl, owns_mono H2.out.1 HB.out.size, HB.out.trans (H2.out.2.mono HB.out.size)⟩
  | none =>
    rw [hv] at hla hlk
    simp only [Option.map_none, Option.getD_none] at hlk
    rw [hlk]
    have HC : Hid (∀ W, Below w.heap.size w W → RR W p dv qv av D Q S) := fun W hW => h.later hW
    have HL : Hid (D.length ≤ 1048576 ∧ s < S.n) := ⟨hl, hs⟩
    clear h hl hs hlk hv hq
    go_enter Tryz.func103, Tryz.ntmps103
    go_wp2_with fail
    refine hla.mono ?_
    clear hla
    rintro e w1 ⟨rfl, hb1⟩
    have HB : Hid (Below w.heap.size w w1) := hb1
    have hsa := rSafe_any (HC.out w1 hb1) HL.out.1 HL.out.2
    clear hb1
    go_wp2_with fail
    refine hsa.mono ?_
    clear hsa
    rintro e w2 ⟨v, rfl, ho, hb⟩
    have H2 : Hid (w2.ownsRow w1.heap.size 5 1 v 512 ((S.safe s).map bv) ∧ Below w1.heap.size w1 w2) := ⟨ho, hb⟩
    clear ho hb
    go_wp2
    go_ret
    exact ⟨v, rfl, owns_mono H2.out.1 HB.out.size, HB.out.trans (H2.out.2.mono HB.out.size)⟩
set_option maxHeartbeats 2000000 in
theorem rWaits_any {w : World} {p : Nat} {dv qv av : Value} {D Q : List Pv} {S : Dk} (h : RR w p dv qv av D Q S) (hq : Q.length ≤ 1048576) (s : Int) :
    Calls Tryz.prog 118 #[.pointer (some ⟨p, 0, none⟩), .int .i64 s] w fun r w' => r = .returned (.bool (waitsI S.q s)) ∧ Below w.heap.size w w' := by
  have c3 : w.cell? ⟨p, 3, none⟩ = some qv := h.c 3
  have hla := rlast_any h.qr hq s
  have hlk : waitsI S.q s = (lastV s Q).isSome := by
    unfold waitsI
    by_cases h0 : 0 ≤ s
    · obtain ⟨t, rfl⟩ : ∃ t : Nat, s = t := ⟨s.toNat, by omega⟩
      rw [if_pos h0, Int.toNat_natCast, ← h.q, ← lastV_bare, Option.isSome_map]
    · rw [if_neg h0, lastV_none (fun x _ => by omega)]; rfl
  rw [hlk]
  unfold lastR at hla
  clear h hq hlk
  cases hv : lastV s Q with
  | some x =>
    rw [hv] at hla
    clear hv
    go_enter Tryz.func118, Tryz.ntmps118
    go_wp2_with fail
    refine hla.mono ?_
    clear hla
    rintro e w1 ⟨rfl, hb1⟩
    go_wp2
    go_ret
    exact ⟨rfl, hb1⟩
  | none =>
    rw [hv] at hla
    clear hv
    go_enter Tryz.func118, Tryz.ntmps118
    go_wp2_with fail
    refine hla.mono ?_
    clear hla
    rintro e w1 ⟨rfl, hb1⟩
    go_wp2
    go_ret
    exact ⟨rfl, hb1⟩
end Go.Proofs.YtlacligofhinmaaGreat.K
