import Derived.Test.YthmonfmpgjbhmaazMA
namespace Go.Proofs.Ythmonfmpgjbhmaa.K
open Go.RowKit Go.Maps Go.Proofs.Ythmonfmpgjbhmaa
attribute [local go_sem] Oper.semAt_some
set_option linter.unusedVariables false
set_option linter.unusedSimpArgs false
set_option maxRecDepth 100000

/-- the last write of a sector in a list -/
def lastV (s : Int) : List Pv → Option Pv
  | [] => none
  | x :: r => (lastV s r).or (if (x.1 : Int) = s then some x else none)
theorem lastV_mem {s : Int} {x : Pv} : ∀ {Q : List Pv}, lastV s Q = some x → x ∈ Q ∧ (x.1 : Int) = s
  | [], h => by cases h
  | y :: r, h => by
    unfold lastV at h
    cases hr : lastV s r with
    | some z => rw [hr] at h; simp at h; subst h; obtain ⟨h1, h2⟩ := lastV_mem hr; exact ⟨List.mem_cons_of_mem _ h1, h2⟩
    | none =>
      rw [hr] at h
      simp at h
      obtain ⟨h1, rfl⟩ := h
      exact ⟨by simp, h1⟩
theorem lastV_none {s : Int} : ∀ {Q : List Pv}, (∀ x ∈ Q, (x.1 : Int) ≠ s) → lastV s Q = none
  | [], _ => rfl
  | y :: r, h => by
    unfold lastV
    rw [lastV_none (fun x hx => h x (List.mem_cons_of_mem _ hx)), if_neg (h y (by simp))]
    rfl
theorem lastV_cons (s : Int) (x : Pv) (r : List Pv) : lastV s (x :: r) = (lastV s r).or (if (x.1 : Int) = s then some x else none) := rfl
theorem lastV_bare (s : Nat) : ∀ (Q : List Pv), (lastV s Q).map (fun x => x.2.2) = lastQ s (Q.map bare)
  | [] => rfl
  | y :: r => by
    rw [List.map_cons, lastQ_cons, ← lastV_bare s r, lastV_cons]
    have e2 : (bare y).1 = y.1 ∧ (bare y).2 = y.2.2 := ⟨rfl, rfl⟩
    rw [e2.1, e2.2]
    cases lastV s r with
    | some z => rfl
    | none =>
      by_cases e : y.1 = s
      · rw [if_pos (by omega), if_pos e]; rfl
      · rw [if_neg (by omega), if_neg e]; rfl
theorem lastV_at {s : Int} {x : Pv} : ∀ {Q : List Pv} {i : Nat}, Q[i]? = some x → (x.1 : Int) = s → (∀ (j : Nat) y, i < j → Q[j]? = some y → (y.1 : Int) ≠ s) → lastV s Q = some x
  | [], i, h, _, _ => by simp at h
  | y :: r, 0, h, hs, hn => by
    simp at h; subst h
    unfold lastV
    rw [lastV_none (fun z hz => by obtain ⟨j, hj⟩ := List.getElem?_of_mem hz; exact hn (j + 1) z (by omega) (by simpa using hj)), if_pos hs]
    rfl
  | y :: r, i + 1, h, hs, hn => by
    unfold lastV
    rw [lastV_at (i := i) (by simpa using h) hs (fun j z hj hz => hn (j + 1) z (by omega) (by simpa using hz))]
    rfl
theorem qcells_get : ∀ {Q : List Pv} {i : Nat} {x : Pv}, Q[i]? = some x → (qcells Q)[i * 2]? = some (.int .i64 x.1) ∧ (qcells Q)[i * 2 + 1]? = some x.2.1
  | [], i, x, h => by simp at h
  | y :: r, 0, x, h => by simp at h; subst h; exact ⟨rfl, rfl⟩
  | y :: r, i + 1, x, h => by
    have ih := qcells_get (Q := r) (i := i) (by simpa using h)
    have e : qcells (y :: r) = [.int .i64 y.1, y.2.1] ++ qcells r := by simp [qcells, qcell]
    rw [e, List.getElem?_append_right (by simp; omega), List.getElem?_append_right (by simp; omega)]
    rw [show (i + 1) * 2 - ([.int .i64 y.1, y.2.1] : List Value).length = i * 2 by simp; omega, show (i + 1) * 2 + 1 - ([.int .i64 y.1, y.2.1] : List Value).length = i * 2 + 1 by simp; omega]
    exact ih
theorem qrow_at {w : World} {B g n cap : Nat} {Q : List Pv} (h : w.ownsRow B TPt 2 (.slice (some ⟨g, 0, none⟩) n cap) n (qcells Q)) {i : Nat} {x : Pv} (hi : Q[i]? = some x) (hn : Q.length = n) : w.cell? ⟨g, i * 2, none⟩ = some (.int .i64 x.1) ∧ w.cell? ⟨g, i * 2 + 1, none⟩ = some x.2.1 := by
  have hlt := (List.getElem?_eq_some_iff.1 hi).1
  obtain ⟨h1, h2⟩ := qcells_get hi
  exact ⟨(h.cellAt _ (by omega)).trans h1, (h.cellAt _ (by omega)).trans h2⟩
def lastR (s : Int) (Q : List Pv) : Ending := match lastV s Q with
  | some x => .returned (.tuple #[x.2.1, .bool true])
  | none => .returned (.tuple #[.slice none 0 0, .bool false])
set_option maxHeartbeats 2000000 in
theorem rlast_any {w : World} {B : Nat} {v : Value} {Q : List Pv} (h : w.ownsRow B TPt 2 v Q.length (qcells Q)) (hl : Q.length ≤ 1048576) (s : Int) :
    Calls Try.prog 50 #[v, .int .i64 s] w fun r w' => r = lastR s Q ∧ Below w.heap.size w w' := by
  rcases h.2 with ⟨rfl, h0⟩ | ⟨g, cap, cur, rfl, _⟩
  · have : Q = [] := List.length_eq_zero_iff.1 h0
    subst this
    refine (rlast_none w s).mono ?_
    rintro r w' ⟨rfl, rfl⟩
    exact ⟨rfl, Below.refl _ _⟩
  · obtain ⟨n, hn⟩ : ∃ n, n = Q.length := ⟨_, rfl⟩
    have HN : Hid (Q.length = n) := hn.symm
    rw [← hn] at h hl ⊢
    have HR : Hid (w.ownsRow B TPt 2 (.slice (some ⟨g, 0, none⟩) n cap) n (qcells Q)) := h
    clear h hn
    go_enter Try.func50, Try.ntmps50
    go_wp2
    go_loopw [6] (fun c wr => ∃ k : Nat, k ≤ n ∧ c = .int .i64 ((k : Int) - 1) ∧ Hid (∀ (j : Nat) y, k ≤ j → Q[j]? = some y → (y.1 : Int) ≠ s) ∧ Hid (Below w.heap.size w wr)) (fun c _ => (intOf c + 1).toNat)
    case atStart => exact ⟨n, Nat.le_refl _, rfl, (fun j y hj hy => by have := (List.getElem?_eq_some_iff.1 hy).1; have := HN.out; omega), Below.refl _ _⟩
    case round =>
      obtain ⟨k, hk, rfl, HA, HB⟩ := hrel
      by_cases hk0 : k = 0
      · subst hk0
        have HV : Hid (lastV s Q = none) := lastV_none (fun x hx => by obtain ⟨j, hj⟩ := List.getElem?_of_mem hx; exact HA.out j x (Nat.zero_le _) hj)
        go_wp2
        refine bodyPost_ret (results_tmp2 rfl _ _ _) rfl ⟨?_, HB.out⟩
        unfold lastR
        rw [HV.out]
        rfl
      · obtain ⟨i, rfl⟩ : ∃ i, k = i + 1 := ⟨k - 1, by omega⟩
        obtain ⟨x, hx⟩ : ∃ x, Q[i]? = some x := ⟨_, List.getElem?_eq_getElem (by have := HN.out; omega)⟩
        obtain ⟨q0, q1⟩ := qrow_at (ownsRow_block HR.out (fun g e => HB.out.block g (row_lt HR.out g e).1)) hx HN.out
        have HX : Hid (Q[i]? = some x) := hx
        have ei : ((i + 1 : Nat) : Int) - 1 = (i : Int) := by omega
        rw [ei]
        clear hx ei
        by_cases he : (x.1 : Int) = s
        · have HV : Hid (lastV s Q = some x) := lastV_at HX.out he (fun j y hj hy => HA.out j y hj hy)
          subst he
          go_wp2
          refine bodyPost_ret (results_tmp2 rfl _ _ _) rfl ⟨?_, HB.out⟩
          unfold lastR
          rw [HV.out]
          rfl
        · have HA2 : Hid (∀ (j : Nat) y, i ≤ j → Q[j]? = some y → (y.1 : Int) ≠ s) := fun j y hj hy => by
            by_cases e : j = i
            · subst e; rw [HX.out] at hy; cases hy; exact he
            · exact HA.out j y (by omega) hy
          have he' : ((x.1 : Int) == s) = false := by simpa using he
          go_wp2
          go_roundw
          case rel => exact ⟨i, by omega, rfl, HA2, HB⟩
          case measure => simp [intOf]
end Go.Proofs.Ythmonfmpgjbhmaa.K

namespace Go.Proofs.Ythmonfmpgjbhmaa.K
open Go.RowKit Go.Maps Go.Proofs.Ythmonfmpgjbhmaa
attribute [local go_sem] Oper.semAt_some
set_option linter.unusedVariables false
set_option linter.unusedSimpArgs false
set_option maxRecDepth 100000

theorem rHas_any {w : World} {p : Nat} {dv qv av : Value} {D Q : List Pv} {S : Dk} (h : RR w p dv qv av D Q S) (s : Int) : Calls Try.prog 37 #[.pointer (some ⟨p, 0, none⟩), .int .i64 s] w fun r w' => r = .returned (.bool (inD S.n s)) ∧ w' = w := by
  have c2 : w.cell? ⟨p, 0, none⟩ = some (.int .i64 S.n) := h.c 0
  clear h
  unfold inD
  by_cases h1 : 0 ≤ s
  · by_cases h2 : s < S.n
    · rw [decide_eq_true ⟨h1, h2⟩]
      go_enter Try.func37, Try.ntmps37
      go_wp2
      go_ret
      exact ⟨rfl, rfl⟩
    · rw [decide_eq_false (fun h => h2 h.2)]
      go_enter Try.func37, Try.ntmps37
      go_wp2
      go_ret
      exact ⟨rfl, rfl⟩
  · rw [decide_eq_false (fun h => h1 h.1)]
    go_enter Try.func37, Try.ntmps37
    go_wp2
    go_ret
    exact ⟨rfl, rfl⟩
theorem run_zero512 (w : World) : (Instr.makeSlice 22 (.int .i64 512) (.int .i64 512)).run Try.prog w = .ok (.slice (some ⟨w.heap.size, 0, none⟩) 512 512) (w.alloc (.cells (Lc z512) 5)) := by
  have h := run_image w (n := 1) (by decide)
  have e : ((imgL 1 (fun _ => z512)).map bv).toArray = Lc z512 := by simp [imgL, Lc]
  rw [e] at h
  exact h
/-- a row of bytes is copied -/
theorem rbytes_row {w : World} {B : Nat} {v : Value} {l : Bl} (h : w.ownsRow B 5 1 v 512 (l.map bv)) (hl : OkB l) :
    Calls Try.prog 32 #[v] w fun e w' => ∃ v', e = .returned v' ∧ w'.ownsRow w.heap.size 5 1 v' 512 (l.map bv) ∧ Below w.heap.size w w' := by
  obtain ⟨ao, cap, rfl, hr⟩ := own_brow h hl.len hl.lt (by decide)
  cases ao with
  | none => have := (hr.nil rfl).1; rw [this] at hl; exact absurd hl.len (by decide)
  | some ad =>
    have := rbytes_some ad cap l w hr
    rw [hl.len] at this
    exact this
set_option maxHeartbeats 2000000 in
theorem rSafe_any {w : World} {p : Nat} {dv qv av : Value} {D Q : List Pv} {S : Dk} (h : RR w p dv qv av D Q S) (hl : D.length ≤ 1048576) {s : Nat} (hs : s < S.n) :
    Calls Try.prog 51 #[.pointer (some ⟨p, 0, none⟩), .int .i64 s] w fun r w' => ∃ v, r = .returned v ∧ w'.ownsRow w.heap.size 5 1 v 512 ((S.safe s).map bv) ∧ Below w.heap.size w w' := by
  have c1 : w.cell? ⟨p, 1, none⟩ = some (.slice none 0 0) := h.c 1
  have c2 : w.cell? ⟨p, 2, none⟩ = some dv := h.c 2
  have hla := rlast_any h.dr hl s
  have hsf := h.sf s hs
  rw [← lastV_bare] at hsf
  unfold lastR at hla
  cases hv : lastV s D with
  | some x =>
    rw [hv] at hla hsf
    simp only [Option.map_some, Option.getD_some] at hsf
    have hx := (lastV_mem hv).1
    have hok := (h.ok x (by simp [hx])).2
    have HD : Hid (w.ownsRow 0 5 1 x.2.1 512 (x.2.2.map bv)) := h.dat x (by simp [hx])
    have HO : Hid (OkB x.2.2) := hok
    rw [hsf]
    clear h hl hs hsf hv hok hx
    go_enter Try.func51, Try.ntmps51
    go_wp2_with fail
    refine hla.mono ?_
    clear hla
    rintro e w1 ⟨rfl, hb1⟩
    have HB : Hid (Below w.heap.size w w1) := hb1
    have hby := rbytes_row (ownsRow_block HD.out (fun g e => hb1.block g (row_lt HD.out g e).1)) HO.out
    clear hb1
    go_wp2_with fail
    refine hby.mono ?_
    clear hby
    rintro e w2 ⟨v, rfl, ho, hb⟩
    have H2 : Hid (w2.ownsRow w1.heap.size 5 1 v 512 (x.2.2.map bv) ∧ Below w1.heap.size w1 w2) := ⟨ho, hb⟩
    clear ho hb
    go_wp2
    go_ret
    exact ⟨v, rfl, owns_mono H2.out.1 HB.out.size, HB.out.trans (H2.out.2.mono HB.out.size)⟩
  | none =>
    rw [hv] at hla hsf
    simp only [Option.map_none, Option.getD_none] at hsf
    rw [hsf]
    have HC : Hid (∀ W, Below w.heap.size w W → W.cell? ⟨p, 1, none⟩ = some (.slice none 0 0)) := fun W hW => (h.later hW).c 1
    have hmk := run_zero512
    clear h hl hs hsf hv
    go_enter Try.func51, Try.ntmps51
    go_wp2_with fail
    refine hla.mono ?_
    clear hla
    rintro e w1 ⟨rfl, hb1⟩
    have HB : Hid (Below w.heap.size w w1) := hb1
    have c11 := HC.out w1 hb1
    clear hb1
    go_wp2
    go_ret
    refine ⟨_, rfl, ?_, HB.out.trans (((Below.refl _ w1).alloc (Nat.le_refl _) _).mono HB.out.size)⟩
    have := World.ownsRow_lit w1 (e := 5) (size := 1) (Lc z512) 512 (Nat.le_refl _) (by decide) (by rw [Lc_size okZ])
    exact owns_mono (by simpa [Lc] using this) HB.out.size
set_option maxHeartbeats 2000000 in
theorem rLook_any {w : World} {p : Nat} {dv qv av : Value} {D Q : List Pv} {S : Dk} (h : RR w p dv qv av D Q S) (hl : D.length ≤ 1048576) (hq : Q.length ≤ 1048576) {s : Nat} (hs : s < S.n) :
    Calls Try.prog 39 #[.pointer (some ⟨p, 0, none⟩), .int .i64 s] w fun r w' => ∃ v, r = .returned v ∧ w'.ownsRow w.heap.size 5 1 v 512 ((look S s).map bv) ∧ Below w.heap.size w w' := by
  have c3 : w.cell? ⟨p, 3, none⟩ = some qv := h.c 3
  have hla := rlast_any h.qr hq s
  have hlk : look S s = ((lastV s Q).map (fun x => x.2.2)).getD (S.safe s) := by unfold look; rw [← h.q, ← lastV_bare]
  unfold lastR at hla
  cases hv : lastV s Q with
  | some x =>
    rw [hv] at hla hlk
    simp only [Option.map_some, Option.getD_some] at hlk
    have hx := (lastV_mem hv).1
    have HD : Hid (w.ownsRow 0 5 1 x.2.1 512 (x.2.2.map bv)) := h.dat x (by simp [hx])
    have HO : Hid (OkB x.2.2) := (h.ok x (by simp [hx])).2
    rw [hlk]
    clear h hl hs hlk hv hx hq
    go_enter Try.func39, Try.ntmps39
    go_wp2_with fail
    refine hla.mono ?_
    clear hla
    rintro e w1 ⟨rfl, hb1⟩
    have HB : Hid (Below w.heap.size w w1) := hb1
    have hby := rbytes_row (ownsRow_block HD.out (fun g e => hb1.block g (row_lt HD.out g e).1)) HO.out
    clear hb1
    go_wp2_with fail
    refine hby.mono ?_
    clear hby
    rintro e w2 ⟨v, rfl, ho, hb⟩
    have H2 : Hid (w2.ownsRow w1.heap.size 5 1 v 512 (x.2.2.map bv) ∧ Below w1.heap.size w1 w2) := ⟨ho, hb⟩
    clear ho hb
    go_wp2
    go_ret
    exact ⟨v, rfl, owns_mono H2.out.1 HB.out.size, HB.out.trans (H2.out.2.mono HB.out.size)⟩
  | none =>
    rw [hv] at hla hlk
    simp only [Option.map_none, Option.getD_none] at hlk
    rw [hlk]
    have HC : Hid (∀ W, Below w.heap.size w W → RR W p dv qv av D Q S) := fun W hW => h.later hW
    have HL : Hid (D.length ≤ 1048576 ∧ s < S.n) := ⟨hl, hs⟩
    clear h hl hs hlk hv hq
    go_enter Try.func39, Try.ntmps39
    go_wp2_with fail
    refine hla.mono ?_
    clear hla
    rintro e w1 ⟨rfl, hb1⟩
    have HB : Hid (Below w.heap.size w w1) := hb1
    have hsa := rSafe_any (HC.out w1 hb1) HL.out.1 HL.out.2
    clear hb1
    go_wp2_with fail
    refine hsa.mono ?_
    clear hsa
    rintro e w2 ⟨v, rfl, ho, hb⟩
    have H2 : Hid (w2.ownsRow w1.heap.size 5 1 v 512 ((S.safe s).map bv) ∧ Below w1.heap.size w1 w2) := ⟨ho, hb⟩
    clear ho hb
    go_wp2
    go_ret
    exact ⟨v, rfl, owns_mono H2.out.1 HB.out.size, HB.out.trans (H2.out.2.mono HB.out.size)⟩
set_option maxHeartbeats 2000000 in
theorem rWaits_any {w : World} {p : Nat} {dv qv av : Value} {D Q : List Pv} {S : Dk} (h : RR w p dv qv av D Q S) (hq : Q.length ≤ 1048576) (s : Int) :
    Calls Try.prog 78 #[.pointer (some ⟨p, 0, none⟩), .int .i64 s] w fun r w' => r = .returned (.bool (waitsI S.q s)) ∧ Below w.heap.size w w' := by
  have c3 : w.cell? ⟨p, 3, none⟩ = some qv := h.c 3
  have hla := rlast_any h.qr hq s
  have hlk : waitsI S.q s = (lastV s Q).isSome := by
    unfold waitsI
    by_cases h0 : 0 ≤ s
    · obtain ⟨t, rfl⟩ : ∃ t : Nat, s = t := ⟨s.toNat, by omega⟩
      rw [if_pos h0, Int.toNat_natCast, ← h.q, ← lastV_bare, Option.isSome_map]
    · rw [if_neg h0, lastV_none (fun x _ => by omega)]; rfl
  rw [hlk]
  unfold lastR at hla
  clear h hq hlk
  cases hv : lastV s Q with
  | some x =>
    rw [hv] at hla
    clear hv
    go_enter Try.func78, Try.ntmps78
    go_wp2_with fail
    refine hla.mono ?_
    clear hla
    rintro e w1 ⟨rfl, hb1⟩
    go_wp2
    go_ret
    exact ⟨rfl, hb1⟩
  | none =>
    rw [hv] at hla
    clear hv
    go_enter Try.func78, Try.ntmps78
    go_wp2_with fail
    refine hla.mono ?_
    clear hla
    rintro e w1 ⟨rfl, hb1⟩
    go_wp2
    go_ret
    exact ⟨rfl, hb1⟩
end Go.Proofs.Ythmonfmpgjbhmaa.K
