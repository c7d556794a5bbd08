import Derived.Test.YtijimcjmpeakpaaGreatzLOc
import Derived.Test.YtijimcjmpeakpaaGreatG18
import Derived.Test.YtijimcjmpeakpaaGreatzLHb
import Derived.Test.YtijimcjmpeakpaaGreatG20
import Derived.Test.YtijimcjmpeakpaaGreatzLM
namespace Go.Proofs.YtijimcjmpeakpaaGreat.K
open Go.RowKit Go.Maps Go.Proofs.YtijimcjmpeakpaaGreat Go.MuLone
attribute [local go_sem] Oper.semAt_some
set_option linter.unusedVariables false
set_option linter.unusedSimpArgs false
set_option maxRecDepth 100000

def waitsI (q : List Pu) (s : Int) : Bool := if 0 ≤ s then (lastQ s.toNat q).isSome else false
/-- the last write's place -/
theorem waits_gen {w : World} {b ms ml : Nat} {qv fv : Value} {S : Dk} (h : RK w 0 b ms ml qv fv S) {s : Int} (hwf : (Lit.int .i64 s).wf = true) :
    Calls Tryz.prog 65 #[.pointer (some ⟨b, 0, none⟩), .int .i64 s] w fun r w' => r = .returned (.bool (waitsI S.q s)) ∧ DAct w w' 0 b ms ml ms ml qv fv qv fv S := by
  have hus := usable_any h
  have c0 : w.cell? ⟨b, 0, none⟩ = some (.int .i32 0) := h.c 0
  have z0 := h.fz 0
  have a1 := (DAct.refl h).put 0 (.int .i32 1) 1 S.st rfl
  have HA1 : Hid (DAct w (w.setCell ⟨b, 0, none⟩ (.int .i32 1)) 1 b ms ml ms ml qv fv qv fv S) := a1
  have c5 : (w.setCell ⟨b, 0, none⟩ (.int .i32 1)).cell? ⟨b, 5, none⟩ = some (.map (some ml)) := a1.rk.c 5
  have hk : keyOf Tryz.prog TIn (.int .i64 s) = some (kl s) := keyOf_int_mk Tryz.underlying3 hwf
  obtain ⟨Dl, hml, hlo⟩ := a1.rk.lm
  obtain ⟨v, ps, hlk, hv⟩ := hml.look_ok keyed Tryz.underlying58 (Tryz.zeroValue3 _) (plainElem_int Tryz.underlying3 (a := 0) (by decide)) hk
  obtain ⟨c, rfl, hc, hwc⟩ := plainElem_int_inv Tryz.underlying3 hv
  have hh : Maps.has Dl (kl s) = waitsI S.q s := by
    unfold waitsI
    by_cases h0 : 0 ≤ s
    · rw [if_pos h0]
      obtain ⟨t, rfl⟩ : ∃ t : Nat, s = t := ⟨s.toNat, by omega⟩
      rw [Int.toNat_natCast]
      cases hl : lastQ t S.q with
      | none => exact hlo.no t (lastQ_none hl)
      | some l => obtain ⟨i, _, hla⟩ := lastQ_some hl; exact (hlo.yes t i hla).2
    · rw [if_neg h0]
      cases hx : Maps.has Dl (kl s) with
      | false => rfl
      | true =>
        obtain ⟨t, _, e⟩ := hlo.rng _ hx
        simp at e
        omega
  rw [hh] at hlk
  generalize waitsI S.q s = yes at *
  clear a1 h hk hml hlo hv hc hwc hh hwf
  go_enter_defers Tryz.func65, Tryz.ntmps65
  go_wp2_with (first | (go_at_call 60; refine hus.mono ?_; rintro e w9 ⟨rfl, hw9⟩; rw [hw9]; clear hw9 hus) | (go_at_call 61; refine (lock_free Tryz.muLib ⟨b, 0, none⟩ _ c0 z0).mono ?_; rintro e w9 ⟨rfl, hw9⟩; rw [hw9]; clear hw9))
  refine leaves_cons (f := 62) (args := #[.pointer (some ⟨b, 0, none⟩)]) (by simp) (by simp [go_sem]) ?_
  refine (unlock_deferred Tryz.muLib ⟨b, 0, none⟩ .returning _ (HA1.out.rk.c 0) (HA1.out.rk.fz 0)).mono ?_
  rintro e u' w'' ⟨rfl, rfl, rfl⟩
  exact ⟨_, results_tmp rfl _ _ _, rfl, HA1.out.put 0 (.int .i32 0) 0 S.st rfl⟩
/-- is there such a sector? -/
def inD (n : Nat) (s : Int) : Bool := decide (0 ≤ s ∧ s < n)
/-- Read: the error, the bytes, the disk -/
def rdE (S : Dk) (s : Int) : Int := if inD S.n s = true then (if hitF S.fs 1 s = true then 33 else 0) else 31
def rdL (S : Dk) (s : Int) : Bl := if inD S.n s = true then (if hitF S.fs 1 s = true then [] else look S s.toNat) else []
def rdS (S : Dk) (s : Int) : Dk := if inD S.n s = true then (if hitF S.fs 1 s = true then failS S 1 s else readS (failS S 1 s)) else S
theorem read_gen {w : World} {b ms ml : Nat} {qv fv : Value} {S : Dk} (h : RK w 0 b ms ml qv fv S) (hf : FsOk S.fs) (s : Int) :
    Calls Tryz.prog 48 #[.pointer (some ⟨b, 0, none⟩), .int .i64 s] w fun r w' => ∃ v fv1, r = .returned (.tuple #[v, .int .i64 (rdE S s)]) ∧ w'.ownsRow w.heap.size 5 1 v (rdL S s).length ((rdL S s).map bv) ∧ DAct w w' 0 b ms ml ms ml qv fv qv fv1 (rdS S s) := by
  unfold rdE rdL rdS
  by_cases hr : 0 ≤ s ∧ s < S.n
  · have hi : inD S.n s = true := decide_eq_true hr
    rw [if_pos hi, if_pos hi, if_pos hi]
    obtain ⟨t, rfl⟩ : ∃ t : Nat, s = t := ⟨s.toNat, by omega⟩
    have ht : t < S.n := by omega
    by_cases hh : hitF S.fs 1 t = true
    · rw [if_pos hh, if_pos hh, if_pos hh]
      refine (read_hit h hf ht hh).mono ?_
      rintro r w' ⟨fv1, rfl, ha⟩
      exact ⟨_, fv1, rfl, World.ownsRow_nil _ _ _ _, ha⟩
    · rw [if_neg hh, if_neg hh, if_neg hh]
      refine (read_hitless h hf ht (by simpa using hh)).mono ?_
      rintro r w' ⟨v, fv1, rfl, ho, ha⟩
      refine ⟨v, fv1, rfl, ?_, ha⟩
      rw [Int.toNat_natCast, (look_ok h ht).len]
      exact ho
  · have hi : ¬ inD S.n s = true := by unfold inD; simpa using hr
    rw [if_neg hi, if_neg hi, if_neg hi]
    refine (read_out h hr).mono ?_
    rintro r w' ⟨rfl, ha⟩
    exact ⟨_, fv, rfl, World.ownsRow_nil _ _ _ _, ha⟩
/-- Write -/
def wrE (S : Dk) (s : Int) (l : List Nat) : Int := if inD S.n s = true then (if l.length = 512 then (if hitF S.fs 2 s = true then 33 else 0) else 32) else 31
def wrS (S : Dk) (s : Int) (l : List Nat) : Dk := if inD S.n s = true then (if l.length = 512 then (if hitF S.fs 2 s = true then (if landF S.fs 2 s = true then pushS (failS S 2 s) s.toNat l else failS S 2 s) else wrote (failS S 2 s) s.toNat l) else S) else S
theorem write_gen {w : World} {b ms ml : Nat} {qv fv : Value} {S : Dk} (h : RK w 0 b ms ml qv fv S) (hf : FsOk S.fs) (hql : S.q.length < 1048576) (s : Int) {l : List Nat} (hlt : ∀ x ∈ l, x < 256) {m : Nat} (hm : l.length = m) (hm1 : m ≤ 140737488351232) {sb so cap : Nat} (hsrc : ∀ j v, (l.map bv)[j]? = some v → w.cell? ⟨sb, so + j, none⟩ = some v) (hsb : sb ∉ fp b ms ml qv fv) :
    Calls Tryz.prog 87 #[.pointer (some ⟨b, 0, none⟩), .int .i64 s, .slice (some ⟨sb, so, none⟩) m cap] w fun r w' => r = .returned (.int .i64 (wrE S s l)) ∧ ∃ qv' fv1, DAct w w' 0 b ms ml ms ml qv fv qv' fv1 (wrS S s l) := by
  unfold wrE wrS
  by_cases hr : 0 ≤ s ∧ s < S.n
  · have hi : inD S.n s = true := decide_eq_true hr
    rw [if_pos hi, if_pos hi]
    obtain ⟨t, rfl⟩ : ∃ t : Nat, s = t := ⟨s.toNat, by omega⟩
    have ht : t < S.n := by omega
    by_cases hl : l.length = 512
    · rw [if_pos hl, if_pos hl]
      have hok : OkB l := ⟨hl, hlt⟩
      obtain rfl : m = 512 := by omega
      rw [Int.toNat_natCast]
      by_cases hh : hitF S.fs 2 t = true
      · rw [if_pos hh, if_pos hh]
        by_cases hd : landF S.fs 2 t = true
        · rw [if_pos hd]
          refine (write_land h hf ht hh hd hok hql hsrc hsb).mono ?_
          rintro r w' ⟨qv', fv1, rfl, ha⟩
          exact ⟨rfl, qv', fv1, ha⟩
        · rw [if_neg hd]
          refine (write_lost h hf ht hh (by simpa using hd) _ _).mono ?_
          rintro r w' ⟨fv1, rfl, ha⟩
          exact ⟨rfl, qv, fv1, ha⟩
      · rw [if_neg hh, if_neg hh]
        refine (write_hitless h hf ht (by simpa using hh) hok hql hsrc hsb).mono ?_
        rintro r w' ⟨qv', fv1, rfl, ha⟩
        exact ⟨rfl, qv', fv1, ha⟩
    · rw [if_neg hl, if_neg hl]
      refine (write_len h ht (by omega) hm1 _ _).mono ?_
      rintro r w' ⟨rfl, ha⟩
      exact ⟨rfl, qv, fv, ha⟩
  · have hi : ¬ inD S.n s = true := by unfold inD; simpa using hr
    rw [if_neg hi, if_neg hi]
    refine (write_out h hr _ _ _).mono ?_
    rintro r w' ⟨rfl, ha⟩
    exact ⟨rfl, qv, fv, ha⟩
/-- Barrier -/
def baE (S : Dk) : Int := if hitF S.fs 3 (-1) = true then 33 else 0
def baS (S : Dk) : Dk := if hitF S.fs 3 (-1) = true then failS S 3 (-1) else barred (failS S 3 (-1))
theorem barrier_gen {w : World} {b ms ml : Nat} {qv fv : Value} {S : Dk} (h : RK w 0 b ms ml qv fv S) (hf : FsOk S.fs) (hql : S.q.length ≤ 1048576) :
    Calls Tryz.prog 83 #[.pointer (some ⟨b, 0, none⟩)] w fun r w' => r = .returned (.int .i64 (baE S)) ∧ ∃ ml' qv' fv1, DAct w w' 0 b ms ml ms ml' qv fv qv' fv1 (baS S) := by
  unfold baE baS
  by_cases hh : hitF S.fs 3 (-1) = true
  · rw [if_pos hh, if_pos hh]
    refine (barrier_hit h hf hh).mono ?_
    rintro r w' ⟨fv1, rfl, ha⟩
    exact ⟨rfl, ml, qv, fv1, ha⟩
  · rw [if_neg hh, if_neg hh]
    refine (barrier_hitless h hf (by simpa using hh) hql).mono ?_
    rintro r w' ⟨ml', fv1, rfl, ha⟩
    exact ⟨rfl, ml', _, fv1, ha⟩
/-- Fault -/
def faOk (S : Dk) (f : Flt) : Bool := may S.n f && decide (S.fs.length < 64)
def faE (S : Dk) (f : Flt) : Int := if faOk S f = true then 0 else 34
def faS (S : Dk) (f : Flt) : Dk := if faOk S f = true then armS S f else S
theorem fault_gen {w : World} {b ms ml : Nat} {qv fv : Value} {S : Dk} (h : RK w 0 b ms ml qv fv S) (hf : FsOk S.fs) (f : Flt) :
    Calls Tryz.prog 27 #[.pointer (some ⟨b, 0, none⟩), .agg #[.int .i64 f.kind, .int .i64 f.sector, .int .i64 f.after, .int .i64 f.times, .bool f.land]] w fun r w' => r = .returned (.int .i64 (faE S f)) ∧ ∃ fv1, DAct w w' 0 b ms ml ms ml qv fv qv fv1 (faS S f) := by
  unfold faE faS
  by_cases hm : may S.n f = true
  · by_cases hl : S.fs.length < 64
    · have hi : faOk S f = true := by simp [faOk, hm, hl]
      rw [if_pos hi, if_pos hi]
      exact fault_any h hf _ _ _ _ _ hm hl
    · have hi : ¬ faOk S f = true := by simp [faOk, hl]
      rw [if_neg hi, if_neg hi]
      refine (fault_bad h hf _ _ _ _ _ (.inr (by omega))).mono ?_
      rintro r w' ⟨rfl, ha⟩
      exact ⟨rfl, fv, ha⟩
  · have hi : ¬ faOk S f = true := by simp [faOk, hm]
    rw [if_neg hi, if_neg hi]
    refine (fault_bad h hf _ _ _ _ _ (.inl (by simpa using hm))).mono ?_
    rintro r w' ⟨rfl, ha⟩
    exact ⟨rfl, fv, ha⟩
/-- an Int that an int holds -/
abbrev I64 (z : Int) : Prop := -9223372036854775808 ≤ z ∧ z ≤ 9223372036854775807
theorem rdS_ok {S : Dk} (h : FsOk S.fs) (s : Int) : FsOk (rdS S s).fs := by
  unfold rdS
  split
  · split
    · exact failS_ok h _ _
    · exact failS_ok h _ _
  · exact h
theorem wrS_ok {S : Dk} (h : FsOk S.fs) (s : Int) (l : List Nat) : FsOk (wrS S s l).fs := by
  unfold wrS
  split
  · split
    · split
      · split
        · exact failS_ok h _ _
        · exact failS_ok h _ _
      · exact failS_ok h _ _
    · exact h
  · exact h
theorem baS_ok {S : Dk} (h : FsOk S.fs) : FsOk (baS S).fs := by
  unfold baS
  split
  · exact failS_ok h _ _
  · exact failS_ok h _ _
theorem faS_ok {S : Dk} (h : FsOk S.fs) {f : Flt} (ha : I64 f.after) (ht : I64 f.times) : FsOk (faS S f).fs := by
  unfold faS
  split
  · rename_i hi
    simp only [faOk, may, Bool.and_eq_true, decide_eq_true_eq] at hi
    refine ⟨fun x hx => ?_, ?_⟩
    · simp only [armS, List.mem_append, List.mem_singleton] at hx
      rcases hx with hx | rfl
      · exact h.ok x hx
      · exact ⟨hi.1.1.2, ha.2, hi.1.2, ht.2⟩
    · simp [armS]; omega
  · exact h
theorem rdS_q (S : Dk) (s : Int) : (rdS S s).q = S.q := by
  unfold rdS
  split
  · split
    · exact failS_q _ _ _
    · exact failS_q _ _ _
  · rfl
theorem wrS_q (S : Dk) (s : Int) (l : List Nat) : (wrS S s l).q.length ≤ S.q.length + 1 := by
  unfold wrS
  split
  · split
    · split
      · split
        · simp [pushS, failS_q]
        · simp [failS_q]
      · simp [wrote, failS_q]
    · omega
  · omega
theorem baS_q (S : Dk) : (baS S).q.length ≤ S.q.length := by
  unfold baS
  split
  · simp [failS_q]
  · simp [barred, settled]
theorem faS_q (S : Dk) (f : Flt) : (faS S f).q = S.q := by
  unfold faS
  split <;> rfl
end Go.Proofs.YtijimcjmpeakpaaGreat.K
