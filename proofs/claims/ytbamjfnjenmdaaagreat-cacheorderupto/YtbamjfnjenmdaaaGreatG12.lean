import Derived.Test.YtbamjfnjenmdaaaGreatzLD
import Derived.Shelf.SlMaps.Clone
import Derived.Deep.RegionHeld3
import Derived.Deep.RegionLaw
import Derived.Deep.AppendLies
import Derived.Deep.DrawnRows
namespace Go.Proofs.YtbamjfnjenmdaaaGreat.K
open Go.RowKit Go.Maps Go.Proofs.YtbamjfnjenmdaaaGreat Go.MuLone
attribute [local go_sem] Oper.semAt_some
set_option linter.unusedVariables false
set_option linter.unusedSimpArgs false
set_option maxRecDepth 100000

/-- the faults of a disk -/
structure FsOk (l : List Flt) : Prop where
  ok : ∀ f ∈ l, FOk f
  le : l.length ≤ 64
def zF : Flt := ⟨0, 0, 0, 0, false⟩
def hitF (fs : List Flt) (k s : Int) : Bool := (failL k s fs).2.isSome
def landF (fs : List Flt) (k s : Int) : Bool := ((failL k s fs).2.getD zF).land
def failS (S : Dk) (k s : Int) : Dk := if hitF S.fs k s = true then failedS S (failL k s S.fs).1 else { S with fs := (failL k s S.fs).1 }
theorem failS_fs (S : Dk) (k s : Int) : (failS S k s).fs = (failL k s S.fs).1 := by unfold failS; split <;> rfl
theorem failS_q (S : Dk) (k s : Int) : (failS S k s).q = S.q := by unfold failS; split <;> rfl
theorem failS_n (S : Dk) (k s : Int) : (failS S k s).n = S.n := by unfold failS; split <;> rfl
theorem failS_safe (S : Dk) (k s : Int) : (failS S k s).safe = S.safe := by unfold failS; split <;> rfl
theorem failS_ok {S : Dk} (h : FsOk S.fs) (k s : Int) : FsOk (failS S k s).fs := by
  rw [failS_fs]
  exact ⟨failL_ok k s h.ok, Nat.le_trans (failL_len k s _) h.le⟩
theorem fail_gen {w : World} {lk : Int} {b ms ml : Nat} {qv fv : Value} {S : Dk} (h : RK w lk b ms ml qv fv S) (hf : FsOk S.fs) (kind s : Int) :
    Calls Tryz.prog 58 #[.pointer (some ⟨b, 0, none⟩), .int .i64 kind, .int .i64 s] w fun r w' => ∃ (a0 a1 a2 a3 : Int) (fv' : Value), r = .returned (.tuple #[.agg #[.int .i64 a0, .int .i64 a1, .int .i64 a2, .int .i64 a3, .bool (landF S.fs kind s)], .bool (hitF S.fs kind s)]) ∧ DAct w w' lk b ms ml ms ml qv fv qv fv' (failS S kind s) := by
  rcases h.fr.2 with ⟨hfv, h0⟩ | ⟨g, cap, cur, hfv, _⟩
  · have hn : S.fs = [] := List.length_eq_zero_iff.1 h0
    refine (fail_none h hn kind s).mono ?_
    rintro r w' ⟨rfl, hb⟩
    refine ⟨0, 0, 0, 0, fv, ?_, ?_⟩
    · simp [landF, hitF, hn, failL, zF]
    · have e : failS S kind s = S := by
        unfold failS hitF
        rw [hn]
        simp [failL]
        rw [← hn]
      rw [e]
      exact (DAct.refl h).later hb
  · subst hfv
    refine (fail_any h rfl hf.ok hf.le kind s).mono ?_
    rintro r w' (⟨hn, rfl, ha⟩ | ⟨f, hn, rfl, m, ha⟩)
    · refine ⟨0, 0, 0, 0, .slice (some ⟨g, 0, none⟩) S.fs.length cap, ?_, ?_⟩
      · simp [landF, hitF, hn, zF, zf]
      · have e : failS S kind s = { S with fs := (failL kind s S.fs).1 } := by unfold failS hitF; rw [hn]; rfl
        rw [e]; exact ha
    · refine ⟨f.kind, f.sector, f.after, f.times, .slice (some ⟨g, 0, none⟩) m cap, ?_, ?_⟩
      · simp [landF, hitF, hn, fcell]
      · have e : failS S kind s = failedS S (failL kind s S.fs).1 := by unfold failS hitF; rw [hn]; rfl
        rw [e]; exact ha
end Go.Proofs.YtbamjfnjenmdaaaGreat.K

namespace Go.Proofs.YtbamjfnjenmdaaaGreat.K
open Go.RowKit Go.Maps Go.Proofs.YtbamjfnjenmdaaaGreat Go.MuLone
attribute [local go_sem] Oper.semAt_some
set_option linter.unusedVariables false
set_option linter.unusedSimpArgs false
set_option maxRecDepth 100000

theorem infoFa3 : (Tryz.prog.info? TFa).map (fun i => (i.zero, i.size, i.bytes)) = some (some (.agg #[.int .i64 0, .int .i64 0, .int .i64 0, .int .i64 0, .bool false]), 5, 40) := by kernel_rfl
theorem own_news {w : World} {B T size g n cap : Nat} {xs : List Value} (h : w.ownsRow B T size (.slice (some ⟨g, 0, none⟩) n cap) n xs) : ∀ j u, xs[j]? = some u → w.cell? ((⟨g, 0, none⟩ : Addr).add j) = some u := fun j u hu => by
  rw [add_plain, Nat.zero_add]
  have hj : j < n * size := by have := (List.getElem?_eq_some_iff.1 hu).1; rw [h.1] at this; exact this
  rw [h.cellAt j hj]; exact hu
end Go.Proofs.YtbamjfnjenmdaaaGreat.K

namespace Go.Proofs.YtbamjfnjenmdaaaGreat.K
open Go.RowKit Go.Maps Go.Proofs.YtbamjfnjenmdaaaGreat Go.MuLone
attribute [local go_sem] Oper.semAt_some
set_option linter.unusedVariables false
set_option linter.unusedSimpArgs false
set_option maxRecDepth 100000

def may (n : Nat) (f : Flt) : Bool := decide (1 ≤ f.kind ∧ f.kind ≤ 3) && (decide (f.sector = -1) || decide (0 ≤ f.sector ∧ f.sector < n)) && decide (0 ≤ f.after) && decide (1 ≤ f.times)
set_option maxHeartbeats 2000000 in
theorem mayArm_any {w : World} {lk : Int} {b ms ml : Nat} {qv fv : Value} {S : Dk} (h : RK w lk b ms ml qv fv S) (k s a t : Int) (ld : Bool) :
    Calls Tryz.prog 47 #[.pointer (some ⟨b, 0, none⟩), .agg #[.int .i64 k, .int .i64 s, .int .i64 a, .int .i64 t, .bool ld]] w fun r w' => r = .returned (.bool (may S.n ⟨k, s, a, t, ld⟩)) ∧ Below w.heap.size w w' := by
  have hB0 : Below w.heap.size w (w.alloc (.cells #[.int .i64 k, .int .i64 s, .int .i64 a, .int .i64 t, .bool ld] TFa)) := (Below.refl _ w).alloc (Nat.le_refl _) _
  have hha := has_any (h.later hB0) s
  have HB : Hid (Below w.heap.size w (w.alloc (.cells #[.int .i64 k, .int .i64 s, .int .i64 a, .int .i64 t, .bool ld] TFa))) := hB0
  have hM : may S.n ⟨k, s, a, t, ld⟩ = (decide (1 ≤ k ∧ k ≤ 3) && (decide (s = -1) || decide (0 ≤ s ∧ s < S.n)) && decide (0 ≤ a) && decide (1 ≤ t)) := rfl
  clear h hB0
  by_cases hk : 1 ≤ k ∧ k ≤ 3
  · by_cases hs : s = -1
    · by_cases ha : 0 ≤ a
      · by_cases ht : 1 ≤ t
        · have hv : may S.n ⟨k, s, a, t, ld⟩ = true := by rw [hM]; simp [hk, hs, ha, ht]; try omega
          rw [hv]
          clear hM hv
          have hk3 : k = 1 ∨ k = 2 ∨ k = 3 := by omega
          clear hk
          rcases hk3 with rfl | rfl | rfl
          all_goals go_enter Tryz.func47, Tryz.ntmps47
          all_goals go_wp2_with (go_at_call 57; refine hha.mono ?_; rintro e w9 ⟨rfl, hw9⟩; rw [hw9]; clear hw9 hha)
          all_goals go_ret
          all_goals first | exact ⟨rfl, (Below.refl _ w).alloc (Nat.le_refl _) _⟩ | (refine ⟨ret_bool ?_, (Below.refl _ w).alloc (Nat.le_refl _) _⟩; simp; omega)
        · have hv : may S.n ⟨k, s, a, t, ld⟩ = false := by rw [hM]; simp [hk, hs, ha, ht]; try omega
          rw [hv]
          clear hM hv
          have hk3 : k = 1 ∨ k = 2 ∨ k = 3 := by omega
          clear hk
          rcases hk3 with rfl | rfl | rfl
          all_goals go_enter Tryz.func47, Tryz.ntmps47
          all_goals go_wp2_with (go_at_call 57; refine hha.mono ?_; rintro e w9 ⟨rfl, hw9⟩; rw [hw9]; clear hw9 hha)
          all_goals go_ret
          all_goals first | exact ⟨rfl, (Below.refl _ w).alloc (Nat.le_refl _) _⟩ | (refine ⟨ret_bool ?_, (Below.refl _ w).alloc (Nat.le_refl _) _⟩; simp; omega)
      · have hv : may S.n ⟨k, s, a, t, ld⟩ = false := by rw [hM]; simp [hk, hs, ha]; try omega
        rw [hv]
        clear hM hv
        have hk3 : k = 1 ∨ k = 2 ∨ k = 3 := by omega
        clear hk
        rcases hk3 with rfl | rfl | rfl
        all_goals go_enter Tryz.func47, Tryz.ntmps47
        all_goals go_wp2_with (go_at_call 57; refine hha.mono ?_; rintro e w9 ⟨rfl, hw9⟩; rw [hw9]; clear hw9 hha)
        all_goals go_ret
        all_goals first | exact ⟨rfl, (Below.refl _ w).alloc (Nat.le_refl _) _⟩ | (refine ⟨ret_bool ?_, (Below.refl _ w).alloc (Nat.le_refl _) _⟩; simp; omega)
    · by_cases hr : 0 ≤ s ∧ s < S.n
      · rw [decide_eq_true hr] at hha
        by_cases ha : 0 ≤ a
        · by_cases ht : 1 ≤ t
          · have hv : may S.n ⟨k, s, a, t, ld⟩ = true := by rw [hM]; simp [hk, hs, hr, ha, ht]; try omega
            rw [hv]
            clear hM hv
            have hk3 : k = 1 ∨ k = 2 ∨ k = 3 := by omega
            clear hk
            rcases hk3 with rfl | rfl | rfl
            all_goals go_enter Tryz.func47, Tryz.ntmps47
            all_goals go_wp2_with (go_at_call 57; refine hha.mono ?_; rintro e w9 ⟨rfl, hw9⟩; rw [hw9]; clear hw9 hha)
            all_goals go_ret
            all_goals first | exact ⟨rfl, (Below.refl _ w).alloc (Nat.le_refl _) _⟩ | (refine ⟨ret_bool ?_, (Below.refl _ w).alloc (Nat.le_refl _) _⟩; simp; omega)
          · have hv : may S.n ⟨k, s, a, t, ld⟩ = false := by rw [hM]; simp [hk, hs, hr, ha, ht]; try omega
            rw [hv]
            clear hM hv
            have hk3 : k = 1 ∨ k = 2 ∨ k = 3 := by omega
            clear hk
            rcases hk3 with rfl | rfl | rfl
            all_goals go_enter Tryz.func47, Tryz.ntmps47
            all_goals go_wp2_with (go_at_call 57; refine hha.mono ?_; rintro e w9 ⟨rfl, hw9⟩; rw [hw9]; clear hw9 hha)
            all_goals go_ret
            all_goals first | exact ⟨rfl, (Below.refl _ w).alloc (Nat.le_refl _) _⟩ | (refine ⟨ret_bool ?_, (Below.refl _ w).alloc (Nat.le_refl _) _⟩; simp; omega)
        · have hv : may S.n ⟨k, s, a, t, ld⟩ = false := by rw [hM]; simp [hk, hs, hr, ha]; try omega
          rw [hv]
          clear hM hv
          have hk3 : k = 1 ∨ k = 2 ∨ k = 3 := by omega
          clear hk
          rcases hk3 with rfl | rfl | rfl
          all_goals go_enter Tryz.func47, Tryz.ntmps47
          all_goals go_wp2_with (go_at_call 57; refine hha.mono ?_; rintro e w9 ⟨rfl, hw9⟩; rw [hw9]; clear hw9 hha)
          all_goals go_ret
          all_goals first | exact ⟨rfl, (Below.refl _ w).alloc (Nat.le_refl _) _⟩ | (refine ⟨ret_bool ?_, (Below.refl _ w).alloc (Nat.le_refl _) _⟩; simp; omega)
      · rw [decide_eq_false hr] at hha
        have hv : may S.n ⟨k, s, a, t, ld⟩ = false := by rw [hM, decide_eq_false hr, decide_eq_false hs]; simp
        rw [hv]
        clear hM hv
        have hk3 : k = 1 ∨ k = 2 ∨ k = 3 := by omega
        clear hk
        rcases hk3 with rfl | rfl | rfl
        all_goals go_enter Tryz.func47, Tryz.ntmps47
        all_goals go_wp2_with (go_at_call 57; refine hha.mono ?_; rintro e w9 ⟨rfl, hw9⟩; rw [hw9]; clear hw9 hha)
        all_goals go_ret
        all_goals first | exact ⟨rfl, (Below.refl _ w).alloc (Nat.le_refl _) _⟩ | (refine ⟨ret_bool ?_, (Below.refl _ w).alloc (Nat.le_refl _) _⟩; simp; omega)
  · have hv : may S.n ⟨k, s, a, t, ld⟩ = false := by rw [hM, decide_eq_false hk]; simp
    rw [hv]
    clear hM hv
    have h1 : ¬ k = 1 := by omega
    have h2 : ¬ k = 2 := by omega
    have h3 : ¬ k = 3 := by omega
    go_enter Tryz.func47, Tryz.ntmps47
    go_wp2
    go_ret
    first | exact ⟨rfl, (Below.refl _ w).alloc (Nat.le_refl _) _⟩ | (refine ⟨ret_bool ?_, (Below.refl _ w).alloc (Nat.le_refl _) _⟩; simp; omega)
end Go.Proofs.YtbamjfnjenmdaaaGreat.K

namespace Go.Proofs.YtbamjfnjenmdaaaGreat.K
open Go.RowKit Go.Maps Go.Proofs.YtbamjfnjenmdaaaGreat Go.MuLone
attribute [local go_sem] Oper.semAt_some
set_option linter.unusedVariables false
set_option linter.unusedSimpArgs false
set_option maxRecDepth 100000

end Go.Proofs.YtbamjfnjenmdaaaGreat.K
