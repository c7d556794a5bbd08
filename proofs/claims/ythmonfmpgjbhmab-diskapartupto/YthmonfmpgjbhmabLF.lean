import Derived.Test.YthmonfmpgjbhmabLD
namespace Go.Proofs.Ythmonfmpgjbhmab.K
open Go.RowKit Go.Maps Go.Proofs.Ythmonfmpgjbhmab Go.MuLone
attribute [local go_sem] Oper.semAt_some
set_option linter.unusedVariables false
set_option linter.unusedSimpArgs false
set_option maxRecDepth 100000

/-- the faults of a disk -/
structure FsOk (l : List Flt) : Prop where
  ok : ∀ f ∈ l, FOk f
  le : l.length ≤ 64
def zF : Flt := ⟨0, 0, 0, 0, false⟩
def hitF (fs : List Flt) (k s : Int) : Bool := (failL k s fs).2.isSome
def landF (fs : List Flt) (k s : Int) : Bool := ((failL k s fs).2.getD zF).land
def failS (S : Dk) (k s : Int) : Dk := if hitF S.fs k s = true then failedS S (failL k s S.fs).1 else { S with fs := (failL k s S.fs).1 }
theorem failS_fs (S : Dk) (k s : Int) : (failS S k s).fs = (failL k s S.fs).1 := by unfold failS; split <;> rfl
theorem failS_q (S : Dk) (k s : Int) : (failS S k s).q = S.q := by unfold failS; split <;> rfl
theorem failS_n (S : Dk) (k s : Int) : (failS S k s).n = S.n := by unfold failS; split <;> rfl
theorem failS_safe (S : Dk) (k s : Int) : (failS S k s).safe = S.safe := by unfold failS; split <;> rfl
theorem failS_ok {S : Dk} (h : FsOk S.fs) (k s : Int) : FsOk (failS S k s).fs := by
  rw [failS_fs]
  exact ⟨failL_ok k s h.ok, Nat.le_trans (failL_len k s _) h.le⟩
theorem fail_gen {w : World} {lk : Int} {b ms ml : Nat} {qv fv : Value} {S : Dk} (h : RK w lk b ms ml qv fv S) (hf : FsOk S.fs) (kind s : Int) :
    Calls Try.prog 29 #[.pointer (some ⟨b, 0, none⟩), .int .i64 kind, .int .i64 s] w fun r w' => ∃ (a0 a1 a2 a3 : Int) (fv' : Value), r = .returned (.tuple #[.agg #[.int .i64 a0, .int .i64 a1, .int .i64 a2, .int .i64 a3, .bool (landF S.fs kind s)], .bool (hitF S.fs kind s)]) ∧ DAct w w' lk b ms ml ms ml qv fv qv fv' (failS S kind s) := by
  rcases h.fr.2 with ⟨hfv, h0⟩ | ⟨g, cap, cur, hfv, _⟩
  · have hn : S.fs = [] := List.length_eq_zero_iff.1 h0
    refine (fail_none h hn kind s).mono ?_
    rintro r w' ⟨rfl, hb⟩
    refine ⟨0, 0, 0, 0, fv, ?_, ?_⟩
    · simp [landF, hitF, hn, failL, zF]
    · have e : failS S kind s = S := by
        unfold failS hitF
        rw [hn]
        simp [failL]
        rw [← hn]
      rw [e]
      exact (DAct.refl h).later hb
  · subst hfv
    refine (fail_any h rfl hf.ok hf.le kind s).mono ?_
    rintro r w' (⟨hn, rfl, ha⟩ | ⟨f, hn, rfl, m, ha⟩)
    · refine ⟨0, 0, 0, 0, .slice (some ⟨g, 0, none⟩) S.fs.length cap, ?_, ?_⟩
      · simp [landF, hitF, hn, zF, zf]
      · have e : failS S kind s = { S with fs := (failL kind s S.fs).1 } := by unfold failS hitF; rw [hn]; rfl
        rw [e]; exact ha
    · refine ⟨f.kind, f.sector, f.after, f.times, .slice (some ⟨g, 0, none⟩) m cap, ?_, ?_⟩
      · simp [landF, hitF, hn, fcell]
      · have e : failS S kind s = failedS S (failL kind s S.fs).1 := by unfold failS hitF; rw [hn]; rfl
        rw [e]; exact ha
end Go.Proofs.Ythmonfmpgjbhmab.K
