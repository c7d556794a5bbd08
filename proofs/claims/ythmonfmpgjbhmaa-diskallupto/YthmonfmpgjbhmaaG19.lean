import Derived.Test.YthmonfmpgjbhmaazLD
import Derived.Shelf.SlMaps.Clone
namespace Go.Proofs.Ythmonfmpgjbhmaa.K
open Go.RowKit Go.Maps Go.Proofs.Ythmonfmpgjbhmaa Go.MuLone
attribute [local go_sem] Oper.semAt_some
set_option linter.unusedVariables false
set_option linter.unusedSimpArgs false
set_option maxRecDepth 100000

/-- the faults of a disk -/
structure FsOk (l : List Flt) : Prop where
  ok : ∀ f ∈ l, FOk f
  le : l.length ≤ 64
def zF : Flt := ⟨0, 0, 0, 0, false⟩
def hitF (fs : List Flt) (k s : Int) : Bool := (failL k s fs).2.isSome
def landF (fs : List Flt) (k s : Int) : Bool := ((failL k s fs).2.getD zF).land
def failS (S : Dk) (k s : Int) : Dk := if hitF S.fs k s = true then failedS S (failL k s S.fs).1 else { S with fs := (failL k s S.fs).1 }
theorem failS_fs (S : Dk) (k s : Int) : (failS S k s).fs = (failL k s S.fs).1 := by unfold failS; split <;> rfl
theorem failS_q (S : Dk) (k s : Int) : (failS S k s).q = S.q := by unfold failS; split <;> rfl
theorem failS_n (S : Dk) (k s : Int) : (failS S k s).n = S.n := by unfold failS; split <;> rfl
theorem failS_safe (S : Dk) (k s : Int) : (failS S k s).safe = S.safe := by unfold failS; split <;> rfl
theorem failS_ok {S : Dk} (h : FsOk S.fs) (k s : Int) : FsOk (failS S k s).fs := by
  rw [failS_fs]
  exact ⟨failL_ok k s h.ok, Nat.le_trans (failL_len k s _) h.le⟩
theorem fail_gen {w : World} {lk : Int} {b ms ml : Nat} {qv fv : Value} {S : Dk} (h : RK w lk b ms ml qv fv S) (hf : FsOk S.fs) (kind s : Int) :
    Calls Try.prog 34 #[.pointer (some ⟨b, 0, none⟩), .int .i64 kind, .int .i64 s] w fun r w' => ∃ (a0 a1 a2 a3 : Int) (fv' : Value), r = .returned (.tuple #[.agg #[.int .i64 a0, .int .i64 a1, .int .i64 a2, .int .i64 a3, .bool (landF S.fs kind s)], .bool (hitF S.fs kind s)]) ∧ DAct w w' lk b ms ml ms ml qv fv qv fv' (failS S kind s) := by
  rcases h.fr.2 with ⟨hfv, h0⟩ | ⟨g, cap, cur, hfv, _⟩
  · have hn : S.fs = [] := List.length_eq_zero_iff.1 h0
    refine (fail_none h hn kind s).mono ?_
    rintro r w' ⟨rfl, hb⟩
    refine ⟨0, 0, 0, 0, fv, ?_, ?_⟩
    · simp [landF, hitF, hn, failL, zF]
    · have e : failS S kind s = S := by
        unfold failS hitF
        rw [hn]
        simp [failL]
        rw [← hn]
      rw [e]
      exact (DAct.refl h).later hb
  · subst hfv
    refine (fail_any h rfl hf.ok hf.le kind s).mono ?_
    rintro r w' (⟨hn, rfl, ha⟩ | ⟨f, hn, rfl, m, ha⟩)
    · refine ⟨0, 0, 0, 0, .slice (some ⟨g, 0, none⟩) S.fs.length cap, ?_, ?_⟩
      · simp [landF, hitF, hn, zF, zf]
      · have e : failS S kind s = { S with fs := (failL kind s S.fs).1 } := by unfold failS hitF; rw [hn]; rfl
        rw [e]; exact ha
    · refine ⟨f.kind, f.sector, f.after, f.times, .slice (some ⟨g, 0, none⟩) m cap, ?_, ?_⟩
      · simp [landF, hitF, hn, fcell]
      · have e : failS S kind s = failedS S (failL kind s S.fs).1 := by unfold failS hitF; rw [hn]; rfl
        rw [e]; exact ha
end Go.Proofs.Ythmonfmpgjbhmaa.K

namespace Go.Proofs.Ythmonfmpgjbhmaa.K
open Go.RowKit Go.Maps Go.Proofs.Ythmonfmpgjbhmaa Go.MuLone
attribute [local go_sem] Oper.semAt_some
set_option linter.unusedVariables false
set_option linter.unusedSimpArgs false
set_option maxRecDepth 100000

theorem infoFa3 : (Try.prog.info? TFa).map (fun i => (i.zero, i.size, i.bytes)) = some (some (.agg #[.int .i64 0, .int .i64 0, .int .i64 0, .int .i64 0, .bool false]), 5, 40) := by kernel_rfl
theorem own_news {w : World} {B T size g n cap : Nat} {xs : List Value} (h : w.ownsRow B T size (.slice (some ⟨g, 0, none⟩) n cap) n xs) : ∀ j u, xs[j]? = some u → w.cell? ((⟨g, 0, none⟩ : Addr).add j) = some u := fun j u hu => by
  rw [add_plain, Nat.zero_add]
  have hj : j < n * size := by have := (List.getElem?_eq_some_iff.1 hu).1; rw [h.1] at this; exact this
  rw [h.cellAt j hj]; exact hu
set_option maxHeartbeats 1000000 in
theorem fclone_any {w : World} {B : Nat} {fv : Value} {n : Nat} {xs : List Value} (h : w.ownsRow B TFa 5 fv n xs) (h1 : ∀ u ∈ xs, u.oneCell' = true) (hn : n ≤ 1048576) :
    Calls Try.prog 55 #[fv] w fun e w' => ∃ v, e = .returned v ∧ w'.ownsRow w.heap.size TFa 5 v n xs ∧ Below w.heap.size w w' := by
  rcases h.2 with ⟨rfl, h0⟩ | ⟨g, cap, cur, rfl, _⟩
  · subst h0
    have hx : xs = [] := List.length_eq_zero_iff.1 (by simpa using h.1)
    subst hx
    have he : ∀ w : World, (binOp .eql TFas (.slice none 0 0) (.slice none 0 0)).run Try.prog w = .ok (.bool true) w := fun w => Lib.run_eql_slice_nil w TFas TFa none 0 0 0 0 Try.underlying30
    clear h h1 hn
    go_enter Try.func55, Try.ntmps55
    go_wp2
    go_ret
    exact ⟨_, rfl, World.ownsRow_nil _ _ _ _, Below.refl _ _⟩
  · obtain ⟨i0, hi, hz0, hz1, hz2⟩ := info_parts infoFa3
    have he : ∀ w : World, (binOp .eql TFas (.slice (some ⟨g, 0, none⟩) n cap) (.slice none 0 0)).run Try.prog w = .ok (.bool false) w := fun w => Lib.run_eql_slice_nil w TFas TFa (some ⟨g, 0, none⟩) n cap 0 0 Try.underlying30
    have HB : Hid ((w.alloc (.cells #[] TFa)).ownsRow B TFa 5 (.slice (some ⟨g, 0, none⟩) n cap) n xs) := h.alloc _
    have HO : Hid ((w.alloc (.cells #[] TFa)).ownsRow w.heap.size TFa 5 (.slice (some ⟨w.heap.size, 0, none⟩) 0 0) 0 []) :=
      World.ownsRow_lit w #[] 0 (Nat.le_refl _) (Nat.zero_le _) rfl
    have HL : Hid (xs.length = n * 5) := h.1
    clear h
    go_enter Try.func55, Try.ntmps55
    go_wp2_with (at_builtin; refine wpList_append_own _ rfl (.tmp 5) (.tmp 6) TFas rfl w.heap.size TFa i0 _ 5 40 Try.underlying30 hi hz0 hz1 hz2 rfl (by decide) _ 0 [] rfl HO.out ⟨g, 0, none⟩ n cap xs rfl HL.out (own_news HB.out) h1 (by unfold maxLen; omega) (by omega) (by simp) ?_)
    intro v' w1 ho hg hf
    have hb : Below w.heap.size w w1 := ((Below.refl _ _).alloc (Nat.le_refl _) _).grown hg (by simp) (by intro k hk; simp [Value.ownBlock] at hk; omega)
    clear hg hf
    go_wp2
    go_ret
    exact ⟨_, rfl, by simpa using ho, hb⟩
set_option maxHeartbeats 1000000 in
theorem pclone_any {w : World} {B : Nat} {fv : Value} {n : Nat} {xs : List Value} (h : w.ownsRow B TPu 513 fv n xs) (h1 : ∀ u ∈ xs, u.oneCell' = true) (hn : n ≤ 1048576) :
    Calls Try.prog 53 #[fv] w fun e w' => ∃ v, e = .returned v ∧ w'.ownsRow w.heap.size TPu 513 v n xs ∧ Below w.heap.size w w' := by
  rcases h.2 with ⟨rfl, h0⟩ | ⟨g, cap, cur, rfl, _⟩
  · subst h0
    have hx : xs = [] := List.length_eq_zero_iff.1 (by simpa using h.1)
    subst hx
    have he : ∀ w : World, (binOp .eql TPus (.slice none 0 0) (.slice none 0 0)).run Try.prog w = .ok (.bool true) w := fun w => Lib.run_eql_slice_nil w TPus TPu none 0 0 0 0 Try.underlying67
    clear h h1 hn
    go_enter Try.func53, Try.ntmps53
    go_wp2
    go_ret
    exact ⟨_, rfl, World.ownsRow_nil _ _ _ _, Below.refl _ _⟩
  · obtain ⟨i0, hi, hz0, hz1, hz2⟩ := info_parts infoPu
    have he : ∀ w : World, (binOp .eql TPus (.slice (some ⟨g, 0, none⟩) n cap) (.slice none 0 0)).run Try.prog w = .ok (.bool false) w := fun w => Lib.run_eql_slice_nil w TPus TPu (some ⟨g, 0, none⟩) n cap 0 0 Try.underlying67
    have HB : Hid ((w.alloc (.cells #[] TPu)).ownsRow B TPu 513 (.slice (some ⟨g, 0, none⟩) n cap) n xs) := h.alloc _
    have HO : Hid ((w.alloc (.cells #[] TPu)).ownsRow w.heap.size TPu 513 (.slice (some ⟨w.heap.size, 0, none⟩) 0 0) 0 []) :=
      World.ownsRow_lit w #[] 0 (Nat.le_refl _) (Nat.zero_le _) rfl
    have HL : Hid (xs.length = n * 513) := h.1
    clear h
    go_enter Try.func53, Try.ntmps53
    go_wp2_with (at_builtin; refine wpList_append_own _ rfl (.tmp 5) (.tmp 6) TPus rfl w.heap.size TPu i0 _ 513 520 Try.underlying67 hi hz0 hz1 hz2 (by show Zp.size = 513; exact Zp_size) (by decide) _ 0 [] rfl HO.out ⟨g, 0, none⟩ n cap xs rfl HL.out (own_news HB.out) h1 (by unfold maxLen; omega) (by omega) (by simp) ?_)
    intro v' w1 ho hg hf
    have hb : Below w.heap.size w w1 := ((Below.refl _ _).alloc (Nat.le_refl _) _).grown hg (by simp) (by intro k hk; simp [Value.ownBlock] at hk; omega)
    clear hg hf
    go_wp2
    go_ret
    exact ⟨_, rfl, by simpa using ho, hb⟩
set_option maxHeartbeats 2000000 in
theorem mclone_s {R : Value → Option (DataW Unit × List MemPlace)} {b n : Nat} {D : DataW Unit} {w : World} (hown : w.ownsMap Try.prog TIn R b n D) :
    Calls Try.prog 52 #[.map (some b)] w fun e w' => e = .returned (.map (some w.heap.size)) ∧ w'.ownsMap Try.prog TIn R w.heap.size n D ∧ Below w.heap.size w w' := by
  obtain ⟨es, clock, hb, F, hs, hD⟩ := hown
  have hq := fun w => run_eql_map_nil_sl (P := Try.prog) w TMs _ _ (some b) Try.underlying66
  have HF : Hid ((w.alloc (.map es clock)).ownsMap Try.prog TIn R w.heap.size n D) := ⟨es, clock, (MapKept.heap_alloc w _).1, F, hs, hD⟩
  clear F hs hD
  go_enter Try.func52, Try.ntmps52
  go_wp2
  rw [run_callFunc_extern Try.func72 (by kernel_rfl) (by kernel_rfl) (by kernel_rfl) (e := Extern.MapsClone.clone) (by kernel_rfl), run_maps_clone_sl w TMs hb]
  simp only [Result.andThen]
  rw [Oper.upon_value]
  go_wp2
  rw [run_typeAssert_map_sl _ TMs 20 _ _ _ Try.underlying66]
  simp only [Result.andThen]
  rw [Oper.upon_value]
  go_wp2
  go_ret
  exact ⟨rfl, HF.out, (Below.refl _ w).alloc (Nat.le_refl _) _⟩
set_option maxHeartbeats 2000000 in
theorem mclone_l {R : Value → Option (DataW Unit × List MemPlace)} {b n : Nat} {D : DataW Unit} {w : World} (hown : w.ownsMap Try.prog TIn R b n D) :
    Calls Try.prog 54 #[.map (some b)] w fun e w' => e = .returned (.map (some w.heap.size)) ∧ w'.ownsMap Try.prog TIn R w.heap.size n D ∧ Below w.heap.size w w' := by
  obtain ⟨es, clock, hb, F, hs, hD⟩ := hown
  have hq := fun w => run_eql_map_nil_sl (P := Try.prog) w TMl _ _ (some b) Try.underlying68
  have HF : Hid ((w.alloc (.map es clock)).ownsMap Try.prog TIn R w.heap.size n D) := ⟨es, clock, (MapKept.heap_alloc w _).1, F, hs, hD⟩
  clear F hs hD
  go_enter Try.func54, Try.ntmps54
  go_wp2
  rw [run_callFunc_extern Try.func72 (by kernel_rfl) (by kernel_rfl) (by kernel_rfl) (e := Extern.MapsClone.clone) (by kernel_rfl), run_maps_clone_sl w TMl hb]
  simp only [Result.andThen]
  rw [Oper.upon_value]
  go_wp2
  rw [run_typeAssert_map_sl _ TMl 20 _ _ _ Try.underlying68]
  simp only [Result.andThen]
  rw [Oper.upon_value]
  go_wp2
  go_ret
  exact ⟨rfl, HF.out, (Below.refl _ w).alloc (Nat.le_refl _) _⟩
end Go.Proofs.Ythmonfmpgjbhmaa.K
