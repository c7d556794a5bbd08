import Derived.Test.YtckfmpoddmccfaaU43
import Derived.Test.YtckfmpoddmccfaaU37
import Derived.Test.YtckfmpoddmccfaaU41
import Derived.Test.YtckfmpoddmccfaaU44
import Derived.OpenShut
import Derived.Deep.DeepCutAuto
import Derived.Test.YtckfmpoddmccfaaU45
namespace Go.Proofs.Ytckfmpoddmccfaa
open Go.RowKit
set_option linter.unusedVariables false
set_option linter.unusedSimpArgs false
set_option maxRecDepth 100000
theorem reqRf {w : World} {B b : Nat} {v : Value} {rm ov : Nat} {l : List Nat} (h : RIn w B b v rm ov l) (m : Nat) (hm : m < 4294967296) : Calls Try.prog 46 #[.pointer (some ⟨b, 0, none⟩), .int .u32 (m : Int), .bool false] w fun e w' => ∃ (x0 : Nat) (x1 : Nat) (x2 : Nat) (x3 : Nat) (x4 : Nat) (d : List Nat) (dn cu : Nat) (l' : List Nat) (v' : Value) (ao2 : Option Addr) (cap2 : Nat), e = .returned (.tuple #[.agg #[.int .u16 (x0 : Int), .int .u16 (x1 : Int), .int .u64 (x2 : Int), .int .u64 (x3 : Int), .int .u64 (x4 : Int), .slice ao2 dn cap2], .int .i64 (cu : Int)]) ∧ cutOf (0, 0, 0, 0, 0, []) ov l (reqD m false l) = ((x0, x1, x2, x3, x4, d), cu, l') ∧ d.length = dn ∧ RIn w' B b v' rm ov l' ∧ RAct w w' b v v' ∧ w'.ownsRow w.heap.size 5 1 (.slice ao2 dn cap2) dn (d.map bv) ∧ ∀ g, (Value.slice ao2 dn cap2).ownBlock = some g → v'.ownBlock ≠ some g := by
  by_cases hs : ov = 0 ∧ 28 ≤ l.length
  · obtain ⟨h0, h1⟩ := hs
    have n1 : ¬ l.length < qz false := by show ¬ l.length < 28; omega
    have n0 : ¬ 0 < ov := by omega
    by_cases hx : vl l 0 4 = 627086611
    · have hx' : ¬ vl l 0 4 ≠ qm false := fun e => e hx
      cases hp : payB (vl l 4 2) (vl l 6 2) false
      · refine rreqf_f h m hm ⟨h0, h1⟩ hx _ _ _ _ _ rfl rfl rfl rfl rfl (by have := vlb h.row.lt 4 2; simpa using this) (by have := vlb h.row.lt 6 2; simpa using this) (by have := vlb h.row.lt 8 8; simpa using this) (by have := vlb h.row.lt 16 8; simpa using this) (by have := vlb h.row.lt 24 4; simp at this; omega) (by simpa [payB] using hp) ?_
        unfold cutOf reqD
        rw [if_neg n0, if_neg n1, if_neg hx', if_pos hp]
        simp [qz, qk]
      · have hp' : ¬ payB (vl l 4 2) (vl l 6 2) false = false := by rw [hp]; simp
        by_cases hmk : m < vl l 24 4
        · refine rreqf_c h m hm ⟨h0, h1⟩ hx _ _ _ _ _ rfl rfl rfl rfl rfl (by have := vlb h.row.lt 4 2; simpa using this) (by have := vlb h.row.lt 6 2; simpa using this) (by have := vlb h.row.lt 8 8; simpa using this) (by have := vlb h.row.lt 16 8; simpa using this) (by have := vlb h.row.lt 24 4; simp at this; omega) (by simpa [payB] using hp) (by omega) ?_
          have hmk' : m < vl l 24 (qk false) := hmk
          unfold cutOf reqD
          rw [if_neg n0, if_neg n1, if_neg hx', if_neg hp', if_pos hmk']
          simp
        · have hmk' : ¬ m < vl l 24 (qk false) := hmk
          by_cases h2 : 28 + vl l 24 4 ≤ l.length
          · have n2 : ¬ l.length < qz false + vl l 24 (qk false) := by show ¬ l.length < 28 + vl l 24 4; omega
            refine rreqf_e h m hm ⟨h0, h1⟩ hx _ _ _ _ _ rfl rfl rfl rfl rfl (by have := vlb h.row.lt 4 2; simpa using this) (by have := vlb h.row.lt 6 2; simpa using this) (by have := vlb h.row.lt 8 8; simpa using this) (by have := vlb h.row.lt 16 8; simpa using this) (by have := vlb h.row.lt 24 4; simp at this; omega) (by simpa [payB] using hp) (by omega) ⟨h0, h2⟩ ?_
            unfold cutOf reqD
            rw [if_neg n0, if_neg n1, if_neg hx', if_neg hp', if_neg hmk', if_neg n2]
            simp [qz, qk, List.drop_drop]
          · have n2 : l.length < qz false + vl l 24 (qk false) := by show l.length < 28 + vl l 24 4; omega
            refine rreqf_d h m hm ⟨h0, h1⟩ hx _ _ _ _ _ rfl rfl rfl rfl rfl (by have := vlb h.row.lt 4 2; simpa using this) (by have := vlb h.row.lt 6 2; simpa using this) (by have := vlb h.row.lt 8 8; simpa using this) (by have := vlb h.row.lt 16 8; simpa using this) (by have := vlb h.row.lt 24 4; simp at this; omega) (by simpa [payB] using hp) (by omega) (fun e => h2 e.2) ?_
            unfold cutOf reqD
            rw [if_neg n0, if_neg n1, if_neg hx', if_neg hp', if_neg hmk', if_pos n2]
            simp
    · have hx' : vl l 0 4 ≠ qm false := hx
      refine rreqf_b h m hm ⟨h0, h1⟩ (by simp; omega) ?_
      unfold cutOf reqD
      rw [if_neg n0, if_neg n1, if_pos hx']
      simp
  · refine rreqf_a h m hm hs ?_
    unfold cutOf reqD
    by_cases h0 : 0 < ov
    · simp [h0]
    · have n1 : l.length < qz false := by show l.length < 28; omega
      rw [if_neg h0, if_pos n1]
      simp
theorem reqRt {w : World} {B b : Nat} {v : Value} {rm ov : Nat} {l : List Nat} (h : RIn w B b v rm ov l) (m : Nat) (hm : m < 4294967296) : Calls Try.prog 46 #[.pointer (some ⟨b, 0, none⟩), .int .u32 (m : Int), .bool true] w fun e w' => ∃ (x0 : Nat) (x1 : Nat) (x2 : Nat) (x3 : Nat) (x4 : Nat) (d : List Nat) (dn cu : Nat) (l' : List Nat) (v' : Value) (ao2 : Option Addr) (cap2 : Nat), e = .returned (.tuple #[.agg #[.int .u16 (x0 : Int), .int .u16 (x1 : Int), .int .u64 (x2 : Int), .int .u64 (x3 : Int), .int .u64 (x4 : Int), .slice ao2 dn cap2], .int .i64 (cu : Int)]) ∧ cutOf (0, 0, 0, 0, 0, []) ov l (reqD m true l) = ((x0, x1, x2, x3, x4, d), cu, l') ∧ d.length = dn ∧ RIn w' B b v' rm ov l' ∧ RAct w w' b v v' ∧ w'.ownsRow w.heap.size 5 1 (.slice ao2 dn cap2) dn (d.map bv) ∧ ∀ g, (Value.slice ao2 dn cap2).ownBlock = some g → v'.ownBlock ≠ some g := by
  by_cases hs : ov = 0 ∧ 32 ≤ l.length
  · obtain ⟨h0, h1⟩ := hs
    have n1 : ¬ l.length < qz true := by show ¬ l.length < 32; omega
    have n0 : ¬ 0 < ov := by omega
    obtain ⟨y, hy⟩ : ∃ y : Nat, bits BinOp.and IntKind.u16 (vl l 4 2 : Int) 32 = (y : Int) := Int.eq_ofNat_of_zero_le (bounds_u16 (wf_bits _ _ _ _)).1
    by_cases hx : vl l 0 4 = 568597617
    · have hx' : ¬ vl l 0 4 ≠ qm true := fun e => e hx
      cases hp : payB (vl l 4 2) (vl l 6 2) true
      · refine rreqt_f h m hm ⟨h0, h1⟩ hx _ _ _ _ _ rfl rfl rfl rfl rfl (by have := vlb h.row.lt 4 2; simpa using this) (by have := vlb h.row.lt 6 2; simpa using this) (by have := vlb h.row.lt 8 8; simpa using this) (by have := vlb h.row.lt 16 8; simpa using this) (by have := vlb h.row.lt 24 8; simpa using this) y hy (by have h9 := hp; unfold payB at h9; rw [if_pos rfl, hy] at h9; exact h9) ?_
        unfold cutOf reqD
        rw [if_neg n0, if_neg n1, if_neg hx', if_pos hp]
        simp [qz, qk]
      · have hp' : ¬ payB (vl l 4 2) (vl l 6 2) true = false := by rw [hp]; simp
        by_cases hmk : m < vl l 24 8
        · refine rreqt_c h m hm ⟨h0, h1⟩ hx _ _ _ _ _ rfl rfl rfl rfl rfl (by have := vlb h.row.lt 4 2; simpa using this) (by have := vlb h.row.lt 6 2; simpa using this) (by have := vlb h.row.lt 8 8; simpa using this) (by have := vlb h.row.lt 16 8; simpa using this) (by have := vlb h.row.lt 24 8; simpa using this) y hy (by have h9 := hp; unfold payB at h9; rw [if_pos rfl, hy] at h9; exact h9) (by omega) ?_
          have hmk' : m < vl l 24 (qk true) := hmk
          unfold cutOf reqD
          rw [if_neg n0, if_neg n1, if_neg hx', if_neg hp', if_pos hmk']
          simp
        · have hmk' : ¬ m < vl l 24 (qk true) := hmk
          by_cases h2 : 32 + vl l 24 8 ≤ l.length
          · have n2 : ¬ l.length < qz true + vl l 24 (qk true) := by show ¬ l.length < 32 + vl l 24 8; omega
            refine rreqt_e h m hm ⟨h0, h1⟩ hx _ _ _ _ _ rfl rfl rfl rfl rfl (by have := vlb h.row.lt 4 2; simpa using this) (by have := vlb h.row.lt 6 2; simpa using this) (by have := vlb h.row.lt 8 8; simpa using this) (by have := vlb h.row.lt 16 8; simpa using this) (by have := vlb h.row.lt 24 8; simpa using this) y hy (by have h9 := hp; unfold payB at h9; rw [if_pos rfl, hy] at h9; exact h9) (by omega) ⟨h0, h2⟩ ?_
            unfold cutOf reqD
            rw [if_neg n0, if_neg n1, if_neg hx', if_neg hp', if_neg hmk', if_neg n2]
            simp [qz, qk, List.drop_drop]
          · have n2 : l.length < qz true + vl l 24 (qk true) := by show l.length < 32 + vl l 24 8; omega
            refine rreqt_d h m hm ⟨h0, h1⟩ hx _ _ _ _ _ rfl rfl rfl rfl rfl (by have := vlb h.row.lt 4 2; simpa using this) (by have := vlb h.row.lt 6 2; simpa using this) (by have := vlb h.row.lt 8 8; simpa using this) (by have := vlb h.row.lt 16 8; simpa using this) (by have := vlb h.row.lt 24 8; simpa using this) y hy (by have h9 := hp; unfold payB at h9; rw [if_pos rfl, hy] at h9; exact h9) (by omega) (fun e => h2 e.2) ?_
            unfold cutOf reqD
            rw [if_neg n0, if_neg n1, if_neg hx', if_neg hp', if_neg hmk', if_pos n2]
            simp
    · have hx' : vl l 0 4 ≠ qm true := hx
      refine rreqt_b h m hm ⟨h0, h1⟩ (by simp; omega) ?_
      unfold cutOf reqD
      rw [if_neg n0, if_neg n1, if_pos hx']
      simp
  · refine rreqt_a h m hm hs ?_
    unfold cutOf reqD
    by_cases h0 : 0 < ov
    · simp [h0]
    · have n1 : l.length < qz true := by show l.length < 32; omega
      rw [if_neg h0, if_pos n1]
      simp
theorem optR {w : World} {B b : Nat} {v : Value} {rm ov : Nat} {l : List Nat} (h : RIn w B b v rm ov l) (m : Nat) (hm : m < 4294967296) : Calls Try.prog 43 #[.pointer (some ⟨b, 0, none⟩), .int .u32 (m : Int)] w fun e w' => ∃ (x0 x1 : Nat) (lg : Bool) (d : List Nat) (dn cu ov' : Nat) (l' : List Nat) (v' : Value) (ao2 : Option Addr) (cap2 : Nat), e = .returned (.tuple #[.agg #[.int .u32 (x0 : Int), .int .u32 (x1 : Int), .bool lg, .slice ao2 dn cap2], .int .i64 (cu : Int)]) ∧ optC m ov l = ((x0, x1, lg, d), cu, ov', l') ∧ d.length = dn ∧ RIn w' B b v' rm ov' l' ∧ RAct w w' b v v' ∧ w'.ownsRow w.heap.size 5 1 (.slice ao2 dn cap2) dn (d.map bv) ∧ ∀ g, (Value.slice ao2 dn cap2).ownBlock = some g → v'.ownBlock ≠ some g := by
  by_cases hs : ov = 0 ∧ 16 ≤ l.length
  · obtain ⟨h0, h1⟩ := hs
    have n1 : ¬ l.length < 16 := by omega
    have n0 : ¬ 0 < ov := by omega
    by_cases hx : vl l 0 8 = 5280542401877725268
    · have hx' : ¬ vl l 0 8 ≠ mHave := fun e => e hx
      by_cases hmk : m < vl l 12 4
      · have hld : (l.drop 16).length = l.length - 16 := by simp
        by_cases hR : vl l 12 4 < (l.drop 16).length
        · refine ropt_f h m hm ⟨h0, h1⟩ hx _ _ rfl rfl (by have := vlb h.row.lt 8 4; simpa using this) (by have := vlb h.row.lt 12 4; simpa using this) (by omega) _ rfl (by omega) ?_
          have e1 : min (l.drop 16).length (vl l 12 4) = vl l 12 4 := by omega
          unfold optC cutOf optF optD
          simp only [if_neg n0, if_neg n1, if_neg hx', if_pos hmk, if_true, e1]
          simp
        · refine ropt_c h m hm ⟨h0, h1⟩ hx _ _ rfl rfl (by have := vlb h.row.lt 8 4; simpa using this) (by have := vlb h.row.lt 12 4; simpa using this) (by omega) _ rfl (by omega) ?_
          have e1 : min (l.drop 16).length (vl l 12 4) = (l.drop 16).length := by omega
          unfold optC cutOf optF optD
          simp only [if_neg n0, if_neg n1, if_neg hx', if_pos hmk, if_true, e1]
      · by_cases h2 : 16 + vl l 12 4 ≤ l.length
        · have n2 : ¬ l.length < 16 + vl l 12 4 := by omega
          refine ropt_e h m hm ⟨h0, h1⟩ hx _ _ rfl rfl (by have := vlb h.row.lt 8 4; simpa using this) (by have := vlb h.row.lt 12 4; simpa using this) (by omega) ⟨h0, h2⟩ ?_
          unfold optC cutOf optF optD
          simp [n0, n1, hx', hmk, n2, List.drop_drop]
        · have n2 : l.length < 16 + vl l 12 4 := by omega
          refine ropt_d h m hm ⟨h0, h1⟩ hx _ _ rfl rfl (by have := vlb h.row.lt 8 4; simpa using this) (by have := vlb h.row.lt 12 4; simpa using this) (by omega) (fun e => h2 e.2) ?_
          unfold optC cutOf optF optD
          simp [n0, n1, hx', hmk, n2]
    · have hx' : vl l 0 8 ≠ mHave := hx
      refine ropt_b h m hm ⟨h0, h1⟩ (by simp; omega) ?_
      unfold optC cutOf optF optD
      simp [n0, n1, hx']
  · refine ropt_a h m hm hs ?_
    unfold optC cutOf optF optD
    by_cases h0 : 0 < ov
    · simp [h0]
    · have n1 : l.length < 16 := by omega
      simp [h0, n1]
theorem xzs_true (l : List Nat) (hl : 134 ≤ l.length) : xzs true l = true ↔ ∀ j (hj : j < l.length), 10 ≤ j → j < 134 → l[j] = 0 := by
  unfold xzs xz
  rw [if_pos rfl, List.all_eq_true]
  constructor
  · intro h j hj h1 h2
    have hm : l[j] ∈ (l.take 134).drop 10 := by
      rw [List.mem_iff_getElem]
      refine ⟨j - 10, by rw [List.length_drop, List.length_take]; omega, ?_⟩
      rw [List.getElem_drop, List.getElem_take]
      congr 1; omega
    simpa using h _ hm
  · intro h x hx
    obtain ⟨i, hi, rfl⟩ := List.mem_iff_getElem.1 hx
    rw [List.length_drop, List.length_take] at hi
    rw [List.getElem_drop, List.getElem_take]
    simpa using h (10 + i) (by omega) (by omega) (by omega)
theorem expR {w : World} {B b : Nat} {v : Value} {rm ov : Nat} {l : List Nat} (h : RIn w B b v rm ov l) (z : Bool) : Calls Try.prog 45 #[.pointer (some ⟨b, 0, none⟩), .bool z] w fun e w' => ∃ (x0 : Nat) (x1 : Nat) (cu : Nat) (l' : List Nat) (v' : Value), e = .returned (.tuple #[.agg #[.int .u64 (x0 : Int), .int .u16 (x1 : Int)], .int .i64 (cu : Int)]) ∧ cutOf (0, 0) ov l (expD z l) = ((x0, x1), cu, l') ∧ RIn w' B b v' rm ov l' ∧ RAct w w' b v v' := by
  cases z
  · by_cases hs : ov = 0 ∧ 10 ≤ l.length
    · have n1 : ¬ l.length < xz false := by show ¬ l.length < 10; omega
      have n0 : ¬ 0 < ov := by omega
      have hz : ¬ xzs false l = false := by unfold xzs xz; simp
      refine rexpf_d h hs _ _ rfl rfl (by have := vlb h.row.lt 0 8; simpa using this) (by have := vlb h.row.lt 8 2; simpa using this) ?_
      unfold cutOf expD
      rw [if_neg n0, if_neg n1, if_neg hz]
      simp [xz]
    · refine rexpf_a h hs ?_
      unfold cutOf expD
      by_cases h0 : 0 < ov
      · simp [h0]
      · have n1 : l.length < xz false := by show l.length < 10; omega
        rw [if_neg h0, if_pos n1]; simp
  · by_cases hs : ov = 0 ∧ 134 ≤ l.length
    · have n1 : ¬ l.length < xz true := by show ¬ l.length < 134; omega
      have n0 : ¬ 0 < ov := by omega
      refine rexpt_d h hs _ _ rfl rfl (by have := vlb h.row.lt 0 8; simpa using this) (by have := vlb h.row.lt 8 2; simpa using this) (fun i hi h1 h2 h3 => ?_) (fun hz => ?_) trivial
      · have hz : xzs true l = false := by
          cases hc : xzs true l
          · rfl
          · exact absurd ((xzs_true l hs.2).1 hc i hi h1 h2) h3
        unfold cutOf expD
        rw [if_neg n0, if_neg n1, if_pos hz]; simp
      · have hz' : ¬ xzs true l = false := by rw [(xzs_true l hs.2).2 hz]; simp
        unfold cutOf expD
        rw [if_neg n0, if_neg n1, if_neg hz']
        simp [xz]
    · refine rexpt_a h hs ?_
      unfold cutOf expD
      by_cases h0 : 0 < ov
      · simp [h0]
      · have n1 : l.length < xz true := by show l.length < 134; omega
        rw [if_neg h0, if_pos n1]; simp
end Go.Proofs.Ytckfmpoddmccfaa
namespace Go.Proofs.Ytckfmpoddmccfaa
open Go.RowKit
set_option linter.unusedVariables false
set_option linter.unusedSimpArgs false
set_option maxRecDepth 100000
def CgR (w : World) (B b : Nat) (v : Value) (rm : Nat) (x : (Nat × Nat × Nat × Nat × Nat × Nat × Nat × Nat × Nat × List Nat) × Nat × List Nat) (e : Ending) (w' : World) : Prop :=
  ∃ (cu n0 n1 n2 n3 n4 n5 n6 n7 : Nat) (d : List Nat) (ov' : Nat) (l' : List Nat) (v' : Value) (ao2 : Option Addr) (cap2 : Nat), e = .returned (.agg #[.int .i64 (cu : Int), .int .u64 (n0 : Int), .int .u64 (n1 : Int), .int .u64 (n2 : Int), .int .u64 (n3 : Int), .int .u64 (n4 : Int), .int .u64 (n5 : Int), .int .u64 (n6 : Int), .int .u64 (n7 : Int), .slice ao2 d.length cap2]) ∧ x = ((cu, n0, n1, n2, n3, n4, n5, n6, n7, d), ov', l') ∧ RIn w' B b v' rm ov' l' ∧ RAct w w' b v v' ∧ w'.ownsRow w.heap.size 5 1 (.slice ao2 d.length cap2) d.length (d.map bv) ∧ ∀ g, (Value.slice ao2 d.length cap2).ownBlock = some g → v'.ownBlock ≠ some g
theorem greV {w : World} {B b : Nat} {v : Value} {rm ov : Nat} {l : List Nat} (h : RIn w B b v rm ov l) : Calls Try.prog 41 #[.pointer (some ⟨b, 0, none⟩)] w fun e w' => ∃ (f : Nat) (cu : Nat) (l' : List Nat) (v' : Value) (ao2 : Option Addr) (cap2 : Nat), e = .returned (.tuple #[.agg #[.int .u16 (f : Int)], .int .i64 (cu : Int)]) ∧ cutOf 0 ov l (greD l) = (f, cu, l') ∧ RIn w' B b v' rm ov l' ∧ RAct w w' b v v' ∧ w'.ownsRow w.heap.size 5 1 (.slice ao2 ([] : List Nat).length cap2) ([] : List Nat).length (([] : List Nat).map bv) ∧ ∀ g, (Value.slice ao2 ([] : List Nat).length cap2).ownBlock = some g → v'.ownBlock ≠ some g := by
  refine (greR h).mono ?_
  rintro e w' ⟨f, cu, l', v', rfl, h1, h2, h3⟩
  exact ⟨f, cu, l', v', none, 0, rfl, h1, h2, h3, World.ownsRow_nil _ _ _ _, by simp [Value.ownBlock]⟩
theorem flaV {w : World} {B b : Nat} {v : Value} {rm ov : Nat} {l : List Nat} (h : RIn w B b v rm ov l) : Calls Try.prog 42 #[.pointer (some ⟨b, 0, none⟩)] w fun e w' => ∃ (f cu : Nat) (l' : List Nat) (v' : Value), e = .returned (.tuple #[.int .u32 (f : Int), .int .i64 (cu : Int)]) ∧ cutOf 0 ov l (flaD l) = (f, cu, l') ∧ RIn w' B b v' rm ov l' ∧ RAct w w' b v v' := by
  exact flaR h
theorem expV {w : World} {B b : Nat} {v : Value} {rm ov : Nat} {l : List Nat} (h : RIn w B b v rm ov l) (z : Bool) : Calls Try.prog 45 #[.pointer (some ⟨b, 0, none⟩), .bool z] w fun e w' => ∃ (s f : Nat) (cu : Nat) (l' : List Nat) (v' : Value) (ao2 : Option Addr) (cap2 : Nat), e = .returned (.tuple #[.agg #[.int .u64 (s : Int), .int .u16 (f : Int)], .int .i64 (cu : Int)]) ∧ cutOf (0, 0) ov l (expD z l) = ((s, f), cu, l') ∧ RIn w' B b v' rm ov l' ∧ RAct w w' b v v' ∧ w'.ownsRow w.heap.size 5 1 (.slice ao2 ([] : List Nat).length cap2) ([] : List Nat).length (([] : List Nat).map bv) ∧ ∀ g, (Value.slice ao2 ([] : List Nat).length cap2).ownBlock = some g → v'.ownBlock ≠ some g := by
  refine (expR h z).mono ?_
  rintro e w' ⟨s, f, cu, l', v', rfl, h1, h2, h3⟩
  exact ⟨s, f, cu, l', v', none, 0, rfl, h1, h2, h3, World.ownsRow_nil _ _ _ _, by simp [Value.ownBlock]⟩
theorem repV {w : World} {B b : Nat} {v : Value} {rm ov : Nat} {l : List Nat} (h : RIn w B b v rm ov l) (m : Nat) (hm : m < 4294967296) : Calls Try.prog 44 #[.pointer (some ⟨b, 0, none⟩), .int .u32 (m : Int)] w fun e w' => ∃ (o k : Nat) (d : List Nat) (cu : Nat) (l' : List Nat) (v' : Value) (ao2 : Option Addr) (cap2 : Nat), e = .returned (.tuple #[.agg #[.int .u32 (o : Int), .int .u32 (k : Int), .slice ao2 d.length cap2], .int .i64 (cu : Int)]) ∧ cutOf (0, 0, []) ov l (repD m l) = ((o, k, d), cu, l') ∧ RIn w' B b v' rm ov l' ∧ RAct w w' b v v' ∧ w'.ownsRow w.heap.size 5 1 (.slice ao2 d.length cap2) d.length (d.map bv) ∧ ∀ g, (Value.slice ao2 d.length cap2).ownBlock = some g → v'.ownBlock ≠ some g := by
  refine (repR h m hm).mono ?_
  rintro e w' ⟨x0, x1, d, dn, cu, l', v', ao2, cap2, rfl, h1, rfl, h2, h3, h4, h5⟩
  exact ⟨x0, x1, d, cu, l', v', ao2, cap2, rfl, h1, h2, h3, h4, h5⟩
theorem optV {w : World} {B b : Nat} {v : Value} {rm ov : Nat} {l : List Nat} (h : RIn w B b v rm ov l) (m : Nat) (hm : m < 4294967296) : Calls Try.prog 43 #[.pointer (some ⟨b, 0, none⟩), .int .u32 (m : Int)] w fun e w' => ∃ (c k : Nat) (lg : Bool) (d : List Nat) (cu ov' : Nat) (l' : List Nat) (v' : Value) (ao2 : Option Addr) (cap2 : Nat), e = .returned (.tuple #[.agg #[.int .u32 (c : Int), .int .u32 (k : Int), .bool lg, .slice ao2 d.length cap2], .int .i64 (cu : Int)]) ∧ optC m ov l = ((c, k, lg, d), cu, ov', l') ∧ RIn w' B b v' rm ov' l' ∧ RAct w w' b v v' ∧ w'.ownsRow w.heap.size 5 1 (.slice ao2 d.length cap2) d.length (d.map bv) ∧ ∀ g, (Value.slice ao2 d.length cap2).ownBlock = some g → v'.ownBlock ≠ some g := by
  refine (optR h m hm).mono ?_
  rintro e w' ⟨x0, x1, lg, d, dn, cu, ov', l', v', ao2, cap2, rfl, h1, rfl, h2, h3, h4, h5⟩
  exact ⟨x0, x1, lg, d, cu, ov', l', v', ao2, cap2, rfl, h1, h2, h3, h4, h5⟩
theorem reqV {w : World} {B b : Nat} {v : Value} {rm ov : Nat} {l : List Nat} (h : RIn w B b v rm ov l) (m : Nat) (x : Bool) (hm : m < 4294967296) : Calls Try.prog 46 #[.pointer (some ⟨b, 0, none⟩), .int .u32 (m : Int), .bool x] w fun e w' => ∃ (f t c o k : Nat) (d : List Nat) (cu : Nat) (l' : List Nat) (v' : Value) (ao2 : Option Addr) (cap2 : Nat), e = .returned (.tuple #[.agg #[.int .u16 (f : Int), .int .u16 (t : Int), .int .u64 (c : Int), .int .u64 (o : Int), .int .u64 (k : Int), .slice ao2 d.length cap2], .int .i64 (cu : Int)]) ∧ cutOf (0, 0, 0, 0, 0, []) ov l (reqD m x l) = ((f, t, c, o, k, d), cu, l') ∧ RIn w' B b v' rm ov l' ∧ RAct w w' b v v' ∧ w'.ownsRow w.heap.size 5 1 (.slice ao2 d.length cap2) d.length (d.map bv) ∧ ∀ g, (Value.slice ao2 d.length cap2).ownBlock = some g → v'.ownBlock ≠ some g := by
  cases x
  · refine (reqRf h m hm).mono ?_
    rintro e w' ⟨x0, x1, x2, x3, x4, d, dn, cu, l', v', ao2, cap2, rfl, h1, rfl, h2, h3, h4, h5⟩
    exact ⟨x0, x1, x2, x3, x4, d, cu, l', v', ao2, cap2, rfl, h1, h2, h3, h4, h5⟩
  · refine (reqRt h m hm).mono ?_
    rintro e w' ⟨x0, x1, x2, x3, x4, d, dn, cu, l', v', ao2, cap2, rfl, h1, rfl, h2, h3, h4, h5⟩
    exact ⟨x0, x1, x2, x3, x4, d, cu, l', v', ao2, cap2, rfl, h1, h2, h3, h4, h5⟩
theorem ansV {w : World} {B b : Nat} {v : Value} {rm ov : Nat} {l : List Nat} (h : RIn w B b v rm ov l) (m : Nat) (x : Bool) (hm : m < 4294967296) : Calls Try.prog 47 #[.pointer (some ⟨b, 0, none⟩), .int .u32 (m : Int), .bool x] w fun e w' => ∃ (st : Bool) (sc sk f t c o : Nat) (d : List Nat) (cu : Nat) (l' : List Nat) (v' : Value) (ao2 : Option Addr) (cap2 : Nat), e = .returned (.tuple #[.agg #[.bool st, .int .u32 (sc : Int), .int .u64 (sk : Int), .int .u16 (f : Int), .int .u16 (t : Int), .int .u64 (c : Int), .int .u64 (o : Int), .slice ao2 d.length cap2], .int .i64 (cu : Int)]) ∧ cutOf (false, 0, 0, 0, 0, 0, 0, []) ov l (ansD m x l) = ((st, sc, sk, f, t, c, o, d), cu, l') ∧ RIn w' B b v' rm ov l' ∧ RAct w w' b v v' ∧ w'.ownsRow w.heap.size 5 1 (.slice ao2 d.length cap2) d.length (d.map bv) ∧ ∀ g, (Value.slice ao2 d.length cap2).ownBlock = some g → v'.ownBlock ≠ some g := by
  cases x
  · refine (ansRf h m hm).mono ?_
    rintro e w' ⟨st, x1, x2, x3, x4, x5, x6, d, dn, cu, l', v', ao2, cap2, rfl, h1, rfl, h2, h3, h4, h5⟩
    exact ⟨st, x1, x2, x3, x4, x5, x6, d, cu, l', v', ao2, cap2, rfl, h1, h2, h3, h4, h5⟩
  · refine (ansRt h m hm).mono ?_
    rintro e w' ⟨st, x1, x2, x3, x4, x5, x6, d, dn, cu, l', v', ao2, cap2, rfl, h1, rfl, h2, h3, h4, h5⟩
    exact ⟨st, x1, x2, x3, x4, x5, x6, d, cu, l', v', ao2, cap2, rfl, h1, h2, h3, h4, h5⟩
theorem datV {w : World} {B b : Nat} {v : Value} {rm ov : Nat} {l : List Nat} (h : RIn w B b v rm ov l) (a : Int) : Calls Try.prog 48 #[.pointer (some ⟨b, 0, none⟩), .int .i64 a] w fun e w' => ∃ (d : List Nat) (cu : Nat) (l' : List Nat) (v' : Value) (ao2 : Option Addr) (cap2 : Nat), e = .returned (.tuple #[.slice ao2 d.length cap2, .int .i64 (cu : Int)]) ∧ cutOf [] ov l (datD a l) = (d, cu, l') ∧ RIn w' B b v' rm ov l' ∧ RAct w w' b v v' ∧ w'.ownsRow w.heap.size 5 1 (.slice ao2 d.length cap2) d.length (d.map bv) ∧ ∀ g, (Value.slice ao2 d.length cap2).ownBlock = some g → v'.ownBlock ≠ some g := by
  refine (datR h a).mono ?_
  rintro e w' ⟨d, dn, cu, l', v', ao2, cap2, rfl, h1, rfl, h2, h3, h4, h5⟩
  exact ⟨d, cu, l', v', ao2, cap2, rfl, h1, h2, h3, h4, h5⟩
end Go.Proofs.Ytckfmpoddmccfaa
