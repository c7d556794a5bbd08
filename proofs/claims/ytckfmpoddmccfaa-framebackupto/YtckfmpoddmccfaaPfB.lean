import Derived.Test.YtckfmpoddmccfaaK1
import Derived.Deep.DeepCutAuto
import Derived.Deep.CutRange
import Derived.Test.YtckfmpoddmccfaaFB
import Derived.Test.YtckfmpoddmccfaaRows
namespace Go.Proofs.Ytckfmpoddmccfaa
open Go.RowKit
set_option linter.unusedVariables false
set_option linter.unusedSimpArgs false
set_option maxRecDepth 100000
theorem brow_own {W : World} {B : Nat} {ao : Option Addr} {cap n : Nat} {l : List Nat} (h : W.ownsRow B 5 1 (.slice ao n cap) n (l.map bv)) (hn : l.length = n) (hlt : ∀ x ∈ l, x < 256) (hl : l.length ≤ 140737488351232) : BRow W ao cap l := by
  subst hn
  obtain ⟨ao', cap', hv, hb⟩ := BRow.own h hlt hl
  simp only [Value.slice.injEq] at hv
  obtain ⟨rfl, _, rfl⟩ := hv
  exact hb
theorem same30 {ao bo : Option Addr} {cap cap' : Nat} {l : List Nat} {w : World} (h : BRow w ao cap l) (h' : BRow w bo cap' l) {n k : Nat} (hn : l.length = n) (hk : l.length = k) :
    Calls Try.prog 30 #[.slice ao n cap, .slice bo k cap'] w fun e w' => e = .returned (.bool true) ∧ ∃ q, w' = w.drewN q := by
  have h1 := same_any ao bo cap cap' l l w h h'
  rw [hn] at h1
  rw [← hn, hk] at *
  refine h1.mono ?_
  rintro e w' ⟨rfl, q, rfl⟩
  exact ⟨by simp, q, rfl⟩
theorem eqSim66 (a b : Int) (w : World) : (binOp .eql 66 (.agg #[.int .u32 a, .int .u64 b]) (.agg #[.int .u32 a, .int .u64 b])).run Try.prog w = .ok (.bool true) w := by
  have u3 := Try.underlying36
  have a3 := Try.isAgg36
  have z3 := Try.sizeOf36
  have u4 := Try.underlying30
  have a4 := Try.isAgg30
  have z4 := Try.sizeOf30
  have hS : Try.prog.underlying 66 = some (.struct (Try.prog.fieldsOf 66)) := by kernel_rfl
  have hp : Try.prog.stoodInHeld 66 = false := by kernel_rfl
  rw [run_eql_struct, show (10000 : Nat) = 9999 + 1 from rfl, run_equalIn_agg w 9999 66 _ _ hS hp]
  simp only [Program.fieldsOf, Try.underlying66]
  go_simp
theorem ifp_back {w w' : World} {b g : Nat} {v v' : Value} (h : IAct w w' b v v') (hg : g < w.heap.size) (k : ifp b v' g) : ifp b v g := by
  rcases k with k | k
  · exact .inl k
  · rcases h.fresh with e | ⟨g', e, h2⟩
    · exact .inr (e ▸ k)
    · rw [k] at e; simp at e; omega
theorem alB (w : World) (o : Obj) : Below w.heap.size w (w.alloc o) := (Below.refl _ _).alloc (Nat.le_refl _) _
theorem drB (w : World) (q : Nat) : Below w.heap.size w (w.drewN q) := ⟨rfl, rfl, rfl, Nat.le_refl _, fun _ _ => rfl⟩
set_option maxHeartbeats 8000000 in
theorem taken_1 (fl oc ol : Nat) (og : Bool) (oa : Option Addr) (on ocp qf qt qc qo ql : Nat) (qa : Option Addr) (qn qcp ro rk : Nat) (ra : Option Addr) (rn rcp cf ct cc co : Nat) (ca : Option Addr) (cn ccp sc sk : Nat) (da : Option Addr) (dn dcp : Nat) (wd : Bool) (w : World)  {B b : Nat} {v : Value} {rm : Nat} {rest : List Nat} (h : Inb w B b v rm 0 (bigTo fl 4 4 ++ rest)) (hBs : B ≤ w.heap.size) (hfl : fl < 4294967296) :
    Calls Try.prog 21 #[.pointer (some ⟨b, 0, none⟩), .agg #[.int .i64 1, .int .u32 fl, .int .u32 oc, .int .u32 ol, .bool og, .slice oa on ocp, .int .u16 qf, .int .u16 qt, .int .u64 qc, .int .u64 qo, .int .u64 ql, .slice qa qn qcp, .int .u32 ro, .int .u32 rk, .slice ra rn rcp, .int .u16 cf, .int .u16 ct, .int .u64 cc, .int .u64 co, .slice ca cn ccp, .int .u32 sc, .int .u64 sk, .slice da dn dcp, .bool wd], .int .u32 4294967295] w fun e w' => e = .returned (.bool true) ∧ ∃ v', Inb w' B b v' rm 0 rest ∧ IAct w w' b v v' := by
  have HNb : Hid (¬ ifp b v w.heap.size) := fun e => by have := (h.lt _ e).2; omega
  have HI : Hid _ := h
  clear h
  go_enter Try.func21, Try.ntmps21
  go_wp2_with fail
  have hx0 : (w.alloc (.cells #[.int .i64 1, .int .u32 fl, .int .u32 oc, .int .u32 ol, .bool og, .slice oa on ocp, .int .u16 qf, .int .u16 qt, .int .u64 qc, .int .u64 qo, .int .u64 ql, .slice qa qn qcp, .int .u32 ro, .int .u32 rk, .slice ra rn rcp, .int .u16 cf, .int .u16 ct, .int .u64 cc, .int .u64 co, .slice ca cn ccp, .int .u32 sc, .int .u64 sk, .slice da dn dcp, .bool wd] 68)).heap[w.heap.size]? = some (.cells #[.int .i64 1, .int .u32 fl, .int .u32 oc, .int .u32 ol, .bool og, .slice oa on ocp, .int .u16 qf, .int .u16 qt, .int .u64 qc, .int .u64 qo, .int .u64 ql, .slice qa qn qcp, .int .u32 ro, .int .u32 rk, .slice ra rn rcp, .int .u16 cf, .int .u16 ct, .int .u64 cc, .int .u64 co, .slice ca cn ccp, .int .u32 sc, .int .u64 sk, .slice da dn dcp, .bool wd] 68 (0, 0)) := heap_new w _
  have hb0 : Below w.heap.size w (w.alloc (.cells #[.int .i64 1, .int .u32 fl, .int .u32 oc, .int .u32 ol, .bool og, .slice oa on ocp, .int .u16 qf, .int .u16 qt, .int .u64 qc, .int .u64 qo, .int .u64 ql, .slice qa qn qcp, .int .u32 ro, .int .u32 rk, .slice ra rn rcp, .int .u16 cf, .int .u16 ct, .int .u64 cc, .int .u64 co, .slice ca cn ccp, .int .u32 sc, .int .u64 sk, .slice da dn dcp, .bool wd] 68)) := (Below.refl _ _).alloc (Nat.le_refl _) _
  have hi0 := HI.out.later hb0
  have ha0 : IAct w (w.alloc (.cells #[.int .i64 1, .int .u32 fl, .int .u32 oc, .int .u32 ol, .bool og, .slice oa on ocp, .int .u16 qf, .int .u16 qt, .int .u64 qc, .int .u64 qo, .int .u64 ql, .slice qa qn qcp, .int .u32 ro, .int .u32 rk, .slice ra rn rcp, .int .u16 cf, .int .u16 ct, .int .u64 cc, .int .u64 co, .slice ca cn ccp, .int .u32 sc, .int .u64 sk, .slice da dn dcp, .bool wd] 68)) b v v := IAct.ofBelow hb0
  have hB0 : Below B w (w.alloc (.cells #[.int .i64 1, .int .u32 fl, .int .u32 oc, .int .u32 ol, .bool og, .slice oa on ocp, .int .u16 qf, .int .u16 qt, .int .u64 qc, .int .u64 qo, .int .u64 ql, .slice qa qn qcp, .int .u32 ro, .int .u32 rk, .slice ra rn rcp, .int .u16 cf, .int .u16 ct, .int .u64 cc, .int .u64 co, .slice ca cn ccp, .int .u32 sc, .int .u64 sk, .slice da dn dcp, .bool wd] 68)) := hb0.mono hBs
  generalize (w.alloc (.cells #[.int .i64 1, .int .u32 fl, .int .u32 oc, .int .u32 ol, .bool og, .slice oa on ocp, .int .u16 qf, .int .u16 qt, .int .u64 qc, .int .u64 qo, .int .u64 ql, .slice qa qn qcp, .int .u32 ro, .int .u32 rk, .slice ra rn rcp, .int .u16 cf, .int .u16 ct, .int .u64 cc, .int .u64 co, .slice ca cn ccp, .int .u32 sc, .int .u64 sk, .slice da dn dcp, .bool wd] 68)) = W0 at *
  refine Calls.mono (flagsT fl hi0 hfl) ?_
  rintro e w1 ⟨rfl, v1, hi1, ha1⟩
  have hx1 : w1.heap[w.heap.size]? = some (.cells #[.int .i64 1, .int .u32 fl, .int .u32 oc, .int .u32 ol, .bool og, .slice oa on ocp, .int .u16 qf, .int .u16 qt, .int .u64 qc, .int .u64 qo, .int .u64 ql, .slice qa qn qcp, .int .u32 ro, .int .u32 rk, .slice ra rn rcp, .int .u16 cf, .int .u16 ct, .int .u64 cc, .int .u64 co, .slice ca cn ccp, .int .u32 sc, .int .u64 sk, .slice da dn dcp, .bool wd] 68 (0, 0)) := (ha1.kept.block _ (block_lt hx0) HNb.out).trans hx0
  have hB1 : Below B w w1 := hB0.trans (ha1.below hi0)
  have H1 : Hid (Inb w1 B b v1 rm 0 rest ∧ IAct w w1 b v v1 ∧ Below B w w1 ∧ B ≤ w1.heap.size) := ⟨hi1, ha0.trans ha1, hB1, Nat.le_trans hBs hB1.size⟩
  have HF : Hid (Inb w1 B b v1 rm 0 rest ∧ IAct w w1 b v v1) := ⟨H1.out.1, H1.out.2.1⟩
  have c1 : w1.cell? ⟨w.heap.size, 1, none⟩ = some (.int .u32 (fl : Int)) := (blk_at hx1 1).trans rfl
  clear hi0 ha0 hB0 hx0 hb0 hi1 ha1 hx1 hB1 H1 HI
  go_wp2
  go_ret
  exact ⟨rfl, v1, HF.out.1, HF.out.2⟩
set_option maxHeartbeats 8000000 in
theorem taken_6 (fl oc ol : Nat) (og : Bool) (oa : Option Addr) (on ocp qf qt qc qo ql : Nat) (qa : Option Addr) (qn qcp ro rk : Nat) (ra : Option Addr) (rn rcp cf ct cc co : Nat) (ca : Option Addr) (cn ccp sc sk : Nat) (da : Option Addr) (dn dcp : Nat) (wd : Bool) (w : World)  {B b : Nat} {v : Value} {rm : Nat} {rest : List Nat} (h : Inb w B b v rm 0 (gL (fl % 65536) ++ rest)) (hBs : B ≤ w.heap.size) (hfl : fl < 4294967296) :
    Calls Try.prog 21 #[.pointer (some ⟨b, 0, none⟩), .agg #[.int .i64 6, .int .u32 fl, .int .u32 oc, .int .u32 ol, .bool og, .slice oa on ocp, .int .u16 qf, .int .u16 qt, .int .u64 qc, .int .u64 qo, .int .u64 ql, .slice qa qn qcp, .int .u32 ro, .int .u32 rk, .slice ra rn rcp, .int .u16 cf, .int .u16 ct, .int .u64 cc, .int .u64 co, .slice ca cn ccp, .int .u32 sc, .int .u64 sk, .slice da dn dcp, .bool wd], .int .u32 4294967295] w fun e w' => e = .returned (.bool true) ∧ ∃ v', Inb w' B b v' rm 0 rest ∧ IAct w w' b v v' := by
  have HNb : Hid (¬ ifp b v w.heap.size) := fun e => by have := (h.lt _ e).2; omega
  have HI : Hid _ := h
  clear h
  go_enter Try.func21, Try.ntmps21
  go_wp2_with fail
  have hx0 : (w.alloc (.cells #[.int .i64 6, .int .u32 fl, .int .u32 oc, .int .u32 ol, .bool og, .slice oa on ocp, .int .u16 qf, .int .u16 qt, .int .u64 qc, .int .u64 qo, .int .u64 ql, .slice qa qn qcp, .int .u32 ro, .int .u32 rk, .slice ra rn rcp, .int .u16 cf, .int .u16 ct, .int .u64 cc, .int .u64 co, .slice ca cn ccp, .int .u32 sc, .int .u64 sk, .slice da dn dcp, .bool wd] 68)).heap[w.heap.size]? = some (.cells #[.int .i64 6, .int .u32 fl, .int .u32 oc, .int .u32 ol, .bool og, .slice oa on ocp, .int .u16 qf, .int .u16 qt, .int .u64 qc, .int .u64 qo, .int .u64 ql, .slice qa qn qcp, .int .u32 ro, .int .u32 rk, .slice ra rn rcp, .int .u16 cf, .int .u16 ct, .int .u64 cc, .int .u64 co, .slice ca cn ccp, .int .u32 sc, .int .u64 sk, .slice da dn dcp, .bool wd] 68 (0, 0)) := heap_new w _
  have hb0 : Below w.heap.size w (w.alloc (.cells #[.int .i64 6, .int .u32 fl, .int .u32 oc, .int .u32 ol, .bool og, .slice oa on ocp, .int .u16 qf, .int .u16 qt, .int .u64 qc, .int .u64 qo, .int .u64 ql, .slice qa qn qcp, .int .u32 ro, .int .u32 rk, .slice ra rn rcp, .int .u16 cf, .int .u16 ct, .int .u64 cc, .int .u64 co, .slice ca cn ccp, .int .u32 sc, .int .u64 sk, .slice da dn dcp, .bool wd] 68)) := (Below.refl _ _).alloc (Nat.le_refl _) _
  have hi0 := HI.out.later hb0
  have ha0 : IAct w (w.alloc (.cells #[.int .i64 6, .int .u32 fl, .int .u32 oc, .int .u32 ol, .bool og, .slice oa on ocp, .int .u16 qf, .int .u16 qt, .int .u64 qc, .int .u64 qo, .int .u64 ql, .slice qa qn qcp, .int .u32 ro, .int .u32 rk, .slice ra rn rcp, .int .u16 cf, .int .u16 ct, .int .u64 cc, .int .u64 co, .slice ca cn ccp, .int .u32 sc, .int .u64 sk, .slice da dn dcp, .bool wd] 68)) b v v := IAct.ofBelow hb0
  have hB0 : Below B w (w.alloc (.cells #[.int .i64 6, .int .u32 fl, .int .u32 oc, .int .u32 ol, .bool og, .slice oa on ocp, .int .u16 qf, .int .u16 qt, .int .u64 qc, .int .u64 qo, .int .u64 ql, .slice qa qn qcp, .int .u32 ro, .int .u32 rk, .slice ra rn rcp, .int .u16 cf, .int .u16 ct, .int .u64 cc, .int .u64 co, .slice ca cn ccp, .int .u32 sc, .int .u64 sk, .slice da dn dcp, .bool wd] 68)) := hb0.mono hBs
  generalize (w.alloc (.cells #[.int .i64 6, .int .u32 fl, .int .u32 oc, .int .u32 ol, .bool og, .slice oa on ocp, .int .u16 qf, .int .u16 qt, .int .u64 qc, .int .u64 qo, .int .u64 ql, .slice qa qn qcp, .int .u32 ro, .int .u32 rk, .slice ra rn rcp, .int .u16 cf, .int .u16 ct, .int .u64 cc, .int .u64 co, .slice ca cn ccp, .int .u32 sc, .int .u64 sk, .slice da dn dcp, .bool wd] 68)) = W0 at *
  refine Calls.mono (greetingT (fl % 65536) hi0 (by omega)) ?_
  rintro e w1 ⟨rfl, v1, hi1, ha1⟩
  have hx1 : w1.heap[w.heap.size]? = some (.cells #[.int .i64 6, .int .u32 fl, .int .u32 oc, .int .u32 ol, .bool og, .slice oa on ocp, .int .u16 qf, .int .u16 qt, .int .u64 qc, .int .u64 qo, .int .u64 ql, .slice qa qn qcp, .int .u32 ro, .int .u32 rk, .slice ra rn rcp, .int .u16 cf, .int .u16 ct, .int .u64 cc, .int .u64 co, .slice ca cn ccp, .int .u32 sc, .int .u64 sk, .slice da dn dcp, .bool wd] 68 (0, 0)) := (ha1.kept.block _ (block_lt hx0) HNb.out).trans hx0
  have hB1 : Below B w w1 := hB0.trans (ha1.below hi0)
  have H1 : Hid (Inb w1 B b v1 rm 0 rest ∧ IAct w w1 b v v1 ∧ Below B w w1 ∧ B ≤ w1.heap.size) := ⟨hi1, ha0.trans ha1, hB1, Nat.le_trans hBs hB1.size⟩
  have q1 : ∀ o : Obj, (w1.alloc o).cell? ⟨w.heap.size, 1, none⟩ = some (.int .u32 (fl : Int)) := fun o => cell_later ((Below.refl _ _).alloc (Nat.le_refl _) _) ((blk_at hx1 1).trans rfl)
  have HF : Hid (∀ o : Obj, Inb (w1.alloc o) B b v1 rm 0 rest ∧ IAct w (w1.alloc o) b v v1) := fun o => ⟨H1.out.1.later (alB w1 o), H1.out.2.1.trans (IAct.ofBelow (alB w1 o))⟩
  have hcv : IntKind.u16.wrap (fl : Int) = ((fl % 65536 : Nat) : Int) := by rw [IntKind.wrap_u16]; omega
  have hcm : ((fl % 65536 : Nat) : Int) = (fl : Int) % 65536 := by omega
  clear hi0 ha0 hB0 hx0 hb0 hi1 ha1 hx1 hB1 H1 HI
  go_wp2
  go_ret
  exact ⟨by simp, v1, (HF.out _).1, (HF.out _).2⟩
set_option maxHeartbeats 8000000 in
theorem taken_2 (fl oc ol : Nat) (og : Bool) (oa : Option Addr) (on ocp qf qt qc qo ql : Nat) (qa : Option Addr) (qn qcp ro rk : Nat) (ra : Option Addr) (rn rcp cf ct cc co : Nat) (ca : Option Addr) (cn ccp sc sk : Nat) (da : Option Addr) (dn dcp : Nat) (wd : Bool) (w : World) (od : List Nat) {B b : Nat} {v : Value} {rm : Nat} {rest : List Nat} (h : Inb w B b v rm 0 (oL oc od ++ rest)) (hBs : B ≤ w.heap.size) (hoc : oc < 4294967296) (hlt : ∀ x ∈ od, x < 256) (hDr : ∀ W, Below B w W → BRow W oa ocp od) (hdn : od.length = on) (hl : on ≤ 1048576) :
    Calls Try.prog 21 #[.pointer (some ⟨b, 0, none⟩), .agg #[.int .i64 2, .int .u32 fl, .int .u32 oc, .int .u32 ol, .bool og, .slice oa on ocp, .int .u16 qf, .int .u16 qt, .int .u64 qc, .int .u64 qo, .int .u64 ql, .slice qa qn qcp, .int .u32 ro, .int .u32 rk, .slice ra rn rcp, .int .u16 cf, .int .u16 ct, .int .u64 cc, .int .u64 co, .slice ca cn ccp, .int .u32 sc, .int .u64 sk, .slice da dn dcp, .bool wd], .int .u32 4294967295] w fun e w' => e = .returned (.bool true) ∧ ∃ v', Inb w' B b v' rm 0 rest ∧ IAct w w' b v v' := by
  have HLt : Hid (∀ x ∈ od, x < 256) := hlt
  have HDr : Hid (∀ W, Below B w W → BRow W oa ocp od) := hDr
  have HDn : Hid (od.length = on) := hdn
  clear hlt hDr hdn
  have HNb : Hid (¬ ifp b v w.heap.size) := fun e => by have := (h.lt _ e).2; omega
  have HI : Hid _ := h
  clear h
  go_enter Try.func21, Try.ntmps21
  go_wp2_with fail
  have hx0 : (w.alloc (.cells #[.int .i64 2, .int .u32 fl, .int .u32 oc, .int .u32 ol, .bool og, .slice oa on ocp, .int .u16 qf, .int .u16 qt, .int .u64 qc, .int .u64 qo, .int .u64 ql, .slice qa qn qcp, .int .u32 ro, .int .u32 rk, .slice ra rn rcp, .int .u16 cf, .int .u16 ct, .int .u64 cc, .int .u64 co, .slice ca cn ccp, .int .u32 sc, .int .u64 sk, .slice da dn dcp, .bool wd] 68)).heap[w.heap.size]? = some (.cells #[.int .i64 2, .int .u32 fl, .int .u32 oc, .int .u32 ol, .bool og, .slice oa on ocp, .int .u16 qf, .int .u16 qt, .int .u64 qc, .int .u64 qo, .int .u64 ql, .slice qa qn qcp, .int .u32 ro, .int .u32 rk, .slice ra rn rcp, .int .u16 cf, .int .u16 ct, .int .u64 cc, .int .u64 co, .slice ca cn ccp, .int .u32 sc, .int .u64 sk, .slice da dn dcp, .bool wd] 68 (0, 0)) := heap_new w _
  have hb0 : Below w.heap.size w (w.alloc (.cells #[.int .i64 2, .int .u32 fl, .int .u32 oc, .int .u32 ol, .bool og, .slice oa on ocp, .int .u16 qf, .int .u16 qt, .int .u64 qc, .int .u64 qo, .int .u64 ql, .slice qa qn qcp, .int .u32 ro, .int .u32 rk, .slice ra rn rcp, .int .u16 cf, .int .u16 ct, .int .u64 cc, .int .u64 co, .slice ca cn ccp, .int .u32 sc, .int .u64 sk, .slice da dn dcp, .bool wd] 68)) := (Below.refl _ _).alloc (Nat.le_refl _) _
  have hi0 := HI.out.later hb0
  have ha0 : IAct w (w.alloc (.cells #[.int .i64 2, .int .u32 fl, .int .u32 oc, .int .u32 ol, .bool og, .slice oa on ocp, .int .u16 qf, .int .u16 qt, .int .u64 qc, .int .u64 qo, .int .u64 ql, .slice qa qn qcp, .int .u32 ro, .int .u32 rk, .slice ra rn rcp, .int .u16 cf, .int .u16 ct, .int .u64 cc, .int .u64 co, .slice ca cn ccp, .int .u32 sc, .int .u64 sk, .slice da dn dcp, .bool wd] 68)) b v v := IAct.ofBelow hb0
  have hB0 : Below B w (w.alloc (.cells #[.int .i64 2, .int .u32 fl, .int .u32 oc, .int .u32 ol, .bool og, .slice oa on ocp, .int .u16 qf, .int .u16 qt, .int .u64 qc, .int .u64 qo, .int .u64 ql, .slice qa qn qcp, .int .u32 ro, .int .u32 rk, .slice ra rn rcp, .int .u16 cf, .int .u16 ct, .int .u64 cc, .int .u64 co, .slice ca cn ccp, .int .u32 sc, .int .u64 sk, .slice da dn dcp, .bool wd] 68)) := hb0.mono hBs
  generalize (w.alloc (.cells #[.int .i64 2, .int .u32 fl, .int .u32 oc, .int .u32 ol, .bool og, .slice oa on ocp, .int .u16 qf, .int .u16 qt, .int .u64 qc, .int .u64 qo, .int .u64 ql, .slice qa qn qcp, .int .u32 ro, .int .u32 rk, .slice ra rn rcp, .int .u16 cf, .int .u16 ct, .int .u64 cc, .int .u64 co, .slice ca cn ccp, .int .u32 sc, .int .u64 sk, .slice da dn dcp, .bool wd] 68)) = W0 at *
  refine Calls.mono (optionT oc od hi0 hoc (by rw [HDn.out]; omega)) ?_
  rintro e w1 ⟨ao2, cap2, rfl, v1, hi1, ha1, ho1, hn1⟩
  have hx1 : w1.heap[w.heap.size]? = some (.cells #[.int .i64 2, .int .u32 fl, .int .u32 oc, .int .u32 ol, .bool og, .slice oa on ocp, .int .u16 qf, .int .u16 qt, .int .u64 qc, .int .u64 qo, .int .u64 ql, .slice qa qn qcp, .int .u32 ro, .int .u32 rk, .slice ra rn rcp, .int .u16 cf, .int .u16 ct, .int .u64 cc, .int .u64 co, .slice ca cn ccp, .int .u32 sc, .int .u64 sk, .slice da dn dcp, .bool wd] 68 (0, 0)) := (ha1.kept.block _ (block_lt hx0) HNb.out).trans hx0
  have hB1 : Below B w w1 := hB0.trans (ha1.below hi0)
  have H1 : Hid (Inb w1 B b v1 rm 0 rest ∧ IAct w w1 b v v1 ∧ Below B w w1 ∧ B ≤ w1.heap.size) := ⟨hi1, ha0.trans ha1, hB1, Nat.le_trans hBs hB1.size⟩
  have hro : BRow w1 ao2 cap2 od := brow_own ho1 rfl HLt.out (by rw [HDn.out]; omega)
  have q2 : ∀ o : Obj, (w1.alloc o).cell? ⟨w.heap.size, 2, none⟩ = some (.int .u32 (oc : Int)) := fun o => cell_later ((Below.refl _ _).alloc (Nat.le_refl _) _) ((blk_at hx1 2).trans rfl)
  have q5 : ∀ o : Obj, (w1.alloc o).cell? ⟨w.heap.size, 5, none⟩ = some (.slice oa on ocp) := fun o => cell_later ((Below.refl _ _).alloc (Nat.le_refl _) _) ((blk_at hx1 5).trans rfl)
  clear hi0 ha0 hB0 hx0 hb0 hi1 ha1 hx1 hB1 HI ho1 hn1
  have H2 : Hid (Inb (w1.alloc (.cells #[.int .u32 (oc : Int), .int .u32 (od.length : Int), .bool false, .slice ao2 od.length cap2] 57)) B b v1 rm 0 rest ∧ IAct w (w1.alloc (.cells #[.int .u32 (oc : Int), .int .u32 (od.length : Int), .bool false, .slice ao2 od.length cap2] 57)) b v v1 ∧ BRow (w1.alloc (.cells #[.int .u32 (oc : Int), .int .u32 (od.length : Int), .bool false, .slice ao2 od.length cap2] 57)) ao2 cap2 od ∧ BRow (w1.alloc (.cells #[.int .u32 (oc : Int), .int .u32 (od.length : Int), .bool false, .slice ao2 od.length cap2] 57)) oa ocp od) := ⟨H1.out.1.later (alB w1 _), H1.out.2.1.trans (IAct.ofBelow (alB w1 _)), hro.later (alB w1 _), HDr.out _ (H1.out.2.2.1.trans ((alB w1 _).mono H1.out.2.2.2))⟩
  rw [HDn.out] at H2 ⊢
  clear hro H1 HDr
  have wc1 : IntKind.i64.wrap (on : Int) = (on : Int) := by rw [IntKind.wrap_i64]; omega
  go_wp2_with fail
  clear q2 q5
  generalize (w1.alloc (.cells #[.int .u32 (oc : Int), .int .u32 (on : Int), .bool false, .slice ao2 on cap2] 57)) = w2 at *
  refine Calls.mono (same30 H2.out.2.2.1 H2.out.2.2.2 HDn.out HDn.out) ?_
  rintro e w3 ⟨rfl, q, rfl⟩
  have HF : Hid (Inb (w2.drewN q) B b v1 rm 0 rest ∧ IAct w (w2.drewN q) b v v1) := ⟨H2.out.1.drewN q, H2.out.2.1.trans (IAct.drewN q)⟩
  clear H2
  go_wp2
  go_ret
  exact ⟨rfl, v1, HF.out.1, HF.out.2⟩
set_option maxHeartbeats 8000000 in
theorem taken_4 (fl oc ol : Nat) (og : Bool) (oa : Option Addr) (on ocp qf qt qc qo ql : Nat) (qa : Option Addr) (qn qcp ro rk : Nat) (ra : Option Addr) (rn rcp cf ct cc co : Nat) (ca : Option Addr) (cn ccp sc sk : Nat) (da : Option Addr) (dn dcp : Nat) (wd : Bool) (w : World) (rd : List Nat) {B b : Nat} {v : Value} {rm : Nat} {rest : List Nat} (h : Inb w B b v rm 0 (rL ro rk rd ++ rest)) (hBs : B ≤ w.heap.size) (hro1 : ro < 4294967296) (hrk1 : rk < 4294967296) (hlt : ∀ x ∈ rd, x < 256) (hDr : ∀ W, Below B w W → BRow W ra rcp rd) (hdn : rd.length = rn) (hl : rn ≤ 1048576) :
    Calls Try.prog 21 #[.pointer (some ⟨b, 0, none⟩), .agg #[.int .i64 4, .int .u32 fl, .int .u32 oc, .int .u32 ol, .bool og, .slice oa on ocp, .int .u16 qf, .int .u16 qt, .int .u64 qc, .int .u64 qo, .int .u64 ql, .slice qa qn qcp, .int .u32 ro, .int .u32 rk, .slice ra rn rcp, .int .u16 cf, .int .u16 ct, .int .u64 cc, .int .u64 co, .slice ca cn ccp, .int .u32 sc, .int .u64 sk, .slice da dn dcp, .bool wd], .int .u32 4294967295] w fun e w' => e = .returned (.bool true) ∧ ∃ v', Inb w' B b v' rm 0 rest ∧ IAct w w' b v v' := by
  have HLt : Hid (∀ x ∈ rd, x < 256) := hlt
  have HDr : Hid (∀ W, Below B w W → BRow W ra rcp rd) := hDr
  have HDn : Hid (rd.length = rn) := hdn
  clear hlt hDr hdn
  have HNb : Hid (¬ ifp b v w.heap.size) := fun e => by have := (h.lt _ e).2; omega
  have HI : Hid _ := h
  clear h
  go_enter Try.func21, Try.ntmps21
  go_wp2_with fail
  have hx0 : (w.alloc (.cells #[.int .i64 4, .int .u32 fl, .int .u32 oc, .int .u32 ol, .bool og, .slice oa on ocp, .int .u16 qf, .int .u16 qt, .int .u64 qc, .int .u64 qo, .int .u64 ql, .slice qa qn qcp, .int .u32 ro, .int .u32 rk, .slice ra rn rcp, .int .u16 cf, .int .u16 ct, .int .u64 cc, .int .u64 co, .slice ca cn ccp, .int .u32 sc, .int .u64 sk, .slice da dn dcp, .bool wd] 68)).heap[w.heap.size]? = some (.cells #[.int .i64 4, .int .u32 fl, .int .u32 oc, .int .u32 ol, .bool og, .slice oa on ocp, .int .u16 qf, .int .u16 qt, .int .u64 qc, .int .u64 qo, .int .u64 ql, .slice qa qn qcp, .int .u32 ro, .int .u32 rk, .slice ra rn rcp, .int .u16 cf, .int .u16 ct, .int .u64 cc, .int .u64 co, .slice ca cn ccp, .int .u32 sc, .int .u64 sk, .slice da dn dcp, .bool wd] 68 (0, 0)) := heap_new w _
  have hb0 : Below w.heap.size w (w.alloc (.cells #[.int .i64 4, .int .u32 fl, .int .u32 oc, .int .u32 ol, .bool og, .slice oa on ocp, .int .u16 qf, .int .u16 qt, .int .u64 qc, .int .u64 qo, .int .u64 ql, .slice qa qn qcp, .int .u32 ro, .int .u32 rk, .slice ra rn rcp, .int .u16 cf, .int .u16 ct, .int .u64 cc, .int .u64 co, .slice ca cn ccp, .int .u32 sc, .int .u64 sk, .slice da dn dcp, .bool wd] 68)) := (Below.refl _ _).alloc (Nat.le_refl _) _
  have hi0 := HI.out.later hb0
  have ha0 : IAct w (w.alloc (.cells #[.int .i64 4, .int .u32 fl, .int .u32 oc, .int .u32 ol, .bool og, .slice oa on ocp, .int .u16 qf, .int .u16 qt, .int .u64 qc, .int .u64 qo, .int .u64 ql, .slice qa qn qcp, .int .u32 ro, .int .u32 rk, .slice ra rn rcp, .int .u16 cf, .int .u16 ct, .int .u64 cc, .int .u64 co, .slice ca cn ccp, .int .u32 sc, .int .u64 sk, .slice da dn dcp, .bool wd] 68)) b v v := IAct.ofBelow hb0
  have hB0 : Below B w (w.alloc (.cells #[.int .i64 4, .int .u32 fl, .int .u32 oc, .int .u32 ol, .bool og, .slice oa on ocp, .int .u16 qf, .int .u16 qt, .int .u64 qc, .int .u64 qo, .int .u64 ql, .slice qa qn qcp, .int .u32 ro, .int .u32 rk, .slice ra rn rcp, .int .u16 cf, .int .u16 ct, .int .u64 cc, .int .u64 co, .slice ca cn ccp, .int .u32 sc, .int .u64 sk, .slice da dn dcp, .bool wd] 68)) := hb0.mono hBs
  generalize (w.alloc (.cells #[.int .i64 4, .int .u32 fl, .int .u32 oc, .int .u32 ol, .bool og, .slice oa on ocp, .int .u16 qf, .int .u16 qt, .int .u64 qc, .int .u64 qo, .int .u64 ql, .slice qa qn qcp, .int .u32 ro, .int .u32 rk, .slice ra rn rcp, .int .u16 cf, .int .u16 ct, .int .u64 cc, .int .u64 co, .slice ca cn ccp, .int .u32 sc, .int .u64 sk, .slice da dn dcp, .bool wd] 68)) = W0 at *
  refine Calls.mono (replyT ro rk rd hi0 hro1 hrk1 (by rw [HDn.out]; omega)) ?_
  rintro e w1 ⟨ao2, cap2, rfl, v1, hi1, ha1, ho1, hn1⟩
  have hx1 : w1.heap[w.heap.size]? = some (.cells #[.int .i64 4, .int .u32 fl, .int .u32 oc, .int .u32 ol, .bool og, .slice oa on ocp, .int .u16 qf, .int .u16 qt, .int .u64 qc, .int .u64 qo, .int .u64 ql, .slice qa qn qcp, .int .u32 ro, .int .u32 rk, .slice ra rn rcp, .int .u16 cf, .int .u16 ct, .int .u64 cc, .int .u64 co, .slice ca cn ccp, .int .u32 sc, .int .u64 sk, .slice da dn dcp, .bool wd] 68 (0, 0)) := (ha1.kept.block _ (block_lt hx0) HNb.out).trans hx0
  have hB1 : Below B w w1 := hB0.trans (ha1.below hi0)
  have H1 : Hid (Inb w1 B b v1 rm 0 rest ∧ IAct w w1 b v v1 ∧ Below B w w1 ∧ B ≤ w1.heap.size) := ⟨hi1, ha0.trans ha1, hB1, Nat.le_trans hBs hB1.size⟩
  have hro : BRow w1 ao2 cap2 rd := brow_own ho1 rfl HLt.out (by rw [HDn.out]; omega)
  have q12 : ∀ o : Obj, (w1.alloc o).cell? ⟨w.heap.size, 12, none⟩ = some (.int .u32 (ro : Int)) := fun o => cell_later ((Below.refl _ _).alloc (Nat.le_refl _) _) ((blk_at hx1 12).trans rfl)
  have q13 : ∀ o : Obj, (w1.alloc o).cell? ⟨w.heap.size, 13, none⟩ = some (.int .u32 (rk : Int)) := fun o => cell_later ((Below.refl _ _).alloc (Nat.le_refl _) _) ((blk_at hx1 13).trans rfl)
  have q14 : ∀ o : Obj, (w1.alloc o).cell? ⟨w.heap.size, 14, none⟩ = some (.slice ra rn rcp) := fun o => cell_later ((Below.refl _ _).alloc (Nat.le_refl _) _) ((blk_at hx1 14).trans rfl)
  clear hi0 ha0 hB0 hx0 hb0 hi1 ha1 hx1 hB1 HI ho1 hn1
  have H2 : Hid (Inb (w1.alloc (.cells #[.int .u32 (ro : Int), .int .u32 (rk : Int), .slice ao2 rd.length cap2] 62)) B b v1 rm 0 rest ∧ IAct w (w1.alloc (.cells #[.int .u32 (ro : Int), .int .u32 (rk : Int), .slice ao2 rd.length cap2] 62)) b v v1 ∧ BRow (w1.alloc (.cells #[.int .u32 (ro : Int), .int .u32 (rk : Int), .slice ao2 rd.length cap2] 62)) ao2 cap2 rd ∧ BRow (w1.alloc (.cells #[.int .u32 (ro : Int), .int .u32 (rk : Int), .slice ao2 rd.length cap2] 62)) ra rcp rd) := ⟨H1.out.1.later (alB w1 _), H1.out.2.1.trans (IAct.ofBelow (alB w1 _)), hro.later (alB w1 _), HDr.out _ (H1.out.2.2.1.trans ((alB w1 _).mono H1.out.2.2.2))⟩
  rw [HDn.out] at H2 ⊢
  clear hro H1 HDr
  go_wp2_with fail
  clear q12 q13 q14
  generalize (w1.alloc (.cells #[.int .u32 (ro : Int), .int .u32 (rk : Int), .slice ao2 rn cap2] 62)) = w2 at *
  refine Calls.mono (same30 H2.out.2.2.1 H2.out.2.2.2 HDn.out HDn.out) ?_
  rintro e w3 ⟨rfl, q, rfl⟩
  have HF : Hid (Inb (w2.drewN q) B b v1 rm 0 rest ∧ IAct w (w2.drewN q) b v v1) := ⟨H2.out.1.drewN q, H2.out.2.1.trans (IAct.drewN q)⟩
  clear H2
  go_wp2
  go_ret
  exact ⟨rfl, v1, HF.out.1, HF.out.2⟩
end Go.Proofs.Ytckfmpoddmccfaa

namespace Go.Proofs.Ytckfmpoddmccfaa
open Go.RowKit
set_option linter.unusedVariables false
set_option linter.unusedSimpArgs false
set_option maxRecDepth 100000
set_option maxHeartbeats 8000000 in
theorem taken_5t (fl oc ol : Nat) (og : Bool) (oa : Option Addr) (on ocp qf qt qc qo ql : Nat) (qa : Option Addr) (qn qcp ro rk : Nat) (ra : Option Addr) (rn rcp cf ct cc co : Nat) (ca : Option Addr) (cn ccp sc sk : Nat) (da : Option Addr) (dn dcp : Nat) (w : World) (cd : List Nat) {B b : Nat} {v : Value} {rm : Nat} {rest : List Nat} (h : Inb w B b v rm 0 (cL64 cf ct cc co cd ++ rest)) (hBs : B ≤ w.heap.size) (hcf : cf < 65536) (hct : ct < 65536) (hcc : cc < 18446744073709551616) (hco : co < 18446744073709551616) (hlt : ∀ x ∈ cd, x < 256) (hDr : ∀ W, Below B w W → BRow W ca ccp cd) (hdn : cd.length = cn) (hl : cn ≤ 1048576) :
    Calls Try.prog 21 #[.pointer (some ⟨b, 0, none⟩), .agg #[.int .i64 5, .int .u32 fl, .int .u32 oc, .int .u32 ol, .bool og, .slice oa on ocp, .int .u16 qf, .int .u16 qt, .int .u64 qc, .int .u64 qo, .int .u64 ql, .slice qa qn qcp, .int .u32 ro, .int .u32 rk, .slice ra rn rcp, .int .u16 cf, .int .u16 ct, .int .u64 cc, .int .u64 co, .slice ca cn ccp, .int .u32 sc, .int .u64 sk, .slice da dn dcp, .bool true], .int .u32 4294967295] w fun e w' => e = .returned (.bool true) ∧ ∃ v', Inb w' B b v' rm 0 rest ∧ IAct w w' b v v' := by
  have HLt : Hid (∀ x ∈ cd, x < 256) := hlt
  have HDr : Hid (∀ W, Below B w W → BRow W ca ccp cd) := hDr
  have HDn : Hid (cd.length = cn) := hdn
  clear hlt hDr hdn
  have HNb : Hid (¬ ifp b v w.heap.size) := fun e => by have := (h.lt _ e).2; omega
  have HI : Hid _ := h
  clear h
  go_enter Try.func21, Try.ntmps21
  go_wp2_with fail
  have hx0 : (w.alloc (.cells #[.int .i64 5, .int .u32 fl, .int .u32 oc, .int .u32 ol, .bool og, .slice oa on ocp, .int .u16 qf, .int .u16 qt, .int .u64 qc, .int .u64 qo, .int .u64 ql, .slice qa qn qcp, .int .u32 ro, .int .u32 rk, .slice ra rn rcp, .int .u16 cf, .int .u16 ct, .int .u64 cc, .int .u64 co, .slice ca cn ccp, .int .u32 sc, .int .u64 sk, .slice da dn dcp, .bool true] 68)).heap[w.heap.size]? = some (.cells #[.int .i64 5, .int .u32 fl, .int .u32 oc, .int .u32 ol, .bool og, .slice oa on ocp, .int .u16 qf, .int .u16 qt, .int .u64 qc, .int .u64 qo, .int .u64 ql, .slice qa qn qcp, .int .u32 ro, .int .u32 rk, .slice ra rn rcp, .int .u16 cf, .int .u16 ct, .int .u64 cc, .int .u64 co, .slice ca cn ccp, .int .u32 sc, .int .u64 sk, .slice da dn dcp, .bool true] 68 (0, 0)) := heap_new w _
  have hb0 : Below w.heap.size w (w.alloc (.cells #[.int .i64 5, .int .u32 fl, .int .u32 oc, .int .u32 ol, .bool og, .slice oa on ocp, .int .u16 qf, .int .u16 qt, .int .u64 qc, .int .u64 qo, .int .u64 ql, .slice qa qn qcp, .int .u32 ro, .int .u32 rk, .slice ra rn rcp, .int .u16 cf, .int .u16 ct, .int .u64 cc, .int .u64 co, .slice ca cn ccp, .int .u32 sc, .int .u64 sk, .slice da dn dcp, .bool true] 68)) := (Below.refl _ _).alloc (Nat.le_refl _) _
  have hi0 := HI.out.later hb0
  have ha0 : IAct w (w.alloc (.cells #[.int .i64 5, .int .u32 fl, .int .u32 oc, .int .u32 ol, .bool og, .slice oa on ocp, .int .u16 qf, .int .u16 qt, .int .u64 qc, .int .u64 qo, .int .u64 ql, .slice qa qn qcp, .int .u32 ro, .int .u32 rk, .slice ra rn rcp, .int .u16 cf, .int .u16 ct, .int .u64 cc, .int .u64 co, .slice ca cn ccp, .int .u32 sc, .int .u64 sk, .slice da dn dcp, .bool true] 68)) b v v := IAct.ofBelow hb0
  have hB0 : Below B w (w.alloc (.cells #[.int .i64 5, .int .u32 fl, .int .u32 oc, .int .u32 ol, .bool og, .slice oa on ocp, .int .u16 qf, .int .u16 qt, .int .u64 qc, .int .u64 qo, .int .u64 ql, .slice qa qn qcp, .int .u32 ro, .int .u32 rk, .slice ra rn rcp, .int .u16 cf, .int .u16 ct, .int .u64 cc, .int .u64 co, .slice ca cn ccp, .int .u32 sc, .int .u64 sk, .slice da dn dcp, .bool true] 68)) := hb0.mono hBs
  generalize (w.alloc (.cells #[.int .i64 5, .int .u32 fl, .int .u32 oc, .int .u32 ol, .bool og, .slice oa on ocp, .int .u16 qf, .int .u16 qt, .int .u64 qc, .int .u64 qo, .int .u64 ql, .slice qa qn qcp, .int .u32 ro, .int .u32 rk, .slice ra rn rcp, .int .u16 cf, .int .u16 ct, .int .u64 cc, .int .u64 co, .slice ca cn ccp, .int .u32 sc, .int .u64 sk, .slice da dn dcp, .bool true] 68)) = W0 at *
  refine Calls.mono (chunkTt cf ct cc co cd hi0 hcf hct hcc hco (by rw [HDn.out]; omega)) ?_
  rintro e w1 ⟨ao2, cap2, rfl, v1, hi1, ha1, ho1, hn1⟩
  have hx1 : w1.heap[w.heap.size]? = some (.cells #[.int .i64 5, .int .u32 fl, .int .u32 oc, .int .u32 ol, .bool og, .slice oa on ocp, .int .u16 qf, .int .u16 qt, .int .u64 qc, .int .u64 qo, .int .u64 ql, .slice qa qn qcp, .int .u32 ro, .int .u32 rk, .slice ra rn rcp, .int .u16 cf, .int .u16 ct, .int .u64 cc, .int .u64 co, .slice ca cn ccp, .int .u32 sc, .int .u64 sk, .slice da dn dcp, .bool true] 68 (0, 0)) := (ha1.kept.block _ (block_lt hx0) HNb.out).trans hx0
  have hB1 : Below B w w1 := hB0.trans (ha1.below hi0)
  have H1 : Hid (Inb w1 B b v1 rm 0 rest ∧ IAct w w1 b v v1 ∧ Below B w w1 ∧ B ≤ w1.heap.size) := ⟨hi1, ha0.trans ha1, hB1, Nat.le_trans hBs hB1.size⟩
  have hro : BRow w1 ao2 cap2 cd := brow_own ho1 rfl HLt.out (by rw [HDn.out]; omega)
  clear hi0 ha0 hB0 hx0 hb0 hi1 ha1 hB1 HI ho1 hn1
  have H2 : Hid (Inb (w1.alloc (.cells #[.bool true, .int .u32 0, .int .u64 0, .int .u16 (cf : Int), .int .u16 (ct : Int), .int .u64 (cc : Int), .int .u64 (co : Int), .slice ao2 cn cap2] 103)) B b v1 rm 0 rest ∧ IAct w (w1.alloc (.cells #[.bool true, .int .u32 0, .int .u64 0, .int .u16 (cf : Int), .int .u16 (ct : Int), .int .u64 (cc : Int), .int .u64 (co : Int), .slice ao2 cn cap2] 103)) b v v1 ∧ BRow (w1.alloc (.cells #[.bool true, .int .u32 0, .int .u64 0, .int .u16 (cf : Int), .int .u16 (ct : Int), .int .u64 (cc : Int), .int .u64 (co : Int), .slice ao2 cn cap2] 103)) ao2 cap2 cd ∧ Below B w (w1.alloc (.cells #[.bool true, .int .u32 0, .int .u64 0, .int .u16 (cf : Int), .int .u16 (ct : Int), .int .u64 (cc : Int), .int .u64 (co : Int), .slice ao2 cn cap2] 103)) ∧ B ≤ (w1.alloc (.cells #[.bool true, .int .u32 0, .int .u64 0, .int .u16 (cf : Int), .int .u16 (ct : Int), .int .u64 (cc : Int), .int .u64 (co : Int), .slice ao2 cn cap2] 103)).heap.size ∧ (w1.alloc (.cells #[.bool true, .int .u32 0, .int .u64 0, .int .u16 (cf : Int), .int .u16 (ct : Int), .int .u64 (cc : Int), .int .u64 (co : Int), .slice ao2 cn cap2] 103)).heap[w1.heap.size]? = some (.cells #[.bool true, .int .u32 0, .int .u64 0, .int .u16 (cf : Int), .int .u16 (ct : Int), .int .u64 (cc : Int), .int .u64 (co : Int), .slice ao2 cn cap2] 103 (0, 0)) ∧ (w1.alloc (.cells #[.bool true, .int .u32 0, .int .u64 0, .int .u16 (cf : Int), .int .u16 (ct : Int), .int .u64 (cc : Int), .int .u64 (co : Int), .slice ao2 cn cap2] 103)).heap[w.heap.size]? = some (.cells #[.int .i64 5, .int .u32 fl, .int .u32 oc, .int .u32 ol, .bool og, .slice oa on ocp, .int .u16 qf, .int .u16 qt, .int .u64 qc, .int .u64 qo, .int .u64 ql, .slice qa qn qcp, .int .u32 ro, .int .u32 rk, .slice ra rn rcp, .int .u16 cf, .int .u16 ct, .int .u64 cc, .int .u64 co, .slice ca cn ccp, .int .u32 sc, .int .u64 sk, .slice da dn dcp, .bool true] 68 (0, 0))) := ⟨H1.out.1.later (alB w1 _), H1.out.2.1.trans (IAct.ofBelow (alB w1 _)), hro.later (alB w1 _), H1.out.2.2.1.trans ((alB w1 _).mono H1.out.2.2.2), Nat.le_trans H1.out.2.2.2 (by simp), heap_new w1 _, ((alB w1 _).block _ (block_lt hx1)).trans hx1⟩
  rw [HDn.out]
  clear hro H1 hx1
  go_upto_region 17 with fail
  generalize (w1.alloc (.cells #[.bool true, .int .u32 0, .int .u64 0, .int .u16 (cf : Int), .int .u16 (ct : Int), .int .u64 (cc : Int), .int .u64 (co : Int), .slice ao2 cn cap2] 103)) = w2 at *
  have p0 : ∀ o : Obj, (w2.alloc o).cell? ⟨w1.heap.size, 0, none⟩ = some (.bool true) := fun o => cell_later (alB w2 o) ((blk_at H2.out.2.2.2.2.2.1 0).trans rfl)
  have p3 : ∀ o : Obj, (w2.alloc o).cell? ⟨w1.heap.size, 3, none⟩ = some (.int .u16 (cf : Int)) := fun o => cell_later (alB w2 o) ((blk_at H2.out.2.2.2.2.2.1 3).trans rfl)
  have p4 : ∀ o : Obj, (w2.alloc o).cell? ⟨w1.heap.size, 4, none⟩ = some (.int .u16 (ct : Int)) := fun o => cell_later (alB w2 o) ((blk_at H2.out.2.2.2.2.2.1 4).trans rfl)
  have p5 : ∀ o : Obj, (w2.alloc o).cell? ⟨w1.heap.size, 5, none⟩ = some (.int .u64 (cc : Int)) := fun o => cell_later (alB w2 o) ((blk_at H2.out.2.2.2.2.2.1 5).trans rfl)
  have p6 : ∀ o : Obj, (w2.alloc o).cell? ⟨w1.heap.size, 6, none⟩ = some (.int .u64 (co : Int)) := fun o => cell_later (alB w2 o) ((blk_at H2.out.2.2.2.2.2.1 6).trans rfl)
  have p7 : ∀ o : Obj, (w2.alloc o).cell? ⟨w1.heap.size, 7, none⟩ = some (.slice ao2 cn cap2) := fun o => cell_later (alB w2 o) ((blk_at H2.out.2.2.2.2.2.1 7).trans rfl)
  have m15 : w2.cell? ⟨w.heap.size, 15, none⟩ = some (.int .u16 (cf : Int)) := (blk_at H2.out.2.2.2.2.2.2 15).trans rfl
  have m16 : w2.cell? ⟨w.heap.size, 16, none⟩ = some (.int .u16 (ct : Int)) := (blk_at H2.out.2.2.2.2.2.2 16).trans rfl
  have m17 : w2.cell? ⟨w.heap.size, 17, none⟩ = some (.int .u64 (cc : Int)) := (blk_at H2.out.2.2.2.2.2.2 17).trans rfl
  have m18 : w2.cell? ⟨w.heap.size, 18, none⟩ = some (.int .u64 (co : Int)) := (blk_at H2.out.2.2.2.2.2.2 18).trans rfl
  have m19 : w2.cell? ⟨w.heap.size, 19, none⟩ = some (.slice ca cn ccp) := (blk_at H2.out.2.2.2.2.2.2 19).trans rfl
  have q23 : ∀ o : Obj, (w2.alloc o).cell? ⟨w.heap.size, 23, none⟩ = some (.bool true) := fun o => cell_later (alB w2 o) ((blk_at H2.out.2.2.2.2.2.2 23).trans rfl)
  have H3 : Hid (Inb (w2.alloc (.cells #[.int .u16 (cf : Int), .int .u16 (ct : Int), .int .u64 (cc : Int), .int .u64 (co : Int), .slice ca cn ccp] 64)) B b v1 rm 0 rest ∧ IAct w (w2.alloc (.cells #[.int .u16 (cf : Int), .int .u16 (ct : Int), .int .u64 (cc : Int), .int .u64 (co : Int), .slice ca cn ccp] 64)) b v v1 ∧ BRow (w2.alloc (.cells #[.int .u16 (cf : Int), .int .u16 (ct : Int), .int .u64 (cc : Int), .int .u64 (co : Int), .slice ca cn ccp] 64)) ao2 cap2 cd ∧ BRow (w2.alloc (.cells #[.int .u16 (cf : Int), .int .u16 (ct : Int), .int .u64 (cc : Int), .int .u64 (co : Int), .slice ca cn ccp] 64)) ca ccp cd) := ⟨H2.out.1.later (alB w2 _), H2.out.2.1.trans (IAct.ofBelow (alB w2 _)), H2.out.2.2.1.later (alB w2 _), HDr.out _ (H2.out.2.2.2.1.trans ((alB w2 _).mono H2.out.2.2.2.2.1))⟩
  clear HDr
  go_wp2_with fail
  clear p0 p3 p4 p5 p6 p7 q23 m15 m16 m17 m18 m19 H2
  generalize (w2.alloc (.cells #[.int .u16 (cf : Int), .int .u16 (ct : Int), .int .u64 (cc : Int), .int .u64 (co : Int), .slice ca cn ccp] 64)) = w3 at *
  refine Calls.mono (same30 H3.out.2.2.1 H3.out.2.2.2 HDn.out HDn.out) ?_
  rintro e w4 ⟨rfl, q, rfl⟩
  have HF : Hid (Inb (w3.drewN q) B b v1 rm 0 rest ∧ IAct w (w3.drewN q) b v v1) := ⟨H3.out.1.drewN q, H3.out.2.1.trans (IAct.drewN q)⟩
  clear H3
  go_wp2
  go_ret
  exact ⟨rfl, v1, HF.out.1, HF.out.2⟩
set_option maxHeartbeats 8000000 in
theorem taken_5f (fl oc ol : Nat) (og : Bool) (oa : Option Addr) (on ocp qf qt qc qo ql : Nat) (qa : Option Addr) (qn qcp ro rk : Nat) (ra : Option Addr) (rn rcp cf ct cc co : Nat) (ca : Option Addr) (cn ccp sc sk : Nat) (da : Option Addr) (dn dcp : Nat) (w : World) (cd : List Nat) {B b : Nat} {v : Value} {rm : Nat} {rest : List Nat} (h : Inb w B b v rm 0 (cL cf ct cc cd ++ rest)) (hBs : B ≤ w.heap.size) (hcf : cf < 65536) (hct : ct < 65536) (hcc : cc < 18446744073709551616) (hco : co < 18446744073709551616) (hlt : ∀ x ∈ cd, x < 256) (hDr : ∀ W, Below B w W → BRow W ca ccp cd) (hdn : cd.length = cn) (hl : cn ≤ 1048576) :
    Calls Try.prog 21 #[.pointer (some ⟨b, 0, none⟩), .agg #[.int .i64 5, .int .u32 fl, .int .u32 oc, .int .u32 ol, .bool og, .slice oa on ocp, .int .u16 qf, .int .u16 qt, .int .u64 qc, .int .u64 qo, .int .u64 ql, .slice qa qn qcp, .int .u32 ro, .int .u32 rk, .slice ra rn rcp, .int .u16 cf, .int .u16 ct, .int .u64 cc, .int .u64 co, .slice ca cn ccp, .int .u32 sc, .int .u64 sk, .slice da dn dcp, .bool false], .int .u32 4294967295] w fun e w' => e = .returned (.bool true) ∧ ∃ v', Inb w' B b v' rm 0 rest ∧ IAct w w' b v v' := by
  have HLt : Hid (∀ x ∈ cd, x < 256) := hlt
  have HDr : Hid (∀ W, Below B w W → BRow W ca ccp cd) := hDr
  have HDn : Hid (cd.length = cn) := hdn
  clear hlt hDr hdn
  have HNb : Hid (¬ ifp b v w.heap.size) := fun e => by have := (h.lt _ e).2; omega
  have HI : Hid _ := h
  clear h
  go_enter Try.func21, Try.ntmps21
  go_wp2_with fail
  have hx0 : (w.alloc (.cells #[.int .i64 5, .int .u32 fl, .int .u32 oc, .int .u32 ol, .bool og, .slice oa on ocp, .int .u16 qf, .int .u16 qt, .int .u64 qc, .int .u64 qo, .int .u64 ql, .slice qa qn qcp, .int .u32 ro, .int .u32 rk, .slice ra rn rcp, .int .u16 cf, .int .u16 ct, .int .u64 cc, .int .u64 co, .slice ca cn ccp, .int .u32 sc, .int .u64 sk, .slice da dn dcp, .bool false] 68)).heap[w.heap.size]? = some (.cells #[.int .i64 5, .int .u32 fl, .int .u32 oc, .int .u32 ol, .bool og, .slice oa on ocp, .int .u16 qf, .int .u16 qt, .int .u64 qc, .int .u64 qo, .int .u64 ql, .slice qa qn qcp, .int .u32 ro, .int .u32 rk, .slice ra rn rcp, .int .u16 cf, .int .u16 ct, .int .u64 cc, .int .u64 co, .slice ca cn ccp, .int .u32 sc, .int .u64 sk, .slice da dn dcp, .bool false] 68 (0, 0)) := heap_new w _
  have hb0 : Below w.heap.size w (w.alloc (.cells #[.int .i64 5, .int .u32 fl, .int .u32 oc, .int .u32 ol, .bool og, .slice oa on ocp, .int .u16 qf, .int .u16 qt, .int .u64 qc, .int .u64 qo, .int .u64 ql, .slice qa qn qcp, .int .u32 ro, .int .u32 rk, .slice ra rn rcp, .int .u16 cf, .int .u16 ct, .int .u64 cc, .int .u64 co, .slice ca cn ccp, .int .u32 sc, .int .u64 sk, .slice da dn dcp, .bool false] 68)) := (Below.refl _ _).alloc (Nat.le_refl _) _
  have hi0 := HI.out.later hb0
  have ha0 : IAct w (w.alloc (.cells #[.int .i64 5, .int .u32 fl, .int .u32 oc, .int .u32 ol, .bool og, .slice oa on ocp, .int .u16 qf, .int .u16 qt, .int .u64 qc, .int .u64 qo, .int .u64 ql, .slice qa qn qcp, .int .u32 ro, .int .u32 rk, .slice ra rn rcp, .int .u16 cf, .int .u16 ct, .int .u64 cc, .int .u64 co, .slice ca cn ccp, .int .u32 sc, .int .u64 sk, .slice da dn dcp, .bool false] 68)) b v v := IAct.ofBelow hb0
  have hB0 : Below B w (w.alloc (.cells #[.int .i64 5, .int .u32 fl, .int .u32 oc, .int .u32 ol, .bool og, .slice oa on ocp, .int .u16 qf, .int .u16 qt, .int .u64 qc, .int .u64 qo, .int .u64 ql, .slice qa qn qcp, .int .u32 ro, .int .u32 rk, .slice ra rn rcp, .int .u16 cf, .int .u16 ct, .int .u64 cc, .int .u64 co, .slice ca cn ccp, .int .u32 sc, .int .u64 sk, .slice da dn dcp, .bool false] 68)) := hb0.mono hBs
  generalize (w.alloc (.cells #[.int .i64 5, .int .u32 fl, .int .u32 oc, .int .u32 ol, .bool og, .slice oa on ocp, .int .u16 qf, .int .u16 qt, .int .u64 qc, .int .u64 qo, .int .u64 ql, .slice qa qn qcp, .int .u32 ro, .int .u32 rk, .slice ra rn rcp, .int .u16 cf, .int .u16 ct, .int .u64 cc, .int .u64 co, .slice ca cn ccp, .int .u32 sc, .int .u64 sk, .slice da dn dcp, .bool false] 68)) = W0 at *
  refine Calls.mono (chunkTf cf ct cc co cd hi0 hcf hct hcc hco (by rw [HDn.out]; omega)) ?_
  rintro e w1 ⟨ao2, cap2, rfl, v1, hi1, ha1, ho1, hn1⟩
  have hx1 : w1.heap[w.heap.size]? = some (.cells #[.int .i64 5, .int .u32 fl, .int .u32 oc, .int .u32 ol, .bool og, .slice oa on ocp, .int .u16 qf, .int .u16 qt, .int .u64 qc, .int .u64 qo, .int .u64 ql, .slice qa qn qcp, .int .u32 ro, .int .u32 rk, .slice ra rn rcp, .int .u16 cf, .int .u16 ct, .int .u64 cc, .int .u64 co, .slice ca cn ccp, .int .u32 sc, .int .u64 sk, .slice da dn dcp, .bool false] 68 (0, 0)) := (ha1.kept.block _ (block_lt hx0) HNb.out).trans hx0
  have hB1 : Below B w w1 := hB0.trans (ha1.below hi0)
  have H1 : Hid (Inb w1 B b v1 rm 0 rest ∧ IAct w w1 b v v1 ∧ Below B w w1 ∧ B ≤ w1.heap.size) := ⟨hi1, ha0.trans ha1, hB1, Nat.le_trans hBs hB1.size⟩
  have hro : BRow w1 ao2 cap2 cd := brow_own ho1 rfl HLt.out (by rw [HDn.out]; omega)
  clear hi0 ha0 hB0 hx0 hb0 hi1 ha1 hB1 HI ho1 hn1
  have H2 : Hid (Inb (w1.alloc (.cells #[.bool true, .int .u32 0, .int .u64 0, .int .u16 (cf : Int), .int .u16 (ct : Int), .int .u64 (cc : Int), .int .u64 0, .slice ao2 cn cap2] 103)) B b v1 rm 0 rest ∧ IAct w (w1.alloc (.cells #[.bool true, .int .u32 0, .int .u64 0, .int .u16 (cf : Int), .int .u16 (ct : Int), .int .u64 (cc : Int), .int .u64 0, .slice ao2 cn cap2] 103)) b v v1 ∧ BRow (w1.alloc (.cells #[.bool true, .int .u32 0, .int .u64 0, .int .u16 (cf : Int), .int .u16 (ct : Int), .int .u64 (cc : Int), .int .u64 0, .slice ao2 cn cap2] 103)) ao2 cap2 cd ∧ Below B w (w1.alloc (.cells #[.bool true, .int .u32 0, .int .u64 0, .int .u16 (cf : Int), .int .u16 (ct : Int), .int .u64 (cc : Int), .int .u64 0, .slice ao2 cn cap2] 103)) ∧ B ≤ (w1.alloc (.cells #[.bool true, .int .u32 0, .int .u64 0, .int .u16 (cf : Int), .int .u16 (ct : Int), .int .u64 (cc : Int), .int .u64 0, .slice ao2 cn cap2] 103)).heap.size ∧ (w1.alloc (.cells #[.bool true, .int .u32 0, .int .u64 0, .int .u16 (cf : Int), .int .u16 (ct : Int), .int .u64 (cc : Int), .int .u64 0, .slice ao2 cn cap2] 103)).heap[w1.heap.size]? = some (.cells #[.bool true, .int .u32 0, .int .u64 0, .int .u16 (cf : Int), .int .u16 (ct : Int), .int .u64 (cc : Int), .int .u64 0, .slice ao2 cn cap2] 103 (0, 0)) ∧ (w1.alloc (.cells #[.bool true, .int .u32 0, .int .u64 0, .int .u16 (cf : Int), .int .u16 (ct : Int), .int .u64 (cc : Int), .int .u64 0, .slice ao2 cn cap2] 103)).heap[w.heap.size]? = some (.cells #[.int .i64 5, .int .u32 fl, .int .u32 oc, .int .u32 ol, .bool og, .slice oa on ocp, .int .u16 qf, .int .u16 qt, .int .u64 qc, .int .u64 qo, .int .u64 ql, .slice qa qn qcp, .int .u32 ro, .int .u32 rk, .slice ra rn rcp, .int .u16 cf, .int .u16 ct, .int .u64 cc, .int .u64 co, .slice ca cn ccp, .int .u32 sc, .int .u64 sk, .slice da dn dcp, .bool false] 68 (0, 0))) := ⟨H1.out.1.later (alB w1 _), H1.out.2.1.trans (IAct.ofBelow (alB w1 _)), hro.later (alB w1 _), H1.out.2.2.1.trans ((alB w1 _).mono H1.out.2.2.2), Nat.le_trans H1.out.2.2.2 (by simp), heap_new w1 _, ((alB w1 _).block _ (block_lt hx1)).trans hx1⟩
  rw [HDn.out]
  clear hro H1 hx1
  go_upto_region 17 with fail
  generalize (w1.alloc (.cells #[.bool true, .int .u32 0, .int .u64 0, .int .u16 (cf : Int), .int .u16 (ct : Int), .int .u64 (cc : Int), .int .u64 0, .slice ao2 cn cap2] 103)) = w2 at *
  have p0 : ∀ o : Obj, (w2.alloc o).cell? ⟨w1.heap.size, 0, none⟩ = some (.bool true) := fun o => cell_later (alB w2 o) ((blk_at H2.out.2.2.2.2.2.1 0).trans rfl)
  have p3 : ∀ o : Obj, (w2.alloc o).cell? ⟨w1.heap.size, 3, none⟩ = some (.int .u16 (cf : Int)) := fun o => cell_later (alB w2 o) ((blk_at H2.out.2.2.2.2.2.1 3).trans rfl)
  have p4 : ∀ o : Obj, (w2.alloc o).cell? ⟨w1.heap.size, 4, none⟩ = some (.int .u16 (ct : Int)) := fun o => cell_later (alB w2 o) ((blk_at H2.out.2.2.2.2.2.1 4).trans rfl)
  have p5 : ∀ o : Obj, (w2.alloc o).cell? ⟨w1.heap.size, 5, none⟩ = some (.int .u64 (cc : Int)) := fun o => cell_later (alB w2 o) ((blk_at H2.out.2.2.2.2.2.1 5).trans rfl)
  have p6 : ∀ o : Obj, (w2.alloc o).cell? ⟨w1.heap.size, 6, none⟩ = some (.int .u64 0) := fun o => cell_later (alB w2 o) ((blk_at H2.out.2.2.2.2.2.1 6).trans rfl)
  have p7 : ∀ o : Obj, (w2.alloc o).cell? ⟨w1.heap.size, 7, none⟩ = some (.slice ao2 cn cap2) := fun o => cell_later (alB w2 o) ((blk_at H2.out.2.2.2.2.2.1 7).trans rfl)
  have m15 : w2.cell? ⟨w.heap.size, 15, none⟩ = some (.int .u16 (cf : Int)) := (blk_at H2.out.2.2.2.2.2.2 15).trans rfl
  have m16 : w2.cell? ⟨w.heap.size, 16, none⟩ = some (.int .u16 (ct : Int)) := (blk_at H2.out.2.2.2.2.2.2 16).trans rfl
  have m17 : w2.cell? ⟨w.heap.size, 17, none⟩ = some (.int .u64 (cc : Int)) := (blk_at H2.out.2.2.2.2.2.2 17).trans rfl
  have m18 : w2.cell? ⟨w.heap.size, 18, none⟩ = some (.int .u64 (co : Int)) := (blk_at H2.out.2.2.2.2.2.2 18).trans rfl
  have m19 : w2.cell? ⟨w.heap.size, 19, none⟩ = some (.slice ca cn ccp) := (blk_at H2.out.2.2.2.2.2.2 19).trans rfl
  have q23 : ∀ o : Obj, (w2.alloc o).cell? ⟨w.heap.size, 23, none⟩ = some (.bool false) := fun o => cell_later (alB w2 o) ((blk_at H2.out.2.2.2.2.2.2 23).trans rfl)
  have H3 : Hid (Inb (w2.alloc (.cells #[.int .u16 (cf : Int), .int .u16 (ct : Int), .int .u64 (cc : Int), .int .u64 (co : Int), .slice ca cn ccp] 64)) B b v1 rm 0 rest ∧ IAct w (w2.alloc (.cells #[.int .u16 (cf : Int), .int .u16 (ct : Int), .int .u64 (cc : Int), .int .u64 (co : Int), .slice ca cn ccp] 64)) b v v1 ∧ BRow (w2.alloc (.cells #[.int .u16 (cf : Int), .int .u16 (ct : Int), .int .u64 (cc : Int), .int .u64 (co : Int), .slice ca cn ccp] 64)) ao2 cap2 cd ∧ BRow (w2.alloc (.cells #[.int .u16 (cf : Int), .int .u16 (ct : Int), .int .u64 (cc : Int), .int .u64 (co : Int), .slice ca cn ccp] 64)) ca ccp cd) := ⟨H2.out.1.later (alB w2 _), H2.out.2.1.trans (IAct.ofBelow (alB w2 _)), H2.out.2.2.1.later (alB w2 _), HDr.out _ (H2.out.2.2.2.1.trans ((alB w2 _).mono H2.out.2.2.2.2.1))⟩
  clear HDr
  go_wp2_with fail
  clear p0 p3 p4 p5 p6 p7 q23 m15 m16 m17 m18 m19 H2
  generalize (w2.alloc (.cells #[.int .u16 (cf : Int), .int .u16 (ct : Int), .int .u64 (cc : Int), .int .u64 (co : Int), .slice ca cn ccp] 64)) = w3 at *
  refine Calls.mono (same30 H3.out.2.2.1 H3.out.2.2.2 HDn.out HDn.out) ?_
  rintro e w4 ⟨rfl, q, rfl⟩
  have HF : Hid (Inb (w3.drewN q) B b v1 rm 0 rest ∧ IAct w (w3.drewN q) b v v1) := ⟨H3.out.1.drewN q, H3.out.2.1.trans (IAct.drewN q)⟩
  clear H3
  go_wp2
  go_ret
  exact ⟨rfl, v1, HF.out.1, HF.out.2⟩
set_option maxHeartbeats 8000000 in
theorem taken_7 (fl oc ol : Nat) (og : Bool) (oa : Option Addr) (on ocp qf qt qc qo ql : Nat) (qa : Option Addr) (qn qcp ro rk : Nat) (ra : Option Addr) (rn rcp cf ct cc co : Nat) (ca : Option Addr) (cn ccp sc sk : Nat) (da : Option Addr) (dn dcp : Nat) (wd : Bool) (w : World) (dd : List Nat) {B b : Nat} {v : Value} {rm : Nat} {rest : List Nat} (h : Inb w B b v rm 0 ((sL sc sk ++ dd) ++ rest)) (hBs : B ≤ w.heap.size) (hsc : sc < 4294967296) (hsk : sk < 18446744073709551616) (hlt : ∀ x ∈ dd, x < 256) (hDr : ∀ W, Below B w W → BRow W da dcp dd) (hdn : dd.length = dn) (hl : dn ≤ 1048576) :
    Calls Try.prog 21 #[.pointer (some ⟨b, 0, none⟩), .agg #[.int .i64 7, .int .u32 fl, .int .u32 oc, .int .u32 ol, .bool og, .slice oa on ocp, .int .u16 qf, .int .u16 qt, .int .u64 qc, .int .u64 qo, .int .u64 ql, .slice qa qn qcp, .int .u32 ro, .int .u32 rk, .slice ra rn rcp, .int .u16 cf, .int .u16 ct, .int .u64 cc, .int .u64 co, .slice ca cn ccp, .int .u32 sc, .int .u64 sk, .slice da dn dcp, .bool wd], .int .u32 4294967295] w fun e w' => e = .returned (.bool true) ∧ ∃ v', Inb w' B b v' rm 0 rest ∧ IAct w w' b v v' := by
  have HLt : Hid (∀ x ∈ dd, x < 256) := hlt
  have HDr : Hid (∀ W, Below B w W → BRow W da dcp dd) := hDr
  have HDn : Hid (dd.length = dn) := hdn
  clear hlt hDr hdn
  have HNb : Hid (¬ ifp b v w.heap.size) := fun e => by have := (h.lt _ e).2; omega
  have HI : Hid _ := h
  clear h
  go_enter Try.func21, Try.ntmps21
  go_wp2_with fail
  have hx0 : (w.alloc (.cells #[.int .i64 7, .int .u32 fl, .int .u32 oc, .int .u32 ol, .bool og, .slice oa on ocp, .int .u16 qf, .int .u16 qt, .int .u64 qc, .int .u64 qo, .int .u64 ql, .slice qa qn qcp, .int .u32 ro, .int .u32 rk, .slice ra rn rcp, .int .u16 cf, .int .u16 ct, .int .u64 cc, .int .u64 co, .slice ca cn ccp, .int .u32 sc, .int .u64 sk, .slice da dn dcp, .bool wd] 68)).heap[w.heap.size]? = some (.cells #[.int .i64 7, .int .u32 fl, .int .u32 oc, .int .u32 ol, .bool og, .slice oa on ocp, .int .u16 qf, .int .u16 qt, .int .u64 qc, .int .u64 qo, .int .u64 ql, .slice qa qn qcp, .int .u32 ro, .int .u32 rk, .slice ra rn rcp, .int .u16 cf, .int .u16 ct, .int .u64 cc, .int .u64 co, .slice ca cn ccp, .int .u32 sc, .int .u64 sk, .slice da dn dcp, .bool wd] 68 (0, 0)) := heap_new w _
  have hb0 : Below w.heap.size w (w.alloc (.cells #[.int .i64 7, .int .u32 fl, .int .u32 oc, .int .u32 ol, .bool og, .slice oa on ocp, .int .u16 qf, .int .u16 qt, .int .u64 qc, .int .u64 qo, .int .u64 ql, .slice qa qn qcp, .int .u32 ro, .int .u32 rk, .slice ra rn rcp, .int .u16 cf, .int .u16 ct, .int .u64 cc, .int .u64 co, .slice ca cn ccp, .int .u32 sc, .int .u64 sk, .slice da dn dcp, .bool wd] 68)) := (Below.refl _ _).alloc (Nat.le_refl _) _
  have hi0 := (show Inb w B b v rm 0 (sL sc sk ++ (dd ++ rest)) by rw [← List.append_assoc]; exact HI.out).later hb0
  have ha0 : IAct w (w.alloc (.cells #[.int .i64 7, .int .u32 fl, .int .u32 oc, .int .u32 ol, .bool og, .slice oa on ocp, .int .u16 qf, .int .u16 qt, .int .u64 qc, .int .u64 qo, .int .u64 ql, .slice qa qn qcp, .int .u32 ro, .int .u32 rk, .slice ra rn rcp, .int .u16 cf, .int .u16 ct, .int .u64 cc, .int .u64 co, .slice ca cn ccp, .int .u32 sc, .int .u64 sk, .slice da dn dcp, .bool wd] 68)) b v v := IAct.ofBelow hb0
  have hB0 : Below B w (w.alloc (.cells #[.int .i64 7, .int .u32 fl, .int .u32 oc, .int .u32 ol, .bool og, .slice oa on ocp, .int .u16 qf, .int .u16 qt, .int .u64 qc, .int .u64 qo, .int .u64 ql, .slice qa qn qcp, .int .u32 ro, .int .u32 rk, .slice ra rn rcp, .int .u16 cf, .int .u16 ct, .int .u64 cc, .int .u64 co, .slice ca cn ccp, .int .u32 sc, .int .u64 sk, .slice da dn dcp, .bool wd] 68)) := hb0.mono hBs
  generalize (w.alloc (.cells #[.int .i64 7, .int .u32 fl, .int .u32 oc, .int .u32 ol, .bool og, .slice oa on ocp, .int .u16 qf, .int .u16 qt, .int .u64 qc, .int .u64 qo, .int .u64 ql, .slice qa qn qcp, .int .u32 ro, .int .u32 rk, .slice ra rn rcp, .int .u16 cf, .int .u16 ct, .int .u64 cc, .int .u64 co, .slice ca cn ccp, .int .u32 sc, .int .u64 sk, .slice da dn dcp, .bool wd] 68)) = W0 at *
  refine Calls.mono (simpleT sc sk hi0 hsc hsk) ?_
  rintro e w1 ⟨ao2, cap2, rfl, v1, hi1, ha1, ho1, hn1⟩
  have hx1 : w1.heap[w.heap.size]? = some (.cells #[.int .i64 7, .int .u32 fl, .int .u32 oc, .int .u32 ol, .bool og, .slice oa on ocp, .int .u16 qf, .int .u16 qt, .int .u64 qc, .int .u64 qo, .int .u64 ql, .slice qa qn qcp, .int .u32 ro, .int .u32 rk, .slice ra rn rcp, .int .u16 cf, .int .u16 ct, .int .u64 cc, .int .u64 co, .slice ca cn ccp, .int .u32 sc, .int .u64 sk, .slice da dn dcp, .bool wd] 68 (0, 0)) := (ha1.kept.block _ (block_lt hx0) HNb.out).trans hx0
  have hB1 : Below B w w1 := hB0.trans (ha1.below hi0)
  have H2 : Hid (Inb (w1.alloc (.cells #[.bool false, .int .u32 (sc : Int), .int .u64 (sk : Int), .int .u16 0, .int .u16 0, .int .u64 0, .int .u64 0, .slice ao2 0 cap2] 103)) B b v1 rm 0 (dd ++ rest) ∧ IAct w (w1.alloc (.cells #[.bool false, .int .u32 (sc : Int), .int .u64 (sk : Int), .int .u16 0, .int .u16 0, .int .u64 0, .int .u64 0, .slice ao2 0 cap2] 103)) b v v1 ∧ Below B w (w1.alloc (.cells #[.bool false, .int .u32 (sc : Int), .int .u64 (sk : Int), .int .u16 0, .int .u16 0, .int .u64 0, .int .u64 0, .slice ao2 0 cap2] 103)) ∧ (w1.alloc (.cells #[.bool false, .int .u32 (sc : Int), .int .u64 (sk : Int), .int .u16 0, .int .u16 0, .int .u64 0, .int .u64 0, .slice ao2 0 cap2] 103)).heap[w1.heap.size]? = some (.cells #[.bool false, .int .u32 (sc : Int), .int .u64 (sk : Int), .int .u16 0, .int .u16 0, .int .u64 0, .int .u64 0, .slice ao2 0 cap2] 103 (0, 0)) ∧ (w1.alloc (.cells #[.bool false, .int .u32 (sc : Int), .int .u64 (sk : Int), .int .u16 0, .int .u16 0, .int .u64 0, .int .u64 0, .slice ao2 0 cap2] 103)).heap[w.heap.size]? = some (.cells #[.int .i64 7, .int .u32 fl, .int .u32 oc, .int .u32 ol, .bool og, .slice oa on ocp, .int .u16 qf, .int .u16 qt, .int .u64 qc, .int .u64 qo, .int .u64 ql, .slice qa qn qcp, .int .u32 ro, .int .u32 rk, .slice ra rn rcp, .int .u16 cf, .int .u16 ct, .int .u64 cc, .int .u64 co, .slice ca cn ccp, .int .u32 sc, .int .u64 sk, .slice da dn dcp, .bool wd] 68 (0, 0)) ∧ ¬ ifp b v1 w1.heap.size ∧ ¬ ifp b v1 w.heap.size) := ⟨hi1.later (alB w1 _), (ha0.trans ha1).trans (IAct.ofBelow (alB w1 _)), hB1.trans ((alB w1 _).mono (Nat.le_trans hBs hB1.size)), heap_new w1 _, ((alB w1 _).block _ (block_lt hx1)).trans hx1, fun e => by have := (hi1.lt _ e).2; omega, fun e => HNb.out (ifp_back ha1 (by have := block_lt hx0; omega) e)⟩
  clear hi0 ha0 hB0 hx0 hb0 hi1 ha1 hx1 hB1 HI ho1 hn1
  go_upto_region 26 with fail
  generalize (w1.alloc (.cells #[.bool false, .int .u32 (sc : Int), .int .u64 (sk : Int), .int .u16 0, .int .u16 0, .int .u64 0, .int .u64 0, .slice ao2 0 cap2] 103)) = w2 at *
  have c22 : w2.cell? ⟨w.heap.size, 22, none⟩ = some (.slice da dn dcp) := (blk_at H2.out.2.2.2.2.1 22).trans rfl
  have HDt : Hid _ := dataT dd H2.out.1
  rw [HDn.out] at HDt
  go_wp2_with fail
  refine Calls.mono HDt.out ?_
  rintro e w3 ⟨ao3, cap3, rfl, v3, hi3, ha3, ho3, hn3⟩
  have H3 : Hid (Inb w3 B b v3 rm 0 rest ∧ IAct w w3 b v v3 ∧ BRow w3 ao3 cap3 dd ∧ BRow w3 da dcp dd) := ⟨hi3, H2.out.2.1.trans ha3, brow_own ho3 HDn.out HLt.out (by rw [HDn.out]; omega), HDr.out _ (H2.out.2.2.1.trans (ha3.below H2.out.1))⟩
  have hx3 : w3.heap[w1.heap.size]? = some (.cells #[.bool false, .int .u32 (sc : Int), .int .u64 (sk : Int), .int .u16 0, .int .u16 0, .int .u64 0, .int .u64 0, .slice ao2 0 cap2] 103 (0, 0)) := (ha3.kept.block _ (block_lt H2.out.2.2.2.1) H2.out.2.2.2.2.2.1).trans H2.out.2.2.2.1
  have hy3 : w3.heap[w.heap.size]? = some (.cells #[.int .i64 7, .int .u32 fl, .int .u32 oc, .int .u32 ol, .bool og, .slice oa on ocp, .int .u16 qf, .int .u16 qt, .int .u64 qc, .int .u64 qo, .int .u64 ql, .slice qa qn qcp, .int .u32 ro, .int .u32 rk, .slice ra rn rcp, .int .u16 cf, .int .u16 ct, .int .u64 cc, .int .u64 co, .slice ca cn ccp, .int .u32 sc, .int .u64 sk, .slice da dn dcp, .bool wd] 68 (0, 0)) := (ha3.kept.block _ (block_lt H2.out.2.2.2.2.1) H2.out.2.2.2.2.2.2).trans H2.out.2.2.2.2.1
  have p0 : w3.cell? ⟨w1.heap.size, 0, none⟩ = some (.bool false) := (blk_at hx3 0).trans rfl
  have p1 : w3.cell? ⟨w1.heap.size, 1, none⟩ = some (.int .u32 (sc : Int)) := (blk_at hx3 1).trans rfl
  have p2 : w3.cell? ⟨w1.heap.size, 2, none⟩ = some (.int .u64 (sk : Int)) := (blk_at hx3 2).trans rfl
  have m20 : w3.cell? ⟨w.heap.size, 20, none⟩ = some (.int .u32 (sc : Int)) := (blk_at hy3 20).trans rfl
  have m21 : w3.cell? ⟨w.heap.size, 21, none⟩ = some (.int .u64 (sk : Int)) := (blk_at hy3 21).trans rfl
  have m22 : w3.cell? ⟨w.heap.size, 22, none⟩ = some (.slice da dn dcp) := (blk_at hy3 22).trans rfl
  clear hi3 ha3 ho3 hn3 hx3 hy3 H2 c22 HDt HDr
  have HEq := eqSim66 (sc : Int) (sk : Int)
  go_wp2_with fail
  refine Calls.mono (same30 H3.out.2.2.1 H3.out.2.2.2 HDn.out HDn.out) ?_
  rintro e w4 ⟨rfl, q, rfl⟩
  have HF : Hid (Inb (w3.drewN q) B b v3 rm 0 rest ∧ IAct w (w3.drewN q) b v v3) := ⟨H3.out.1.drewN q, H3.out.2.1.trans (IAct.drewN q)⟩
  clear H3
  go_wp2
  go_ret
  exact ⟨rfl, v3, HF.out.1, HF.out.2⟩
set_option maxHeartbeats 8000000 in
theorem taken_3 (fl oc ol : Nat) (og : Bool) (oa : Option Addr) (on ocp qf qt qc qo ql : Nat) (qa : Option Addr) (qn qcp ro rk : Nat) (ra : Option Addr) (rn rcp cf ct cc co : Nat) (ca : Option Addr) (cn ccp sc sk : Nat) (da : Option Addr) (dn dcp : Nat) (wd : Bool) (w : World) (qd : List Nat) {B b : Nat} {v : Value} {rm : Nat} {rest : List Nat} (h : Inb w B b v rm 0 (qL qf qt qc qo (askN (⟨3, fl, oc, ol, og, oa, on, ocp, qf, qt, qc, qo, ql, qa, qn, qcp, ro, rk, ra, rn, rcp, cf, ct, cc, co, ca, cn, ccp, sc, sk, da, dn, dcp, wd⟩ : MsF)) (askD (⟨3, fl, oc, ol, og, oa, on, ocp, qf, qt, qc, qo, ql, qa, qn, qcp, ro, rk, ra, rn, rcp, cf, ct, cc, co, ca, cn, ccp, sc, sk, da, dn, dcp, wd⟩ : MsF) qd) wd ++ rest)) (hBs : B ≤ w.heap.size) (hqf : qf < 65536) (hqt : qt < 65536) (hqc : qc < 18446744073709551616) (hqo : qo < 18446744073709551616) (hql : ql < 18446744073709551616) (hlt : ∀ x ∈ qd, x < 256) (hDr : ∀ W, Below B w W → BRow W qa qcp qd) (hdn : qd.length = qn) (hl : qn ≤ 1048576) :
    Calls Try.prog 21 #[.pointer (some ⟨b, 0, none⟩), .agg #[.int .i64 3, .int .u32 fl, .int .u32 oc, .int .u32 ol, .bool og, .slice oa on ocp, .int .u16 qf, .int .u16 qt, .int .u64 qc, .int .u64 qo, .int .u64 ql, .slice qa qn qcp, .int .u32 ro, .int .u32 rk, .slice ra rn rcp, .int .u16 cf, .int .u16 ct, .int .u64 cc, .int .u64 co, .slice ca cn ccp, .int .u32 sc, .int .u64 sk, .slice da dn dcp, .bool wd], .int .u32 4294967295] w fun e w' => e = .returned (.bool true) ∧ ∃ v', Inb w' B b v' rm 0 rest ∧ IAct w w' b v v' := by
  obtain ⟨h1, h2, h3⟩ := ask_fit (⟨3, fl, oc, ol, og, oa, on, ocp, qf, qt, qc, qo, ql, qa, qn, qcp, ro, rk, ra, rn, rcp, cf, ct, cc, co, ca, cn, ccp, sc, sk, da, dn, dcp, wd⟩ : MsF) qd hdn (by rw [hdn]; exact hl) hql
  have HA : Hid (∀ W : World, Calls Try.prog 50 #[.agg #[.int .i64 3, .int .u32 fl, .int .u32 oc, .int .u32 ol, .bool og, .slice oa on ocp, .int .u16 qf, .int .u16 qt, .int .u64 qc, .int .u64 qo, .int .u64 ql, .slice qa qn qcp, .int .u32 ro, .int .u32 rk, .slice ra rn rcp, .int .u16 cf, .int .u16 ct, .int .u64 cc, .int .u64 co, .slice ca cn ccp, .int .u32 sc, .int .u64 sk, .slice da dn dcp, .bool wd]] W fun e w' => e = .returned (.agg #[.int .u16 qf, .int .u16 qt, .int .u64 qc, .int .u64 qo, .int .u64 (askN (⟨3, fl, oc, ol, og, oa, on, ocp, qf, qt, qc, qo, ql, qa, qn, qcp, ro, rk, ra, rn, rcp, cf, ct, cc, co, ca, cn, ccp, sc, sk, da, dn, dcp, wd⟩ : MsF)), askS (⟨3, fl, oc, ol, og, oa, on, ocp, qf, qt, qc, qo, ql, qa, qn, qcp, ro, rk, ra, rn, rcp, cf, ct, cc, co, ca, cn, ccp, sc, sk, da, dn, dcp, wd⟩ : MsF)]) ∧ Below W.heap.size W w') := fun W => askedA (⟨3, fl, oc, ol, og, oa, on, ocp, qf, qt, qc, qo, ql, qa, qn, qcp, ro, rk, ra, rn, rcp, cf, ct, cc, co, ca, cn, ccp, sc, sk, da, dn, dcp, wd⟩ : MsF) W (by show qn < _; omega) hql
  have hSd : ∃ ao cap, askS (⟨3, fl, oc, ol, og, oa, on, ocp, qf, qt, qc, qo, ql, qa, qn, qcp, ro, rk, ra, rn, rcp, cf, ct, cc, co, ca, cn, ccp, sc, sk, da, dn, dcp, wd⟩ : MsF) = .slice ao (askD (⟨3, fl, oc, ol, og, oa, on, ocp, qf, qt, qc, qo, ql, qa, qn, qcp, ro, rk, ra, rn, rcp, cf, ct, cc, co, ca, cn, ccp, sc, sk, da, dn, dcp, wd⟩ : MsF) qd).length cap ∧ (∀ W, Below B w W → BRow W ao cap (askD (⟨3, fl, oc, ol, og, oa, on, ocp, qf, qt, qc, qo, ql, qa, qn, qcp, ro, rk, ra, rn, rcp, cf, ct, cc, co, ca, cn, ccp, sc, sk, da, dn, dcp, wd⟩ : MsF) qd)) := by
    unfold askS askD
    by_cases e : payB qf qt wd = true
    · exact ⟨qa, qcp, by rw [if_pos e, if_pos e, hdn], fun W hb => by rw [if_pos e]; exact hDr W hb⟩
    · exact ⟨none, 0, by rw [if_neg e, if_neg e]; rfl, fun W hb => by rw [if_neg e]; exact BRow.none W⟩
  have hltA : ∀ x ∈ askD (⟨3, fl, oc, ol, og, oa, on, ocp, qf, qt, qc, qo, ql, qa, qn, qcp, ro, rk, ra, rn, rcp, cf, ct, cc, co, ca, cn, ccp, sc, sk, da, dn, dcp, wd⟩ : MsF) qd, x < 256 := by
    unfold askD
    split
    · exact hlt
    · simp
  obtain ⟨sa, scap, hSe, hSb⟩ := hSd
  have h1' : fitB qf qt (askN (⟨3, fl, oc, ol, og, oa, on, ocp, qf, qt, qc, qo, ql, qa, qn, qcp, ro, rk, ra, rn, rcp, cf, ct, cc, co, ca, cn, ccp, sc, sk, da, dn, dcp, wd⟩ : MsF)) (askD (⟨3, fl, oc, ol, og, oa, on, ocp, qf, qt, qc, qo, ql, qa, qn, qcp, ro, rk, ra, rn, rcp, cf, ct, cc, co, ca, cn, ccp, sc, sk, da, dn, dcp, wd⟩ : MsF) qd).length wd = true := h1
  generalize askN (⟨3, fl, oc, ol, og, oa, on, ocp, qf, qt, qc, qo, ql, qa, qn, qcp, ro, rk, ra, rn, rcp, cf, ct, cc, co, ca, cn, ccp, sc, sk, da, dn, dcp, wd⟩ : MsF) = aN at *
  generalize askD (⟨3, fl, oc, ol, og, oa, on, ocp, qf, qt, qc, qo, ql, qa, qn, qcp, ro, rk, ra, rn, rcp, cf, ct, cc, co, ca, cn, ccp, sc, sk, da, dn, dcp, wd⟩ : MsF) qd = aD at *
  generalize askS (⟨3, fl, oc, ol, og, oa, on, ocp, qf, qt, qc, qo, ql, qa, qn, qcp, ro, rk, ra, rn, rcp, cf, ct, cc, co, ca, cn, ccp, sc, sk, da, dn, dcp, wd⟩ : MsF) = aS at *
  subst hSe
  obtain ⟨aL, haL⟩ : ∃ aL, aD.length = aL := ⟨_, rfl⟩
  have HDn : Hid (aD.length = aL) := haL
  have HDr : Hid (∀ W, Below B w W → BRow W sa scap aD) := hSb
  have HLt : Hid (∀ x ∈ aD, x < 256) := hltA
  have haM : aL ≤ 1048576 := by omega
  have hfit : fitB qf qt aN aD.length wd = true := h1'
  have HFit : Hid _ := hfit
  rw [haL] at HA
  clear h1 h1' hfit h3 hSb hltA hlt hDr hdn haL
  have HNb : Hid (¬ ifp b v w.heap.size) := fun e => by have := (h.lt _ e).2; omega
  have HI : Hid _ := h
  clear h
  go_enter Try.func21, Try.ntmps21
  go_wp2_with fail
  have hx0 : (w.alloc (.cells #[.int .i64 3, .int .u32 fl, .int .u32 oc, .int .u32 ol, .bool og, .slice oa on ocp, .int .u16 qf, .int .u16 qt, .int .u64 qc, .int .u64 qo, .int .u64 ql, .slice qa qn qcp, .int .u32 ro, .int .u32 rk, .slice ra rn rcp, .int .u16 cf, .int .u16 ct, .int .u64 cc, .int .u64 co, .slice ca cn ccp, .int .u32 sc, .int .u64 sk, .slice da dn dcp, .bool wd] 68)).heap[w.heap.size]? = some (.cells #[.int .i64 3, .int .u32 fl, .int .u32 oc, .int .u32 ol, .bool og, .slice oa on ocp, .int .u16 qf, .int .u16 qt, .int .u64 qc, .int .u64 qo, .int .u64 ql, .slice qa qn qcp, .int .u32 ro, .int .u32 rk, .slice ra rn rcp, .int .u16 cf, .int .u16 ct, .int .u64 cc, .int .u64 co, .slice ca cn ccp, .int .u32 sc, .int .u64 sk, .slice da dn dcp, .bool wd] 68 (0, 0)) := heap_new w _
  have hb0 : Below w.heap.size w (w.alloc (.cells #[.int .i64 3, .int .u32 fl, .int .u32 oc, .int .u32 ol, .bool og, .slice oa on ocp, .int .u16 qf, .int .u16 qt, .int .u64 qc, .int .u64 qo, .int .u64 ql, .slice qa qn qcp, .int .u32 ro, .int .u32 rk, .slice ra rn rcp, .int .u16 cf, .int .u16 ct, .int .u64 cc, .int .u64 co, .slice ca cn ccp, .int .u32 sc, .int .u64 sk, .slice da dn dcp, .bool wd] 68)) := (Below.refl _ _).alloc (Nat.le_refl _) _
  have hi0 := HI.out.later hb0
  have ha0 : IAct w (w.alloc (.cells #[.int .i64 3, .int .u32 fl, .int .u32 oc, .int .u32 ol, .bool og, .slice oa on ocp, .int .u16 qf, .int .u16 qt, .int .u64 qc, .int .u64 qo, .int .u64 ql, .slice qa qn qcp, .int .u32 ro, .int .u32 rk, .slice ra rn rcp, .int .u16 cf, .int .u16 ct, .int .u64 cc, .int .u64 co, .slice ca cn ccp, .int .u32 sc, .int .u64 sk, .slice da dn dcp, .bool wd] 68)) b v v := IAct.ofBelow hb0
  have hB0 : Below B w (w.alloc (.cells #[.int .i64 3, .int .u32 fl, .int .u32 oc, .int .u32 ol, .bool og, .slice oa on ocp, .int .u16 qf, .int .u16 qt, .int .u64 qc, .int .u64 qo, .int .u64 ql, .slice qa qn qcp, .int .u32 ro, .int .u32 rk, .slice ra rn rcp, .int .u16 cf, .int .u16 ct, .int .u64 cc, .int .u64 co, .slice ca cn ccp, .int .u32 sc, .int .u64 sk, .slice da dn dcp, .bool wd] 68)) := hb0.mono hBs
  generalize (w.alloc (.cells #[.int .i64 3, .int .u32 fl, .int .u32 oc, .int .u32 ol, .bool og, .slice oa on ocp, .int .u16 qf, .int .u16 qt, .int .u64 qc, .int .u64 qo, .int .u64 ql, .slice qa qn qcp, .int .u32 ro, .int .u32 rk, .slice ra rn rcp, .int .u16 cf, .int .u16 ct, .int .u64 cc, .int .u64 co, .slice ca cn ccp, .int .u32 sc, .int .u64 sk, .slice da dn dcp, .bool wd] 68)) = W0 at *
  refine Calls.mono (requestT qf qt qc qo aN aD wd hi0 hqf hqt hqc hqo h2 HFit.out (by rw [HDn.out]; omega)) ?_
  rintro e w1 ⟨ao2, cap2, rfl, v1, hi1, ha1, ho1, hn1⟩
  have hx1 : w1.heap[w.heap.size]? = some (.cells #[.int .i64 3, .int .u32 fl, .int .u32 oc, .int .u32 ol, .bool og, .slice oa on ocp, .int .u16 qf, .int .u16 qt, .int .u64 qc, .int .u64 qo, .int .u64 ql, .slice qa qn qcp, .int .u32 ro, .int .u32 rk, .slice ra rn rcp, .int .u16 cf, .int .u16 ct, .int .u64 cc, .int .u64 co, .slice ca cn ccp, .int .u32 sc, .int .u64 sk, .slice da dn dcp, .bool wd] 68 (0, 0)) := (ha1.kept.block _ (block_lt hx0) HNb.out).trans hx0
  have hB1 : Below B w w1 := hB0.trans (ha1.below hi0)
  have H1 : Hid (Inb w1 B b v1 rm 0 rest ∧ IAct w w1 b v v1 ∧ Below B w w1 ∧ B ≤ w1.heap.size) := ⟨hi1, ha0.trans ha1, hB1, Nat.le_trans hBs hB1.size⟩
  have hro : BRow w1 ao2 cap2 aD := brow_own ho1 rfl HLt.out (by rw [HDn.out]; omega)
  clear hi0 ha0 hB0 hx0 hb0 hi1 ha1 hB1 HI HFit ho1 hn1
  rw [HDn.out]
  have H2 : Hid (Inb (w1.alloc (.cells #[.int .u16 (qf : Int), .int .u16 (qt : Int), .int .u64 (qc : Int), .int .u64 (qo : Int), .int .u64 (aN : Int), .slice ao2 aL cap2] 60)) B b v1 rm 0 rest ∧ IAct w (w1.alloc (.cells #[.int .u16 (qf : Int), .int .u16 (qt : Int), .int .u64 (qc : Int), .int .u64 (qo : Int), .int .u64 (aN : Int), .slice ao2 aL cap2] 60)) b v v1 ∧ BRow (w1.alloc (.cells #[.int .u16 (qf : Int), .int .u16 (qt : Int), .int .u64 (qc : Int), .int .u64 (qo : Int), .int .u64 (aN : Int), .slice ao2 aL cap2] 60)) ao2 cap2 aD ∧ Below B w (w1.alloc (.cells #[.int .u16 (qf : Int), .int .u16 (qt : Int), .int .u64 (qc : Int), .int .u64 (qo : Int), .int .u64 (aN : Int), .slice ao2 aL cap2] 60)) ∧ B ≤ (w1.alloc (.cells #[.int .u16 (qf : Int), .int .u16 (qt : Int), .int .u64 (qc : Int), .int .u64 (qo : Int), .int .u64 (aN : Int), .slice ao2 aL cap2] 60)).heap.size ∧ (w1.alloc (.cells #[.int .u16 (qf : Int), .int .u16 (qt : Int), .int .u64 (qc : Int), .int .u64 (qo : Int), .int .u64 (aN : Int), .slice ao2 aL cap2] 60)).heap[w1.heap.size]? = some (.cells #[.int .u16 (qf : Int), .int .u16 (qt : Int), .int .u64 (qc : Int), .int .u64 (qo : Int), .int .u64 (aN : Int), .slice ao2 aL cap2] 60 (0, 0)) ∧ (w1.alloc (.cells #[.int .u16 (qf : Int), .int .u16 (qt : Int), .int .u64 (qc : Int), .int .u64 (qo : Int), .int .u64 (aN : Int), .slice ao2 aL cap2] 60)).heap[w.heap.size]? = some (.cells #[.int .i64 3, .int .u32 fl, .int .u32 oc, .int .u32 ol, .bool og, .slice oa on ocp, .int .u16 qf, .int .u16 qt, .int .u64 qc, .int .u64 qo, .int .u64 ql, .slice qa qn qcp, .int .u32 ro, .int .u32 rk, .slice ra rn rcp, .int .u16 cf, .int .u16 ct, .int .u64 cc, .int .u64 co, .slice ca cn ccp, .int .u32 sc, .int .u64 sk, .slice da dn dcp, .bool wd] 68 (0, 0))) := ⟨H1.out.1.later (alB w1 _), H1.out.2.1.trans (IAct.ofBelow (alB w1 _)), hro.later (alB w1 _), H1.out.2.2.1.trans ((alB w1 _).mono H1.out.2.2.2), Nat.le_trans H1.out.2.2.2 (by simp), heap_new w1 _, ((alB w1 _).block _ (block_lt hx1)).trans hx1⟩
  clear hro H1 hx1
  go_upto_region 10 with fail
  generalize (w1.alloc (.cells #[.int .u16 (qf : Int), .int .u16 (qt : Int), .int .u64 (qc : Int), .int .u64 (qo : Int), .int .u64 (aN : Int), .slice ao2 aL cap2] 60)) = w2 at *
  have HRg : Hid (w2.rangeAt w.heap.size 0 (#[.int .i64 3, .int .u32 fl, .int .u32 oc, .int .u32 ol, .bool og, .slice oa on ocp, .int .u16 qf, .int .u16 qt, .int .u64 qc, .int .u64 qo, .int .u64 ql, .slice qa qn qcp, .int .u32 ro, .int .u32 rk, .slice ra rn rcp, .int .u16 cf, .int .u16 ct, .int .u64 cc, .int .u64 co, .slice ca cn ccp, .int .u32 sc, .int .u64 sk, .slice da dn dcp, .bool wd] : Array Value).toList) := range68 H2.out.2.2.2.2.2.2
  go_wp2_with (refine wpList_load68 rfl _ rfl w.heap.size 0 rfl #[.int .i64 3, .int .u32 fl, .int .u32 oc, .int .u32 ol, .bool og, .slice oa on ocp, .int .u16 qf, .int .u16 qt, .int .u64 qc, .int .u64 qo, .int .u64 ql, .slice qa qn qcp, .int .u32 ro, .int .u32 rk, .slice ra rn rcp, .int .u16 cf, .int .u16 ct, .int .u64 cc, .int .u64 co, .slice ca cn ccp, .int .u32 sc, .int .u64 sk, .slice da dn dcp, .bool wd] HRg.out rfl ?_)
  clear HRg
  refine Calls.mono (HA.out _) ?_
  rintro e w3 ⟨rfl, hb3⟩
  have hx3 : w3.heap[w1.heap.size]? = some (.cells #[.int .u16 (qf : Int), .int .u16 (qt : Int), .int .u64 (qc : Int), .int .u64 (qo : Int), .int .u64 (aN : Int), .slice ao2 aL cap2] 60 (0, 0)) := (hb3.block _ (block_lt H2.out.2.2.2.2.2.1)).trans H2.out.2.2.2.2.2.1
  have H3 : Hid (Inb (w3.alloc (.cells #[.int .u16 (qf : Int), .int .u16 (qt : Int), .int .u64 (qc : Int), .int .u64 (qo : Int), .int .u64 (aN : Int), .slice sa aL scap] 60)) B b v1 rm 0 rest ∧ IAct w (w3.alloc (.cells #[.int .u16 (qf : Int), .int .u16 (qt : Int), .int .u64 (qc : Int), .int .u64 (qo : Int), .int .u64 (aN : Int), .slice sa aL scap] 60)) b v v1 ∧ BRow (w3.alloc (.cells #[.int .u16 (qf : Int), .int .u16 (qt : Int), .int .u64 (qc : Int), .int .u64 (qo : Int), .int .u64 (aN : Int), .slice sa aL scap] 60)) ao2 cap2 aD ∧ BRow (w3.alloc (.cells #[.int .u16 (qf : Int), .int .u16 (qt : Int), .int .u64 (qc : Int), .int .u64 (qo : Int), .int .u64 (aN : Int), .slice sa aL scap] 60)) sa scap aD) := ⟨(H2.out.1.later hb3).later (alB w3 _), (H2.out.2.1.trans (IAct.ofBelow hb3)).trans (IAct.ofBelow (alB w3 _)), (H2.out.2.2.1.later hb3).later (alB w3 _), HDr.out _ ((H2.out.2.2.2.1.trans (hb3.mono H2.out.2.2.2.2.1)).trans ((alB w3 _).mono (Nat.le_trans H2.out.2.2.2.2.1 hb3.size)))⟩
  have p0 : ∀ o : Obj, (w3.alloc o).cell? ⟨w1.heap.size, 0, none⟩ = some (.int .u16 (qf : Int)) := fun o => cell_later (alB w3 o) ((blk_at hx3 0).trans rfl)
  have p1 : ∀ o : Obj, (w3.alloc o).cell? ⟨w1.heap.size, 1, none⟩ = some (.int .u16 (qt : Int)) := fun o => cell_later (alB w3 o) ((blk_at hx3 1).trans rfl)
  have p2 : ∀ o : Obj, (w3.alloc o).cell? ⟨w1.heap.size, 2, none⟩ = some (.int .u64 (qc : Int)) := fun o => cell_later (alB w3 o) ((blk_at hx3 2).trans rfl)
  have p3 : ∀ o : Obj, (w3.alloc o).cell? ⟨w1.heap.size, 3, none⟩ = some (.int .u64 (qo : Int)) := fun o => cell_later (alB w3 o) ((blk_at hx3 3).trans rfl)
  have p4 : ∀ o : Obj, (w3.alloc o).cell? ⟨w1.heap.size, 4, none⟩ = some (.int .u64 (aN : Int)) := fun o => cell_later (alB w3 o) ((blk_at hx3 4).trans rfl)
  have p5 : ∀ o : Obj, (w3.alloc o).cell? ⟨w1.heap.size, 5, none⟩ = some (.slice ao2 aL cap2) := fun o => cell_later (alB w3 o) ((blk_at hx3 5).trans rfl)
  clear hb3 hx3 H2 HA HDr
  go_wp2_with fail
  clear p0 p1 p2 p3 p4 p5
  generalize (w3.alloc (.cells #[.int .u16 (qf : Int), .int .u16 (qt : Int), .int .u64 (qc : Int), .int .u64 (qo : Int), .int .u64 (aN : Int), .slice sa aL scap] 60)) = w4 at *
  refine Calls.mono (same30 H3.out.2.2.1 H3.out.2.2.2 HDn.out HDn.out) ?_
  rintro e w5 ⟨rfl, q, rfl⟩
  have HF : Hid (Inb (w4.drewN q) B b v1 rm 0 rest ∧ IAct w (w4.drewN q) b v v1) := ⟨H3.out.1.drewN q, H3.out.2.1.trans (IAct.drewN q)⟩
  clear H3
  go_wp2
  go_ret
  exact ⟨rfl, v1, HF.out.1, HF.out.2⟩
end Go.Proofs.Ytckfmpoddmccfaa

namespace Go.Proofs.Ytckfmpoddmccfaa
open Go.RowKit
set_option linter.unusedVariables false
set_option linter.unusedSimpArgs false
set_option maxRecDepth 100000
theorem taken_any (x : MsD) (w : World) {B b : Nat} {v : Value} {rm : Nat} {rest : List Nat} (hO : laidO x = true) (h : Inb w B b v rm 0 (laidB x ++ rest)) (hBs : B ≤ w.heap.size) (hN : MsN x) (hR : ∀ W, Below B w W → MsR W x) :
    Calls Try.prog 21 #[.pointer (some ⟨b, 0, none⟩), .agg x.m.cells, .int .u32 4294967295] w fun e w' => e = .returned (.bool true) ∧ ∃ v', Inb w' B b v' rm 0 rest ∧ IAct w w' b v v' := by
  obtain ⟨m, od, qd, rd, cd, dd⟩ := x
  obtain ⟨kd, fl, oc, ol, og, oa, on, ocp, qf, qt, qc, qo, ql, qa, qn, qcp, ro, rk, ra, rn, rcp, cf, ct, cc, co, ca, cn, ccp, sc, sk, da, dn, dcp, wd⟩ := m
  obtain ⟨h1, h2, h3, h4, h5, h6, h7, h8, h9, h10, h11, h12, h13, h14, h15, d1, d2, d3, d4, d5, l1, l2, l3, l4, l5⟩ := hN
  have hr := hR w (Below.refl _ _)
  simp only at h1 h2 h3 h4 h5 h6 h7 h8 h9 h10 h11 h12 h13 h14 h15 d1 d2 d3 d4 d5 l1 l2 l3 l4 l5
  unfold laidB at h
  simp only [laidO, Bool.and_eq_true, decide_eq_true_eq] at hO
  simp only at h
  by_cases k1 : kd = 1
  · subst k1; exact taken_1 _ _ _ _ _ _ _ _ _ _ _ _ _ _ _ _ _ _ _ _ _ _ _ _ _ _ _ _ _ _ _ _ _ w h hBs h1
  rw [if_neg k1] at h
  by_cases k2 : kd = 2
  · subst k2; exact taken_2 _ _ _ _ _ _ _ _ _ _ _ _ _ _ _ _ _ _ _ _ _ _ _ _ _ _ _ _ _ _ _ _ _ w od h hBs h2 hr.od.lt (fun W hb => (hR W hb).od) d1 (d1 ▸ l1)
  rw [if_neg k2] at h
  by_cases k3 : kd = 3
  · subst k3; exact taken_3 _ _ _ _ _ _ _ _ _ _ _ _ _ _ _ _ _ _ _ _ _ _ _ _ _ _ _ _ _ _ _ _ _ w qd h hBs h3 h4 h5 h6 h7 hr.qd.lt (fun W hb => (hR W hb).qd) d2 (d2 ▸ l2)
  rw [if_neg k3] at h
  by_cases k4 : kd = 4
  · subst k4; exact taken_4 _ _ _ _ _ _ _ _ _ _ _ _ _ _ _ _ _ _ _ _ _ _ _ _ _ _ _ _ _ _ _ _ _ w rd h hBs h8 h9 hr.rd.lt (fun W hb => (hR W hb).rd) d3 (d3 ▸ l3)
  rw [if_neg k4] at h
  by_cases k5 : kd = 5
  · subst k5
    cases wd
    · exact taken_5f _ _ _ _ _ _ _ _ _ _ _ _ _ _ _ _ _ _ _ _ _ _ _ _ _ _ _ _ _ _ _ _ w cd h hBs h10 h11 h12 h13 hr.cd.lt (fun W hb => (hR W hb).cd) d4 (d4 ▸ l4)
    · exact taken_5t _ _ _ _ _ _ _ _ _ _ _ _ _ _ _ _ _ _ _ _ _ _ _ _ _ _ _ _ _ _ _ _ w cd h hBs h10 h11 h12 h13 hr.cd.lt (fun W hb => (hR W hb).cd) d4 (d4 ▸ l4)
  rw [if_neg k5] at h
  by_cases k6 : kd = 6
  · subst k6; exact taken_6 _ _ _ _ _ _ _ _ _ _ _ _ _ _ _ _ _ _ _ _ _ _ _ _ _ _ _ _ _ _ _ _ _ w h hBs h1
  rw [if_neg k6] at h
  by_cases k7 : kd = 7
  · subst k7; exact taken_7 _ _ _ _ _ _ _ _ _ _ _ _ _ _ _ _ _ _ _ _ _ _ _ _ _ _ _ _ _ _ _ _ _ w dd h hBs h14 h15 hr.dd.lt (fun W hb => (hR W hb).dd) d5 (d5 ▸ l5)
  · omega
end Go.Proofs.Ytckfmpoddmccfaa

namespace Go.Proofs.Ytckfmpoddmccfaa
open Go.RowKit
set_option linter.unusedVariables false
set_option linter.unusedSimpArgs false
set_option maxRecDepth 100000
set_option maxHeartbeats 40000000 in
theorem frameBack_any (mo : Option Addr) (mn mc : Nat) (po : Option Addr) (pn pc : Nat) (w : World) (X : List MsD) (hM : MRow w mo X) (HN : Hid (X.length = mn)) (HOk : Hid (∀ x ∈ X, MsN x ∧ MsR w x)) (hZ : ZRow w po pn) :
    Calls Try.prog 6 #[.slice mo mn mc, .slice po pn pc] w fun e w' => e = .returned (.bool true) ∧ Below w.heap.size w w' := by
  have hmn : mn ≤ 1048576 := by rw [← HN.out]; exact hM.len
  have HM : Hid (MRow w mo X) := hM
  have HZ : Hid (ZRow w po pn) := hZ
  have hpn : pn ≤ 1099511627776 := hZ.len
  obtain ⟨i0, hi, hz0, hz1, hz2⟩ := info_parts Try.info5
  clear hM hZ
  go_enter Try.func6, Try.ntmps6
  go_wp2_with fail
  refine (heads_any w).mono ?_
  rintro e W1 ⟨rfl, hb1⟩
  have H0 : Hid (L1 w W1 X 0 1 0 none 0 []) := ⟨hb1, World.ownsRow_nil _ _ _ _, by simp, rfl, by simp, Nat.le_refl _, by decide, by simp, by simp⟩
  clear hb1
  go_wp2
  go_loopw [5, 6, 7] (fun rv av iv wr => ∃ (k rm an : Nat) (ao : Option Addr) (cap : Nat) (A : List Nat), k ≤ mn ∧ iv = .int .i64 (k : Int) ∧ rv = .int .i64 (rm : Int) ∧ av = .slice ao an cap ∧ Hid (L1 w wr X k rm an ao cap A)) (fun _ _ iv _ => mn - (intOf iv).toNat)
  case atStart => exact ⟨0, 1, 0, none, 0, [], Nat.zero_le _, rfl, rfl, rfl, H0⟩
  case round =>
    obtain ⟨k, rm, an, ao, cap, A, hk, rfl, rfl, rfl, H⟩ := hrel
    clear H0
    by_cases hlt : k < mn
    · as_aux_lemma =>
        have hkl : k < X.length := by rw [HN.out]; exact hlt
        have hrow : MRow wr mo X := HM.out.later H.out.bel
        obtain ⟨mb, mof, hmo, hcell⟩ := hrow.at_ (fun h0 => by rw [h0] at hkl; simp at hkl)
        subst hmo
        have hcell := hcell k hkl
        have hok := HOk.out _ (List.getElem_mem hkl)
        have hkz : (k : Int) < (mn : Int) := by omega
        have hkn : ¬ (k : Int) < 0 := by omega
        have hblen := laidB_len X[k] hok.1
        have hlaid := laid_any X[k] wr hok.1 (hok.2.later H.out.bel)
        have HRg : Hid (wr.rangeAt mb (mof + k * 24) X[k].m.cells.toList) := fun j v hj => by
          have hlt9 : j < 24 := by have := (List.getElem?_eq_some_iff.1 hj).1; simpa using this
          rw [hcell j hlt9]; simpa using hj
        clear hrow
        obtain ⟨bn, hbn⟩ : ∃ bn, (laidB X[k]).length = bn := ⟨_, rfl⟩
        have HBn : Hid _ := hbn
        have hbl : bn ≤ 1048608 := by omega
        have hanl : an ≤ 1099545182208 := by have := H.out.le; have h9 := Nat.mul_le_mul_right 1048608 hk; omega
        have hrml : rm ≤ 1048608 := H.out.r2
        obtain ⟨ok9, hok9⟩ : ∃ ok9, laidO X[k] = ok9 := ⟨_, rfl⟩
        have hlaid2 : Calls Try.prog 20 #[.agg X[k].m.cells] wr fun e w' => ∃ ao cap, e = .returned (.tuple #[.slice ao bn cap, .bool ok9]) ∧ Row wr w' ao cap (laidB X[k]) := by
          rw [← hbn, ← hok9]; exact hlaid
        have HL : Hid _ := hlaid2
        have HXk : Hid (k < X.length) := hkl
        clear hlaid hlaid2 hok hblen hcell hok9 hbn
        generalize hBx : laidB X[k] = Bx at *
        go_wp2_with (refine wpList_load68 rfl _ rfl mb (mof + k * 24) rfl X[k].m.cells HRg.out rfl ?_)
        clear HRg
        refine Calls.mono HL.out ?_
        rintro e W2 ⟨ao2, cap2, rfl, hr⟩
        have H2 : Hid (Row wr W2 ao2 cap2 Bx ∧ W2.ownsRow w.heap.size 5 1 (.slice ao an cap) an (A.map bv) ∧ BRow W2 ao2 cap2 Bx ∧ w.heap.size ≤ W2.heap.size) := ⟨hr, owns_same H.out.own (fun g hg => hr.bel.block g (owns_lt H.out.own g hg).1), hr.brow (by rw [HBn.out]; omega), Nat.le_trans H.out.bel.size hr.bel.size⟩
        clear hr HL
        go_wp2_with (at_builtin; refine wpList_append_two _ rfl _ _ 22 rfl w.heap.size 5 i0 (.int .u8 0) 1 Try.underlying22 hi hz0 hz1 hz2 rfl (.slice ao an cap) an (A.map bv) rfl H2.out.2.1 ao2 bn cap2 (Bx.map bv) rfl (by have := H2.out.2.2.1.nil'; rwa [HBn.out] at this) (by rw [List.length_map]; exact HBn.out) H2.out.2.2.1.news (bv_one Bx) (by unfold maxLen; omega) (by omega) H2.out.2.2.2 ?_)
        intro v3 W3 ho3 hg3 hf3
        obtain ⟨ao3, cap3, rfl⟩ := owns_form ho3
        have HS : Hid (∀ rm', rm' = max rm bn → L1 w W3 X (k + 1) rm' (an + bn) ao3 cap3 (A ++ Bx)) := fun rm' e => by
          subst hBx
          exact H.out.step HXk.out H2.out.1 HBn.out hbl ho3 hg3 e
        clear ho3 hg3 hf3 H2
        by_cases hmx : rm < bn
        · have hmz : (rm : Int) < (bn : Int) := by omega
          have hmz2 : max (rm : Int) (bn : Int) = (bn : Int) := by omega
          go_wp2
          go_roundw
          case rel => exact ⟨k + 1, bn, an + bn, ao3, cap3, A ++ Bx, by omega, by go_num, rfl, rfl, HS.out bn (by omega)⟩
          case measure => simp [intOf]; omega
        · have hmz : ¬ (rm : Int) < (bn : Int) := by omega
          have hmz2 : max (rm : Int) (bn : Int) = (rm : Int) := by omega
          go_wp2
          go_roundw
          case rel => exact ⟨k + 1, rm, an + bn, ao3, cap3, A ++ Bx, by omega, by go_num, rfl, rfl, HS.out rm (by omega)⟩
          case measure => simp [intOf]; omega
    · as_aux_lemma =>
        obtain rfl : k = mn := by omega
        generalize wr = Wa at *
        have hrml : rm ≤ 1048608 := H.out.r2
        have hrm1 : 1 ≤ rm := H.out.r1
        have hanl : an ≤ 1099545182208 := by have := H.out.le; have h9 := Nat.mul_le_mul_right 1048608 hmn; omega
        have hr2 : ¬ (2097152 : Int) < (rm : Int) := by omega
        have HNw : Hid _ := newI rm hrm1 (by omega) Wa
        go_wp2_with fail
        refine Calls.mono HNw.out ?_
        rintro e W3 ⟨rfl, hI3, hb3⟩
        have hX0 : A = X.flatMap laidB := by have := H.out.eq; rwa [List.take_of_length_le (by rw [HN.out]; omega)] at this
        have H2 : Hid (L2 Wa W3 X A rm 0 0 (.slice none 0 0) []) := ⟨hb3, hI3, by simpa using hX0, Nat.zero_le _⟩
        have HRm : Hid (∀ x ∈ X, (laidB x).length ≤ rm) := fun x hx => H.out.rr x (by rw [List.take_of_length_le (by rw [HN.out]; omega)]; exact hx)
        clear hI3 hb3 HNw hX0
        go_wp2
        go_loopw [12, 13] (fun av iv wx => ∃ (i at_ : Nat) (v : Value) (Hl : List Nat), i ≤ k ∧ iv = .int .i64 (i : Int) ∧ av = .int .i64 (at_ : Int) ∧ Hid (L2 Wa wx X A rm i at_ v Hl)) (fun _ iv _ => k - (intOf iv).toNat)
        case atStart => exact ⟨0, 0, _, [], Nat.zero_le _, rfl, rfl, H2⟩
        case round =>
          obtain ⟨i, at_, v, Hl, hi_, rfl, rfl, HL2⟩ := hrel
          clear H2
          generalize wr = wx at *
          by_cases hlt : i < k
          · as_aux_lemma =>
              have HBx : Hid (Below w.heap.size w wx) := H.out.bel.trans (HL2.out.bel.mono H.out.bel.size)
              have hkl : i < X.length := by rw [HN.out]; exact hlt
              obtain ⟨mb, mof, hmo, hcell⟩ := HM.out.at_ (fun h0 => by rw [h0] at hkl; simp at hkl)
              subst hmo
              have hcell0 := hcell i hkl
              have hcell : ∀ j (hj : j < 24), wx.cell? ⟨mb, mof + i * 24 + j, none⟩ = (X[i].m.cells)[j]? := fun j hj => by
                obtain ⟨u, hu⟩ : ∃ u, (X[i].m.cells)[j]? = some u := ⟨_, Array.getElem?_eq_getElem (show j < X[i].m.cells.size from hj)⟩
                rw [hu]; exact cell_later HBx.out ((hcell0 j hj).trans hu)
              have hok := HOk.out _ (List.getElem_mem hkl)
              have hkz : (i : Int) < (k : Int) := by omega
              have hkn : ¬ (i : Int) < 0 := by omega
              have hblen := laidB_len X[i] hok.1
              have hlaid := laid_any X[i] wx hok.1 (hok.2.later HBx.out)
              have HRg : Hid (wx.rangeAt mb (mof + i * 24) X[i].m.cells.toList) := fun j v hj => by
                have hlt9 : j < 24 := by have := (List.getElem?_eq_some_iff.1 hj).1; simpa using this
                rw [hcell j hlt9]; simpa using hj
              obtain ⟨bn, hbn⟩ : ∃ bn, (laidB X[i]).length = bn := ⟨_, rfl⟩
              have HBn : Hid _ := hbn
              have hbl : bn ≤ 1048608 := by omega
              have hbr : bn ≤ rm := by rw [← hbn]; exact HRm.out _ (List.getElem_mem hkl)
              obtain ⟨ok9, hok9⟩ : ∃ ok9, laidO X[i] = ok9 := ⟨_, rfl⟩
              have HO9 : Hid (laidO X[i] = ok9) := hok9
              have hlaid2 : Calls Try.prog 20 #[.agg X[i].m.cells] wx fun e w' => ∃ ao cap, e = .returned (.tuple #[.slice ao bn cap, .bool ok9]) ∧ Row wx w' ao cap (laidB X[i]) := by
                rw [← hbn, ← hok9]; exact hlaid
              have HL : Hid _ := hlaid2
              have HXi : Hid (i < X.length) := hkl
              have HDf : Hid _ := drop_fm X i hkl
              have HCl : Hid (∀ W, Below w.heap.size w W → W.rangeAt mb (mof + i * 24) X[i].m.cells.toList) := fun W hb j v hj => by
                have hlt9 : j < 24 := by have := (List.getElem?_eq_some_iff.1 hj).1; simpa using this
                exact cell_later hb ((hcell0 j hlt9).trans (by rw [← Array.getElem?_toList]; exact hj))
              have HOk1 : Hid (MsN X[i] ∧ MsR w X[i]) := hok
              clear hlaid hlaid2 hok hblen hcell hcell0 hok9 hbn
              go_wp2_with (refine wpList_load68 rfl _ rfl mb (mof + i * 24) rfl X[i].m.cells HRg.out rfl ?_)
              clear HRg
              refine Calls.mono HL.out ?_
              rintro e W4 ⟨ao2, cap2, rfl, hr⟩
              have H4 : Hid (L3 Wa W4 A ((X.drop (i + 1)).flatMap laidB) (laidB X[i]) rm at_ v Hl ∧ Below wx.heap.size wx W4) := ⟨⟨HL2.out.bel.trans (hr.bel.mono HL2.out.bel.size), HL2.out.inb.later hr.bel, HL2.out.eq.trans HDf.out, HL2.out.le⟩, hr.bel⟩
              clear hr HL HL2
              rcases ok9 with _ | _
              · have hb0 : laidB X[i] = [] := laidB_no _ HO9.out
                have HN2 : Hid (L2 Wa W4 X A rm (i + 1) at_ v Hl) := ⟨H4.out.1.bel, H4.out.1.inb, by have := H4.out.1.eq; rwa [hb0, List.nil_append] at this, H4.out.1.le⟩
                clear H4 hb0
                go_wp2
                go_roundw
                case rel => exact ⟨i + 1, at_, v, Hl, by omega, by go_num, rfl, HN2⟩
                case measure => simp [intOf]; omega
              · as_aux_lemma =>
                  obtain ⟨R, hR⟩ : ∃ R, (X.drop (i + 1)).flatMap laidB = R := ⟨_, rfl⟩
                  obtain ⟨Bx, hBx⟩ : ∃ Bx, laidB X[i] = Bx := ⟨_, rfl⟩
                  have HL3a : Hid (L3 Wa W4 A R Bx rm at_ v Hl) := by rw [← hR, ← hBx]; exact H4.out.1
                  have HBx2 : Hid (Bx.length = bn) := by rw [← hBx]; exact HBn.out
                  have HRe : Hid _ := hR
                  have HBe : Hid _ := hBx
                  clear hR hBx HBn H4 HDf
                  go_wp2
                  go_loopw [12, 16] (fun av kv wy => ∃ (a kk : Nat) (v : Value) (Hl : List Nat), av = .int .i64 (a : Int) ∧ kv = .int .i64 (kk : Int) ∧ kk ≤ a ∧ a ≤ an ∧ Hid (L3 Wa wy A R Bx rm a v Hl)) (fun av _ _ => an - (intOf av).toNat)
                  case atStart => exact ⟨at_, 0, v, Hl, rfl, rfl, Nat.zero_le _, by have := HL3a.out.le; have := H.out.len; omega, HL3a⟩
                  case round =>
                    clear HL3a
                    obtain ⟨a, kk, v, Hl, rfl, rfl, hka, haa, HL3⟩ := hrel
                    generalize wr = wy at *
                    have HHd : Hid _ := heldI HL3.out.inb
                    obtain ⟨hl, hhl⟩ : ∃ hl, Hl.length = hl := ⟨_, rfl⟩
                    rw [hhl] at HHd
                    have HHl : Hid (Hl.length = hl) := hhl
                    have hlr : hl ≤ rm := by rw [← hhl]; exact HL3.out.inb.le
                    clear hhl
                    go_wp2_with fail
                    refine Calls.mono HHd.out ?_
                    rintro e W5 ⟨rfl, hw⟩
                    rw [hw]; clear hw HHd W5
                    by_cases hh : hl < bn
                    · as_aux_lemma =>
                        have hhz : (hl : Int) < (bn : Int) := by omega
                        have hal : a < an := by have h1 := HL3.out.left (by rw [HHl.out, HBx2.out]; exact hh); have h2 := H.out.len; omega
                        obtain ⟨g, hao, hcp1, hcp2⟩ : ∃ g, ao = some ⟨g, 0, none⟩ ∧ an ≤ cap ∧ cap ≤ 9223372036854775807 := by
                          rcases H.out.own.2 with ⟨_, h0⟩ | ⟨g, cp, cur, hv, _, _, h1, h2, _⟩
                          · omega
                          · simp only [Value.slice.injEq] at hv
                            obtain ⟨rfl, _, rfl⟩ := hv
                            exact ⟨g, rfl, h1, by unfold maxLen at h2; omega⟩
                        subst hao
                        have HCr : Hid (CRow wy (some ⟨g, 0, none⟩) cap A) := by
                          have h1 := H.out.own
                          have h2 : BRow Wa (some ⟨g, 0, none⟩) cap A := brow_own' h1 H.out.len H.out.lt (by rw [H.out.len]; omega)
                          exact ⟨h2.later HL3.out.bel, by rw [H.out.len]; exact hcp1, hcp2⟩
                        have HBw : Hid (Below w.heap.size w wy) := H.out.bel.trans (HL3.out.bel.mono H.out.bel.size)
                        go_upto_if 81 with fail
                        go_cut [17] from 72 to 118 (fun nv w9 => ∃ n1 : Nat, nv = .int .i64 (n1 : Int) ∧ 1 ≤ n1 ∧ n1 ≤ 64 ∧ w9 = wy)
                        case first =>
                          by_cases hp0 : 0 < pn
                          · obtain ⟨pb, pof, rfl, hcz⟩ := (HZ.out.later HBw.out).pos hp0
                            obtain ⟨ix, ik, hix, hik1, hrm8, hrm9, hixz, hpz, hpz2⟩ := idx_facts i kk pn hp0 (by omega)
                            obtain ⟨z, hz⟩ := hcz ix hix
                            clear hcz
                            obtain ⟨r, m0, hr1, hr2, hr3, hr4, hm1, hm64⟩ := piece_facts z
                            have HM0 : Hid (1 ≤ m0 ∧ m0 ≤ 64) := ⟨hm1, hm64⟩
                            clear hm1 hm64
                            go_wp2
                            go_meet
                            exact ⟨m0, rfl, HM0.out.1, HM0.out.2, rfl⟩
                          · have hpz : ¬ (0 : Int) < (pn : Int) := by omega
                            go_wp2
                            go_meet
                            exact ⟨1, rfl, by omega, by omega, rfl⟩
                        case rest =>
                          obtain ⟨n1, rfl, hn1, hn2, hw⟩ := hcut
                          subst hw
                          obtain ⟨Dd, m2, T, q1, q1b, hmm, hm1, hm2, hm3, q4, q4b, q5, q6, q7, q8, q9⟩ := feed_facts n1 an a cap hn1 hn2 hal hanl hcp1 hcp2
                          have HMm : Hid (m2 = min n1 Dd) := hmm
                          have HHm : Hid (1 ≤ m2 ∧ a + m2 ≤ an ∧ m2 ≤ 64) := ⟨hm1, hm2, hm3⟩
                          clear hmm hm1 hm2 hm3 hn1 hn2
                          go_upto_region 28 with fail
                          go_cut [17] from 72 to 118 (fun nv w9 => nv = .int .i64 (m2 : Int) ∧ w9 = wc)
                          case first =>
                            by_cases hd : Dd < n1
                            · have hdz : (Dd : Int) < (n1 : Int) := by omega
                              have hme : m2 = Dd := min_lo HMm.out hd
                              go_wp2
                              go_meet
                              exact ⟨by rw [hme], rfl⟩
                            · have hdz : ¬ (Dd : Int) < (n1 : Int) := by omega
                              have hme : m2 = n1 := min_hi HMm.out hd
                              go_wp2
                              go_meet
                              exact ⟨by rw [hme], rfl⟩
                          case rest =>
                            obtain ⟨hv9, hw9⟩ := hcut
                            subst hv9 hw9
                            clear q1 q1b
                            have hlen9 : ((A.drop a).take m2).length = m2 := by rw [List.length_take, List.length_drop, H.out.len]; have := HHm.out; omega
                            have hcr : CRow wc (some ⟨g, a, none⟩) (cap - a) ((A.drop a).take m2) := by
                              have h9 := HCr.out.part a m2 (by rw [H.out.len]; exact HHm.out.2.1) ⟨g, 0, none⟩ rfl
                              rw [if_neg q8] at h9
                              simp only [Nat.zero_add] at h9
                              exact ⟨h9, by rw [hlen9]; have := HHm.out; omega, by omega⟩
                            obtain ⟨mm, g1, g2, g3, g4, g5, g6⟩ := got_facts m2 hl rm bn a an HHm.out.1 hh hbr HHm.out.2.1 hanl
                            have hfd := feedI HL3.out.inb (some ⟨g, a, none⟩) (cap - a) m2 ((A.drop a).take m2) hcr hlen9 (by have := HHm.out; omega) 0 mm (by omega) (by rw [HHl.out]; exact g1)
                            rw [Nat.zero_add] at hfd
                            have HFd : Hid _ := hfd
                            have HG2 : Hid (1 ≤ mm ∧ mm ≤ m2) := ⟨g2, g3⟩
                            clear hlen9 hcr hfd g1 g2 g3
                            go_wp2_with fail
                            refine Calls.mono HFd.out ?_
                            rintro e W6 ⟨rfl, v6, hi6, ha6⟩
                            have H6 : Hid (L3 Wa W6 A R Bx rm (a + mm) v6 (Hl ++ (A.drop a).take mm)) := HL3.out.fed HG2.out.2 (by rw [H.out.len]; exact HHm.out.2.1) hi6 ha6
                            clear hi6 ha6 HFd
                            go_wp2
                            go_roundw
                            case rel => exact ⟨a + mm, kk + 1, v6, _, by go_num, by go_num, by have := HG2.out; omega, by have := HG2.out; have := HHm.out; omega, H6⟩
                            case measure => simp [intOf]; have := HG2.out; have := HHm.out; omega
                    · as_aux_lemma =>
                        have hhz : ¬ (hl : Int) < (bn : Int) := by omega
                        have HBw : Hid (Below w.heap.size w wy) := H.out.bel.trans (HL3.out.bel.mono H.out.bel.size)
                        obtain ⟨hd1, hd2⟩ := HL3.out.done (W' := wy) (v' := v) (by rw [HHl.out, HBx2.out]; omega)
                        obtain ⟨H2, hH2⟩ : ∃ H2, Hl.drop Bx.length = H2 := ⟨_, rfl⟩
                        rw [hH2] at hd1 hd2
                        have HRg : Hid _ := HCl.out wy HBw.out
                        have hinb : Inb wy Wa.heap.size Wa.heap.size v rm 0 (laidB X[i] ++ H2) := by rw [HBe.out, ← hd1]; exact HL3.out.inb
                        have HTk : Hid _ := taken_any X[i] wy HO9.out hinb HL3.out.bel.size HOk1.out.1 (fun W hb => HOk1.out.2.later (HBw.out.trans (hb.mono H.out.bel.size)))
                        have HEq : Hid (H2 ++ A.drop a = (X.drop (i + 1)).flatMap laidB) := by rw [HRe.out]; exact hd2
                        have HL3b : Hid (Below Wa.heap.size Wa wy ∧ a ≤ A.length ∧ Inb wy Wa.heap.size Wa.heap.size v rm 0 Hl) := ⟨HL3.out.bel, HL3.out.le, HL3.out.inb⟩
                        clear hd1 hd2 hH2 hinb HL3
                        go_wp2_with (refine wpList_load68 rfl _ rfl mb (mof + i * 24) rfl X[i].m.cells HRg.out rfl ?_)
                        clear HRg
                        refine Calls.mono HTk.out ?_
                        rintro e W6 ⟨rfl, v6, hi6, ha6⟩
                        have HN2 : Hid (L2 Wa W6 X A rm (i + 1) a v6 H2) := ⟨HL3b.out.1.trans (ha6.below HL3b.out.2.2), hi6, HEq.out, HL3b.out.2.1⟩
                        clear hi6 ha6 HTk
                        go_wp2
                        go_roundw
                        case rel => exact ⟨i + 1, a, v6, H2, by omega, by go_num, rfl, HN2⟩
                        case measure => simp [intOf]; omega
          · as_aux_lemma =>
              obtain rfl : i = k := by omega
              have heq := HL2.out.eq
              rw [List.drop_of_length_le (show X.length ≤ i by rw [HN.out]; omega), List.flatMap_nil] at heq
              have h1 := (List.append_eq_nil_iff.1 heq).1
              have h2 := (List.append_eq_nil_iff.1 heq).2
              have hat : at_ = an := by
                have h3 := List.drop_eq_nil_iff.1 h2
                have h4 := HL2.out.le
                have h5 := H.out.len
                omega
              subst hat
              have HHd : Hid _ := heldI HL2.out.inb
              rw [h1] at HHd
              have HBf : Hid (Below w.heap.size w wx) := H.out.bel.trans (HL2.out.bel.mono H.out.bel.size)
              clear heq h1 h2
              go_wp2_with fail
              refine Calls.mono HHd.out ?_
              rintro e W5 ⟨rfl, hw⟩
              rw [hw]; clear hw
              go_wp2
              go_ret
              exact ⟨rfl, HBf.out⟩
end Go.Proofs.Ytckfmpoddmccfaa

namespace Go.Proofs.Ytckfmpoddmccfaa.frameBack
open Go.ChangeShapes Go.WideShapes Go.ChangeAt Go.RowKit Go.Lib
open Go.Deep
set_option linter.unusedVariables false
set_option linter.unusedSimpArgs false
set_option maxRecDepth 100000
theorem take1 {cs : List Value} {j : Nat} {v : Value} (h : (cs.drop j).take 1 = [v]) : cs[j]? = some v := by
  have := congrArg (·[0]?) h
  simpa [List.getElem?_take, List.getElem?_drop] using this
theorem takek {cs l : List Value} {off k : Nat} (h : (cs.drop off).take k = l) (j : Nat) (hj : j < k) : cs[off + j]? = l[j]? := by
  have := congrArg (·[j]?) h
  simpa [List.getElem?_take, List.getElem?_drop, hj] using this
theorem open_o {H : Type} {enc : TypeId × Value → H} {W : World} {base fuel : Nat} {cs : List Value} {d : DataW H} {p : List MemPlace} (h : DataW.trod enc Try.prog W base (fun _ => true) true fuel 57 cs = some (d, p)) (hbd : Rows.uptoBulk d ≤ 1048576) :
    ∃ (z0 : Nat) (z1 : Nat) (z2 : Bool) (a3 : Option Addr) (c3 : Nat) (l3 : List Nat), cs = [.int .u32 (z0 : Int), .int .u32 (z1 : Int), .bool z2, .slice a3 l3.length c3] ∧ z0 < 4294967296 ∧ z1 < 4294967296 ∧ BRow W a3 c3 l3 ∧ l3.length ≤ 1048576 := by
  obtain ⟨xs, n, rfl, hx, hl, hxl, hall⟩ := DataW.trod_struct Try.underlying57 h
  have hl' : cs.length = 4 := hl.trans (by kernel_rfl)
  have h0 := hall 0 _ rfl
  obtain ⟨⟨y0, yp0⟩, hy0⟩ : ∃ y, xs[0]? = some y := ⟨_, List.getElem?_eq_getElem (by rw [hxl]; decide)⟩
  have k0 : Try.prog.cellsOf 36 = 1 := by kernel_rfl
  simp only [k0, hy0] at h0
  obtain ⟨i0, e0, _, w0⟩ := DataW.trod_int Try.underlying36 h0
  obtain ⟨z0, rfl⟩ := Int.eq_ofNat_of_zero_le (bounds_u32 w0).1
  have b0 := (bounds_u32 w0).2
  have t0 := take1 e0
  have h1 := hall 1 _ rfl
  obtain ⟨⟨y1, yp1⟩, hy1⟩ : ∃ y, xs[1]? = some y := ⟨_, List.getElem?_eq_getElem (by rw [hxl]; decide)⟩
  have k1 : Try.prog.cellsOf 36 = 1 := by kernel_rfl
  simp only [k1, hy1] at h1
  obtain ⟨i1, e1, _, w1⟩ := DataW.trod_int Try.underlying36 h1
  obtain ⟨z1, rfl⟩ := Int.eq_ofNat_of_zero_le (bounds_u32 w1).1
  have b1 := (bounds_u32 w1).2
  have t1 := take1 e1
  have h2 := hall 2 _ rfl
  obtain ⟨⟨y2, yp2⟩, hy2⟩ : ∃ y, xs[2]? = some y := ⟨_, List.getElem?_eq_getElem (by rw [hxl]; decide)⟩
  have k2 : Try.prog.cellsOf 4 = 1 := by kernel_rfl
  simp only [k2, hy2] at h2
  obtain ⟨z2, e2, _⟩ := DataW.trod_bool Try.underlying4 h2
  have t2 := take1 e2
  have h3 := hall 3 _ rfl
  obtain ⟨⟨y3, yp3⟩, hy3⟩ : ∃ y, xs[3]? = some y := ⟨_, List.getElem?_eq_getElem (by rw [hxl]; decide)⟩
  have k3 : Try.prog.cellsOf 22 = 1 := by kernel_rfl
  simp only [k3, hy3] at h3
  have hbd3 : Rows.uptoBulk y3 ≤ 1048576 := by
    have e := (Prod.mk.inj hx).1
    have m1 : y3 ∈ xs.map (·.1) := List.mem_map.2 ⟨(y3, yp3), List.mem_of_getElem? hy3, rfl⟩
    have b := bulk_le_all m1
    rw [e] at hbd
    simp only [Rows.uptoBulk] at hbd
    omega
  obtain ⟨a3, c3, l3, e3, g3, gl3⟩ := open_bytesC h3 hbd3
  have t3 := take1 e3
  refine ⟨z0, z1, z2, a3, c3, l3, ?_, by omega, by omega, g3.row, by omega⟩
  · apply List.ext_getElem?
    intro i
    match i with
    | 0 => exact t0
    | 1 => exact t1
    | 2 => exact t2
    | 3 => exact t3
    | i + 4 => rw [List.getElem?_eq_none (by omega)]; rfl
theorem open_q {H : Type} {enc : TypeId × Value → H} {W : World} {base fuel : Nat} {cs : List Value} {d : DataW H} {p : List MemPlace} (h : DataW.trod enc Try.prog W base (fun _ => true) true fuel 60 cs = some (d, p)) (hbd : Rows.uptoBulk d ≤ 1048576) :
    ∃ (z0 : Nat) (z1 : Nat) (z2 : Nat) (z3 : Nat) (z4 : Nat) (a5 : Option Addr) (c5 : Nat) (l5 : List Nat), cs = [.int .u16 (z0 : Int), .int .u16 (z1 : Int), .int .u64 (z2 : Int), .int .u64 (z3 : Int), .int .u64 (z4 : Int), .slice a5 l5.length c5] ∧ z0 < 65536 ∧ z1 < 65536 ∧ z2 < 18446744073709551616 ∧ z3 < 18446744073709551616 ∧ z4 < 18446744073709551616 ∧ BRow W a5 c5 l5 ∧ l5.length ≤ 1048576 := by
  obtain ⟨xs, n, rfl, hx, hl, hxl, hall⟩ := DataW.trod_struct Try.underlying60 h
  have hl' : cs.length = 6 := hl.trans (by kernel_rfl)
  have h0 := hall 0 _ rfl
  obtain ⟨⟨y0, yp0⟩, hy0⟩ : ∃ y, xs[0]? = some y := ⟨_, List.getElem?_eq_getElem (by rw [hxl]; decide)⟩
  have k0 : Try.prog.cellsOf 58 = 1 := by kernel_rfl
  simp only [k0, hy0] at h0
  obtain ⟨i0, e0, _, w0⟩ := DataW.trod_int Try.underlying58 h0
  obtain ⟨z0, rfl⟩ := Int.eq_ofNat_of_zero_le (bounds_u16 w0).1
  have b0 := (bounds_u16 w0).2
  have t0 := take1 e0
  have h1 := hall 1 _ rfl
  obtain ⟨⟨y1, yp1⟩, hy1⟩ : ∃ y, xs[1]? = some y := ⟨_, List.getElem?_eq_getElem (by rw [hxl]; decide)⟩
  have k1 : Try.prog.cellsOf 58 = 1 := by kernel_rfl
  simp only [k1, hy1] at h1
  obtain ⟨i1, e1, _, w1⟩ := DataW.trod_int Try.underlying58 h1
  obtain ⟨z1, rfl⟩ := Int.eq_ofNat_of_zero_le (bounds_u16 w1).1
  have b1 := (bounds_u16 w1).2
  have t1 := take1 e1
  have h2 := hall 2 _ rfl
  obtain ⟨⟨y2, yp2⟩, hy2⟩ : ∃ y, xs[2]? = some y := ⟨_, List.getElem?_eq_getElem (by rw [hxl]; decide)⟩
  have k2 : Try.prog.cellsOf 30 = 1 := by kernel_rfl
  simp only [k2, hy2] at h2
  obtain ⟨i2, e2, _, w2⟩ := DataW.trod_int Try.underlying30 h2
  obtain ⟨z2, rfl⟩ := Int.eq_ofNat_of_zero_le (bounds_u64 w2).1
  have b2 := (bounds_u64 w2).2
  have t2 := take1 e2
  have h3 := hall 3 _ rfl
  obtain ⟨⟨y3, yp3⟩, hy3⟩ : ∃ y, xs[3]? = some y := ⟨_, List.getElem?_eq_getElem (by rw [hxl]; decide)⟩
  have k3 : Try.prog.cellsOf 30 = 1 := by kernel_rfl
  simp only [k3, hy3] at h3
  obtain ⟨i3, e3, _, w3⟩ := DataW.trod_int Try.underlying30 h3
  obtain ⟨z3, rfl⟩ := Int.eq_ofNat_of_zero_le (bounds_u64 w3).1
  have b3 := (bounds_u64 w3).2
  have t3 := take1 e3
  have h4 := hall 4 _ rfl
  obtain ⟨⟨y4, yp4⟩, hy4⟩ : ∃ y, xs[4]? = some y := ⟨_, List.getElem?_eq_getElem (by rw [hxl]; decide)⟩
  have k4 : Try.prog.cellsOf 30 = 1 := by kernel_rfl
  simp only [k4, hy4] at h4
  obtain ⟨i4, e4, _, w4⟩ := DataW.trod_int Try.underlying30 h4
  obtain ⟨z4, rfl⟩ := Int.eq_ofNat_of_zero_le (bounds_u64 w4).1
  have b4 := (bounds_u64 w4).2
  have t4 := take1 e4
  have h5 := hall 5 _ rfl
  obtain ⟨⟨y5, yp5⟩, hy5⟩ : ∃ y, xs[5]? = some y := ⟨_, List.getElem?_eq_getElem (by rw [hxl]; decide)⟩
  have k5 : Try.prog.cellsOf 22 = 1 := by kernel_rfl
  simp only [k5, hy5] at h5
  have hbd5 : Rows.uptoBulk y5 ≤ 1048576 := by
    have e := (Prod.mk.inj hx).1
    have m1 : y5 ∈ xs.map (·.1) := List.mem_map.2 ⟨(y5, yp5), List.mem_of_getElem? hy5, rfl⟩
    have b := bulk_le_all m1
    rw [e] at hbd
    simp only [Rows.uptoBulk] at hbd
    omega
  obtain ⟨a5, c5, l5, e5, g5, gl5⟩ := open_bytesC h5 hbd5
  have t5 := take1 e5
  refine ⟨z0, z1, z2, z3, z4, a5, c5, l5, ?_, by omega, by omega, by omega, by omega, by omega, g5.row, by omega⟩
  · apply List.ext_getElem?
    intro i
    match i with
    | 0 => exact t0
    | 1 => exact t1
    | 2 => exact t2
    | 3 => exact t3
    | 4 => exact t4
    | 5 => exact t5
    | i + 6 => rw [List.getElem?_eq_none (by omega)]; rfl
theorem open_r {H : Type} {enc : TypeId × Value → H} {W : World} {base fuel : Nat} {cs : List Value} {d : DataW H} {p : List MemPlace} (h : DataW.trod enc Try.prog W base (fun _ => true) true fuel 62 cs = some (d, p)) (hbd : Rows.uptoBulk d ≤ 1048576) :
    ∃ (z0 : Nat) (z1 : Nat) (a2 : Option Addr) (c2 : Nat) (l2 : List Nat), cs = [.int .u32 (z0 : Int), .int .u32 (z1 : Int), .slice a2 l2.length c2] ∧ z0 < 4294967296 ∧ z1 < 4294967296 ∧ BRow W a2 c2 l2 ∧ l2.length ≤ 1048576 := by
  obtain ⟨xs, n, rfl, hx, hl, hxl, hall⟩ := DataW.trod_struct Try.underlying62 h
  have hl' : cs.length = 3 := hl.trans (by kernel_rfl)
  have h0 := hall 0 _ rfl
  obtain ⟨⟨y0, yp0⟩, hy0⟩ : ∃ y, xs[0]? = some y := ⟨_, List.getElem?_eq_getElem (by rw [hxl]; decide)⟩
  have k0 : Try.prog.cellsOf 36 = 1 := by kernel_rfl
  simp only [k0, hy0] at h0
  obtain ⟨i0, e0, _, w0⟩ := DataW.trod_int Try.underlying36 h0
  obtain ⟨z0, rfl⟩ := Int.eq_ofNat_of_zero_le (bounds_u32 w0).1
  have b0 := (bounds_u32 w0).2
  have t0 := take1 e0
  have h1 := hall 1 _ rfl
  obtain ⟨⟨y1, yp1⟩, hy1⟩ : ∃ y, xs[1]? = some y := ⟨_, List.getElem?_eq_getElem (by rw [hxl]; decide)⟩
  have k1 : Try.prog.cellsOf 36 = 1 := by kernel_rfl
  simp only [k1, hy1] at h1
  obtain ⟨i1, e1, _, w1⟩ := DataW.trod_int Try.underlying36 h1
  obtain ⟨z1, rfl⟩ := Int.eq_ofNat_of_zero_le (bounds_u32 w1).1
  have b1 := (bounds_u32 w1).2
  have t1 := take1 e1
  have h2 := hall 2 _ rfl
  obtain ⟨⟨y2, yp2⟩, hy2⟩ : ∃ y, xs[2]? = some y := ⟨_, List.getElem?_eq_getElem (by rw [hxl]; decide)⟩
  have k2 : Try.prog.cellsOf 22 = 1 := by kernel_rfl
  simp only [k2, hy2] at h2
  have hbd2 : Rows.uptoBulk y2 ≤ 1048576 := by
    have e := (Prod.mk.inj hx).1
    have m1 : y2 ∈ xs.map (·.1) := List.mem_map.2 ⟨(y2, yp2), List.mem_of_getElem? hy2, rfl⟩
    have b := bulk_le_all m1
    rw [e] at hbd
    simp only [Rows.uptoBulk] at hbd
    omega
  obtain ⟨a2, c2, l2, e2, g2, gl2⟩ := open_bytesC h2 hbd2
  have t2 := take1 e2
  refine ⟨z0, z1, a2, c2, l2, ?_, by omega, by omega, g2.row, by omega⟩
  · apply List.ext_getElem?
    intro i
    match i with
    | 0 => exact t0
    | 1 => exact t1
    | 2 => exact t2
    | i + 3 => rw [List.getElem?_eq_none (by omega)]; rfl
theorem open_c {H : Type} {enc : TypeId × Value → H} {W : World} {base fuel : Nat} {cs : List Value} {d : DataW H} {p : List MemPlace} (h : DataW.trod enc Try.prog W base (fun _ => true) true fuel 64 cs = some (d, p)) (hbd : Rows.uptoBulk d ≤ 1048576) :
    ∃ (z0 : Nat) (z1 : Nat) (z2 : Nat) (z3 : Nat) (a4 : Option Addr) (c4 : Nat) (l4 : List Nat), cs = [.int .u16 (z0 : Int), .int .u16 (z1 : Int), .int .u64 (z2 : Int), .int .u64 (z3 : Int), .slice a4 l4.length c4] ∧ z0 < 65536 ∧ z1 < 65536 ∧ z2 < 18446744073709551616 ∧ z3 < 18446744073709551616 ∧ BRow W a4 c4 l4 ∧ l4.length ≤ 1048576 := by
  obtain ⟨xs, n, rfl, hx, hl, hxl, hall⟩ := DataW.trod_struct Try.underlying64 h
  have hl' : cs.length = 5 := hl.trans (by kernel_rfl)
  have h0 := hall 0 _ rfl
  obtain ⟨⟨y0, yp0⟩, hy0⟩ : ∃ y, xs[0]? = some y := ⟨_, List.getElem?_eq_getElem (by rw [hxl]; decide)⟩
  have k0 : Try.prog.cellsOf 58 = 1 := by kernel_rfl
  simp only [k0, hy0] at h0
  obtain ⟨i0, e0, _, w0⟩ := DataW.trod_int Try.underlying58 h0
  obtain ⟨z0, rfl⟩ := Int.eq_ofNat_of_zero_le (bounds_u16 w0).1
  have b0 := (bounds_u16 w0).2
  have t0 := take1 e0
  have h1 := hall 1 _ rfl
  obtain ⟨⟨y1, yp1⟩, hy1⟩ : ∃ y, xs[1]? = some y := ⟨_, List.getElem?_eq_getElem (by rw [hxl]; decide)⟩
  have k1 : Try.prog.cellsOf 58 = 1 := by kernel_rfl
  simp only [k1, hy1] at h1
  obtain ⟨i1, e1, _, w1⟩ := DataW.trod_int Try.underlying58 h1
  obtain ⟨z1, rfl⟩ := Int.eq_ofNat_of_zero_le (bounds_u16 w1).1
  have b1 := (bounds_u16 w1).2
  have t1 := take1 e1
  have h2 := hall 2 _ rfl
  obtain ⟨⟨y2, yp2⟩, hy2⟩ : ∃ y, xs[2]? = some y := ⟨_, List.getElem?_eq_getElem (by rw [hxl]; decide)⟩
  have k2 : Try.prog.cellsOf 30 = 1 := by kernel_rfl
  simp only [k2, hy2] at h2
  obtain ⟨i2, e2, _, w2⟩ := DataW.trod_int Try.underlying30 h2
  obtain ⟨z2, rfl⟩ := Int.eq_ofNat_of_zero_le (bounds_u64 w2).1
  have b2 := (bounds_u64 w2).2
  have t2 := take1 e2
  have h3 := hall 3 _ rfl
  obtain ⟨⟨y3, yp3⟩, hy3⟩ : ∃ y, xs[3]? = some y := ⟨_, List.getElem?_eq_getElem (by rw [hxl]; decide)⟩
  have k3 : Try.prog.cellsOf 30 = 1 := by kernel_rfl
  simp only [k3, hy3] at h3
  obtain ⟨i3, e3, _, w3⟩ := DataW.trod_int Try.underlying30 h3
  obtain ⟨z3, rfl⟩ := Int.eq_ofNat_of_zero_le (bounds_u64 w3).1
  have b3 := (bounds_u64 w3).2
  have t3 := take1 e3
  have h4 := hall 4 _ rfl
  obtain ⟨⟨y4, yp4⟩, hy4⟩ : ∃ y, xs[4]? = some y := ⟨_, List.getElem?_eq_getElem (by rw [hxl]; decide)⟩
  have k4 : Try.prog.cellsOf 22 = 1 := by kernel_rfl
  simp only [k4, hy4] at h4
  have hbd4 : Rows.uptoBulk y4 ≤ 1048576 := by
    have e := (Prod.mk.inj hx).1
    have m1 : y4 ∈ xs.map (·.1) := List.mem_map.2 ⟨(y4, yp4), List.mem_of_getElem? hy4, rfl⟩
    have b := bulk_le_all m1
    rw [e] at hbd
    simp only [Rows.uptoBulk] at hbd
    omega
  obtain ⟨a4, c4, l4, e4, g4, gl4⟩ := open_bytesC h4 hbd4
  have t4 := take1 e4
  refine ⟨z0, z1, z2, z3, a4, c4, l4, ?_, by omega, by omega, by omega, by omega, g4.row, by omega⟩
  · apply List.ext_getElem?
    intro i
    match i with
    | 0 => exact t0
    | 1 => exact t1
    | 2 => exact t2
    | 3 => exact t3
    | 4 => exact t4
    | i + 5 => rw [List.getElem?_eq_none (by omega)]; rfl
theorem open_s {H : Type} {enc : TypeId × Value → H} {W : World} {base fuel : Nat} {cs : List Value} {d : DataW H} {p : List MemPlace} (h : DataW.trod enc Try.prog W base (fun _ => true) true fuel 66 cs = some (d, p)) (hbd : Rows.uptoBulk d ≤ 1048576) :
    ∃ (z0 : Nat) (z1 : Nat), cs = [.int .u32 (z0 : Int), .int .u64 (z1 : Int)] ∧ z0 < 4294967296 ∧ z1 < 18446744073709551616 := by
  obtain ⟨xs, n, rfl, hx, hl, hxl, hall⟩ := DataW.trod_struct Try.underlying66 h
  have hl' : cs.length = 2 := hl.trans (by kernel_rfl)
  have h0 := hall 0 _ rfl
  obtain ⟨⟨y0, yp0⟩, hy0⟩ : ∃ y, xs[0]? = some y := ⟨_, List.getElem?_eq_getElem (by rw [hxl]; decide)⟩
  have k0 : Try.prog.cellsOf 36 = 1 := by kernel_rfl
  simp only [k0, hy0] at h0
  obtain ⟨i0, e0, _, w0⟩ := DataW.trod_int Try.underlying36 h0
  obtain ⟨z0, rfl⟩ := Int.eq_ofNat_of_zero_le (bounds_u32 w0).1
  have b0 := (bounds_u32 w0).2
  have t0 := take1 e0
  have h1 := hall 1 _ rfl
  obtain ⟨⟨y1, yp1⟩, hy1⟩ : ∃ y, xs[1]? = some y := ⟨_, List.getElem?_eq_getElem (by rw [hxl]; decide)⟩
  have k1 : Try.prog.cellsOf 30 = 1 := by kernel_rfl
  simp only [k1, hy1] at h1
  obtain ⟨i1, e1, _, w1⟩ := DataW.trod_int Try.underlying30 h1
  obtain ⟨z1, rfl⟩ := Int.eq_ofNat_of_zero_le (bounds_u64 w1).1
  have b1 := (bounds_u64 w1).2
  have t1 := take1 e1
  refine ⟨z0, z1, ?_, by omega, by omega⟩
  · apply List.ext_getElem?
    intro i
    match i with
    | 0 => exact t0
    | 1 => exact t1
    | i + 2 => rw [List.getElem?_eq_none (by omega)]; rfl
theorem open_msg {H : Type} {enc : TypeId × Value → H} {W : World} {base fuel : Nat} {cs : List Value} {d : DataW H} {p : List MemPlace} (h : DataW.trod enc Try.prog W base (fun _ => true) true fuel 68 cs = some (d, p)) (hbd : Rows.uptoBulk d ≤ 1048576) :
    ∃ x : MsD, cs = x.m.cells.toList ∧ MsN x ∧ MsR W x := by
  obtain ⟨xs, n, rfl, hx, hl, hxl, hall⟩ := DataW.trod_struct Try.underlying68 h
  have hl' : cs.length = 24 := hl.trans (by kernel_rfl)
  have h0 := hall 0 _ rfl
  obtain ⟨⟨y0, yp0⟩, hy0⟩ : ∃ y, xs[0]? = some y := ⟨_, List.getElem?_eq_getElem (by rw [hxl]; decide)⟩
  have k0 : Try.prog.cellsOf 3 = 1 := by kernel_rfl
  simp only [k0, hy0] at h0
  obtain ⟨z0, e0, _, w0⟩ := DataW.trod_int Try.underlying3 h0
  have t0 := take1 e0
  have h1 := hall 1 _ rfl
  obtain ⟨⟨y1, yp1⟩, hy1⟩ : ∃ y, xs[1]? = some y := ⟨_, List.getElem?_eq_getElem (by rw [hxl]; decide)⟩
  have k1 : Try.prog.cellsOf 36 = 1 := by kernel_rfl
  simp only [k1, hy1] at h1
  obtain ⟨i1, e1, _, w1⟩ := DataW.trod_int Try.underlying36 h1
  obtain ⟨z1, rfl⟩ := Int.eq_ofNat_of_zero_le (bounds_u32 w1).1
  have b1 := (bounds_u32 w1).2
  have t1 := take1 e1
  have h2 := hall 2 _ rfl
  obtain ⟨⟨y2, yp2⟩, hy2⟩ : ∃ y, xs[2]? = some y := ⟨_, List.getElem?_eq_getElem (by rw [hxl]; decide)⟩
  have k2 : Try.prog.cellsOf 57 = 4 := by kernel_rfl
  simp only [k2, hy2] at h2
  have hbd2 : Rows.uptoBulk y2 ≤ 1048576 := by
    have e := (Prod.mk.inj hx).1
    have m1 : y2 ∈ xs.map (·.1) := List.mem_map.2 ⟨(y2, yp2), List.mem_of_getElem? hy2, rfl⟩
    have b := bulk_le_all m1
    rw [e] at hbd
    simp only [Rows.uptoBulk] at hbd
    omega
  have h3 := hall 3 _ rfl
  obtain ⟨⟨y3, yp3⟩, hy3⟩ : ∃ y, xs[3]? = some y := ⟨_, List.getElem?_eq_getElem (by rw [hxl]; decide)⟩
  have k3 : Try.prog.cellsOf 60 = 6 := by kernel_rfl
  simp only [k3, hy3] at h3
  have hbd3 : Rows.uptoBulk y3 ≤ 1048576 := by
    have e := (Prod.mk.inj hx).1
    have m1 : y3 ∈ xs.map (·.1) := List.mem_map.2 ⟨(y3, yp3), List.mem_of_getElem? hy3, rfl⟩
    have b := bulk_le_all m1
    rw [e] at hbd
    simp only [Rows.uptoBulk] at hbd
    omega
  have h4 := hall 4 _ rfl
  obtain ⟨⟨y4, yp4⟩, hy4⟩ : ∃ y, xs[4]? = some y := ⟨_, List.getElem?_eq_getElem (by rw [hxl]; decide)⟩
  have k4 : Try.prog.cellsOf 62 = 3 := by kernel_rfl
  simp only [k4, hy4] at h4
  have hbd4 : Rows.uptoBulk y4 ≤ 1048576 := by
    have e := (Prod.mk.inj hx).1
    have m1 : y4 ∈ xs.map (·.1) := List.mem_map.2 ⟨(y4, yp4), List.mem_of_getElem? hy4, rfl⟩
    have b := bulk_le_all m1
    rw [e] at hbd
    simp only [Rows.uptoBulk] at hbd
    omega
  have h5 := hall 5 _ rfl
  obtain ⟨⟨y5, yp5⟩, hy5⟩ : ∃ y, xs[5]? = some y := ⟨_, List.getElem?_eq_getElem (by rw [hxl]; decide)⟩
  have k5 : Try.prog.cellsOf 64 = 5 := by kernel_rfl
  simp only [k5, hy5] at h5
  have hbd5 : Rows.uptoBulk y5 ≤ 1048576 := by
    have e := (Prod.mk.inj hx).1
    have m1 : y5 ∈ xs.map (·.1) := List.mem_map.2 ⟨(y5, yp5), List.mem_of_getElem? hy5, rfl⟩
    have b := bulk_le_all m1
    rw [e] at hbd
    simp only [Rows.uptoBulk] at hbd
    omega
  have h6 := hall 6 _ rfl
  obtain ⟨⟨y6, yp6⟩, hy6⟩ : ∃ y, xs[6]? = some y := ⟨_, List.getElem?_eq_getElem (by rw [hxl]; decide)⟩
  have k6 : Try.prog.cellsOf 66 = 2 := by kernel_rfl
  simp only [k6, hy6] at h6
  have hbd6 : Rows.uptoBulk y6 ≤ 1048576 := by
    have e := (Prod.mk.inj hx).1
    have m1 : y6 ∈ xs.map (·.1) := List.mem_map.2 ⟨(y6, yp6), List.mem_of_getElem? hy6, rfl⟩
    have b := bulk_le_all m1
    rw [e] at hbd
    simp only [Rows.uptoBulk] at hbd
    omega
  have h7 := hall 7 _ rfl
  obtain ⟨⟨y7, yp7⟩, hy7⟩ : ∃ y, xs[7]? = some y := ⟨_, List.getElem?_eq_getElem (by rw [hxl]; decide)⟩
  have k7 : Try.prog.cellsOf 22 = 1 := by kernel_rfl
  simp only [k7, hy7] at h7
  have hbd7 : Rows.uptoBulk y7 ≤ 1048576 := by
    have e := (Prod.mk.inj hx).1
    have m1 : y7 ∈ xs.map (·.1) := List.mem_map.2 ⟨(y7, yp7), List.mem_of_getElem? hy7, rfl⟩
    have b := bulk_le_all m1
    rw [e] at hbd
    simp only [Rows.uptoBulk] at hbd
    omega
  obtain ⟨a7, c7, l7, e7, g7, gl7⟩ := open_bytesC h7 hbd7
  have t7 := take1 e7
  have h8 := hall 8 _ rfl
  obtain ⟨⟨y8, yp8⟩, hy8⟩ : ∃ y, xs[8]? = some y := ⟨_, List.getElem?_eq_getElem (by rw [hxl]; decide)⟩
  have k8 : Try.prog.cellsOf 4 = 1 := by kernel_rfl
  simp only [k8, hy8] at h8
  obtain ⟨z8, e8, _⟩ := DataW.trod_bool Try.underlying4 h8
  have t8 := take1 e8
  obtain ⟨oc, ol, og, oa, ocp, od, eo, o1, o2, o3, o4⟩ := open_o h2 hbd2
  obtain ⟨qf, qt, qc, qo, ql, qa, qcp, qd, eq, q1, q2, q3, q4, q5, q6, q7⟩ := open_q h3 hbd3
  obtain ⟨ro, rk, ra, rcp, rd, er, r1, r2, r3, r4⟩ := open_r h4 hbd4
  obtain ⟨cf, ct, cc, co, ca, ccp, cd, ec, c1, c2, c3, c4, c5, c6⟩ := open_c h5 hbd5
  obtain ⟨sc, sk, es, s1, s2⟩ := open_s h6 hbd6
  refine ⟨⟨⟨z0, z1, oc, ol, og, oa, od.length, ocp, qf, qt, qc, qo, ql, qa, qd.length, qcp, ro, rk, ra, rd.length, rcp, cf, ct, cc, co, ca, cd.length, ccp, sc, sk, a7, l7.length, c7, z8⟩, od, qd, rd, cd, l7⟩, ?_, ⟨by show z1 < _; omega, o1, q1, q2, q3, q4, q5, r1, r2, c1, c2, c3, c4, s1, s2, rfl, rfl, rfl, rfl, rfl, o4, q7, r4, c6, by show l7.length ≤ _; omega⟩, ⟨o3, q6, r3, c5, g7.row⟩⟩
  apply List.ext_getElem?
  intro i
  match i with
  | 0 => exact t0
  | 1 => exact t1
  | 2 => exact takek (off := 2) eo 0 (by decide)
  | 3 => exact takek (off := 2) eo 1 (by decide)
  | 4 => exact takek (off := 2) eo 2 (by decide)
  | 5 => exact takek (off := 2) eo 3 (by decide)
  | 6 => exact takek (off := 6) eq 0 (by decide)
  | 7 => exact takek (off := 6) eq 1 (by decide)
  | 8 => exact takek (off := 6) eq 2 (by decide)
  | 9 => exact takek (off := 6) eq 3 (by decide)
  | 10 => exact takek (off := 6) eq 4 (by decide)
  | 11 => exact takek (off := 6) eq 5 (by decide)
  | 12 => exact takek (off := 12) er 0 (by decide)
  | 13 => exact takek (off := 12) er 1 (by decide)
  | 14 => exact takek (off := 12) er 2 (by decide)
  | 15 => exact takek (off := 15) ec 0 (by decide)
  | 16 => exact takek (off := 15) ec 1 (by decide)
  | 17 => exact takek (off := 15) ec 2 (by decide)
  | 18 => exact takek (off := 15) ec 3 (by decide)
  | 19 => exact takek (off := 15) ec 4 (by decide)
  | 20 => exact takek (off := 20) es 0 (by decide)
  | 21 => exact takek (off := 20) es 1 (by decide)
  | 22 => exact t7
  | 23 => exact t8
  | i + 24 => rw [List.getElem?_eq_none (by omega)]; rfl
theorem open_msgs {H : Type} {enc : TypeId × Value → H} {W : World} {base fuel : Nat} {cs : List Value} {d : DataW H} {p : List MemPlace} (h : DataW.trod enc Try.prog W base (fun _ => true) true fuel 53 cs = some (d, p)) (hbd : Rows.uptoBulk d ≤ 1048576) :
    ∃ (ao : Option Addr) (cap : Nat) (X : List MsD), cs = [.slice ao X.length cap] ∧ MRow W ao X ∧ ∀ x ∈ X, MsN x ∧ MsR W x := by
  rcases open_slice Try.underlying53 h with ⟨hcs, _⟩ | ⟨x, len, cap, m, n, D, Pl, hcs, _, hl, hm, hmm, hx, hel⟩
  · exact ⟨none, 0, [], hcs, ⟨by simp, fun h => absurd rfl h⟩, by simp⟩
  · have hmc : m = cap := by simpa using hmm
    have hd : d = .slice ((List.range len).map D) ((List.range (m - len)).map fun j => D (len + j)) := (Prod.mk.inj hx).1
    have hlen : len ≤ 1048576 := by
      have b1 := bulk_slice ((List.range len).map D) ((List.range (m - len)).map fun j => D (len + j))
      have b2 := length_le_bulk ((List.range len).map D)
      rw [← hd] at b1
      simp at b2
      omega
    have cOp : Try.prog.cellsOf 68 = 24 := by kernel_rfl
    have hel' : ∀ i, ∃ y : MsD, (i < len → MsN y ∧ MsR W y) ∧ (i < len → ∀ j, j < 24 → W.cell? ((x.add (i * 24)).add j) = (y.m.cells)[j]?) := by
      intro i
      by_cases hi : i < len
      · obtain ⟨cs', hc1, hc2⟩ := hel i (by omega)
        rw [cOp] at hc1
        have hbi : Rows.uptoBulk (D i) ≤ 1048576 := by
          have b1 := bulk_slice ((List.range len).map D) ((List.range (m - len)).map fun j => D (len + j))
          have b2 := bulk_le_all (List.mem_map_of_mem (f := D) (List.mem_range.2 hi))
          rw [← hd] at b1
          omega
        obtain ⟨y, rfl, h1, h2⟩ := open_msg hc2 hbi
        refine ⟨y, fun _ => ⟨h1, h2⟩, fun _ j hj => ?_⟩
        have h3 := (World.cells?_some hc1).2.2 j hj
        rw [h3, Array.getElem?_toList]
      · exact ⟨⟨⟨0, 0, 0, 0, false, none, 0, 0, 0, 0, 0, 0, 0, none, 0, 0, 0, 0, none, 0, 0, 0, 0, 0, 0, none, 0, 0, 0, 0, none, 0, 0, false⟩, [], [], [], [], []⟩, fun h => absurd h hi, fun h => absurd h hi⟩
    obtain ⟨T, hT⟩ := Classical.axiomOfChoice hel'
    refine ⟨some x, cap, (List.range len).map T, by rw [hcs]; simp, ⟨by simpa using hlen, fun hne => ?_⟩, fun o ho => ?_⟩
    · have h0 : 0 < len := by
        rcases Nat.eq_zero_or_pos len with h | h
        · subst h; simp at hne
        · exact h
      obtain ⟨pb, po, rfl⟩ : ∃ pb po, x = ⟨pb, po, none⟩ := by
        have h1 := (hT 0).2 h0 0 (by decide)
        have h2 := World.cell?_spot (show W.cell? ((x.add (0 * 24)).add 0) = some _ from h1)
        obtain ⟨b, off, spot⟩ := x
        have : spot = none := by simpa [Addr.add] using h2
        exact ⟨b, off, by rw [this]⟩
      refine ⟨pb, po, rfl, fun k hk j hj => ?_⟩
      have hk2 : k < len := by simpa using hk
      have h1 := (hT k).2 hk2 j hj
      rw [add_plain, add_plain] at h1
      simpa using h1
    · obtain ⟨i, hi, rfl⟩ := List.mem_map.1 ho
      exact (hT i).1 (List.mem_range.1 hi)
/-- a []int that was read -/
theorem open_irow {H : Type} {enc : TypeId × Value → H} {W : World} {base fuel : Nat} {cs : List Value} {d : DataW H} {p : List MemPlace} (hf : DataW.trod enc Try.prog W base (fun _ => true) true fuel 47 cs = some (d, p)) (hb : Rows.uptoBulk d ≤ 1048576) :
    ∃ (ao : Option Addr) (n cap : Nat), cs = [.slice ao n cap] ∧ ZRow W ao n := by
  rcases open_ints Try.underlying47 Try.underlying3 (by kernel_rfl) hf with ⟨hcs, hx⟩ | ⟨x, l, c, zs, hcs, _, hl, hm, hz, hx, hcell, hwz⟩
  · exact ⟨none, 0, 0, hcs, fun h => by omega, by omega⟩
  · have hd : d = .slice (lits .i64 (zs.take l)) (lits .i64 (zs.drop l)) := (Prod.mk.inj hx).1
    have hz' : zs.length = c := by simpa using hz
    have hsl := bulk_slice (lits (H := H) .i64 (zs.take l)) (lits .i64 (zs.drop l))
    have hs1 := length_le_bulk (lits (H := H) .i64 (zs.take l))
    rw [← hd] at hsl
    simp only [lits, List.length_map, List.length_take, List.length_drop] at hsl hs1
    refine ⟨some x, l, c, hcs, fun hp => ?_, by omega⟩
    obtain ⟨b, off, rfl, hc⟩ := ints_at hcell (by omega)
    refine ⟨b, off, rfl, fun i hi => ⟨zs.getD i 0, ?_⟩⟩
    have h1 := hcell i (by omega)
    rw [add_plain] at h1
    exact h1

set_option maxRecDepth 100000 in
theorem contract (H : Type) (enc : TypeId × Value → H) (W : World) (base : Nat) (args : Array Value) (ds gs : List (DataW H)) (before : List MemPlace)
    (hval : ∀ (j : Nat) t v, Try.f6.params[j]? = some t → args[j]? = some v → Value.okWide Try.prog W .any base t v)
    (hW : DataW.Whole enc Try.prog Try.f6.params.toList Rows.frameBackSpec.vars false W args.toList ds gs before) (hk : Rows.uptoSmall H (ds ++ gs) = true) :
    Calls Try.prog 6 args W fun e W' => ∃ v, e = .returned v ∧ Rows.frameBackSpec.post enc Try.prog Try.f6 false true false false W args v W' := by
  have hW' := hW
  obtain ⟨p, q, hA0, hV, rfl, hfz, hnd⟩ := hW
  have hA : DataW.TrodAll enc Try.prog W 0 (fun _ => true) true Try.f6.params.toList args.toList ds p := hA0
  rw [Try.params6] at hA hval
  obtain ⟨v0, vs0, d0, ds0, p0, q0, hargs, rfl, rfl, h0, r0⟩ := trodAll_cons hA
  obtain ⟨v1, vs1, d1, ds1, p1, q1, rfl, rfl, rfl, h1, r1⟩ := trodAll_cons r0
  obtain ⟨rfl, rfl, rfl⟩ := trodAll_nil r1
  obtain rfl : args = #[v0, v1] := by cases args; simp_all
  obtain ⟨rfl, rfl⟩ := trodVars_none hV
  have k0 := h0
  have k1 := h1
  have lt0 : ∀ x ∈ p0, x.block < W.heap.size := by obtain ⟨m, hm⟩ := k0; exact DataW.trod_lt m _ _ _ hm
  have lt1 : ∀ x ∈ p1, x.block < W.heap.size := by obtain ⟨m, hm⟩ := k1; exact DataW.trod_lt m _ _ _ hm
  obtain ⟨mo, mn, mc, rfl⟩ := okWide_slice Try.underlying53 (hval 0 53 v0 rfl rfl)
  obtain ⟨po, pn, pc, rfl⟩ := okWide_slice Try.underlying47 (hval 1 47 v1 rfl rfl)
  have hbd := bulk_bound hk
  simp only [Rows.uptoBulkAll, List.append_nil] at hbd
  have hwalk : Calls Try.prog 6 #[.slice mo mn mc, .slice po pn pc] W fun e w' => e = .returned (.bool true) ∧ Below W.heap.size W w' := by
    obtain ⟨f0, hf0⟩ := h0
    obtain ⟨f1, hf1⟩ := h1
    obtain ⟨mo', mc', X, e0, hM, hX⟩ := open_msgs hf0 (by omega)
    obtain ⟨po', n1, c1, e1, hir⟩ := open_irow hf1 (by omega)
    simp [Value.cells] at e0 e1
    obtain ⟨rfl, rfl, rfl⟩ := e0
    obtain ⟨rfl, rfl, rfl⟩ := e1
    exact frameBack_any mo X.length mc po pn pc W X hM rfl hX hir
  clear hA0
  refine hwalk.mono fun e W' ⟨he, bel⟩ => ?_
  subst he
  exact ⟨_, rfl, _, _, _, [], _, [], hW', trodAll_mk1 (shut_bool Try.underlying4 _), trodAll_cons_mk (Below.trod laidOut (by kernel_rfl) (of_decide_eq_true (by kernel_rfl)) k0 bel lt0) (trodAll_cons_mk (Below.trod laidOut (by kernel_rfl) (of_decide_eq_true (by kernel_rfl)) k1 bel lt1) trodAll_mk0), rfl, bel.frame _, fun h => by cases h⟩

set_option maxRecDepth 100000 in
theorem lifted (os : Os) (started : os.Started) (H : Type) (enc : TypeId × Value → H) (F : Stop.Interp) :
    ReturnsInHanded {} Try.checked os 6 .any ((Rows.OpenSpec.upto Rows.frameBackSpec).pre6 enc Try.prog Try.f6 Rows.frameBackUptoRow.domain false) (((Rows.OpenSpec.upto Rows.frameBackSpec).at F).post enc Try.prog Try.f6 false true false false) := by
  refine returnsInHanded_of_cond (C := Try.checked) (s := Rows.OpenSpec.upto Rows.frameBackSpec) (k := Rows.uptoSmall) rfl own started (by kernel_rfl) Try.func6
    (OpenSpec.witness (enc := enc) (C := Try.checked) (s := Rows.OpenSpec.upto Rows.frameBackSpec) (k := Rows.uptoSmall) rfl false ⟨#[], #[.slice none 0 0, .slice none 0 0], []⟩ 8 (by kernel_rfl) (by kernel_rfl) (by kernel_rfl)
      (x := ([.nil, .nil], [], [])) (by kernel_rfl) rfl (by kernel_rfl)) ?_
  intro W base args ds gs before hval hW _ hk _
  exact contract H enc W base args ds gs before hval hW hk
end Go.Proofs.Ytckfmpoddmccfaa.frameBack
namespace Go.Proofs.Ytckfmpoddmccfaa
theorem frameBack_proved : Rows.FrameBackUptoSaid :=
  OpenClaim.holds_of_cond 6 Try.f6 rfl rfl rfl rfl rfl rfl rfl ⟨rfl, rfl, rfl, rfl, rfl⟩ rfl rfl rfl rfl rfl (by kernel_rfl) Try.func6 (by kernel_rfl)
    (of_decide_eq_true (by kernel_rfl)) (by unfold Func.isWrapper; first | (rw [if_pos (by decide +kernel)]; kernel_rfl) | (rw [if_neg (by decide +kernel)]; exact ⟨rfl, rfl⟩))
    (fun os started H enc _ F => frameBack.lifted os started H enc F)
#print axioms frameBack_proved
end Go.Proofs.Ytckfmpoddmccfaa
