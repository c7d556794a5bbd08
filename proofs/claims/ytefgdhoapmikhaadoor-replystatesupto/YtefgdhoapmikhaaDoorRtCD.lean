import Derived.Test.YtefgdhoapmikhaaDoorRpUh
import Derived.Test.YtefgdhoapmikhaaDoorRtA
import Derived.Deep.LoopGhost
import Derived.Deep.RegionLaw
import Derived.Deep.AppendLies
import Derived.Deep.DeepCutAuto
namespace Go.Proofs.YtefgdhoapmikhaaDoor
open Go.RowKit
set_option linter.unusedVariables false
set_option linter.unusedSimpArgs false
set_option maxRecDepth 100000
theorem infoS : (Tryd.prog.info? 90).map (·.size) = some 2 := by kernel_rfl
set_option maxHeartbeats 1000000 in
theorem wholeS (x n : Nat) (da : Option Addr) (dc : Nat) {w W : World} {c r : Nat} {ao : Option Addr} {cap : Nat} {l : List Nat} {at_ : Nat} (h : Bd w W c r ao cap l l.length) :
    Calls Tryd.prog 64 #[.pointer (some ⟨c, 0, none⟩), .agg #[.int .u32 (x : Int), .slice da n dc]] W fun e w' => e = .returned (.tuple #[.agg #[.int .u32 (x : Int), .slice da n dc], .int .i64 0]) ∧ Below w.heap.size w w' ∧ Below W.heap.size W w' := by
  have HE : Hid (∀ W, Bd w W c r ao cap l l.length → Calls Tryd.prog 92 #[.pointer (some ⟨r, 0, none⟩)] W fun e w' => e = .returned (.int .i64 0) ∧ ∃ q, w' = W.drewN q) := fun W h => rend_any w.heap.size r ao cap l W h.rd
  have HN : Hid (∀ W, Calls Tryd.prog 53 #[.pointer (some ⟨c, 0, none⟩), .bool true] W fun e w' => e = .returned (.tuple #[]) ∧ w' = W) := fun W => need_true c W
  have HW : Hid (∀ W, Bd w W c r ao cap l l.length → Calls Tryd.prog 62 #[.pointer (some ⟨c, 0, none⟩)] W fun e w' => e = .returned (.bool true) ∧ w' = W) := fun W h => well_true h
  have H : Hid (Bd w W c r ao cap l l.length) := h
  clear h
  have q00 : ∀ o o', ((W.alloc o).alloc o').cell? ⟨c, 0, none⟩ = some (.pointer (some ⟨r, 0, none⟩)) := fun o o' => (H.out.later (below2 W o o')).c0
  go_enter Tryd.func64, Tryd.ntmps64
  go_wp2_with fail
  have hx : Bx2 W ((W.alloc (Obj.cells #[.int .u32 (x : Int), .slice da n dc] 90)).alloc (Obj.cells #[.int .u32 0, .slice none 0 0] 90)) #[.int .u32 (x : Int), .slice da n dc] #[.int .u32 0, .slice none 0 0] 90 90 := mkb2 W _ _ _ _
  generalize ((W.alloc (Obj.cells #[.int .u32 (x : Int), .slice da n dc] 90)).alloc (Obj.cells #[.int .u32 0, .slice none 0 0] 90)) = W5 at *
  refine (HE.out _ (H.out.later hx.bel)).mono ?_
  rintro e W6 ⟨rfl, q, hw⟩
  have hy : Bx2 W W6 #[.int .u32 (x : Int), .slice da n dc] #[.int .u32 0, .slice none 0 0] 90 90 := by rw [hw]; exact hx.later (below_drewN _ q)
  have H6 : Hid (Bd w W6 c r ao cap l l.length ∧ Bx2 W W6 #[.int .u32 (x : Int), .slice da n dc] #[.int .u32 0, .slice none 0 0] 90 90) := ⟨H.out.later hy.bel, hy⟩
  clear hw hx hy HE q00
  go_wp2_with fail
  refine (HN.out _).mono ?_
  rintro e W7 ⟨rfl, hw⟩
  rw [hw]; clear hw
  go_wp2_with fail
  refine (HW.out _ H6.out.1).mono ?_
  rintro e W7 ⟨rfl, hw⟩
  rw [hw]; clear hw HN HW
  have hy := H6.out.2
  have za0 : W6.cell? ⟨W.heap.size, 0, none⟩ = some (.int .u32 (x : Int)) := by rw [blk_at hy.a]; rfl
  have za1 : W6.cell? ⟨W.heap.size, 1, none⟩ = some (.slice da n dc) := by rw [blk_at hy.a]; rfl
  have zb0 : W6.cell? ⟨W.heap.size + 1, 0, none⟩ = some (.int .u32 0) := by rw [blk_at hy.b]; rfl
  have zb1 : W6.cell? ⟨W.heap.size + 1, 1, none⟩ = some (.slice none 0 0) := by rw [blk_at hy.b]; rfl
  have yb0 : W6.frozen? ⟨W.heap.size + 1, 0, none⟩ = false := blk_free hy.b 0
  have yb1 : W6.frozen? ⟨W.heap.size + 1, 1, none⟩ = false := blk_free hy.b 1
  clear hy
  go_wp2
  obtain ⟨hp, hq⟩ := put2 H6.out.2.b (.int .u32 (x : Int)) (.slice da n dc)
  exact bodyPost_ret (results_cell_tmp1 rfl _ _ (W.heap.size + 1) 90 _ (0, 0) _ rfl hp Tryd.underlying90 rfl infoS) rfl ⟨rfl, H6.out.1.bel.trans (hq.below H6.out.1.bel.size (fun g hg => by have := H.out.bel.size; omega)), H6.out.2.bel.trans (hq.below H6.out.2.bel.size (fun g hg => by omega))⟩
def nsz (wide : Bool) : Nat := if wide = true then 8 else 4
theorem nL_sz (x : Nat) (wide : Bool) : (nL x wide).length = nsz wide := nL_length x wide
theorem val_lt4 {w W : World} {c r : Nat} {ao : Option Addr} {cap : Nat} {l : List Nat} {at_ : Nat} (h : Bd w W c r ao cap l at_) (hl : at_ + 4 ≤ l.length) : valB ((l.drop at_).take 4) < 4294967296 := by
  have h1 := valB_lt ((l.drop at_).take 4) (fun x hx => h.rd.lt x (List.mem_of_mem_drop (List.mem_of_mem_take hx)))
  rw [List.length_take, List.length_drop, show min 4 (l.length - at_) = 4 by omega] at h1
  exact h1
set_option maxHeartbeats 1000000 in
theorem bnum {w W : World} {c r : Nat} {ao : Option Addr} {cap : Nat} {l : List Nat} {at_ : Nat} (wide : Bool) (h : Bd w W c r ao cap l at_) (hl : at_ + nsz wide ≤ l.length) : Calls Tryd.prog 63 #[.pointer (some ⟨c, 0, none⟩), .bool wide] W fun e w' => e = .returned (.int .u64 ((valB ((l.drop at_).take (nsz wide)) : Nat) : Int)) ∧ Bd w w' c r ao cap l (at_ + nsz wide) ∧ KeptIn (fun g => g = r) W w' := by
  rcases wide with _ | _
  · have HU : Hid _ := bu32 h hl
    have hv : valB ((l.drop at_).take 4) < 4294967296 := val_lt4 h hl
    simp only [nsz, Bool.false_eq_true, if_false]
    generalize valB ((l.drop at_).take 4) = x at *
    have hw : IntKind.u64.wrap (x : Int) = x := wu64 (by omega) (by omega)
    clear h
    go_enter Tryd.func63, Tryd.ntmps63
    go_wp2_with fail
    refine Calls.mono HU.out ?_
    rintro e w1 ⟨rfl, h1⟩
    have H1 : Hid _ := h1
    clear h1 HU
    go_wp2
    go_ret
    exact ⟨rfl, H1.out⟩
  · have HU : Hid _ := bu64 h hl
    simp only [nsz, if_true]
    generalize valB ((l.drop at_).take 8) = x at *
    clear h
    go_enter Tryd.func63, Tryd.ntmps63
    go_wp2_with fail
    refine Calls.mono HU.out ?_
    rintro e w1 ⟨rfl, h1⟩
    have H1 : Hid _ := h1
    clear h1 HU
    go_wp2
    go_ret
    exact ⟨rfl, H1.out⟩
theorem infoRn : (Tryd.prog.info? 87).map (fun i => (i.zero, i.size, i.bytes)) = some (some (.agg #[.int .u64 0, .int .u64 0]), 2, 16) := by kernel_rfl
def rnC (x : Rn) : List Value := [.int .u64 (x.ln : Int), .int .u64 (x.fl : Int)]
/-- a status while it is read: the body, the box of the answer with the runs so far, and the box of the status -/
structure Us (w W0 W : World) (c r : Nat) (ao : Option Addr) (cap : Nat) (l : List Nat) (at_ ge cx : Nat) (v : Value) (Q : List Rn) : Prop where
  bd : Bd W0 W c r ao cap l at_
  bx : W.heap[ge]? = some (.cells #[.int .u32 (cx : Int), v] 90 (0, 0))
  row : W.ownsRow W0.heap.size 87 2 v Q.length (Q.flatMap rnC)
  hge : W0.heap.size ≤ ge
theorem Us.nr {w W0 W : World} {c r : Nat} {ao : Option Addr} {cap : Nat} {l : List Nat} {at_ ge cx : Nat} {v : Value} {Q : List Rn} (h : Us w W0 W c r ao cap l at_ ge cx v Q) : ge ≠ r ∧ v.ownBlock ≠ some r ∧ ge ≠ c ∧ v.ownBlock ≠ some c ∧ v.ownBlock ≠ some ge := by
  refine ⟨fun e => ?_, fun e => ?_, fun e => ?_, fun e => ?_, fun e => ?_⟩
  · have h1 := h.bx; rw [e, h.bd.rd.blk] at h1; simp at h1
  · obtain ⟨_, _, cur, h1⟩ := owns_ltK h.row _ e; rw [h.bd.rd.blk] at h1; simp at h1
  · have h1 := h.bx; rw [e, h.bd.bd] at h1; simp at h1
  · obtain ⟨_, _, cur, h1⟩ := owns_ltK h.row _ e; rw [h.bd.bd] at h1; simp at h1
  · obtain ⟨_, _, cur, h1⟩ := owns_ltK h.row _ e; rw [h.bx] at h1; simp at h1
theorem Us.keep {w W0 W W' : World} {c r : Nat} {ao : Option Addr} {cap : Nat} {l : List Nat} {at_ at2 ge cx : Nat} {v : Value} {Q : List Rn} (h : Us w W0 W c r ao cap l at_ ge cx v Q) (hb : Bd W0 W' c r ao cap l at2) (k : KeptIn (fun g => g = r) W W') : Us w W0 W' c r ao cap l at2 ge cx v Q :=
  ⟨hb, (k.block _ (block_lt h.bx) h.nr.1).trans h.bx, owns_sameK h.row (fun g hg => k.block g (owns_ltK h.row g hg).1 (fun e => h.nr.2.1 (e ▸ hg))), h.hge⟩
theorem Us.later {w W0 W W' : World} {c r : Nat} {ao : Option Addr} {cap : Nat} {l : List Nat} {at_ ge cx : Nat} {v : Value} {Q : List Rn} (h : Us w W0 W c r ao cap l at_ ge cx v Q) (k : Below W.heap.size W W') : Us w W0 W' c r ao cap l at_ ge cx v Q :=
  ⟨h.bd.later k, (k.block _ (block_lt h.bx)).trans h.bx, owns_sameK h.row (fun g hg => k.block g (owns_ltK h.row g hg).1), h.hge⟩
theorem Us.grow {w W0 W W' : World} {c r : Nat} {ao : Option Addr} {cap : Nat} {l : List Nat} {at_ ge cx : Nat} {v v' : Value} {Q : List Rn} {o : Obj} (h : Us w W0 W c r ao cap l at_ ge cx v Q) (x : Rn) {k : Nat} (hk : Q.length = k) (ho : W'.ownsRow W0.heap.size 87 2 v' (k + 1) (Q.flatMap rnC ++ rnC x)) (hg : (W.alloc o).grownBy W' v.ownBlock) :
    (W'.heap[ge]? = some (.cells #[.int .u32 (cx : Int), v] 90 (0, 0))) ∧ Us w W0 (W'.setCell ⟨ge, 1, none⟩ v') c r ao cap l at_ ge cx v' (Q ++ [x]) := by
  have hK : KeptIn (fun g => v.ownBlock = some g) W W' := (KeptIn.ofBelow (S := fun g => v.ownBlock = some g) (below1 W o)).trans ⟨hg.os, hg.tape, hg.output, hg.size, fun g h1 h2 => hg.block g h1 (fun e => h2 e.symm)⟩ (fun _ _ h => h)
  have hbx : W'.heap[ge]? = some (.cells #[.int .u32 (cx : Int), v] 90 (0, 0)) := (hK.block _ (block_lt h.bx) h.nr.2.2.2.2).trans h.bx
  have hlt : W'.heap[ge]? = _ := hbx
  have hne' : v'.ownBlock ≠ some ge := fun e => by
    obtain ⟨_, _, cur, h1⟩ := owns_ltK ho _ e
    rw [hbx] at h1; simp at h1
  have hS := keptIn_set W' ge 1 v'
  have hw0 : ∀ g, v.ownBlock = some g → W0.heap.size ≤ g := fun g e => (owns_ltK h.row g e).2.1
  have hvr : ¬ v.ownBlock = some r := h.nr.2.1
  have hrd : Bd W0 (W'.setCell ⟨ge, 1, none⟩ v') c r ao cap l at_ := by
    have h0 := h.bd
    have hrv : ∀ g, (Value.slice ao l.length cap).ownBlock = some g → ¬ v.ownBlock = some g := fun g e1 e2 => by
      obtain ⟨_, _, c1, h1⟩ := owns_ltK h0.rd.own g e1
      obtain ⟨_, _, c2, h2⟩ := owns_ltK h.row g e2
      rw [h1] at h2; simp at h2
    have hrg : ∀ g, (Value.slice ao l.length cap).ownBlock = some g → g ≠ ge := fun g e1 e2 => by
      obtain ⟨_, _, c1, h1⟩ := owns_ltK h0.rd.own g e1
      rw [e2, h.bx] at h1; simp at h1
    have b1 : ∀ g, g < W.heap.size → ¬ v.ownBlock = some g → g ≠ ge → (W'.setCell ⟨ge, 1, none⟩ v').heap[g]? = W.heap[g]? := fun g h1 h2 h3 => (hS.block g (Nat.lt_of_lt_of_le h1 hK.size) h3).trans (hK.block g h1 h2)
    refine ⟨h0.bel.trans ((hK.below h0.bel.size (fun g hg e => by have := hw0 g e; omega)).trans (hS.below (Nat.le_trans h0.bel.size hK.size) (fun g hg e => by have := h.hge; omega))), (b1 c (block_lt h0.bd) h.nr.2.2.2.1 (fun e => h.nr.2.2.1 e.symm)).trans h0.bd, h0.hc, ⟨(b1 r (block_lt h0.rd.blk) hvr (fun e => h.nr.1 e.symm)).trans h0.rd.blk, owns_sameK h0.rd.own (fun g hg => b1 g (owns_ltK h0.rd.own g hg).1 (hrv g hg) (hrg g hg)), h0.rd.lt, h0.rd.len, h0.rd.le, h0.rd.hr⟩⟩
  refine ⟨hbx, hrd, put_boxX hbx 1 v' (by simp), ?_, h.hge⟩
  rw [List.length_append, List.flatMap_append, hk]
  refine owns_sameK ?_ (fun g hg => hS.block g (owns_ltK ho g hg).1 (fun e => hne' (e ▸ hg)))
  simpa using ho
end Go.Proofs.YtefgdhoapmikhaaDoor
