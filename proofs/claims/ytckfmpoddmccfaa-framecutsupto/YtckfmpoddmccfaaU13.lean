import Derived.Test.YtckfmpoddmccfaaRows
import Derived.Test.YtckfmpoddmccfaaU9
import Derived.WalkKit
import Derived.ProofKit
import Derived.OpenShut
import Derived.ChangeOld
import Derived.SizedLaws
import Derived.JoinedCond
import Derived.Deep.Slices
import Derived.Test.YtckfmpoddmccfaaU12
namespace Go.Proofs.Ytckfmpoddmccfaa
open _root_.Go.Proofs.Ytckfmpoddmccfaa.Rows (uptoBulk uptoBulkAll uptoSmall)
theorem bulk_pos {H : Type} (d : DataW H) : 0 < uptoBulk d := by
  rcases d with l | _ | _ | _ | _ | _ | _ | _
  · cases l <;> simp [uptoBulk]
  all_goals simp [uptoBulk]
theorem bulkAll_append {H : Type} : ∀ l r : List (DataW H), uptoBulkAll (l ++ r) = uptoBulkAll l + uptoBulkAll r
  | [], r => by simp [uptoBulkAll]
  | d :: l, r => by simp only [List.cons_append, uptoBulkAll]; rw [bulkAll_append l r]; omega
theorem bulk_le_all {H : Type} {d : DataW H} {l : List (DataW H)} (h : d ∈ l) : uptoBulk d ≤ uptoBulkAll l := by
  obtain ⟨a, b, rfl⟩ := List.append_of_mem h
  rw [bulkAll_append]; simp only [uptoBulkAll]; omega
theorem length_le_bulk {H : Type} : ∀ l : List (DataW H), l.length ≤ uptoBulkAll l
  | [] => Nat.zero_le _
  | d :: l => by have := length_le_bulk l; have := bulk_pos d; simp only [uptoBulkAll, List.length_cons]; omega
theorem bulk_slice {H : Type} (es sp : List (DataW H)) : uptoBulk (.slice es sp) = uptoBulkAll es + uptoBulkAll sp + 1 := by simp [uptoBulk]
theorem bulk_bound {H : Type} {l : List (DataW H)} (h : uptoSmall H l = true) : uptoBulkAll l ≤ 1048576 := of_decide_eq_true h
end Go.Proofs.Ytckfmpoddmccfaa
namespace Go.Proofs.Ytckfmpoddmccfaa
open Go.ChangeShapes Go.WideShapes Go.ChangeAt Go.RowKit Go.Lib
open Go.Deep
set_option linter.unusedVariables false
set_option linter.unusedSimpArgs false
set_option maxRecDepth 100000
theorem own : ownKnob Try.prog.godebug = none := by kernel_rfl
theorem laidOut : laidOutB Try.prog = true := by kernel_rfl
theorem brow_ints (W : World) (x : Addr) (len cap : Nat) (zs : List Int) (hl : len ≤ zs.length) (hlen : len ≤ 140737488351232)
    (hcell : ∀ i, i < zs.length → W.cell? (x.add i) = some (.int .u8 (zs.getD i 0))) (hw : ∀ n ∈ zs, (Lit.int .u8 n).wf = true) :
    ∃ l : List Nat, l.length = len ∧ BRow W (some x) cap l := by
  have hb : ∀ i (hi : i < zs.length), 0 ≤ zs[i] ∧ zs[i] ≤ 255 := fun i hi => by
    have := bounds_u8 (hw _ (List.getElem_mem hi)); omega
  refine ⟨(zs.take len).map Int.toNat, by simp; omega, ⟨?_, by simp; omega, fun h => by simp at h, ?_⟩⟩
  · intro y hy
    obtain ⟨z, hz, rfl⟩ := List.mem_map.1 hy
    have hz' := List.mem_of_mem_take hz
    have := bounds_u8 (hw z hz'); omega
  · intro hne
    have hpos : 0 < len := by
      rcases Nat.eq_zero_or_pos len with h | h
      · subst h; simp at hne
      · exact h
    obtain ⟨b, off, rfl, hc⟩ := ints_at hcell (by omega)
    refine ⟨b, off, rfl, fun k hk => ?_⟩
    have hk' : k < len := by simp at hk; omega
    have h1 := hcell k (by omega)
    rw [add_plain] at h1
    rw [h1]
    have h2 := hb k (by omega)
    simp [bv, show k < zs.length by omega]
    omega
/-- a []byte that was read, in a slot or in a cell: its bytes -/
theorem open_bytesC {H : Type} {enc : TypeId × Value → H} {W : World} {base fuel : Nat} {cs : List Value} {d : DataW H} {p : List MemPlace} (hf : DataW.trod enc Try.prog W base (fun _ => true) true fuel 22 cs = some (d, p)) (hb : Rows.uptoBulk d ≤ 1048576) :
    ∃ (ao : Option Addr) (cap : Nat) (l : List Nat), cs = [.slice ao l.length cap] ∧ CRow W ao cap l ∧ l.length + 1 ≤ Rows.uptoBulk d := by
  rcases open_ints Try.underlying22 Try.underlying5 (by kernel_rfl) hf with ⟨hcs, hx⟩ | ⟨x, l, c, zs, hcs, _, hl, hm, hz, hx, hcell, hwz⟩
  · have hd : d = .nil := (Prod.mk.inj hx).1
    exact ⟨none, 0, [], hcs, ⟨⟨by simp, by simp, fun _ => ⟨rfl, rfl⟩, fun h => absurd rfl h⟩, by simp, by decide⟩, by rw [hd]; simp [Rows.uptoBulk]⟩
  · have hd : d = .slice (lits .u8 (zs.take l)) (lits .u8 (zs.drop l)) := (Prod.mk.inj hx).1
    have hz' : zs.length = c := by simpa using hz
    have hsl := bulk_slice (lits (H := H) .u8 (zs.take l)) (lits .u8 (zs.drop l))
    have hs1 := length_le_bulk (lits (H := H) .u8 (zs.take l))
    have hs2 := length_le_bulk (lits (H := H) .u8 (zs.drop l))
    rw [← hd] at hsl
    simp only [lits, List.length_map, List.length_take, List.length_drop] at hsl hs1 hs2
    obtain ⟨m, hm1, hm2⟩ := brow_ints W x l c zs (by omega) (by omega) hcell hwz
    subst hm1
    exact ⟨some x, c, m, hcs, ⟨hm2, by omega, by omega⟩, by omega⟩
end Go.Proofs.Ytckfmpoddmccfaa
namespace Go.Proofs.Ytckfmpoddmccfaa
open Go.RowKit
set_option linter.unusedVariables false
set_option linter.unusedSimpArgs false
set_option maxRecDepth 100000
/-- the number of k bytes at a place -/
def vl (l : List Nat) (a k : Nat) : Nat := valB ((l.drop a).take k)
theorem vl_lt {w : World} {ao : Option Addr} {cap : Nat} {l : List Nat} (h : CRow w ao cap l) (a k : Nat) : vl l a k < 256 ^ k := valB_bound l a k h.row.lt
def greD (l : List Nat) : Nat × Nat × Nat :=
  if l.length < 18 then (0, 18, 10) else if vl l 0 8 ≠ mInit then (0, 0, 80) else if vl l 8 8 ≠ mHave then (0, 0, 80) else (vl l 16 2, 18, 0)
def flaD (l : List Nat) : Nat × Nat × Nat := if l.length < 4 then (0, 4, 10) else (vl l 0 4, 4, 0)
/-- how many bytes an answer to EXPORT_NAME has -/
def xz (z : Bool) : Nat := if z = true then 134 else 10
/-- are the bytes behind the tenth zeros? -/
def xzs (z : Bool) (l : List Nat) : Bool := ((l.take (xz z)).drop 10).all (· == 0)
def expD (z : Bool) (l : List Nat) : (Nat × Nat) × Nat × Nat :=
  if l.length < xz z then ((0, 0), xz z, 10) else if xzs z l = false then ((0, 0), 0, 81) else ((vl l 0 8, vl l 8 2), xz z, 0)
def simD (l : List Nat) : (Nat × Nat) × Nat × Nat :=
  if l.length < 16 then ((0, 0), 16, 10) else if vl l 0 4 ≠ mSimple then ((0, 0), 0, 80) else ((vl l 4 4, vl l 8 8), 16, 0)
def optD (most : Nat) (l : List Nat) : (Nat × Nat × Bool × List Nat) × Nat × Nat :=
  if l.length < 16 then ((0, 0, false, []), 16, 10)
  else if vl l 0 8 ≠ mHave then ((0, 0, false, []), 0, 80)
  else if most < vl l 12 4 then ((vl l 8 4, vl l 12 4, true, []), 16, 12)
  else if l.length < 16 + vl l 12 4 then ((0, 0, false, []), 16 + vl l 12 4, 10)
  else ((vl l 8 4, vl l 12 4, false, (l.drop 16).take (vl l 12 4)), 16 + vl l 12 4, 0)
def repD (most : Nat) (l : List Nat) : (Nat × Nat × List Nat) × Nat × Nat :=
  if l.length < 20 then ((0, 0, []), 20, 10)
  else if vl l 0 8 ≠ mReply then ((0, 0, []), 0, 80)
  else if most < vl l 16 4 then ((vl l 8 4, vl l 12 4, []), 20, 12)
  else if l.length < 20 + vl l 16 4 then ((0, 0, []), 20 + vl l 16 4, 10)
  else ((vl l 8 4, vl l 12 4, (l.drop 20).take (vl l 16 4)), 20 + vl l 16 4, 0)
def qz (ext : Bool) : Nat := if ext = true then 32 else 28
def qm (ext : Bool) : Nat := if ext = true then mReq64 else mReq
def qk (ext : Bool) : Nat := if ext = true then 8 else 4
def reqD (most : Nat) (ext : Bool) (l : List Nat) : (Nat × Nat × Nat × Nat × Nat × List Nat) × Nat × Nat :=
  if l.length < qz ext then ((0, 0, 0, 0, 0, []), qz ext, 10)
  else if vl l 0 4 ≠ qm ext then ((0, 0, 0, 0, 0, []), 0, 80)
  else if payB (vl l 4 2) (vl l 6 2) ext = false then ((vl l 4 2, vl l 6 2, vl l 8 8, vl l 16 8, vl l 24 (qk ext), []), qz ext, 0)
  else if most < vl l 24 (qk ext) then ((vl l 4 2, vl l 6 2, vl l 8 8, vl l 16 8, vl l 24 (qk ext), []), qz ext, 12)
  else if l.length < qz ext + vl l 24 (qk ext) then ((0, 0, 0, 0, 0, []), qz ext + vl l 24 (qk ext), 10)
  else ((vl l 4 2, vl l 6 2, vl l 8 8, vl l 16 8, vl l 24 (qk ext), (l.drop (qz ext)).take (vl l 24 (qk ext))), qz ext + vl l 24 (qk ext), 0)
def cz (ext : Bool) : Nat := if ext = true then 32 else 20
def cm (ext : Bool) : Nat := if ext = true then mChunk64 else mChunk
def cof (ext : Bool) (l : List Nat) : Nat := if ext = true then vl l 16 8 else 0
def cln (ext : Bool) (l : List Nat) : Nat := if ext = true then vl l 24 8 else vl l 16 4
def chkD (most : Nat) (ext : Bool) (l : List Nat) : (Nat × Nat × Nat × Nat × List Nat) × Nat × Nat :=
  if l.length < cz ext then ((0, 0, 0, 0, []), cz ext, 10)
  else if vl l 0 4 ≠ cm ext then ((0, 0, 0, 0, []), 0, 80)
  else if most < cln ext l then ((vl l 4 2, vl l 6 2, vl l 8 8, cof ext l, []), cz ext, 12)
  else if l.length < cz ext + cln ext l then ((0, 0, 0, 0, []), cz ext + cln ext l, 10)
  else ((vl l 4 2, vl l 6 2, vl l 8 8, cof ext l, (l.drop (cz ext)).take (cln ext l)), cz ext + cln ext l, 0)
end Go.Proofs.Ytckfmpoddmccfaa
namespace Go.Proofs.Ytckfmpoddmccfaa
open Go.RowKit
set_option linter.unusedVariables false
set_option linter.unusedSimpArgs false
set_option maxRecDepth 100000
set_option maxHeartbeats 8000000 in
theorem decGreeting_ok (b off cap n : Nat) (l : List Nat) (f : Nat) (w : World) (h : CRow w (some ⟨b, off, none⟩) cap l) (HN : Hid (l.length = n)) (hs : 18 ≤ n) (HX0 : Hid (valB ((l.drop 0).take 8) = mInit)) (HX1 : Hid (valB ((l.drop 8).take 8) = mHave)) (HX2 : Hid (valB ((l.drop 16).take 2) = f)) :
    Calls Try.prog 68 #[.slice (some ⟨b, off, none⟩) n cap] w fun e w' => e = .returned (.tuple #[.agg #[.int .u16 (f : Int)], .int .i64 18, .int .i64 0]) ∧ Below w.heap.size w w' := by
  have hnl := h.row.len
  rw [HN.out] at hnl
  have hsl : 18 ≤ l.length := by rw [HN.out]; exact hs
  have HC : Hid (CRow w (some ⟨b, off, none⟩) cap l) := h
  obtain ⟨W0, hW0⟩ : ∃ W0, W0 = ((w.alloc (.cells #[.int .u16 0] 88)).alloc (.cells #[.int .u16 0] 88)) := ⟨_, rfl⟩
  have HO : Hid (Calls Try.prog 99 #[.slice (some ⟨b, off, none⟩) n cap, .int .i64 18] W0 fun e W' => ∃ r hh ao' cap' a2 c2, e = .returned (.pointer (some ⟨r, 0, none⟩)) ∧ Dec w W' (bx2 w 88 #[.int .u16 0] #[.int .u16 0]) W0.heap.size r hh ao' cap' (l.take 18) 0 (.slice (some a2) (n - 18) c2) 0 18 0 ∧ n - 18 ≤ c2 ∧ c2 ≤ 9223372036854775807 ∧ (n - 18 ≠ 0 → a2 = ⟨b, off + 18, none⟩)) := by
    rw [hW0]; exact open_ok b off cap n 18 l (bx2_bel w _ _) (bx2_new w _ _ _) (bx2_nd w _ _ _) (h.later (bx2_bel w _ _)) HN hs (by decide) (by decide)
  clear h
  go_enter Try.func68, Try.ntmps68
  go_wp2
  refine wp_scope_jumps 0 (fun _ _ => False) (fun _ _ => 0) rfl ?first ?pass
  case first =>
    go_wp2_with fail
    rw [← hW0]
    clear hW0
    refine HO.out.mono ?_
    rintro e W1 ⟨r, hh, ao', cap', a2, c2, rfl, h1, hc1, hc2, ha2⟩
    have H1 : Hid _ := h1
    have HA : Hid _ := ha2
    clear h1 HO ha2
    go_wp2_with fail
    refine (rx_u64 H1.out mInit HX0.out (by decide) hsl).mono ?_
    rintro e W2 ⟨rfl, hx⟩
    have H2 : Hid _ := hx
    clear hx H1
    go_wp2_with fail
    refine (magic_ok H2.out mInit).mono ?_
    rintro e W3 ⟨rfl, hx⟩
    have H3 : Hid _ := hx
    clear hx H2
    go_wp2_with fail
    refine (rx_u64 H3.out mHave HX1.out (by decide) hsl).mono ?_
    rintro e W4 ⟨rfl, hx⟩
    have H4 : Hid _ := hx
    clear hx H3
    go_wp2_with fail
    refine (magic_ok H4.out mHave).mono ?_
    rintro e W5 ⟨rfl, hx⟩
    have H5 : Hid _ := hx
    clear hx H4
    go_wp2_with fail
    refine (rx_u16 H5.out f HX2.out (by decide) hsl).mono ?_
    rintro e W6 ⟨rfl, hx⟩
    have H6 : Hid _ := hx
    clear hx H5
    obtain ⟨s0, u0⟩ := H6.out.b (.tail _ (.head _)) 0
    simp at s0
    go_wp2
    go_step3
    have HF : Hid _ := (H6.out.putO2 0 (.int .u16 (f : Int)) #[.int .u16 (f : Int)] rfl)
    clear H6 s0 u0
    generalize (W6.setCell ⟨w.heap.size + 1, 0, none⟩ (.int .u16 (f : Int))) = Wx at *
    have hn1 : ¬ (w.heap.size = r) := (HF.out.lb.box _ (.head _)).2.2
    have hn2 : ¬ (r = w.heap.size) := fun e => hn1 e.symm
    have r3 := HF.out.lb.cn
    have r4 := HF.out.lb.ce
    obtain ⟨c00, f00⟩ := HF.out.b (.head _) 0
    obtain ⟨c10, f10⟩ := HF.out.b (.tail _ (.head _)) 0
    simp at c00 c10
    go_wp2
    go_region
    all_goals
      go_wp2
      rw [jump_ret]
      exact bodyPost_ret (results_cell_tmp2 rfl _ _ w.heap.size 88 #[.int .u16 (f : Int)] (0, 0) _ rfl (put_box (HF.out.box _ (.head _)).1 0 (.int .u16 (f : Int)) rfl) Try.underlying88 rfl infoGre) rfl ⟨rfl, below_drew (setAll_below [(w.heap.size, 0, .int .u16 (f : Int))] Wx HF.out.bel (by simp))⟩
  case pass =>
    rintro a W hf
    exact hf.elim
set_option maxHeartbeats 8000000 in
theorem decSimple_ok (b off cap n : Nat) (l : List Nat) (c k : Nat) (w : World) (h : CRow w (some ⟨b, off, none⟩) cap l) (HN : Hid (l.length = n)) (hs : 16 ≤ n) (HX0 : Hid (valB ((l.drop 0).take 4) = mSimple)) (HX1 : Hid (valB ((l.drop 4).take 4) = c)) (HX2 : Hid (valB ((l.drop 8).take 8) = k)) :
    Calls Try.prog 113 #[.slice (some ⟨b, off, none⟩) n cap] w fun e w' => e = .returned (.tuple #[.agg #[.int .u32 (c : Int), .int .u64 (k : Int)], .int .i64 16, .int .i64 0]) ∧ Below w.heap.size w w' := by
  have hnl := h.row.len
  rw [HN.out] at hnl
  have hsl : 16 ≤ l.length := by rw [HN.out]; exact hs
  have HC : Hid (CRow w (some ⟨b, off, none⟩) cap l) := h
  obtain ⟨W0, hW0⟩ : ∃ W0, W0 = ((w.alloc (.cells #[.int .u32 0, .int .u64 0] 66)).alloc (.cells #[.int .u32 0, .int .u64 0] 66)) := ⟨_, rfl⟩
  have HO : Hid (Calls Try.prog 99 #[.slice (some ⟨b, off, none⟩) n cap, .int .i64 16] W0 fun e W' => ∃ r hh ao' cap' a2 c2, e = .returned (.pointer (some ⟨r, 0, none⟩)) ∧ Dec w W' (bx2 w 66 #[.int .u32 0, .int .u64 0] #[.int .u32 0, .int .u64 0]) W0.heap.size r hh ao' cap' (l.take 16) 0 (.slice (some a2) (n - 16) c2) 0 16 0 ∧ n - 16 ≤ c2 ∧ c2 ≤ 9223372036854775807 ∧ (n - 16 ≠ 0 → a2 = ⟨b, off + 16, none⟩)) := by
    rw [hW0]; exact open_ok b off cap n 16 l (bx2_bel w _ _) (bx2_new w _ _ _) (bx2_nd w _ _ _) (h.later (bx2_bel w _ _)) HN hs (by decide) (by decide)
  clear h
  go_enter Try.func113, Try.ntmps113
  go_wp2
  refine wp_scope_jumps 0 (fun _ _ => False) (fun _ _ => 0) rfl ?first ?pass
  case first =>
    go_wp2_with fail
    rw [← hW0]
    clear hW0
    refine HO.out.mono ?_
    rintro e W1 ⟨r, hh, ao', cap', a2, c2, rfl, h1, hc1, hc2, ha2⟩
    have H1 : Hid _ := h1
    have HA : Hid _ := ha2
    clear h1 HO ha2
    go_wp2_with fail
    refine (magic32_ok H1.out (by rw [List.length_take]; omega) mSimple (by rw [tk _ _ _ _ (by decide)]; exact HX0.out)).mono ?_
    rintro e W2 ⟨rfl, hx⟩
    have H2 : Hid _ := hx
    clear hx H1
    go_wp2_with fail
    refine (rx_u32 H2.out c HX1.out (by decide) hsl).mono ?_
    rintro e W3 ⟨rfl, hx⟩
    have H3 : Hid _ := hx
    clear hx H2
    go_wp2_with fail
    refine (rx_u64 H3.out k HX2.out (by decide) hsl).mono ?_
    rintro e W4 ⟨rfl, hx⟩
    have H4 : Hid _ := hx
    clear hx H3
    obtain ⟨s0, u0⟩ := H4.out.b (.tail _ (.head _)) 0
    simp at s0
    obtain ⟨s1, u1⟩ := H4.out.b (.tail _ (.head _)) 1
    simp at s1
    go_wp2
    go_step3
    have HF : Hid _ := ((H4.out.putO2 0 (.int .u32 (c : Int)) #[.int .u32 (c : Int), .int .u64 0] rfl).putO2 1 (.int .u64 (k : Int)) #[.int .u32 (c : Int), .int .u64 (k : Int)] rfl)
    clear H4 s0 u0 s1 u1
    generalize ((W4.setCell ⟨w.heap.size + 1, 0, none⟩ (.int .u32 (c : Int))).setCell ⟨w.heap.size + 1, 1, none⟩ (.int .u64 (k : Int))) = Wx at *
    have hn1 : ¬ (w.heap.size = r) := (HF.out.lb.box _ (.head _)).2.2
    have hn2 : ¬ (r = w.heap.size) := fun e => hn1 e.symm
    have r3 := HF.out.lb.cn
    have r4 := HF.out.lb.ce
    obtain ⟨c00, f00⟩ := HF.out.b (.head _) 0
    obtain ⟨c10, f10⟩ := HF.out.b (.tail _ (.head _)) 0
    obtain ⟨c01, f01⟩ := HF.out.b (.head _) 1
    obtain ⟨c11, f11⟩ := HF.out.b (.tail _ (.head _)) 1
    simp at c00 c10 c01 c11
    go_wp2
    go_region
    all_goals
      go_wp2
      rw [jump_ret]
      exact bodyPost_ret (results_cell_tmp2 rfl _ _ w.heap.size 66 #[.int .u32 (c : Int), .int .u64 (k : Int)] (0, 0) _ rfl (put_box (put_box (HF.out.box _ (.head _)).1 0 (.int .u32 (c : Int)) rfl) 1 (.int .u64 (k : Int)) rfl) Try.underlying66 rfl infoSim) rfl ⟨rfl, below_drew (setAll_below [(w.heap.size, 0, .int .u32 (c : Int)), (w.heap.size, 1, .int .u64 (k : Int))] Wx HF.out.bel (by simp))⟩
  case pass =>
    rintro a W hf
    exact hf.elim
end Go.Proofs.Ytckfmpoddmccfaa
namespace Go.Proofs.Ytckfmpoddmccfaa
open Go.RowKit
set_option linter.unusedVariables false
set_option linter.unusedSimpArgs false
set_option maxRecDepth 100000
set_option maxHeartbeats 8000000 in
theorem decOption_short2 (b off cap n : Nat) (l : List Nat) (most : Nat) (c k : Nat) (w : World) (h : CRow w (some ⟨b, off, none⟩) cap l) (HN : Hid (l.length = n)) (hs : 16 ≤ n) (HX : Hid (valB ((l.drop 0).take 8) = mHave)) (HX1 : Hid (valB ((l.drop 8).take 4) = c)) (HX2 : Hid (valB ((l.drop 12).take 4) = k)) (hc4 : c < 4294967296) (hk4 : k < 4294967296) (hm4 : most < 4294967296) (hle : k ≤ most) (hsh : n - 16 < k) (N : Nat) (hN : 16 + k = N) :
    Calls Try.prog 98 #[.slice (some ⟨b, off, none⟩) n cap, .int .u32 (most : Int)] w fun e w' => e = .returned (.tuple #[.agg #[.int .u32 0, .int .u32 0, .bool false, nilV], .int .i64 (N : Int), .int .i64 10]) ∧ Below w.heap.size w w' := by
  have hnl := h.row.len
  rw [HN.out] at hnl
  have hsl : 16 ≤ l.length := by rw [HN.out]; exact hs
  have HC : Hid (CRow w (some ⟨b, off, none⟩) cap l) := h
  obtain ⟨W0, hW0⟩ : ∃ W0, W0 = (((w.alloc (.cells #[.int .u32 0, .int .u32 0, .bool false, nilV] 57)).alloc (.cells #[.int .u32 0, .int .u32 0, .bool false, nilV] 57)).alloc (.cells #[.int .u32 0, .int .u32 0, .bool false, nilV] 57)) := ⟨_, rfl⟩
  have HO : Hid (Calls Try.prog 99 #[.slice (some ⟨b, off, none⟩) n cap, .int .i64 16] W0 fun e W' => ∃ r hh ao' cap' a2 c2, e = .returned (.pointer (some ⟨r, 0, none⟩)) ∧ Dec w W' (bx3 w 57 #[.int .u32 0, .int .u32 0, .bool false, nilV] #[.int .u32 0, .int .u32 0, .bool false, nilV] #[.int .u32 0, .int .u32 0, .bool false, nilV]) W0.heap.size r hh ao' cap' (l.take 16) 0 (.slice (some a2) (n - 16) c2) 0 16 0 ∧ n - 16 ≤ c2 ∧ c2 ≤ 9223372036854775807 ∧ (n - 16 ≠ 0 → a2 = ⟨b, off + 16, none⟩)) := by
    rw [hW0]; exact open_ok b off cap n 16 l (bx3_bel w _ _ _) (bx3_new w _ _ _ _) (bx3_nd w _ _ _ _) (h.later (bx3_bel w _ _ _)) HN hs (by decide) (by decide)
  clear h
  go_enter Try.func98, Try.ntmps98
  go_wp2
  refine wp_scope_jumps 0 (fun a W => ∃ (x0 x1 x2 x3 x5 x6 x8 x10 x11 x12 x13 x14 x15 x16 x17 x18 x19 x20 x21 x22 x23 x24 x25 x26 x27 x28 x29 x30 x31 x32 x33 x34 x35 x36 x37 x38 x39 x40 x41 x42 x43 x44 x45 x46 x47 x48 : Value) (r : Nat) (zz : Array Value), a = { tmps := #[x0, x1, x2, x3, .pointer (some ⟨w.heap.size, 0, none⟩), x5, x6, .pointer (some ⟨w.heap.size + 1, 0, none⟩), x8, .pointer (some ⟨r, 0, none⟩), x10, x11, x12, x13, x14, x15, x16, x17, x18, x19, x20, x21, x22, x23, x24, x25, x26, x27, x28, x29, x30, x31, x32, x33, x34, x35, x36, x37, x38, x39, x40, x41, x42, x43, x44, x45, x46, x47, x48], defers := [] } ∧ Hid (Lb w W (bx3 w 57 #[.int .u32 0, .int .u32 0, .bool false, nilV] #[.int .u32 0, .int .u32 0, .bool false, nilV] zz) r (N : Int) 10)) (fun _ _ => 0) rfl ?first ?pass
  case first =>
    go_wp2_with fail
    rw [← hW0]
    clear hW0
    refine HO.out.mono ?_
    rintro e W1 ⟨r, hh, ao', cap', a2, c2, rfl, h1, hc1, hc2, ha2⟩
    have H1 : Hid _ := h1
    have HA : Hid _ := ha2
    clear h1 HO ha2
    go_wp2_with fail
    refine (rx_u64 H1.out mHave HX.out (by decide) hsl).mono ?_
    rintro e W2 ⟨rfl, hx⟩
    have H2 : Hid _ := hx
    clear hx H1
    go_wp2_with fail
    refine (magic_ok H2.out mHave).mono ?_
    rintro e W3 ⟨rfl, hx⟩
    have H3 : Hid _ := hx
    clear hx H2
    go_wp2_with fail
    refine (rx_u32 H3.out c HX1.out (by decide) hsl).mono ?_
    rintro e W4 ⟨rfl, hx⟩
    have H4 : Hid _ := hx
    clear hx H3
    go_wp2_with fail
    refine (rx_u32 H4.out k HX2.out (by decide) hsl).mono ?_
    rintro e W5 ⟨rfl, hx⟩
    have H5 : Hid _ := hx
    clear hx H4
    obtain ⟨s0, u0⟩ := H5.out.b (.tail _ (.tail _ (.head _))) 0
    simp at s0
    obtain ⟨s1, u1⟩ := H5.out.b (.tail _ (.tail _ (.head _))) 1
    simp at s1
    go_wp2_with fail
    replace H5 : Hid _ := H5.out.putS 0 (.int .u32 (c : Int)) #[.int .u32 (c : Int), .int .u32 0, .bool false, nilV] rfl
    replace H5 : Hid _ := H5.out.putS 1 (.int .u32 (k : Int)) #[.int .u32 (c : Int), .int .u32 (k : Int), .bool false, nilV] rfl
    refine (measure_rest H5.out (by decide) (by omega) k most hm4 hle N hN).mono ?_
    rintro e W6 hx
    have HX9 : Hid _ := hx
    clear hx H5 s0 u0 s1 u1
    rcases Or.symm HX9.out with ⟨hx, _⟩ | ⟨_, rfl, hx⟩
    · omega
    have H6 : Hid _ := hx
    clear hx HX9
    go_wp2
    go_step3
    exact ⟨rfl, _, _, _, _, _, _, _, _, _, _, _, _, _, _, _, _, _, _, _, _, _, _, _, _, _, _, _, _, _, _, _, _, _, _, _, _, _, _, _, _, _, _, _, _, _, _, _, _, rfl, H6.out.lb⟩
  case pass =>
    clear HO HC hW0
    rintro a W ⟨x0, x1, x2, x3, x5, x6, x8, x10, x11, x12, x13, x14, x15, x16, x17, x18, x19, x20, x21, x22, x23, x24, x25, x26, x27, x28, x29, x30, x31, x32, x33, x34, x35, x36, x37, x38, x39, x40, x41, x42, x43, x44, x45, x46, x47, x48, r, zz, rfl, HL⟩
    have hn1 : ¬ (w.heap.size = r) := (HL.out.box _ (.head _)).2.2
    have hn2 : ¬ (r = w.heap.size) := fun e => hn1 e.symm
    have r3 := HL.out.cn
    have r4 := HL.out.ce
    obtain ⟨c00, f00⟩ := HL.out.b (.head _) 0
    obtain ⟨c10, f10⟩ := HL.out.b (.tail _ (.head _)) 0
    obtain ⟨c01, f01⟩ := HL.out.b (.head _) 1
    obtain ⟨c11, f11⟩ := HL.out.b (.tail _ (.head _)) 1
    obtain ⟨c02, f02⟩ := HL.out.b (.head _) 2
    obtain ⟨c12, f12⟩ := HL.out.b (.tail _ (.head _)) 2
    obtain ⟨c03, f03⟩ := HL.out.b (.head _) 3
    obtain ⟨c13, f13⟩ := HL.out.b (.tail _ (.head _)) 3
    simp at c00 c10 c01 c11 c02 c12 c03 c13
    go_wp2
    go_region
    all_goals
      go_wp2
      rw [jump_ret]
      exact bodyPost_ret (results_cell_tmp2 rfl _ _ w.heap.size 57 #[.int .u32 0, .int .u32 0, .bool false, nilV] (0, 0) _ rfl (put_box (put_box (put_box (put_box (HL.out.box _ (.head _)).1 0 (.int .u32 0) rfl) 1 (.int .u32 0) rfl) 2 (.bool false) rfl) 3 (nilV) rfl) Try.underlying57 rfl infoOpt) rfl ⟨rfl, below_drew (setAll_below [(w.heap.size, 0, .int .u32 0), (w.heap.size, 1, .int .u32 0), (w.heap.size, 2, .bool false), (w.heap.size, 3, nilV)] W HL.out.bel (by simp))⟩
set_option maxHeartbeats 8000000 in
theorem decOption_long (b off cap n : Nat) (l : List Nat) (most : Nat) (c k : Nat) (w : World) (h : CRow w (some ⟨b, off, none⟩) cap l) (HN : Hid (l.length = n)) (hs : 16 ≤ n) (HX : Hid (valB ((l.drop 0).take 8) = mHave)) (HX1 : Hid (valB ((l.drop 8).take 4) = c)) (HX2 : Hid (valB ((l.drop 12).take 4) = k)) (hc4 : c < 4294967296) (hk4 : k < 4294967296) (hm4 : most < 4294967296) (hlong : most < k) :
    Calls Try.prog 98 #[.slice (some ⟨b, off, none⟩) n cap, .int .u32 (most : Int)] w fun e w' => ∃ ao2 cap2, e = .returned (.tuple #[.agg #[.int .u32 (c : Int), .int .u32 (k : Int), .bool true, .slice ao2 0 cap2], .int .i64 16, .int .i64 12]) ∧ Row w w' ao2 cap2 [] := by
  have hm0 : ∃ m : List Nat, m = [] := ⟨_, rfl⟩
  obtain ⟨m, hm⟩ := hm0
  have hnl := h.row.len
  rw [HN.out] at hnl
  have hsl : 16 ≤ l.length := by rw [HN.out]; exact hs
  have HC : Hid (CRow w (some ⟨b, off, none⟩) cap l) := h
  obtain ⟨W0, hW0⟩ : ∃ W0, W0 = (((w.alloc (.cells #[.int .u32 0, .int .u32 0, .bool false, nilV] 57)).alloc (.cells #[.int .u32 0, .int .u32 0, .bool false, nilV] 57)).alloc (.cells #[.int .u32 0, .int .u32 0, .bool false, nilV] 57)) := ⟨_, rfl⟩
  have HO : Hid (Calls Try.prog 99 #[.slice (some ⟨b, off, none⟩) n cap, .int .i64 16] W0 fun e W' => ∃ r hh ao' cap' a2 c2, e = .returned (.pointer (some ⟨r, 0, none⟩)) ∧ Dec w W' (bx3 w 57 #[.int .u32 0, .int .u32 0, .bool false, nilV] #[.int .u32 0, .int .u32 0, .bool false, nilV] #[.int .u32 0, .int .u32 0, .bool false, nilV]) W0.heap.size r hh ao' cap' (l.take 16) 0 (.slice (some a2) (n - 16) c2) 0 16 0 ∧ n - 16 ≤ c2 ∧ c2 ≤ 9223372036854775807 ∧ (n - 16 ≠ 0 → a2 = ⟨b, off + 16, none⟩)) := by
    rw [hW0]; exact open_ok b off cap n 16 l (bx3_bel w _ _ _) (bx3_new w _ _ _ _) (bx3_nd w _ _ _ _) (h.later (bx3_bel w _ _ _)) HN hs (by decide) (by decide)
  clear h
  go_enter Try.func98, Try.ntmps98
  go_wp2
  refine wp_scope_jumps 0 (fun _ _ => False) (fun _ _ => 0) rfl ?first ?pass
  case first =>
    go_wp2_with fail
    rw [← hW0]
    clear hW0
    refine HO.out.mono ?_
    rintro e W1 ⟨r, hh, ao', cap', a2, c2, rfl, h1, hc1, hc2, ha2⟩
    have H1 : Hid _ := h1
    have HA : Hid _ := ha2
    clear h1 HO ha2
    go_wp2_with fail
    refine (rx_u64 H1.out mHave HX.out (by decide) hsl).mono ?_
    rintro e W2 ⟨rfl, hx⟩
    have H2 : Hid _ := hx
    clear hx H1
    go_wp2_with fail
    refine (magic_ok H2.out mHave).mono ?_
    rintro e W3 ⟨rfl, hx⟩
    have H3 : Hid _ := hx
    clear hx H2
    go_wp2_with fail
    refine (rx_u32 H3.out c HX1.out (by decide) hsl).mono ?_
    rintro e W4 ⟨rfl, hx⟩
    have H4 : Hid _ := hx
    clear hx H3
    go_wp2_with fail
    refine (rx_u32 H4.out k HX2.out (by decide) hsl).mono ?_
    rintro e W5 ⟨rfl, hx⟩
    have H5 : Hid _ := hx
    clear hx H4
    obtain ⟨s0, u0⟩ := H5.out.b (.tail _ (.tail _ (.head _))) 0
    simp at s0
    obtain ⟨s1, u1⟩ := H5.out.b (.tail _ (.tail _ (.head _))) 1
    simp at s1
    go_wp2_with fail
    replace H5 : Hid _ := H5.out.putS 0 (.int .u32 (c : Int)) #[.int .u32 (c : Int), .int .u32 0, .bool false, nilV] rfl
    replace H5 : Hid _ := H5.out.putS 1 (.int .u32 (k : Int)) #[.int .u32 (c : Int), .int .u32 (k : Int), .bool false, nilV] rfl
    refine (measure_long H5.out k most hm4 hlong (by omega)).mono ?_
    rintro e W6 ⟨rfl, hx⟩
    have H6 : Hid _ := hx
    clear hx H5 s0 u0 s1 u1
    have r4 := H6.out.lb.ce
    have hml : m.length = 0 := by rw [hm]; rfl
    have hmt : ∀ x ∈ m, x < 256 := by rw [hm]; simp
    have HDt : Hid (∀ q, Calls Try.prog 105 #[.pointer (some ⟨r, 0, none⟩)] (W6.drewN q) fun e W' => ∃ ao2 cap2, e = .returned (.slice ao2 0 cap2) ∧ W'.ownsRow W6.heap.size 5 1 (.slice ao2 0 cap2) 0 (m.map bv) ∧ Below W6.heap.size (W6.drewN q) W' ∧ Dec w W' (bx3 w 57 #[.int .u32 0, .int .u32 0, .bool false, nilV] #[.int .u32 0, .int .u32 0, .bool false, nilV] #[.int .u32 (c : Int), .int .u32 (k : Int), .bool false, nilV]) W0.heap.size r hh ao' cap' (l.take 16) (0 + 8 + 4 + 4) (.slice (some a2) (n - 16) c2) ((0 : Nat) : Int) (16 : Int) 12) := fun q => data_any (len := 0) (H6.out.drewN q) m hml hmt (by rw [hm]; simp) (by omega) hc1 (by omega) hc2
    have HB : Hid (w.heap.size + 1 + 1 < W6.heap.size) := by show _ < _; have h1 := block_lt H6.out.rd; have h2 := H6.out.hr; have h3 : w.heap.size + 1 + 1 < _ := (H6.out.box _ (.tail _ (.tail _ (.head _)))).2.2; omega
    obtain ⟨s2, u2⟩ := H6.out.b (.tail _ (.tail _ (.head _))) 2
    simp at s2
    obtain ⟨s3, u3⟩ := H6.out.b (.tail _ (.tail _ (.head _))) 3
    simp at s3
    clear H6 HX HX1 HX2 HN HC hml hmt HA
    go_wp2
    go_region_with (go_at_call 105; refine (HDt.out _).mono ?_; rintro e W7 ⟨ao2, cap2, rfl, ho, hb, h9⟩; have H7 : Hid _ := h9; have HR : Hid (W7.ownsRow W6.heap.size 5 1 (.slice ao2 0 cap2) 0 (m.map bv)) := ho; clear h9 ho hb; have r4' := H7.out.lb.ce; obtain ⟨q2, w2⟩ := H7.out.b (.tail _ (.tail _ (.head _))) 2; obtain ⟨q3, w3⟩ := H7.out.b (.tail _ (.tail _ (.head _))) 3; simp at q2 q3)
    all_goals
      clear s2 u2 s3 u3 r4 r4' q2 w2 q3 w3
      obtain ⟨c10, f10⟩ := H7.out.b (.tail _ (.head _)) 0
      obtain ⟨c20, f20⟩ := H7.out.b (.tail _ (.tail _ (.head _))) 0
      obtain ⟨c11, f11⟩ := H7.out.b (.tail _ (.head _)) 1
      obtain ⟨c21, f21⟩ := H7.out.b (.tail _ (.tail _ (.head _))) 1
      obtain ⟨c12, f12⟩ := H7.out.b (.tail _ (.head _)) 2
      obtain ⟨c22, f22⟩ := H7.out.b (.tail _ (.tail _ (.head _))) 2
      obtain ⟨c13, f13⟩ := H7.out.b (.tail _ (.head _)) 3
      obtain ⟨c23, f23⟩ := H7.out.b (.tail _ (.tail _ (.head _))) 3
      simp at c10 c20 c11 c21 c12 c22 c13 c23
      go_wp2
      go_step3
      have HF : Hid _ := ((((((H7.out.putS 2 (.bool true) #[.int .u32 (c : Int), .int .u32 (k : Int), .bool true, nilV] rfl).putS 3 (.slice ao2 0 cap2) #[.int .u32 (c : Int), .int .u32 (k : Int), .bool true, .slice ao2 0 cap2] rfl).putO 0 (.int .u32 (c : Int)) #[.int .u32 (c : Int), .int .u32 0, .bool false, nilV] rfl).putO 1 (.int .u32 (k : Int)) #[.int .u32 (c : Int), .int .u32 (k : Int), .bool false, nilV] rfl).putO 2 (.bool true) #[.int .u32 (c : Int), .int .u32 (k : Int), .bool true, nilV] rfl).putO 3 (.slice ao2 0 cap2) #[.int .u32 (c : Int), .int .u32 (k : Int), .bool true, .slice ao2 0 cap2] rfl)
      have HW : Hid ((((((((W7.setCell ⟨w.heap.size + 1 + 1, 2, none⟩ (.bool true)).setCell ⟨w.heap.size + 1 + 1, 3, none⟩ (.slice ao2 0 cap2)).setCell ⟨w.heap.size + 1, 0, none⟩ (.int .u32 (c : Int))).setCell ⟨w.heap.size + 1, 1, none⟩ (.int .u32 (k : Int))).setCell ⟨w.heap.size + 1, 2, none⟩ (.bool true)).setCell ⟨w.heap.size + 1, 3, none⟩ (.slice ao2 0 cap2))).ownsRow W6.heap.size 5 1 (.slice ao2 0 cap2) 0 (m.map bv)) := setAll_owns [(w.heap.size + 1 + 1, 2, .bool true), (w.heap.size + 1 + 1, 3, .slice ao2 0 cap2), (w.heap.size + 1, 0, .int .u32 (c : Int)), (w.heap.size + 1, 1, .int .u32 (k : Int)), (w.heap.size + 1, 2, .bool true), (w.heap.size + 1, 3, .slice ao2 0 cap2)] W7 HR.out (by have := HB.out; simp; omega)
      clear HR H7 c10 f10 c20 f20 c11 f11 c21 f21 c12 f12 c22 f22 c13 f13 c23 f23
      generalize ((((((W7.setCell ⟨w.heap.size + 1 + 1, 2, none⟩ (.bool true)).setCell ⟨w.heap.size + 1 + 1, 3, none⟩ (.slice ao2 0 cap2)).setCell ⟨w.heap.size + 1, 0, none⟩ (.int .u32 (c : Int))).setCell ⟨w.heap.size + 1, 1, none⟩ (.int .u32 (k : Int))).setCell ⟨w.heap.size + 1, 2, none⟩ (.bool true)).setCell ⟨w.heap.size + 1, 3, none⟩ (.slice ao2 0 cap2)) = Wx at *
      have hn1 : ¬ (w.heap.size = r) := (HF.out.lb.box _ (.head _)).2.2
      have hn2 : ¬ (r = w.heap.size) := fun e => hn1 e.symm
      have r3 := HF.out.lb.cn
      have r4 := HF.out.lb.ce
      obtain ⟨c00, f00⟩ := HF.out.b (.head _) 0
      obtain ⟨c10, f10⟩ := HF.out.b (.tail _ (.head _)) 0
      obtain ⟨c01, f01⟩ := HF.out.b (.head _) 1
      obtain ⟨c11, f11⟩ := HF.out.b (.tail _ (.head _)) 1
      obtain ⟨c02, f02⟩ := HF.out.b (.head _) 2
      obtain ⟨c12, f12⟩ := HF.out.b (.tail _ (.head _)) 2
      obtain ⟨c03, f03⟩ := HF.out.b (.head _) 3
      obtain ⟨c13, f13⟩ := HF.out.b (.tail _ (.head _)) 3
      simp at c00 c10 c01 c11 c02 c12 c03 c13
      go_wp2
      go_region
      all_goals
        go_wp2
        rw [jump_ret]
        have HW2 := setAll_owns [(w.heap.size, 0, .int .u32 (c : Int)), (w.heap.size, 1, .int .u32 (k : Int)), (w.heap.size, 2, .bool true), (w.heap.size, 3, .slice ao2 0 cap2)] Wx HW.out (by have := HB.out; simp; omega)
        have HB2 := below_drew (setAll_below [(w.heap.size, 0, .int .u32 (c : Int)), (w.heap.size, 1, .int .u32 (k : Int)), (w.heap.size, 2, .bool true), (w.heap.size, 3, .slice ao2 0 cap2)] Wx HF.out.bel (by simp))
        exact bodyPost_ret (results_cell_tmp2 rfl _ _ w.heap.size 57 #[.int .u32 (c : Int), .int .u32 (k : Int), .bool true, .slice ao2 0 cap2] (0, 0) _ rfl (put_box (put_box (put_box (put_box (HF.out.box _ (.head _)).1 0 (.int .u32 (c : Int)) rfl) 1 (.int .u32 (k : Int)) rfl) 2 (.bool true) rfl) 3 (.slice ao2 0 cap2) rfl) Try.underlying57 rfl infoOpt) rfl ⟨_, _, rfl, by rw [hm] at HW2; exact owns_mono HW2 (by have := HB.out; omega), by simp, HB2⟩
  case pass =>
    rintro a W hf
    exact hf.elim
end Go.Proofs.Ytckfmpoddmccfaa
namespace Go.Proofs.Ytckfmpoddmccfaa
open Go.RowKit
set_option linter.unusedVariables false
set_option linter.unusedSimpArgs false
set_option maxRecDepth 100000
set_option maxHeartbeats 8000000 in
theorem decReply_short2 (b off cap n : Nat) (l : List Nat) (most : Nat) (c e0 k : Nat) (w : World) (h : CRow w (some ⟨b, off, none⟩) cap l) (HN : Hid (l.length = n)) (hs : 20 ≤ n) (HX : Hid (valB ((l.drop 0).take 8) = mReply)) (HX1 : Hid (valB ((l.drop 8).take 4) = c)) (HX2 : Hid (valB ((l.drop 12).take 4) = e0)) (HX3 : Hid (valB ((l.drop 16).take 4) = k)) (hc4 : c < 4294967296) (he4 : e0 < 4294967296) (hk4 : k < 4294967296) (hm4 : most < 4294967296) (hle : k ≤ most) (hsh : n - 20 < k) (N : Nat) (hN : 20 + k = N) :
    Calls Try.prog 72 #[.slice (some ⟨b, off, none⟩) n cap, .int .u32 (most : Int)] w fun e w' => e = .returned (.tuple #[.agg #[.int .u32 0, .int .u32 0, nilV], .int .i64 (N : Int), .int .i64 10]) ∧ Below w.heap.size w w' := by
  have hnl := h.row.len
  rw [HN.out] at hnl
  have hsl : 20 ≤ l.length := by rw [HN.out]; exact hs
  have HC : Hid (CRow w (some ⟨b, off, none⟩) cap l) := h
  obtain ⟨W0, hW0⟩ : ∃ W0, W0 = (((w.alloc (.cells #[.int .u32 0, .int .u32 0, nilV] 62)).alloc (.cells #[.int .u32 0, .int .u32 0, nilV] 62)).alloc (.cells #[.int .u32 0, .int .u32 0, nilV] 62)) := ⟨_, rfl⟩
  have HO : Hid (Calls Try.prog 99 #[.slice (some ⟨b, off, none⟩) n cap, .int .i64 20] W0 fun e W' => ∃ r hh ao' cap' a2 c2, e = .returned (.pointer (some ⟨r, 0, none⟩)) ∧ Dec w W' (bx3 w 62 #[.int .u32 0, .int .u32 0, nilV] #[.int .u32 0, .int .u32 0, nilV] #[.int .u32 0, .int .u32 0, nilV]) W0.heap.size r hh ao' cap' (l.take 20) 0 (.slice (some a2) (n - 20) c2) 0 20 0 ∧ n - 20 ≤ c2 ∧ c2 ≤ 9223372036854775807 ∧ (n - 20 ≠ 0 → a2 = ⟨b, off + 20, none⟩)) := by
    rw [hW0]; exact open_ok b off cap n 20 l (bx3_bel w _ _ _) (bx3_new w _ _ _ _) (bx3_nd w _ _ _ _) (h.later (bx3_bel w _ _ _)) HN hs (by decide) (by decide)
  clear h
  go_enter Try.func72, Try.ntmps72
  go_wp2
  refine wp_scope_jumps 0 (fun a W => ∃ (x0 x1 x2 x3 x5 x6 x8 x10 x11 x12 x13 x14 x15 x16 x17 x18 x19 x20 x21 x22 x23 x24 x25 x26 x27 x28 x29 x30 x31 x32 x33 x34 x35 x36 x37 x38 x39 x40 x41 x42 : Value) (r : Nat) (zz : Array Value), a = { tmps := #[x0, x1, x2, x3, .pointer (some ⟨w.heap.size, 0, none⟩), x5, x6, .pointer (some ⟨w.heap.size + 1, 0, none⟩), x8, .pointer (some ⟨r, 0, none⟩), x10, x11, x12, x13, x14, x15, x16, x17, x18, x19, x20, x21, x22, x23, x24, x25, x26, x27, x28, x29, x30, x31, x32, x33, x34, x35, x36, x37, x38, x39, x40, x41, x42], defers := [] } ∧ Hid (Lb w W (bx3 w 62 #[.int .u32 0, .int .u32 0, nilV] #[.int .u32 0, .int .u32 0, nilV] zz) r (N : Int) 10)) (fun _ _ => 0) rfl ?first ?pass
  case first =>
    go_wp2_with fail
    rw [← hW0]
    clear hW0
    refine HO.out.mono ?_
    rintro e W1 ⟨r, hh, ao', cap', a2, c2, rfl, h1, hc1, hc2, ha2⟩
    have H1 : Hid _ := h1
    have HA : Hid _ := ha2
    clear h1 HO ha2
    go_wp2_with fail
    refine (rx_u64 H1.out mReply HX.out (by decide) hsl).mono ?_
    rintro e W2 ⟨rfl, hx⟩
    have H2 : Hid _ := hx
    clear hx H1
    go_wp2_with fail
    refine (magic_ok H2.out mReply).mono ?_
    rintro e W3 ⟨rfl, hx⟩
    have H3 : Hid _ := hx
    clear hx H2
    go_wp2_with fail
    refine (rx_u32 H3.out c HX1.out (by decide) hsl).mono ?_
    rintro e W4 ⟨rfl, hx⟩
    have H4 : Hid _ := hx
    clear hx H3
    go_wp2_with fail
    refine (rx_u32 H4.out e0 HX2.out (by decide) hsl).mono ?_
    rintro e W5 ⟨rfl, hx⟩
    have H5 : Hid _ := hx
    clear hx H4
    obtain ⟨s0, u0⟩ := H5.out.b (.tail _ (.tail _ (.head _))) 0
    simp at s0
    obtain ⟨s1, u1⟩ := H5.out.b (.tail _ (.tail _ (.head _))) 1
    simp at s1
    go_wp2_with fail
    replace H5 : Hid _ := H5.out.putS 0 (.int .u32 (c : Int)) #[.int .u32 (c : Int), .int .u32 0, nilV] rfl
    replace H5 : Hid _ := H5.out.putS 1 (.int .u32 (e0 : Int)) #[.int .u32 (c : Int), .int .u32 (e0 : Int), nilV] rfl
    refine (rx_u32 H5.out k HX3.out (by decide) hsl).mono ?_
    rintro e W6 ⟨rfl, hx⟩
    have H6 : Hid _ := hx
    clear hx H5 s0 u0 s1 u1
    go_wp2_with fail
    refine (measure_rest H6.out (by decide) (by omega) k most hm4 hle N hN).mono ?_
    rintro e W7 hx
    have HX9 : Hid _ := hx
    clear hx H6 
    rcases Or.symm HX9.out with ⟨hx, _⟩ | ⟨_, rfl, hx⟩
    · omega
    have H7 : Hid _ := hx
    clear hx HX9
    go_wp2
    go_step3
    exact ⟨rfl, _, _, _, _, _, _, _, _, _, _, _, _, _, _, _, _, _, _, _, _, _, _, _, _, _, _, _, _, _, _, _, _, _, _, _, _, _, _, _, _, _, _, rfl, H7.out.lb⟩
  case pass =>
    clear HO HC hW0
    rintro a W ⟨x0, x1, x2, x3, x5, x6, x8, x10, x11, x12, x13, x14, x15, x16, x17, x18, x19, x20, x21, x22, x23, x24, x25, x26, x27, x28, x29, x30, x31, x32, x33, x34, x35, x36, x37, x38, x39, x40, x41, x42, r, zz, rfl, HL⟩
    have hn1 : ¬ (w.heap.size = r) := (HL.out.box _ (.head _)).2.2
    have hn2 : ¬ (r = w.heap.size) := fun e => hn1 e.symm
    have r3 := HL.out.cn
    have r4 := HL.out.ce
    obtain ⟨c00, f00⟩ := HL.out.b (.head _) 0
    obtain ⟨c10, f10⟩ := HL.out.b (.tail _ (.head _)) 0
    obtain ⟨c01, f01⟩ := HL.out.b (.head _) 1
    obtain ⟨c11, f11⟩ := HL.out.b (.tail _ (.head _)) 1
    obtain ⟨c02, f02⟩ := HL.out.b (.head _) 2
    obtain ⟨c12, f12⟩ := HL.out.b (.tail _ (.head _)) 2
    simp at c00 c10 c01 c11 c02 c12
    go_wp2
    go_region
    all_goals
      go_wp2
      rw [jump_ret]
      obtain ⟨HG, HB2⟩ := closeb3 (HL.out.box _ (.head _)).1 HL.out.bel (.int .u32 0) (.int .u32 0) (nilV)
      clear HL
      generalize (((W.setCell ⟨w.heap.size, 0, none⟩ (.int .u32 0)).setCell ⟨w.heap.size, 1, none⟩ (.int .u32 0)).setCell ⟨w.heap.size, 2, none⟩ (nilV)).drew = Wz at HG HB2 ⊢
      exact bodyPost_ret (results_cell_tmp2 rfl _ Wz w.heap.size 62 #[.int .u32 0, .int .u32 0, nilV] (0, 0) _ rfl HG Try.underlying62 rfl infoRep) rfl ⟨rfl, HB2⟩
set_option maxHeartbeats 8000000 in
theorem decReply_ok (b off cap n : Nat) (l : List Nat) (most : Nat) (c e0 k : Nat) (w : World) (h : CRow w (some ⟨b, off, none⟩) cap l) (HN : Hid (l.length = n)) (hs : 20 ≤ n) (HX : Hid (valB ((l.drop 0).take 8) = mReply)) (HX1 : Hid (valB ((l.drop 8).take 4) = c)) (HX2 : Hid (valB ((l.drop 12).take 4) = e0)) (HX3 : Hid (valB ((l.drop 16).take 4) = k)) (hc4 : c < 4294967296) (he4 : e0 < 4294967296) (hk4 : k < 4294967296) (hm4 : most < 4294967296) (hle : k ≤ most) (hfit : k ≤ n - 20) (N : Nat) (hN : 20 + k = N) (m : List Nat) (hm : (l.drop 20).take k = m) :
    Calls Try.prog 72 #[.slice (some ⟨b, off, none⟩) n cap, .int .u32 (most : Int)] w fun e w' => ∃ ao2 cap2, e = .returned (.tuple #[.agg #[.int .u32 (c : Int), .int .u32 (e0 : Int), .slice ao2 k cap2], .int .i64 (N : Int), .int .i64 0]) ∧ w'.ownsRow w.heap.size 5 1 (.slice ao2 k cap2) k (m.map bv) ∧ Below w.heap.size w w' := by
  have hnl := h.row.len
  rw [HN.out] at hnl
  have hsl : 20 ≤ l.length := by rw [HN.out]; exact hs
  have HC : Hid (CRow w (some ⟨b, off, none⟩) cap l) := h
  obtain ⟨W0, hW0⟩ : ∃ W0, W0 = (((w.alloc (.cells #[.int .u32 0, .int .u32 0, nilV] 62)).alloc (.cells #[.int .u32 0, .int .u32 0, nilV] 62)).alloc (.cells #[.int .u32 0, .int .u32 0, nilV] 62)) := ⟨_, rfl⟩
  have HO : Hid (Calls Try.prog 99 #[.slice (some ⟨b, off, none⟩) n cap, .int .i64 20] W0 fun e W' => ∃ r hh ao' cap' a2 c2, e = .returned (.pointer (some ⟨r, 0, none⟩)) ∧ Dec w W' (bx3 w 62 #[.int .u32 0, .int .u32 0, nilV] #[.int .u32 0, .int .u32 0, nilV] #[.int .u32 0, .int .u32 0, nilV]) W0.heap.size r hh ao' cap' (l.take 20) 0 (.slice (some a2) (n - 20) c2) 0 20 0 ∧ n - 20 ≤ c2 ∧ c2 ≤ 9223372036854775807 ∧ (n - 20 ≠ 0 → a2 = ⟨b, off + 20, none⟩)) := by
    rw [hW0]; exact open_ok b off cap n 20 l (bx3_bel w _ _ _) (bx3_new w _ _ _ _) (bx3_nd w _ _ _ _) (h.later (bx3_bel w _ _ _)) HN hs (by decide) (by decide)
  clear h
  go_enter Try.func72, Try.ntmps72
  go_wp2
  refine wp_scope_jumps 0 (fun _ _ => False) (fun _ _ => 0) rfl ?first ?pass
  case first =>
    go_wp2_with fail
    rw [← hW0]
    clear hW0
    refine HO.out.mono ?_
    rintro e W1 ⟨r, hh, ao', cap', a2, c2, rfl, h1, hc1, hc2, ha2⟩
    have H1 : Hid _ := h1
    have HA : Hid _ := ha2
    clear h1 HO ha2
    go_wp2_with fail
    refine (rx_u64 H1.out mReply HX.out (by decide) hsl).mono ?_
    rintro e W2 ⟨rfl, hx⟩
    have H2 : Hid _ := hx
    clear hx H1
    go_wp2_with fail
    refine (magic_ok H2.out mReply).mono ?_
    rintro e W3 ⟨rfl, hx⟩
    have H3 : Hid _ := hx
    clear hx H2
    go_wp2_with fail
    refine (rx_u32 H3.out c HX1.out (by decide) hsl).mono ?_
    rintro e W4 ⟨rfl, hx⟩
    have H4 : Hid _ := hx
    clear hx H3
    go_wp2_with fail
    refine (rx_u32 H4.out e0 HX2.out (by decide) hsl).mono ?_
    rintro e W5 ⟨rfl, hx⟩
    have H5 : Hid _ := hx
    clear hx H4
    obtain ⟨s0, u0⟩ := H5.out.b (.tail _ (.tail _ (.head _))) 0
    simp at s0
    obtain ⟨s1, u1⟩ := H5.out.b (.tail _ (.tail _ (.head _))) 1
    simp at s1
    go_wp2_with fail
    replace H5 : Hid _ := H5.out.putS 0 (.int .u32 (c : Int)) #[.int .u32 (c : Int), .int .u32 0, nilV] rfl
    replace H5 : Hid _ := H5.out.putS 1 (.int .u32 (e0 : Int)) #[.int .u32 (c : Int), .int .u32 (e0 : Int), nilV] rfl
    refine (rx_u32 H5.out k HX3.out (by decide) hsl).mono ?_
    rintro e W6 ⟨rfl, hx⟩
    have H6 : Hid _ := hx
    clear hx H5 s0 u0 s1 u1
    go_wp2_with fail
    refine (measure_rest H6.out (by decide) (by omega) k most hm4 hle N hN).mono ?_
    rintro e W7 hx
    have HX9 : Hid _ := hx
    clear hx H6 
    rcases HX9.out with ⟨hx, _⟩ | ⟨_, rfl, hx⟩
    · omega
    have H7 : Hid _ := hx
    clear hx HX9
    have hml : m.length = k := by rw [← hm, List.length_take, List.length_drop, HN.out]; omega
    have hmt : ∀ x ∈ m, x < 256 := fun x hx => HC.out.row.lt x (by rw [← hm] at hx; exact List.mem_of_mem_drop (List.mem_of_mem_take hx))
    have HDt : Hid _ := data_any (len := k) H7.out m hml hmt (by rw [← hm]; exact tail_news HC.out H7.out.bel (by rw [HN.out]; exact HA.out)) (by omega) hc1 (by omega) hc2
    have HB : Hid (w.heap.size + 1 + 1 < W7.heap.size) := by show _ < _; have h1 := block_lt H7.out.rd; have h2 := H7.out.hr; have h3 : w.heap.size + 1 + 1 < _ := (H7.out.box _ (.tail _ (.tail _ (.head _)))).2.2; omega
    clear H7 HX HX1 HX2 HX3 HN HC hml hmt HA
    go_wp2_with fail
    refine Calls.mono HDt.out ?_
    rintro e W8 ⟨ao2, cap2, rfl, ho, hb, h9⟩
    have H8 : Hid _ := h9
    have HR : Hid (W8.ownsRow W7.heap.size 5 1 (.slice ao2 k cap2) k (m.map bv)) := ho
    clear h9 ho hb HDt
    obtain ⟨c10, f10⟩ := H8.out.b (.tail _ (.head _)) 0
    obtain ⟨c20, f20⟩ := H8.out.b (.tail _ (.tail _ (.head _))) 0
    obtain ⟨c11, f11⟩ := H8.out.b (.tail _ (.head _)) 1
    obtain ⟨c21, f21⟩ := H8.out.b (.tail _ (.tail _ (.head _))) 1
    obtain ⟨c12, f12⟩ := H8.out.b (.tail _ (.head _)) 2
    obtain ⟨c22, f22⟩ := H8.out.b (.tail _ (.tail _ (.head _))) 2
    simp at c10 c20 c11 c21 c12 c22
    go_wp2
    go_step3
    have HF : Hid _ := ((((H8.out.putS 2 (.slice ao2 k cap2) #[.int .u32 (c : Int), .int .u32 (e0 : Int), .slice ao2 k cap2] rfl).putO 0 (.int .u32 (c : Int)) #[.int .u32 (c : Int), .int .u32 0, nilV] rfl).putO 1 (.int .u32 (e0 : Int)) #[.int .u32 (c : Int), .int .u32 (e0 : Int), nilV] rfl).putO 2 (.slice ao2 k cap2) #[.int .u32 (c : Int), .int .u32 (e0 : Int), .slice ao2 k cap2] rfl)
    have HW : Hid ((((((W8.setCell ⟨w.heap.size + 1 + 1, 2, none⟩ (.slice ao2 k cap2)).setCell ⟨w.heap.size + 1, 0, none⟩ (.int .u32 (c : Int))).setCell ⟨w.heap.size + 1, 1, none⟩ (.int .u32 (e0 : Int))).setCell ⟨w.heap.size + 1, 2, none⟩ (.slice ao2 k cap2))).ownsRow W7.heap.size 5 1 (.slice ao2 k cap2) k (m.map bv)) := setAll_owns [(w.heap.size + 1 + 1, 2, .slice ao2 k cap2), (w.heap.size + 1, 0, .int .u32 (c : Int)), (w.heap.size + 1, 1, .int .u32 (e0 : Int)), (w.heap.size + 1, 2, .slice ao2 k cap2)] W8 HR.out (by have := HB.out; simp; omega)
    clear HR H8 c10 f10 c20 f20 c11 f11 c21 f21 c12 f12 c22 f22
    generalize ((((W8.setCell ⟨w.heap.size + 1 + 1, 2, none⟩ (.slice ao2 k cap2)).setCell ⟨w.heap.size + 1, 0, none⟩ (.int .u32 (c : Int))).setCell ⟨w.heap.size + 1, 1, none⟩ (.int .u32 (e0 : Int))).setCell ⟨w.heap.size + 1, 2, none⟩ (.slice ao2 k cap2)) = Wx at *
    have hn1 : ¬ (w.heap.size = r) := (HF.out.lb.box _ (.head _)).2.2
    have hn2 : ¬ (r = w.heap.size) := fun e => hn1 e.symm
    have r3 := HF.out.lb.cn
    have r4 := HF.out.lb.ce
    obtain ⟨c00, f00⟩ := HF.out.b (.head _) 0
    obtain ⟨c10, f10⟩ := HF.out.b (.tail _ (.head _)) 0
    obtain ⟨c01, f01⟩ := HF.out.b (.head _) 1
    obtain ⟨c11, f11⟩ := HF.out.b (.tail _ (.head _)) 1
    obtain ⟨c02, f02⟩ := HF.out.b (.head _) 2
    obtain ⟨c12, f12⟩ := HF.out.b (.tail _ (.head _)) 2
    simp at c00 c10 c01 c11 c02 c12
    go_wp2
    go_region
    all_goals
      go_wp2
      rw [jump_ret]
      obtain ⟨HG, HW2, HB2⟩ := close3 (HF.out.box _ (.head _)).1 HF.out.bel HW.out (by have := HB.out; omega) (.int .u32 (c : Int)) (.int .u32 (e0 : Int)) (.slice ao2 k cap2)
      clear HF HW
      generalize (((Wx.setCell ⟨w.heap.size, 0, none⟩ (.int .u32 (c : Int))).setCell ⟨w.heap.size, 1, none⟩ (.int .u32 (e0 : Int))).setCell ⟨w.heap.size, 2, none⟩ (.slice ao2 k cap2)).drew = Wz at HG HW2 HB2 ⊢
      exact bodyPost_ret (results_cell_tmp2 rfl _ Wz w.heap.size 62 #[.int .u32 (c : Int), .int .u32 (e0 : Int), .slice ao2 k cap2] (0, 0) _ rfl HG Try.underlying62 rfl infoRep) rfl ⟨_, _, rfl, owns_mono HW2 (by have := HB.out; omega), HB2⟩
  case pass =>
    rintro a W hf
    exact hf.elim
end Go.Proofs.Ytckfmpoddmccfaa
namespace Go.Proofs.Ytckfmpoddmccfaa
open Go.RowKit
set_option linter.unusedVariables false
set_option linter.unusedSimpArgs false
set_option maxRecDepth 100000
set_option maxHeartbeats 8000000 in
theorem decReply_long (b off cap n : Nat) (l : List Nat) (most : Nat) (c e0 k : Nat) (w : World) (h : CRow w (some ⟨b, off, none⟩) cap l) (HN : Hid (l.length = n)) (hs : 20 ≤ n) (HX : Hid (valB ((l.drop 0).take 8) = mReply)) (HX1 : Hid (valB ((l.drop 8).take 4) = c)) (HX2 : Hid (valB ((l.drop 12).take 4) = e0)) (HX3 : Hid (valB ((l.drop 16).take 4) = k)) (hc4 : c < 4294967296) (he4 : e0 < 4294967296) (hk4 : k < 4294967296) (hm4 : most < 4294967296) (hlong : most < k) :
    Calls Try.prog 72 #[.slice (some ⟨b, off, none⟩) n cap, .int .u32 (most : Int)] w fun e w' => ∃ ao2 cap2, e = .returned (.tuple #[.agg #[.int .u32 (c : Int), .int .u32 (e0 : Int), .slice ao2 0 cap2], .int .i64 20, .int .i64 12]) ∧ Row w w' ao2 cap2 [] := by
  obtain ⟨m, hm⟩ : ∃ m : List Nat, m = [] := ⟨_, rfl⟩
  have hnl := h.row.len
  rw [HN.out] at hnl
  have hsl : 20 ≤ l.length := by rw [HN.out]; exact hs
  have HC : Hid (CRow w (some ⟨b, off, none⟩) cap l) := h
  obtain ⟨W0, hW0⟩ : ∃ W0, W0 = (((w.alloc (.cells #[.int .u32 0, .int .u32 0, nilV] 62)).alloc (.cells #[.int .u32 0, .int .u32 0, nilV] 62)).alloc (.cells #[.int .u32 0, .int .u32 0, nilV] 62)) := ⟨_, rfl⟩
  have HO : Hid (Calls Try.prog 99 #[.slice (some ⟨b, off, none⟩) n cap, .int .i64 20] W0 fun e W' => ∃ r hh ao' cap' a2 c2, e = .returned (.pointer (some ⟨r, 0, none⟩)) ∧ Dec w W' (bx3 w 62 #[.int .u32 0, .int .u32 0, nilV] #[.int .u32 0, .int .u32 0, nilV] #[.int .u32 0, .int .u32 0, nilV]) W0.heap.size r hh ao' cap' (l.take 20) 0 (.slice (some a2) (n - 20) c2) 0 20 0 ∧ n - 20 ≤ c2 ∧ c2 ≤ 9223372036854775807 ∧ (n - 20 ≠ 0 → a2 = ⟨b, off + 20, none⟩)) := by
    rw [hW0]; exact open_ok b off cap n 20 l (bx3_bel w _ _ _) (bx3_new w _ _ _ _) (bx3_nd w _ _ _ _) (h.later (bx3_bel w _ _ _)) HN hs (by decide) (by decide)
  clear h
  go_enter Try.func72, Try.ntmps72
  go_wp2
  refine wp_scope_jumps 0 (fun _ _ => False) (fun _ _ => 0) rfl ?first ?pass
  case first =>
    go_wp2_with fail
    rw [← hW0]
    clear hW0
    refine HO.out.mono ?_
    rintro e W1 ⟨r, hh, ao', cap', a2, c2, rfl, h1, hc1, hc2, ha2⟩
    have H1 : Hid _ := h1
    have HA : Hid _ := ha2
    clear h1 HO ha2
    go_wp2_with fail
    refine (rx_u64 H1.out mReply HX.out (by decide) hsl).mono ?_
    rintro e W2 ⟨rfl, hx⟩
    have H2 : Hid _ := hx
    clear hx H1
    go_wp2_with fail
    refine (magic_ok H2.out mReply).mono ?_
    rintro e W3 ⟨rfl, hx⟩
    have H3 : Hid _ := hx
    clear hx H2
    go_wp2_with fail
    refine (rx_u32 H3.out c HX1.out (by decide) hsl).mono ?_
    rintro e W4 ⟨rfl, hx⟩
    have H4 : Hid _ := hx
    clear hx H3
    go_wp2_with fail
    refine (rx_u32 H4.out e0 HX2.out (by decide) hsl).mono ?_
    rintro e W5 ⟨rfl, hx⟩
    have H5 : Hid _ := hx
    clear hx H4
    obtain ⟨s0, u0⟩ := H5.out.b (.tail _ (.tail _ (.head _))) 0
    simp at s0
    obtain ⟨s1, u1⟩ := H5.out.b (.tail _ (.tail _ (.head _))) 1
    simp at s1
    go_wp2_with fail
    replace H5 : Hid _ := H5.out.putS 0 (.int .u32 (c : Int)) #[.int .u32 (c : Int), .int .u32 0, nilV] rfl
    replace H5 : Hid _ := H5.out.putS 1 (.int .u32 (e0 : Int)) #[.int .u32 (c : Int), .int .u32 (e0 : Int), nilV] rfl
    refine (rx_u32 H5.out k HX3.out (by decide) hsl).mono ?_
    rintro e W6 ⟨rfl, hx⟩
    have H6 : Hid _ := hx
    clear hx H5 s0 u0 s1 u1
    go_wp2_with fail
    refine (measure_long H6.out k most hm4 hlong (by omega)).mono ?_
    rintro e W7 ⟨rfl, hx⟩
    have H7 : Hid _ := hx
    clear hx H6
    have hml : m.length = 0 := by rw [hm]; rfl
    have hmt : ∀ x ∈ m, x < 256 := by rw [hm]; simp
    have HDt : Hid _ := data_any (len := 0) H7.out m hml hmt (by rw [hm]; simp) (by omega) hc1 (by omega) hc2
    have HB : Hid (w.heap.size + 1 + 1 < W7.heap.size) := by show _ < _; have h1 := block_lt H7.out.rd; have h2 := H7.out.hr; have h3 : w.heap.size + 1 + 1 < _ := (H7.out.box _ (.tail _ (.tail _ (.head _)))).2.2; omega
    have HMm : Hid (m = []) := hm
    clear hm
    clear H7 HX HX1 HX2 HX3 HN HC hml hmt HA
    go_wp2_with fail
    refine Calls.mono HDt.out ?_
    rintro e W8 ⟨ao2, cap2, rfl, ho, hb, h9⟩
    have H8 : Hid _ := h9
    have HR : Hid (W8.ownsRow W7.heap.size 5 1 (.slice ao2 0 cap2) 0 (m.map bv)) := ho
    clear h9 ho hb HDt
    obtain ⟨c10, f10⟩ := H8.out.b (.tail _ (.head _)) 0
    obtain ⟨c20, f20⟩ := H8.out.b (.tail _ (.tail _ (.head _))) 0
    obtain ⟨c11, f11⟩ := H8.out.b (.tail _ (.head _)) 1
    obtain ⟨c21, f21⟩ := H8.out.b (.tail _ (.tail _ (.head _))) 1
    obtain ⟨c12, f12⟩ := H8.out.b (.tail _ (.head _)) 2
    obtain ⟨c22, f22⟩ := H8.out.b (.tail _ (.tail _ (.head _))) 2
    simp at c10 c20 c11 c21 c12 c22
    go_wp2
    go_step3
    have HF : Hid _ := ((((H8.out.putS 2 (.slice ao2 0 cap2) #[.int .u32 (c : Int), .int .u32 (e0 : Int), .slice ao2 0 cap2] rfl).putO 0 (.int .u32 (c : Int)) #[.int .u32 (c : Int), .int .u32 0, nilV] rfl).putO 1 (.int .u32 (e0 : Int)) #[.int .u32 (c : Int), .int .u32 (e0 : Int), nilV] rfl).putO 2 (.slice ao2 0 cap2) #[.int .u32 (c : Int), .int .u32 (e0 : Int), .slice ao2 0 cap2] rfl)
    have HW : Hid ((((((W8.setCell ⟨w.heap.size + 1 + 1, 2, none⟩ (.slice ao2 0 cap2)).setCell ⟨w.heap.size + 1, 0, none⟩ (.int .u32 (c : Int))).setCell ⟨w.heap.size + 1, 1, none⟩ (.int .u32 (e0 : Int))).setCell ⟨w.heap.size + 1, 2, none⟩ (.slice ao2 0 cap2))).ownsRow W7.heap.size 5 1 (.slice ao2 0 cap2) 0 (m.map bv)) := setAll_owns [(w.heap.size + 1 + 1, 2, .slice ao2 0 cap2), (w.heap.size + 1, 0, .int .u32 (c : Int)), (w.heap.size + 1, 1, .int .u32 (e0 : Int)), (w.heap.size + 1, 2, .slice ao2 0 cap2)] W8 HR.out (by have := HB.out; simp; omega)
    clear HR H8 c10 f10 c20 f20 c11 f11 c21 f21 c12 f12 c22 f22
    generalize ((((W8.setCell ⟨w.heap.size + 1 + 1, 2, none⟩ (.slice ao2 0 cap2)).setCell ⟨w.heap.size + 1, 0, none⟩ (.int .u32 (c : Int))).setCell ⟨w.heap.size + 1, 1, none⟩ (.int .u32 (e0 : Int))).setCell ⟨w.heap.size + 1, 2, none⟩ (.slice ao2 0 cap2)) = Wx at *
    have hn1 : ¬ (w.heap.size = r) := (HF.out.lb.box _ (.head _)).2.2
    have hn2 : ¬ (r = w.heap.size) := fun e => hn1 e.symm
    have r3 := HF.out.lb.cn
    have r4 := HF.out.lb.ce
    obtain ⟨c00, f00⟩ := HF.out.b (.head _) 0
    obtain ⟨c10, f10⟩ := HF.out.b (.tail _ (.head _)) 0
    obtain ⟨c01, f01⟩ := HF.out.b (.head _) 1
    obtain ⟨c11, f11⟩ := HF.out.b (.tail _ (.head _)) 1
    obtain ⟨c02, f02⟩ := HF.out.b (.head _) 2
    obtain ⟨c12, f12⟩ := HF.out.b (.tail _ (.head _)) 2
    simp at c00 c10 c01 c11 c02 c12
    go_wp2
    go_region
    all_goals
      go_wp2
      rw [jump_ret]
      obtain ⟨HG, HW2, HB2⟩ := close3 (HF.out.box _ (.head _)).1 HF.out.bel HW.out (by have := HB.out; omega) (.int .u32 (c : Int)) (.int .u32 (e0 : Int)) (.slice ao2 0 cap2)
      clear HF HW
      generalize (((Wx.setCell ⟨w.heap.size, 0, none⟩ (.int .u32 (c : Int))).setCell ⟨w.heap.size, 1, none⟩ (.int .u32 (e0 : Int))).setCell ⟨w.heap.size, 2, none⟩ (.slice ao2 0 cap2)).drew = Wz at HG HW2 HB2 ⊢
      exact bodyPost_ret (results_cell_tmp2 rfl _ Wz w.heap.size 62 #[.int .u32 (c : Int), .int .u32 (e0 : Int), .slice ao2 0 cap2] (0, 0) _ rfl HG Try.underlying62 rfl infoRep) rfl ⟨_, _, rfl, by have e := HMm.out; rw [e] at HW2; exact owns_mono HW2 (by have := HB.out; omega), by simp, HB2⟩
  case pass =>
    rintro a W hf
    exact hf.elim
end Go.Proofs.Ytckfmpoddmccfaa
