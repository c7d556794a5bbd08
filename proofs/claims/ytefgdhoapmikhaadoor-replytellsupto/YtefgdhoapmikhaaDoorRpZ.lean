import Derived.Test.YtefgdhoapmikhaaDoorRpE
import Derived.Test.YtefgdhoapmikhaaDoorJF
import Derived.Laws.CopyRow
import Derived.Laws.MakeOwn
namespace Go.Proofs.YtefgdhoapmikhaaDoor
open Go.RowKit
set_option linter.unusedVariables false
set_option linter.unusedSimpArgs false
set_option maxRecDepth 100000
theorem sizeU8 : (Tryd.prog.info? 5).map (·.size) = some 1 := by kernel_rfl
theorem run_zeros (w : World) {n : Nat} (hn : n ≤ 140737488351232) : (Instr.makeSlice 27 (.int .u64 (n : Int)) (.int .u64 (n : Int))).run Tryd.prog w = .ok (.slice (some ⟨w.heap.size, 0, none⟩) n n) (w.alloc (.cells ((List.replicate n 0).map bv).toArray 5)) := by
  obtain ⟨i0, hi, hz0, hz1, hz2⟩ := info_parts Tryd.info5
  have h1 := run_make (P := Tryd.prog) w 27 5 i0 (.int .u8 0) Tryd.underlying27 hi hz0 .u64 .u64 (n : Int) (n : Int) (by omega) (Int.le_refl _) (by rw [hz2]; omega) (by omega)
  rw [Int.toNat_natCast, hz1] at h1
  rw [h1]
  congr 3
  apply Array.ext_getElem?
  intro k
  rcases Nat.lt_or_ge k n with hk | hk
  · simp [madeCells, Value.cells, hk, bv, Nat.mod_one]
  · rw [Array.getElem?_eq_none (by simp [madeCells]; omega), Array.getElem?_eq_none (by simp; omega)]
/-- what a piece says -/
def pcL (D : Pc → List Nat) (p : Pc) : List Nat := if p.hole = true then List.replicate p.ln 0 else D p
/-- what pieces say, side by side -/
def rowL (D : Pc → List Nat) (P : List Pc) : List Nat := P.flatMap (pcL D)
theorem setRow_bx {w W : World} {A cur new : Array Value} {tA : TypeId} (h : Bx2 w W A cur tA 5) : Bx2 w (W.setRow (w.heap.size + 1) new) A new tA 5 := by
  refine ⟨⟨h.bel.os, h.bel.tape, h.bel.output, by rw [show (W.setRow (w.heap.size + 1) new).heap.size = W.heap.size by simp [World.setRow]]; exact h.bel.size, fun k hk => ?_⟩, ?_, setRow_heap W _ _ _ _ _ h.b, by rw [show (W.setRow (w.heap.size + 1) new).heap.size = W.heap.size by simp [World.setRow]]; exact h.size⟩
  · rw [setRow_other _ _ _ _ (by omega)]; exact h.bel.block k hk
  · rw [setRow_other _ _ _ _ (by omega)]; exact h.a
theorem copy_piece {w W : World} {A : Array Value} {tA : TypeId} {L m : List Nat} {dd n cap : Nat} {ao : Option Addr} (h : Bx2 w W A (L.map bv).toArray tA 5) (hm : BRow W ao cap m) (hn : m.length = n) (hfit : dd + n ≤ L.length) :
    ∃ W', (∀ ty c, (Builtin.copy_ #[27, 27] ty #[.slice (some ⟨w.heap.size + 1, dd, none⟩) (L.length - dd) c, .slice ao n cap]).run Tryd.prog W = .ok (goInt n) W') ∧ Bx2 w W' A ((L.take dd ++ m ++ L.drop (dd + n)).map bv).toArray tA 5 := by
  cases ao with
  | none =>
    obtain ⟨rfl, rfl⟩ := hm.nil rfl
    obtain rfl : n = 0 := hn.symm
    refine ⟨W, fun ty c => run_copy_nil Tryd.prog W _ _ ty 5 _ _ _ Tryd.underlying27 (by rw [sizeU8]; rfl), ?_⟩
    simpa using h
  | some ad =>
    refine ⟨W.setRow (w.heap.size + 1) ((L.take dd ++ m ++ L.drop (dd + n)).map bv).toArray, fun ty c => ?_, setRow_bx h⟩
    have h1 := run_copy_row (P := Tryd.prog) W 27 27 ty 5 (w.heap.size + 1) dd (L.length - dd) c ad n cap (L.map bv).toArray 5 (m.map bv) Tryd.underlying27 sizeU8 h.b (by rw [List.length_map, hn]; exact (Nat.min_eq_left (by omega)).symm) (fun j v hj => hm.news _ rfl j v hj) (by simp; omega) (bv_one m)
    rw [List.length_map, hn] at h1
    rw [h1]
    congr 2
    simp [List.map_append, List.map_take, List.map_drop]
set_option maxHeartbeats 1000000 in
theorem gather_some (fl ty ck off len : Nat) (d : Value) (b po pc n : Nat) (P : List Pc) (D : Pc → List Nat) (w : World) (h : PRow w (some ⟨b, po, none⟩) P) (HN : Hid (P.length = n)) (h1 : off < 18446744073709551616) (h2 : len ≤ 35184372088832) (HP : Hid (pieB off len 0 P = true)) (HD : Hid (∀ p ∈ P, (D p).length = p.n ∧ BRow w p.ao p.cap (D p))) :
    Calls Tryd.prog 69 #[.agg #[.int .u16 (fl : Int), .int .u16 (ty : Int), .int .u64 (ck : Int), .int .u64 (off : Int), .int .u64 (len : Int), d], .slice (some ⟨b, po, none⟩) n pc] w fun e w' => ∃ ad cap, e = .returned (.slice (some ad) len cap) ∧ Row w w' (some ad) cap (rowL D P) := by
  have hn : n ≤ 1048576 := HN.out ▸ h.len
  have hmk := fun w => run_zeros w (n := len) (by omega)
  have HR : Hid (PRow w (some ⟨b, po, none⟩) P) := h
  clear h
  go_enter Tryd.func69, Tryd.ntmps69
  go_wp2
  clear hmk
  have hx : Bx2 w ((w.alloc (Obj.cells #[.int .u16 (fl : Int), .int .u16 (ty : Int), .int .u64 (ck : Int), .int .u64 (off : Int), .int .u64 (len : Int), d] 29)).alloc (Obj.cells (Array.replicate len (bv 0)) 5)) #[.int .u16 (fl : Int), .int .u16 (ty : Int), .int .u64 (ck : Int), .int .u64 (off : Int), .int .u64 (len : Int), d] ((rowL D (P.take 0) ++ List.replicate (len - 0) 0).map bv).toArray 29 5 := by
    have := mkb2 w #[.int .u16 (fl : Int), .int .u16 (ty : Int), .int .u64 (ck : Int), .int .u64 (off : Int), .int .u64 (len : Int), d] (Array.replicate len (bv 0)) 29 5
    simpa [rowL] using this
  generalize ((w.alloc (Obj.cells #[.int .u16 (fl : Int), .int .u16 (ty : Int), .int .u64 (ck : Int), .int .u64 (off : Int), .int .u64 (len : Int), d] 29)).alloc (Obj.cells (Array.replicate len (bv 0)) 5)) = W0 at *
  have HX : Hid (Bx2 w W0 #[.int .u16 (fl : Int), .int .u16 (ty : Int), .int .u64 (ck : Int), .int .u64 (off : Int), .int .u64 (len : Int), d] ((rowL D (P.take 0) ++ List.replicate (len - 0) 0).map bv).toArray 29 5) := hx
  clear hx
  go_loopw [13] (fun i wr => ∃ k dd : Nat, k ≤ n ∧ i = .int .i64 (k : Int) ∧ dd ≤ len ∧ (rowL D (P.take k)).length = dd ∧ Bx2 w wr #[.int .u16 (fl : Int), .int .u16 (ty : Int), .int .u64 (ck : Int), .int .u64 (off : Int), .int .u64 (len : Int), d] ((rowL D (P.take k) ++ List.replicate (len - dd) 0).map bv).toArray 29 5 ∧ pieB off len dd (P.drop k) = true) (fun i _ => n - (intOf i).toNat)
  case atStart => exact ⟨0, 0, Nat.zero_le _, rfl, Nat.zero_le _, by simp [rowL], HX.out, HP.out⟩
  case round =>
    obtain ⟨k, dd, hk, rfl, hdl, hrl, hbw, he⟩ := hrel
    have HB : Hid (Bx2 w wr #[.int .u16 (fl : Int), .int .u16 (ty : Int), .int .u64 (ck : Int), .int .u64 (off : Int), .int .u64 (len : Int), d] ((rowL D (P.take k) ++ List.replicate (len - dd) 0).map bv).toArray 29 5) := hbw
    have HL : Hid ((rowL D (P.take k)).length = dd) := hrl
    clear HX hrl
    by_cases hlt : k < n
    · have hkl : k < P.length := by rw [HN.out]; exact hlt
      have hrow : PRow wr (some ⟨b, po, none⟩) P := HR.out.later hbw.bel
      have g0 := hrow.cell b po rfl k hkl 0 (by decide)
      have g1 := hrow.cell b po rfl k hkl 1 (by decide)
      have g2 := hrow.cell b po rfl k hkl 2 (by decide)
      have g3 := hrow.cell b po rfl k hkl 3 (by decide)
      have hst := pie_step off len dd P k hkl
      rw [he] at hst
      have hok := hrow.ok _ (List.getElem_mem hkl)
      have hda := HD.out _ (List.getElem_mem hkl)
      have htk : rowL D (P.take (k + 1)) = rowL D (P.take k) ++ pcL D P[k] := by
        unfold rowL; rw [List.take_succ_eq_append_getElem hkl, List.flatMap_append]; simp
      have r3 : wr.cell? ⟨w.heap.size, 3, none⟩ = some (.int .u64 (off : Int)) := by rw [blk_at hbw.a]; rfl
      have q3 : ∀ o, (wr.alloc o).cell? ⟨w.heap.size, 3, none⟩ = some (.int .u64 (off : Int)) := fun o => cell_later (below1 wr o) r3
      generalize P[k] = p at *
      symm at hst
      simp only [pcB, Bool.and_eq_true, decide_eq_true_eq] at hst
      obtain ⟨⟨⟨y1, y2⟩, y3⟩, y4, y5, y6⟩ := hst
      have hll : (rowL D (P.take k) ++ List.replicate (len - dd) 0).length = len := by rw [List.length_append, HL.out, List.length_replicate]; omega
      have hfit : dd + p.n ≤ (rowL D (P.take k) ++ List.replicate (len - dd) 0).length := by
        rw [hll, y2]; split <;> omega
      have hWp : Bx2 w (wr.alloc (.cells p.cells 62)) #[.int .u16 (fl : Int), .int .u16 (ty : Int), .int .u64 (ck : Int), .int .u64 (off : Int), .int .u64 (len : Int), d] ((rowL D (P.take k) ++ List.replicate (len - dd) 0).map bv).toArray 29 5 := hbw.later (below1 wr _)
      obtain ⟨W2, hc1, hc2⟩ := copy_piece (hWp.later (below_drewN _ 1)) (((hda.2.later hbw.bel).later (below1 wr _)).later (below_drewN _ 1)) hda.1 hfit
      rw [hll] at hc1
      have HNew : Hid (Bx2 w W2 #[.int .u16 (fl : Int), .int .u16 (ty : Int), .int .u64 (ck : Int), .int .u64 (off : Int), .int .u64 (len : Int), d] ((rowL D (P.take (k + 1)) ++ List.replicate (len - (dd + p.ln)) 0).map bv).toArray 29 5 ∧ (rowL D (P.take (k + 1))).length = dd + p.ln) := by
        have hpl : (pcL D p).length = p.ln := by
          unfold pcL; split
          · simp
          · rw [hda.1, y2]; simp [*]
        refine ⟨?_, by rw [htk, List.length_append, HL.out, hpl]⟩
        have e1 : (rowL D (P.take k) ++ List.replicate (len - dd) 0).take dd ++ D p ++ (rowL D (P.take k) ++ List.replicate (len - dd) 0).drop (dd + p.n) = rowL D (P.take (k + 1)) ++ List.replicate (len - (dd + p.ln)) 0 := by
          have t1 : (rowL D (P.take k) ++ List.replicate (len - dd) 0).take dd = rowL D (P.take k) := by rw [← HL.out]; simp
          have t2 : (rowL D (P.take k) ++ List.replicate (len - dd) 0).drop (dd + p.n) = List.replicate (len - dd - p.n) 0 := by rw [← HL.out, List.drop_append]; simp
          rw [t1, t2, htk]
          unfold pcL
          by_cases hh : p.hole = true
          · rw [if_pos hh] at y2 ⊢
            have : D p = [] := List.eq_nil_of_length_eq_zero (by rw [hda.1, y2])
            rw [this, y2, List.append_nil, List.append_assoc, List.replicate_append_replicate]
            congr 2; omega
          · rw [if_neg hh] at y2 ⊢
            rw [y2]
            congr 2; omega
        rw [← e1]; exact hc2
      have HC : Hid (∀ ty c, (Builtin.copy_ #[27, 27] ty #[.slice (some ⟨w.heap.size + 1, dd, none⟩) (len - dd) c, .slice p.ao p.n p.cap]).run Tryd.prog (wr.alloc (.cells p.cells 62)).drew = .ok (goInt p.n) W2) := hc1
      obtain ⟨o, l, ho, ao, m, cp⟩ := p
      obtain ⟨k1, k2, k3⟩ := hok
      simp only at k1 k2 k3 y1 y4 y5 y6 HC HNew
      simp only [Pc.cells] at g0 g1 g2 g3 HC
      simp at g0 g1 g2 g3
      have HY6 : Hid (pieB off len (dd + l) (P.drop (k + 1)) = true) := y6
      clear hda htk hfit hll hWp hc1 hc2 hrow hbw r3 he y2 y3 y6
      have a1 : IntKind.u64.wrap ((o : Int) - (off : Int)) = (dd : Int) := by rw [wu64 (by omega) (by omega)]; omega
      clear y4
      obtain ⟨W5, hW5⟩ : ∃ W5, W5 = wr.alloc (Obj.cells #[.int .u64 (o : Int), .int .u32 (l : Int), .bool ho, .slice ao m cp] 62) := ⟨_, rfl⟩
      rw [← hW5] at HC
      have hcp := HC.out
      have x0 : W5.cell? ⟨wr.heap.size, 0, none⟩ = some (.int .u64 (o : Int)) := by rw [hW5, blk_at (heap_new wr _)]; rfl
      have x3 : W5.cell? ⟨wr.heap.size, 3, none⟩ = some (.slice ao m cp) := by rw [hW5, blk_at (heap_new wr _)]; rfl
      have x5 : W5.cell? ⟨w.heap.size, 3, none⟩ = some (.int .u64 (off : Int)) := by rw [hW5]; exact q3 _
      have hd1 : ¬ (dd = len) := by omega
      have hd2 : ¬ (len - dd = 0) := by omega
      have hd3 : ¬ (len ≤ dd) := by omega
      have hd4 : dd ≤ len := by omega
      go_wp2
      rw [← hW5]
      clear hW5 HC q3 g0 g1 g2 g3
      go_region
      go_wp2
      go_roundw
      case rel => exact ⟨k + 1, dd + l, by omega, by go_num, by omega, HNew.out.2, HNew.out.1, HY6.out⟩
      case measure => simp [intOf]; omega
    · have ek : k = n := by omega
      have HZ : Hid (P.drop k = []) := List.drop_eq_nil_of_le (by rw [HN.out]; omega)
      have HT : Hid (P.take k = P) := List.take_of_length_le (by rw [HN.out]; omega)
      have hq : dd = len := by
        have := he
        rw [HZ.out] at this
        simpa [pieB] using this
      have HQ : Hid (dd = len) := hq
      clear hq
      clear he hbw
      go_wp2
      go_ret
      have hB := HB.out
      rw [HT.out, HQ.out, Nat.sub_self, List.replicate_zero, List.append_nil] at hB
      have hml : len ≤ maxLen := by rw [show maxLen = 9223372036854775807 by decide]; omega
      have hl : (rowL D P).length = len := by rw [← HQ.out, ← HL.out, HT.out]
      refine ⟨_, _, rfl, ?_, ?_, hB.bel⟩
      · rw [hl]
        refine ⟨by simp [hl], Or.inr ⟨w.heap.size + 1, len, _, rfl, by omega, hB.b, Nat.le_refl _, hml, by simp [hl], by rw [Nat.mul_one]; exact List.take_of_length_le (by simp [hl])⟩⟩
      · intro x hx
        obtain ⟨p, hp, hx⟩ := List.mem_flatMap.1 hx
        unfold pcL at hx
        split at hx
        · have := List.eq_of_mem_replicate hx; omega
        · exact (HD.out p hp).2.lt x hx
set_option maxHeartbeats 1000000 in
theorem gather_nil (fl ty ck off len : Nat) (d : Value) (po : Option Addr) (pc : Nat) (w : World) (hl : len = 0) :
    Calls Tryd.prog 69 #[.agg #[.int .u16 (fl : Int), .int .u16 (ty : Int), .int .u64 (ck : Int), .int .u64 (off : Int), .int .u64 (len : Int), d], .slice po 0 pc] w fun e w' => ∃ ad cap, e = .returned (.slice (some ad) len cap) ∧ Row w w' (some ad) cap [] := by
  subst hl
  have hmk : ∀ w : World, (Instr.makeSlice 27 (.int .u64 0) (.int .u64 0)).run Tryd.prog w = .ok (.slice (some ⟨w.heap.size, 0, none⟩) 0 0) (w.alloc (.cells #[] 5)) := fun w => by have := run_zeros w (n := 0) (by omega); simpa using this
  go_enter Tryd.func69, Tryd.ntmps69
  go_wp2
  clear hmk
  have hx := mkb2 w #[.int .u16 (fl : Int), .int .u16 (ty : Int), .int .u64 (ck : Int), .int .u64 (off : Int), .int .u64 0, d] #[] 29 5
  generalize ((w.alloc (Obj.cells #[.int .u16 (fl : Int), .int .u16 (ty : Int), .int .u64 (ck : Int), .int .u64 (off : Int), .int .u64 0, d] 29)).alloc (Obj.cells #[] 5)) = W0 at *
  have HX : Hid (Bx2 w W0 #[.int .u16 (fl : Int), .int .u16 (ty : Int), .int .u64 (ck : Int), .int .u64 (off : Int), .int .u64 0, d] #[] 29 5) := hx
  clear hx
  go_loopw [13] (fun i wr => i = .int .i64 0 ∧ wr = W0) (fun i _ => 0)
  case atStart => exact ⟨rfl, rfl⟩
  case round =>
    obtain ⟨rfl, rfl⟩ := hrel
    go_wp2
    go_ret
    refine ⟨_, _, rfl, ⟨rfl, Or.inr ⟨w.heap.size + 1, 0, _, rfl, by omega, HX.out.b, Nat.le_refl _, by decide, rfl, rfl⟩⟩, by simp, HX.out.bel⟩
theorem gather_any (fl ty ck off len : Nat) (d : Value) (po : Option Addr) (pc : Nat) (P : List Pc) (D : Pc → List Nat) (w : World) (h : PRow w po P) (h1 : off < 18446744073709551616) (h2 : len ≤ 35184372088832) (hp : pieB off len 0 P = true) (hd : ∀ p ∈ P, (D p).length = p.n ∧ BRow w p.ao p.cap (D p)) :
    Calls Tryd.prog 69 #[.agg #[.int .u16 (fl : Int), .int .u16 (ty : Int), .int .u64 (ck : Int), .int .u64 (off : Int), .int .u64 (len : Int), d], .slice po P.length pc] w fun e w' => ∃ ad cap, e = .returned (.slice (some ad) len cap) ∧ Row w w' (some ad) cap (rowL D P) := by
  by_cases hq : P = []
  · subst hq
    exact gather_nil fl ty ck off len d po pc w (by have : decide (0 = len) = true := hp; simp at this; omega)
  · obtain ⟨b, o, rfl, _⟩ := h.at_ hq
    exact gather_some fl ty ck off len d b o pc _ P D w h rfl h1 h2 hp hd
end Go.Proofs.YtefgdhoapmikhaaDoor
