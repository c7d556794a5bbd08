import Derived.Test.YtjkoambfecmglaaVTuz
import Derived.Test.YtjkoambfecmglaaJM
namespace Go.Proofs.Ytjkoambfecmglaa
open Go.RowKit
set_option linter.unusedVariables false
set_option linter.unusedSimpArgs false
set_option maxRecDepth 100000
/-- the box of what is done, and the row that is being written -/
structure Dt (w W : World) (a : Array Value) (n g cc : Nat) (cs : List Nat) : Prop where
  bel : Below w.heap.size w W
  a : W.heap[w.heap.size]? = some (.cells a 50 (0, 0))
  row : W.ownsRow (w.heap.size + 1) 5 1 (.slice (some ⟨g, 0, none⟩) n cc) n (cs.map bv)
  lt : ∀ b ∈ cs, b < 256
theorem Dt.dlen {w W : World} {a : Array Value} {n g cc : Nat} {cs : List Nat} (h : Dt w W a n g cc cs) : cs.length = n := by
  have := h.row.1; rw [List.length_map] at this; omega
theorem Dt.set {w W : World} {a : Array Value} {n g cc i : Nat} {cs : List Nat} (h : Dt w W a n g cc cs) (hi : i < n) (y : Nat) (hy : y < 256) : Dt w (W.setCell ⟨g, i, none⟩ (.int .u8 (y : Int))) a n g cc (cs.set i y) where
  bel := h.bel.setCell (p := ⟨g, i, none⟩) (by have := (owns_in h.row (g := g) rfl).1; show w.heap.size ≤ g; omega) _
  a := (Below.heap_setCell _ ⟨g, i, none⟩ _ _ (by have := (owns_in h.row (g := g) rfl).1; show w.heap.size ≠ g; omega)).trans h.a
  row := by
    have := own_set h.row (bv y) hi
    rw [List.map_set]; exact this
  lt b hb := by
    rcases List.mem_or_eq_of_mem_set hb with h1 | h1
    · exact h.lt b h1
    · rw [h1]; exact hy
theorem Dt.drew {w W : World} {a : Array Value} {n g cc : Nat} {cs : List Nat} (h : Dt w W a n g cc cs) : Dt w W.drew a n g cc cs :=
  ⟨h.bel.trans ⟨rfl, rfl, rfl, Nat.le_refl _, fun _ _ => rfl⟩, h.a, owns_same h.row fun _ _ => rfl, h.lt⟩
/-- what doing answers -/
def DoneEnd (n : Nat) (cs : List Nat) (w : World) (e : Ending) (w' : World) : Prop := ∃ (co : Option Addr) (cc : Nat), e = .returned (.slice co n cc) ∧ BRow w' co cc cs ∧ cs.length = n ∧ n ≤ cc ∧ (∀ a, co = some a → w.heap.size ≤ a.block ∧ a.block < w'.heap.size) ∧ Below w.heap.size w w'
theorem DoneEnd.mk {n : Nat} {cs : List Nat} {w w' : World} {e : Ending} (co : Option Addr) (cc : Nat) (h1 : e = .returned (.slice co n cc)) (h2 : BRow w' co cc cs) (h3 : cs.length = n) (h4 : n ≤ cc) (h5 : ∀ a, co = some a → w.heap.size ≤ a.block ∧ a.block < w'.heap.size) (h6 : Below w.heap.size w w') : DoneEnd n cs w e w' := ⟨co, cc, h1, h2, h3, h4, h5, h6⟩
theorem Dt.end_ {w W : World} {a : Array Value} {n g cc : Nat} {cs : List Nat} (h : Dt w W a n g cc cs) (hn : n ≤ 4096) : DoneEnd n cs w (.returned (.slice (some ⟨g, 0, none⟩) n cc)) W := by
  have h1 := owns_in h.row (g := g) rfl
  exact ⟨_, cc, rfl, brow_own h.row h.dlen h.lt (by omega), h.dlen, owns_cap h.row, fun x e => by cases e; exact ⟨by show w.heap.size ≤ g; omega, h1.2⟩, h.bel⟩
/-- a copy as a row of one's own -/
theorem copy_own (bo : Option Addr) (cap n : Nat) (bs : List Nat) (w : World) (h : BRow w bo cap bs) (hn : bs.length = n) :
    Calls Try.prog 9 #[.slice bo n cap] w fun e w' => ∃ co cc, e = .returned (.slice co n cc) ∧ w'.ownsRow w.heap.size 5 1 (.slice co n cc) n (bs.map bv) ∧ BRow w' co cc bs ∧ n ≤ cc ∧ Below w.heap.size w w' :=
  (copy_any bo cap n bs w h hn).mono (by rintro e w' ⟨co, cc, e1, h1, h2, h3⟩; exact ⟨co, cc, e1, h2, h1, owns_cap h2, h3⟩)
set_option maxHeartbeats 32000000 in
theorem done_w (ba da : Option Addr) (n bc lb k m lm lc off dc : Nat) (fr t : Int) (sy : Bool) (bs ds : List Nat) (w : World) (hb : BRow w ba bc bs) (hn : bs.length = n) (hns : n ≤ 4096) (hin : off + m ≤ n) (hk : k < lm) (hlm : lm ≤ 10) (hc : ∀ j v, (#[.int .i64 2, .int .i64 fr, .int .i64 t, .int .i64 (off : Int), .int .i64 (m : Int), .slice da m dc, .bool sy] : Array Value)[j]? = some v → w.cell? ⟨lb, k * 7 + j, none⟩ = some v) (hd : BRow w da dc ds) (hdl : ds.length = m)  :
    Calls Try.prog 23 #[.slice ba n bc, .slice (some ⟨lb, 0, none⟩) lm lc, .int .i64 (k : Int)] w (DoneEnd n (laidTo bs ds off m) w) := by
  have HB0 : Hid (Below w.heap.size w (w.alloc (.cells #[.int .i64 2, .int .i64 fr, .int .i64 t, .int .i64 (off : Int), .int .i64 (m : Int), .slice da m dc, .bool sy] 50))) := (Below.refl _ w).alloc (Nat.le_refl _) _
  have HA0 : Hid ((w.alloc (.cells #[.int .i64 2, .int .i64 fr, .int .i64 t, .int .i64 (off : Int), .int .i64 (m : Int), .slice da m dc, .bool sy] 50)).heap[w.heap.size]? = some (.cells #[.int .i64 2, .int .i64 fr, .int .i64 t, .int .i64 (off : Int), .int .i64 (m : Int), .slice da m dc, .bool sy] 50 (0, 0))) := heap_new _ _
  have HSz : Hid ((w.alloc (.cells #[.int .i64 2, .int .i64 fr, .int .i64 t, .int .i64 (off : Int), .int .i64 (m : Int), .slice da m dc, .bool sy] 50)).heap.size = w.heap.size + 1) := World.size_alloc _ _
  have HCp : Hid _ := copy_own ba bc n bs (w.alloc (.cells #[.int .i64 2, .int .i64 fr, .int .i64 t, .int .i64 (off : Int), .int .i64 (m : Int), .slice da m dc, .bool sy] 50)) (hb.later HB0.out) hn
  have HD : Hid (BRow w ba bc bs ∧ bs.length = n) := ⟨hb, hn⟩
  have HDs : Hid (BRow w da dc ds ∧ ds.length = m) := ⟨hd, hdl⟩
  have c0 : w.cell? ⟨lb, k * 7, none⟩ = some (.int .i64 2) := hc 0 _ rfl
  have c1 : w.cell? ⟨lb, k * 7 + 1, none⟩ = some (.int .i64 fr) := hc 1 _ rfl
  have c2 : w.cell? ⟨lb, k * 7 + 2, none⟩ = some (.int .i64 t) := hc 2 _ rfl
  have c3 : w.cell? ⟨lb, k * 7 + 3, none⟩ = some (.int .i64 (off : Int)) := hc 3 _ rfl
  have c4 : w.cell? ⟨lb, k * 7 + 4, none⟩ = some (.int .i64 (m : Int)) := hc 4 _ rfl
  have c5 : w.cell? ⟨lb, k * 7 + 5, none⟩ = some (.slice da m dc) := hc 5 _ rfl
  have c6 : w.cell? ⟨lb, k * 7 + 6, none⟩ = some (.bool sy) := hc 6 _ rfl
  have kk0 : (0 : Int) ≤ (k : Int) := by omega
  have kk9 : (k : Int) < (lm : Int) := by omega
  clear hb hn hc hd hdl
  go_enter Try.func23, Try.ntmps23
  go_wp2_with fail
  refine Calls.mono HCp.out ?_
  rintro e W1 ⟨co, cc, rfl, ho1, hr1, hcc, hb1⟩
  have HA1 : Hid (W1.heap[w.heap.size]? = some (.cells #[.int .i64 2, .int .i64 fr, .int .i64 t, .int .i64 (off : Int), .int .i64 (m : Int), .slice da m dc, .bool sy] 50 (0, 0)) ∧ Below w.heap.size w W1) := ⟨(hb1.block _ (by rw [HSz.out]; omega)).trans HA0.out, HB0.out.trans (hb1.mono HB0.out.size)⟩
  have HO1 : Hid (W1.ownsRow (w.heap.size + 1) 5 1 (.slice co n cc) n (bs.map bv)) := by rw [HSz.out] at ho1; exact ho1
  have HR1 : Hid (BRow W1 co cc bs ∧ n ≤ cc) := ⟨hr1, hcc⟩
  clear ho1 hr1 hcc hb1 HCp c0 c1 c2 c3 c4 c5 c6
  by_cases hm0 : m = 0
  · have HLz : Hid (laidTo bs ds off m = bs) := by
      show _ = _
      rw [hm0]; exact laidTo_zero _ _ _
    have a4 : W1.cell? ⟨w.heap.size, 4, none⟩ = some (.int .i64 ((m : Nat) : Int)) := blk_at HA1.out.1 4
    have a0 : W1.cell? ⟨w.heap.size, 0, none⟩ = some (.int .i64 2) := blk_at HA1.out.1 0
    have HE0 : Hid (DoneEnd n (laidTo bs ds off m) w (.returned (.slice co n cc)) W1) := by
      have hnew : ∀ a, co = some a → w.heap.size ≤ a.block ∧ a.block < W1.heap.size := fun a e => by
        subst e
        have h1 := owns_in HO1.out (g := a.block) (by rfl)
        exact ⟨by omega, h1.2⟩
      rw [HLz.out]
      exact DoneEnd.mk co cc rfl HR1.out.1 HD.out.2 HR1.out.2 hnew HA1.out.2
    have n9 : decide ((0 : Int) < (m : Int)) = false := decide_eq_false (by omega)
    have n9b : decide (0 < m) = false := decide_eq_false (by omega)
    have n9c : ¬ 0 < m := by omega
    go_wp2
    refine wp_loop_rounds 1 ?_
    rw [rounds_succ]
    go_wp2
    go_ret
    exact HE0.out
  obtain ⟨g, eg, hgB, -, -⟩ := own_some HO1.out (by omega)
  subst eg
  have HT0 : Hid (Dt w W1 #[.int .i64 2, .int .i64 fr, .int .i64 t, .int .i64 (off : Int), .int .i64 (m : Int), .slice da m dc, .bool sy] n g cc bs) := ⟨HA1.out.2, HA1.out.1, HO1.out, HR1.out.1.lt⟩
  go_wp2_with fail
  go_loopw [9] (fun iv wr => ∃ i : Nat, i ≤ m ∧ iv = .int .i64 (i : Int) ∧ Hid (Dt w wr #[.int .i64 2, .int .i64 fr, .int .i64 t, .int .i64 (off : Int), .int .i64 (m : Int), .slice da m dc, .bool sy] n g cc (laidTo bs ds off i))) (fun iv _ => m - (intOf iv).toNat)
  case atStart => exact ⟨0, Nat.zero_le _, rfl, by rw [laidTo_zero]; exact HT0.out⟩
  case round =>
    obtain ⟨i, hi, rfl, HF⟩ := hrel
    have a0 : wr.cell? ⟨w.heap.size, 0, none⟩ = some (.int .i64 2) := blk_at HF.out.a 0
    have a3 : wr.cell? ⟨w.heap.size, 3, none⟩ = some (.int .i64 (off : Int)) := blk_at HF.out.a 3
    have a4 : wr.cell? ⟨w.heap.size, 4, none⟩ = some (.int .i64 (m : Int)) := blk_at HF.out.a 4
    have a5 : wr.cell? ⟨w.heap.size, 5, none⟩ = some (.slice da m dc) := blk_at HF.out.a 5
    by_cases hlt : i < m
    · have n9 : decide ((i : Int) < (m : Int)) = true := decide_eq_true (by omega)
      have n9b : decide (i < m) = true := decide_eq_true hlt
      have ii0 : (0 : Int) ≤ (i : Int) := by omega
      have ii9 : (i : Int) < (m : Int) := by omega
      have HIl : Hid (i < m) := hlt
      obtain ⟨p, hp⟩ : ∃ p, off + i = p := ⟨_, rfl⟩
      have q1 : (off : Int) + (i : Int) = (p : Int) := by omega
      have pp0 : (0 : Int) ≤ (p : Int) := by omega
      have pp9 : (p : Int) < (n : Int) := by omega
      have hpn : p < n := by omega
      have hp4 : p ≤ 4096 := by omega
      obtain ⟨g', eg, -, hcell, hfr⟩ := own_some HF.out.row (by omega)
      have eg2 : g = g' := by have := congrArg (fun x => x.map Addr.block) eg; exact Option.some.inj this
      subst eg2
      have hcl : p < (laidTo bs ds off i).length := by rw [HF.out.dlen]; exact hpn
      obtain ⟨z, hz⟩ : ∃ z, (laidTo bs ds off i)[p]? = some z := ⟨_, List.getElem?_eq_getElem hcl⟩
      have cg : wr.cell? ⟨g, p, none⟩ = some (.int .u8 (z : Int)) := by rw [hcell p hpn, List.getElem?_map, hz]; rfl
      have fg : wr.frozen? ⟨g, p, none⟩ = false := hfr p
      have hil : i < ds.length := by rw [HDs.out.2]; exact hlt
      obtain ⟨d0, o0, ed, hcd⟩ := HDs.out.1.at_ (by rintro rfl; simp at hil)
      subst ed
      obtain ⟨y, hy⟩ : ∃ y, ds[i]? = some y := ⟨_, List.getElem?_eq_getElem hil⟩
      have hye : ds[i] = y := (List.getElem?_eq_some_iff.1 hy).2
      have hy256 : y < 256 := by rw [← hye]; exact HDs.out.1.lt _ (List.getElem_mem hil)
      have HYe : Hid (∀ U, Below w.heap.size w U → U.cell? ⟨d0, o0 + i, none⟩ = some (.int .u8 (y : Int))) := fun U hU => by rw [← hye]; exact cell_later hU (hcd i hil)
      have cy : wr.cell? ⟨d0, o0 + i, none⟩ = some (.int .u8 (y : Int)) := HYe.out _ HF.out.bel
      have HSw : Hid (wr.cell? ⟨w.heap.size, 3, none⟩ = some (.int .i64 (off : Int)) ∧ wr.cell? ⟨w.heap.size, 5, none⟩ = some (.slice (some ⟨d0, o0, none⟩) m dc) ∧ wr.cell? ⟨d0, o0 + i, none⟩ = some (.int .u8 (y : Int))) := ⟨a3, a5, cy⟩
      have HF2 : Hid _ := HF.out.set hpn y hy256
      have HSx : Hid ((wr.setCell ⟨g, p, none⟩ (.int .u8 (y : Int))).cell? ⟨w.heap.size, 3, none⟩ = some (.int .i64 (off : Int)) ∧ (wr.setCell ⟨g, p, none⟩ (.int .u8 (y : Int))).cell? ⟨w.heap.size, 5, none⟩ = some (.slice (some ⟨d0, o0, none⟩) m dc) ∧ (wr.setCell ⟨g, p, none⟩ (.int .u8 (y : Int))).cell? ⟨d0, o0 + i, none⟩ = some (.int .u8 (y : Int))) := ⟨blk_at HF2.out.a 3, blk_at HF2.out.a 5, HYe.out _ HF2.out.bel⟩
      have HN : Hid (Dt w (wr.setCell ⟨g, p, none⟩ (.int .u8 (y : Int))).drew #[.int .i64 2, .int .i64 fr, .int .i64 t, .int .i64 (off : Int), .int .i64 (m : Int), .slice (some ⟨d0, o0, none⟩) m dc, .bool sy] n g cc (laidTo bs ds off (i + 1))) := by
        have h1 := HF2.out.drew
        rw [← hp, laidTo_set (by rw [HD.out.2]; omega) hy] at h1
        rw [← hp]; exact h1
      have q9 : IntKind.i64.wrap (p : Int) = (p : Int) := wrap_small _ pp0 (by omega)
      clear hcell hfr hcl hz hcd hil hy hye
      go_wp2_with fail
      refine wp_region_held_drew (S := (fun w' => w'.cell? ⟨w.heap.size, 3, none⟩ = some (.int .i64 (off : Int)) ∧ w'.cell? ⟨w.heap.size, 5, none⟩ = some (.slice (some ⟨d0, o0, none⟩) m dc) ∧ w'.cell? ⟨d0, o0 + i, none⟩ = some (.int .u8 (y : Int)))) (by kernel_rfl) ?_ (fun hHeld => ?_)
      · exact HSw.out
      refine wpAnyH_take (i := 0) (oi := { dst := some 26, op := Op.move (Operand.tmp 8), type := 22, pos := _, after := #[], guard := none }) (v := ?_) rfl (by kernel_rfl) (by kernel_rfl) (by kernel_rfl) (fun _ _ _ h => h) (Or.inl ⟨by rfl, ?_⟩) (by assumption) ?_
      rotate_left
      · (intro w hSw; (try dsimp only at hSw); go_simp) <;> with_reducible rfl
      try simp only [Act.put, List.setIfInBounds_toArray, List.set_cons_zero, List.set_cons_succ]
      refine wpAnyH_take (i := 1) (oi := { dst := some 27, op := Op.fieldAddr 50 (Operand.tmp 7) 3, type := 0, pos := _, after := #[], guard := none }) (v := ?_) rfl (by kernel_rfl) (by kernel_rfl) (by kernel_rfl) (fun _ _ _ h => h) (Or.inl ⟨by rfl, ?_⟩) (by assumption) ?_
      rotate_left
      · (intro w hSw; (try dsimp only at hSw); go_simp) <;> with_reducible rfl
      try simp only [Act.put, List.setIfInBounds_toArray, List.set_cons_zero, List.set_cons_succ]
      refine wpAnyH_take (i := 2) (oi := { dst := some 28, op := Op.load 3 (Operand.tmp 27), type := 3, pos := _, after := _, guard := none }) (v := ?_) rfl (by kernel_rfl) (by kernel_rfl) (by kernel_rfl) (fun _ _ _ h => h) (Or.inl ⟨by rfl, ?_⟩) (by assumption) ?_
      rotate_left
      · (intro w hSw; (try dsimp only at hSw); go_simp) <;> with_reducible rfl
      try simp only [Act.put, List.setIfInBounds_toArray, List.set_cons_zero, List.set_cons_succ]
      refine wpAnyH_take (i := 3) (oi := { dst := some 29, op := Op.move (Operand.tmp 9), type := 3, pos := _, after := #[], guard := none }) (v := ?_) rfl (by kernel_rfl) (by kernel_rfl) (by kernel_rfl) (fun _ _ _ h => h) (Or.inl ⟨by rfl, ?_⟩) (by assumption) ?_
      rotate_left
      · (intro w hSw; (try dsimp only at hSw); go_simp) <;> with_reducible rfl
      try simp only [Act.put, List.setIfInBounds_toArray, List.set_cons_zero, List.set_cons_succ]
      refine wpAnyH_take (i := 4) (oi := { dst := some 30, op := Op.binOp BinOp.add 3 (Operand.tmp 28) (Operand.tmp 29) 3, type := 3, pos := _, after := _, guard := none }) (v := ?_) rfl (by kernel_rfl) (by kernel_rfl) (by kernel_rfl) (fun _ _ _ h => h) (Or.inl ⟨by rfl, ?_⟩) (by assumption) ?_
      rotate_left
      · (intro w hSw; (try dsimp only at hSw); go_simp) <;> with_reducible rfl
      try simp only [Act.put, List.setIfInBounds_toArray, List.set_cons_zero, List.set_cons_succ]
      refine wpAnyH_take (i := 5) (oi := { dst := some 31, op := Op.fieldAddr 50 (Operand.tmp 7) 5, type := 0, pos := _, after := #[], guard := none }) (v := ?_) rfl (by kernel_rfl) (by kernel_rfl) (by kernel_rfl) (fun _ _ _ h => h) (Or.inl ⟨by rfl, ?_⟩) (by assumption) ?_
      rotate_left
      · (intro w hSw; (try dsimp only at hSw); go_simp) <;> with_reducible rfl
      try simp only [Act.put, List.setIfInBounds_toArray, List.set_cons_zero, List.set_cons_succ]
      refine wpAnyH_take (i := 6) (oi := { dst := some 32, op := Op.load 22 (Operand.tmp 31), type := 22, pos := _, after := _, guard := none }) (v := ?_) rfl (by kernel_rfl) (by kernel_rfl) (by kernel_rfl) (fun _ _ _ h => h) (Or.inl ⟨by rfl, ?_⟩) (by assumption) ?_
      rotate_left
      · (intro w hSw; (try dsimp only at hSw); go_simp) <;> with_reducible rfl
      try simp only [Act.put, List.setIfInBounds_toArray, List.set_cons_zero, List.set_cons_succ]
      refine wpAnyH_take (i := 7) (oi := { dst := some 33, op := Op.move (Operand.tmp 9), type := 3, pos := _, after := #[], guard := none }) (v := ?_) rfl (by kernel_rfl) (by kernel_rfl) (by kernel_rfl) (fun _ _ _ h => h) (Or.inl ⟨by rfl, ?_⟩) (by assumption) ?_
      rotate_left
      · (intro w hSw; (try dsimp only at hSw); go_simp) <;> with_reducible rfl
      try simp only [Act.put, List.setIfInBounds_toArray, List.set_cons_zero, List.set_cons_succ]
      refine wpAnyH_take (i := 8) (oi := { dst := some 34, op := Op.indexAddr 22 (Operand.tmp 32) (Operand.tmp 33), type := 0, pos := _, after := _, guard := none }) (v := ?_) rfl (by kernel_rfl) (by kernel_rfl) (by kernel_rfl) (fun _ _ _ h => h) (Or.inl ⟨by rfl, ?_⟩) (by assumption) ?_
      rotate_left
      · (intro w hSw; (try dsimp only at hSw); go_simp) <;> with_reducible rfl
      try simp only [Act.put, List.setIfInBounds_toArray, List.set_cons_zero, List.set_cons_succ]
      refine wpAnyH_take (i := 9) (oi := { dst := some 35, op := Op.load 5 (Operand.tmp 34), type := 5, pos := _, after := _, guard := none }) (v := ?_) rfl (by kernel_rfl) (by kernel_rfl) (by kernel_rfl) (fun _ _ _ h => h) (Or.inl ⟨by rfl, ?_⟩) (by assumption) ?_
      rotate_left
      · (intro w hSw; (try dsimp only at hSw); go_simp) <;> with_reducible rfl
      try simp only [Act.put, List.setIfInBounds_toArray, List.set_cons_zero, List.set_cons_succ]
      refine wpAnyH_take (i := 10) (oi := { dst := some 36, op := Op.indexAddr 22 (Operand.tmp 26) (Operand.tmp 30), type := 0, pos := _, after := _, guard := none }) (v := ?_) rfl (by kernel_rfl) (by kernel_rfl) (by kernel_rfl) (fun _ _ _ h => h) (Or.inl ⟨by rfl, ?_⟩) (by assumption) ?_
      rotate_left
      · (intro w hSw; (try dsimp only at hSw); go_simp) <;> with_reducible rfl
      try simp only [Act.put, List.setIfInBounds_toArray, List.set_cons_zero, List.set_cons_succ]
      refine wpAnyH_ready (rs := [11]) (by kernel_rfl) (by simp) ?_
      refine AllReadyH.cons (o := { dst := none, op := Op.store 5 (Operand.tmp 36) (Operand.tmp 35), type := 0, pos := _, after := _, guard := none }) rfl (fun K hK => ?_) AllReadyH.nil
      go_simp
      skip
      try go_simp
      clear hHeld
      refine hK.out _ _ ?_ (fun hHeld => ?_)
      · exact HSx.out
      clear hK K
      try simp only [Act.put, List.setIfInBounds_toArray, List.set_cons_zero, List.set_cons_succ]
      refine wpAnyH_done (by kernel_rfl) ?_ _
      go_wp2_with fail
      go_roundw
      case rel => exact ⟨i + 1, HIl.out, by go_num, HN.out⟩
      case measure => have := HIl.out; simp [intOf]; omega
    · have n9 : decide ((i : Int) < (m : Int)) = false := decide_eq_false (by omega)
      have n9b : decide (i < m) = false := decide_eq_false hlt
      have HXe : Hid (i = m) := Nat.le_antisymm hi (Nat.le_of_not_lt hlt)
      have HE : Hid (DoneEnd n (laidTo bs ds off m) w (.returned (.slice (some ⟨g, 0, none⟩) n cc)) wr) := by
        have h1 := HF.out.end_ hns
        rw [HXe.out] at h1; exact h1
      go_wp2_with fail
      go_ret
      exact HE.out
set_option maxHeartbeats 32000000 in
theorem done_z (ba da : Option Addr) (n bc lb k m lm lc off pn dc : Nat) (fr t : Int) (sy : Bool) (bs ds : List Nat) (w : World) (hb : BRow w ba bc bs) (hn : bs.length = n) (hns : n ≤ 4096) (hin : off + m ≤ n) (hk : k < lm) (hlm : lm ≤ 10) (hc : ∀ j v, (#[.int .i64 3, .int .i64 fr, .int .i64 t, .int .i64 (off : Int), .int .i64 (m : Int), .slice da pn dc, .bool sy] : Array Value)[j]? = some v → w.cell? ⟨lb, k * 7 + j, none⟩ = some v)  :
    Calls Try.prog 23 #[.slice ba n bc, .slice (some ⟨lb, 0, none⟩) lm lc, .int .i64 (k : Int)] w (DoneEnd n (laidTo bs (List.replicate m 0) off m) w) := by
  have HB0 : Hid (Below w.heap.size w (w.alloc (.cells #[.int .i64 3, .int .i64 fr, .int .i64 t, .int .i64 (off : Int), .int .i64 (m : Int), .slice da pn dc, .bool sy] 50))) := (Below.refl _ w).alloc (Nat.le_refl _) _
  have HA0 : Hid ((w.alloc (.cells #[.int .i64 3, .int .i64 fr, .int .i64 t, .int .i64 (off : Int), .int .i64 (m : Int), .slice da pn dc, .bool sy] 50)).heap[w.heap.size]? = some (.cells #[.int .i64 3, .int .i64 fr, .int .i64 t, .int .i64 (off : Int), .int .i64 (m : Int), .slice da pn dc, .bool sy] 50 (0, 0))) := heap_new _ _
  have HSz : Hid ((w.alloc (.cells #[.int .i64 3, .int .i64 fr, .int .i64 t, .int .i64 (off : Int), .int .i64 (m : Int), .slice da pn dc, .bool sy] 50)).heap.size = w.heap.size + 1) := World.size_alloc _ _
  have HCp : Hid _ := copy_own ba bc n bs (w.alloc (.cells #[.int .i64 3, .int .i64 fr, .int .i64 t, .int .i64 (off : Int), .int .i64 (m : Int), .slice da pn dc, .bool sy] 50)) (hb.later HB0.out) hn
  have HD : Hid (BRow w ba bc bs ∧ bs.length = n) := ⟨hb, hn⟩
  have c0 : w.cell? ⟨lb, k * 7, none⟩ = some (.int .i64 3) := hc 0 _ rfl
  have c1 : w.cell? ⟨lb, k * 7 + 1, none⟩ = some (.int .i64 fr) := hc 1 _ rfl
  have c2 : w.cell? ⟨lb, k * 7 + 2, none⟩ = some (.int .i64 t) := hc 2 _ rfl
  have c3 : w.cell? ⟨lb, k * 7 + 3, none⟩ = some (.int .i64 (off : Int)) := hc 3 _ rfl
  have c4 : w.cell? ⟨lb, k * 7 + 4, none⟩ = some (.int .i64 (m : Int)) := hc 4 _ rfl
  have c5 : w.cell? ⟨lb, k * 7 + 5, none⟩ = some (.slice da pn dc) := hc 5 _ rfl
  have c6 : w.cell? ⟨lb, k * 7 + 6, none⟩ = some (.bool sy) := hc 6 _ rfl
  have kk0 : (0 : Int) ≤ (k : Int) := by omega
  have kk9 : (k : Int) < (lm : Int) := by omega
  clear hb hn hc
  go_enter Try.func23, Try.ntmps23
  go_wp2_with fail
  refine Calls.mono HCp.out ?_
  rintro e W1 ⟨co, cc, rfl, ho1, hr1, hcc, hb1⟩
  have HA1 : Hid (W1.heap[w.heap.size]? = some (.cells #[.int .i64 3, .int .i64 fr, .int .i64 t, .int .i64 (off : Int), .int .i64 (m : Int), .slice da pn dc, .bool sy] 50 (0, 0)) ∧ Below w.heap.size w W1) := ⟨(hb1.block _ (by rw [HSz.out]; omega)).trans HA0.out, HB0.out.trans (hb1.mono HB0.out.size)⟩
  have HO1 : Hid (W1.ownsRow (w.heap.size + 1) 5 1 (.slice co n cc) n (bs.map bv)) := by rw [HSz.out] at ho1; exact ho1
  have HR1 : Hid (BRow W1 co cc bs ∧ n ≤ cc) := ⟨hr1, hcc⟩
  clear ho1 hr1 hcc hb1 HCp c0 c1 c2 c3 c4 c5 c6
  by_cases hm0 : m = 0
  · have HLz : Hid (laidTo bs (List.replicate m 0) off m = bs) := by
      show _ = _
      rw [hm0]; exact laidTo_zero _ _ _
    have a4 : W1.cell? ⟨w.heap.size, 4, none⟩ = some (.int .i64 ((m : Nat) : Int)) := blk_at HA1.out.1 4
    have a0 : W1.cell? ⟨w.heap.size, 0, none⟩ = some (.int .i64 3) := blk_at HA1.out.1 0
    have HE0 : Hid (DoneEnd n (laidTo bs (List.replicate m 0) off m) w (.returned (.slice co n cc)) W1) := by
      have hnew : ∀ a, co = some a → w.heap.size ≤ a.block ∧ a.block < W1.heap.size := fun a e => by
        subst e
        have h1 := owns_in HO1.out (g := a.block) (by rfl)
        exact ⟨by omega, h1.2⟩
      rw [HLz.out]
      exact DoneEnd.mk co cc rfl HR1.out.1 HD.out.2 HR1.out.2 hnew HA1.out.2
    have n9 : decide ((0 : Int) < (m : Int)) = false := decide_eq_false (by omega)
    have n9b : decide (0 < m) = false := decide_eq_false (by omega)
    have n9c : ¬ 0 < m := by omega
    go_wp2
    refine wp_loop_rounds 1 ?_
    rw [rounds_succ]
    go_wp2
    go_ret
    exact HE0.out
  obtain ⟨g, eg, hgB, -, -⟩ := own_some HO1.out (by omega)
  subst eg
  have HT0 : Hid (Dt w W1 #[.int .i64 3, .int .i64 fr, .int .i64 t, .int .i64 (off : Int), .int .i64 (m : Int), .slice da pn dc, .bool sy] n g cc bs) := ⟨HA1.out.2, HA1.out.1, HO1.out, HR1.out.1.lt⟩
  go_wp2_with fail
  go_loopw [9] (fun iv wr => ∃ i : Nat, i ≤ m ∧ iv = .int .i64 (i : Int) ∧ Hid (Dt w wr #[.int .i64 3, .int .i64 fr, .int .i64 t, .int .i64 (off : Int), .int .i64 (m : Int), .slice da pn dc, .bool sy] n g cc (laidTo bs (List.replicate m 0) off i))) (fun iv _ => m - (intOf iv).toNat)
  case atStart => exact ⟨0, Nat.zero_le _, rfl, by rw [laidTo_zero]; exact HT0.out⟩
  case round =>
    obtain ⟨i, hi, rfl, HF⟩ := hrel
    have a0 : wr.cell? ⟨w.heap.size, 0, none⟩ = some (.int .i64 3) := blk_at HF.out.a 0
    have a3 : wr.cell? ⟨w.heap.size, 3, none⟩ = some (.int .i64 (off : Int)) := blk_at HF.out.a 3
    have a4 : wr.cell? ⟨w.heap.size, 4, none⟩ = some (.int .i64 (m : Int)) := blk_at HF.out.a 4
    have a5 : wr.cell? ⟨w.heap.size, 5, none⟩ = some (.slice da pn dc) := blk_at HF.out.a 5
    by_cases hlt : i < m
    · have n9 : decide ((i : Int) < (m : Int)) = true := decide_eq_true (by omega)
      have n9b : decide (i < m) = true := decide_eq_true hlt
      have ii0 : (0 : Int) ≤ (i : Int) := by omega
      have ii9 : (i : Int) < (m : Int) := by omega
      have HIl : Hid (i < m) := hlt
      obtain ⟨p, hp⟩ : ∃ p, off + i = p := ⟨_, rfl⟩
      have q1 : (off : Int) + (i : Int) = (p : Int) := by omega
      have pp0 : (0 : Int) ≤ (p : Int) := by omega
      have pp9 : (p : Int) < (n : Int) := by omega
      have hpn : p < n := by omega
      have hp4 : p ≤ 4096 := by omega
      obtain ⟨g', eg, -, hcell, hfr⟩ := own_some HF.out.row (by omega)
      have eg2 : g = g' := by have := congrArg (fun x => x.map Addr.block) eg; exact Option.some.inj this
      subst eg2
      have hcl : p < (laidTo bs (List.replicate m 0) off i).length := by rw [HF.out.dlen]; exact hpn
      obtain ⟨z, hz⟩ : ∃ z, (laidTo bs (List.replicate m 0) off i)[p]? = some z := ⟨_, List.getElem?_eq_getElem hcl⟩
      have cg : wr.cell? ⟨g, p, none⟩ = some (.int .u8 (z : Int)) := by rw [hcell p hpn, List.getElem?_map, hz]; rfl
      have fg : wr.frozen? ⟨g, p, none⟩ = false := hfr p
      have HF2 : Hid _ := HF.out.set hpn 0 (by decide)
      have HN : Hid (Dt w (wr.setCell ⟨g, p, none⟩ (.int .u8 0)) #[.int .i64 3, .int .i64 fr, .int .i64 t, .int .i64 (off : Int), .int .i64 (m : Int), .slice da pn dc, .bool sy] n g cc (laidTo bs (List.replicate m 0) off (i + 1))) := by
        have h1 := HF2.out
        rw [← hp, laidTo_set (by rw [HD.out.2]; omega) (by rw [List.getElem?_replicate, if_pos hlt])] at h1
        rw [← hp]; exact h1
      clear hcell hfr hcl hz
      go_wp2_with fail
      go_roundw
      case rel => exact ⟨i + 1, HIl.out, by go_num, HN.out⟩
      case measure => have := HIl.out; simp [intOf]; omega
    · have n9 : decide ((i : Int) < (m : Int)) = false := decide_eq_false (by omega)
      have n9b : decide (i < m) = false := decide_eq_false hlt
      have HXe : Hid (i = m) := Nat.le_antisymm hi (Nat.le_of_not_lt hlt)
      have HE : Hid (DoneEnd n (laidTo bs (List.replicate m 0) off m) w (.returned (.slice (some ⟨g, 0, none⟩) n cc)) wr) := by
        have h1 := HF.out.end_ hns
        rw [HXe.out] at h1; exact h1
      go_wp2_with fail
      go_ret
      exact HE.out
set_option maxHeartbeats 32000000 in
theorem done_o (ba da : Option Addr) (n bc lb k m lm lc off pn dc : Nat) (kd fr t : Int) (sy : Bool) (bs ds : List Nat) (w : World) (hb : BRow w ba bc bs) (hn : bs.length = n) (hns : n ≤ 4096) (hin : off + m ≤ n) (hk : k < lm) (hlm : lm ≤ 10) (hc : ∀ j v, (#[.int .i64 kd, .int .i64 fr, .int .i64 t, .int .i64 (off : Int), .int .i64 (m : Int), .slice da pn dc, .bool sy] : Array Value)[j]? = some v → w.cell? ⟨lb, k * 7 + j, none⟩ = some v) (hk2 : kd ≠ 2) (hk3 : kd ≠ 3) (hk1 : kd ≠ 1) :
    Calls Try.prog 23 #[.slice ba n bc, .slice (some ⟨lb, 0, none⟩) lm lc, .int .i64 (k : Int)] w (DoneEnd n (bs) w) := by
  have HB0 : Hid (Below w.heap.size w (w.alloc (.cells #[.int .i64 kd, .int .i64 fr, .int .i64 t, .int .i64 (off : Int), .int .i64 (m : Int), .slice da pn dc, .bool sy] 50))) := (Below.refl _ w).alloc (Nat.le_refl _) _
  have HA0 : Hid ((w.alloc (.cells #[.int .i64 kd, .int .i64 fr, .int .i64 t, .int .i64 (off : Int), .int .i64 (m : Int), .slice da pn dc, .bool sy] 50)).heap[w.heap.size]? = some (.cells #[.int .i64 kd, .int .i64 fr, .int .i64 t, .int .i64 (off : Int), .int .i64 (m : Int), .slice da pn dc, .bool sy] 50 (0, 0))) := heap_new _ _
  have HSz : Hid ((w.alloc (.cells #[.int .i64 kd, .int .i64 fr, .int .i64 t, .int .i64 (off : Int), .int .i64 (m : Int), .slice da pn dc, .bool sy] 50)).heap.size = w.heap.size + 1) := World.size_alloc _ _
  have HCp : Hid _ := copy_own ba bc n bs (w.alloc (.cells #[.int .i64 kd, .int .i64 fr, .int .i64 t, .int .i64 (off : Int), .int .i64 (m : Int), .slice da pn dc, .bool sy] 50)) (hb.later HB0.out) hn
  have HD : Hid (BRow w ba bc bs ∧ bs.length = n) := ⟨hb, hn⟩
  have e2 : (kd == 2) = false := by rw [beq_eq_false_iff_ne]; exact hk2
  have e3 : (kd == 3) = false := by rw [beq_eq_false_iff_ne]; exact hk3
  have e1 : (kd == 1) = false := by rw [beq_eq_false_iff_ne]; exact hk1
  have c0 : w.cell? ⟨lb, k * 7, none⟩ = some (.int .i64 kd) := hc 0 _ rfl
  have c1 : w.cell? ⟨lb, k * 7 + 1, none⟩ = some (.int .i64 fr) := hc 1 _ rfl
  have c2 : w.cell? ⟨lb, k * 7 + 2, none⟩ = some (.int .i64 t) := hc 2 _ rfl
  have c3 : w.cell? ⟨lb, k * 7 + 3, none⟩ = some (.int .i64 (off : Int)) := hc 3 _ rfl
  have c4 : w.cell? ⟨lb, k * 7 + 4, none⟩ = some (.int .i64 (m : Int)) := hc 4 _ rfl
  have c5 : w.cell? ⟨lb, k * 7 + 5, none⟩ = some (.slice da pn dc) := hc 5 _ rfl
  have c6 : w.cell? ⟨lb, k * 7 + 6, none⟩ = some (.bool sy) := hc 6 _ rfl
  have kk0 : (0 : Int) ≤ (k : Int) := by omega
  have kk9 : (k : Int) < (lm : Int) := by omega
  clear hb hn hc hk2 hk3 hk1
  go_enter Try.func23, Try.ntmps23
  go_wp2_with fail
  refine Calls.mono HCp.out ?_
  rintro e W1 ⟨co, cc, rfl, ho1, hr1, hcc, hb1⟩
  have HA1 : Hid (W1.heap[w.heap.size]? = some (.cells #[.int .i64 kd, .int .i64 fr, .int .i64 t, .int .i64 (off : Int), .int .i64 (m : Int), .slice da pn dc, .bool sy] 50 (0, 0)) ∧ Below w.heap.size w W1) := ⟨(hb1.block _ (by rw [HSz.out]; omega)).trans HA0.out, HB0.out.trans (hb1.mono HB0.out.size)⟩
  have HO1 : Hid (W1.ownsRow (w.heap.size + 1) 5 1 (.slice co n cc) n (bs.map bv)) := by rw [HSz.out] at ho1; exact ho1
  have HR1 : Hid (BRow W1 co cc bs ∧ n ≤ cc) := ⟨hr1, hcc⟩
  clear ho1 hr1 hcc hb1 HCp c0 c1 c2 c3 c4 c5 c6
  by_cases hm0 : m = 0
  · have HLz : Hid (bs = bs) := by
      show _ = _
      rfl
    have a4 : W1.cell? ⟨w.heap.size, 4, none⟩ = some (.int .i64 ((m : Nat) : Int)) := blk_at HA1.out.1 4
    have a0 : W1.cell? ⟨w.heap.size, 0, none⟩ = some (.int .i64 kd) := blk_at HA1.out.1 0
    have HE0 : Hid (DoneEnd n (bs) w (.returned (.slice co n cc)) W1) := by
      have hnew : ∀ a, co = some a → w.heap.size ≤ a.block ∧ a.block < W1.heap.size := fun a e => by
        subst e
        have h1 := owns_in HO1.out (g := a.block) (by rfl)
        exact ⟨by omega, h1.2⟩
      rw [HLz.out]
      exact DoneEnd.mk co cc rfl HR1.out.1 HD.out.2 HR1.out.2 hnew HA1.out.2
    have n9 : decide ((0 : Int) < (m : Int)) = false := decide_eq_false (by omega)
    have n9b : decide (0 < m) = false := decide_eq_false (by omega)
    have n9c : ¬ 0 < m := by omega
    go_wp2
    refine wp_loop_rounds 1 ?_
    rw [rounds_succ]
    go_wp2
    go_ret
    exact HE0.out
  obtain ⟨g, eg, hgB, -, -⟩ := own_some HO1.out (by omega)
  subst eg
  have HT0 : Hid (Dt w W1 #[.int .i64 kd, .int .i64 fr, .int .i64 t, .int .i64 (off : Int), .int .i64 (m : Int), .slice da pn dc, .bool sy] n g cc bs) := ⟨HA1.out.2, HA1.out.1, HO1.out, HR1.out.1.lt⟩
  go_wp2_with fail
  go_loopw [9] (fun iv wr => ∃ i : Nat, i ≤ m ∧ iv = .int .i64 (i : Int) ∧ Hid (Dt w wr #[.int .i64 kd, .int .i64 fr, .int .i64 t, .int .i64 (off : Int), .int .i64 (m : Int), .slice da pn dc, .bool sy] n g cc (bs))) (fun iv _ => m - (intOf iv).toNat)
  case atStart => exact ⟨0, Nat.zero_le _, rfl, by exact HT0.out⟩
  case round =>
    obtain ⟨i, hi, rfl, HF⟩ := hrel
    have a0 : wr.cell? ⟨w.heap.size, 0, none⟩ = some (.int .i64 kd) := blk_at HF.out.a 0
    have a3 : wr.cell? ⟨w.heap.size, 3, none⟩ = some (.int .i64 (off : Int)) := blk_at HF.out.a 3
    have a4 : wr.cell? ⟨w.heap.size, 4, none⟩ = some (.int .i64 (m : Int)) := blk_at HF.out.a 4
    have a5 : wr.cell? ⟨w.heap.size, 5, none⟩ = some (.slice da pn dc) := blk_at HF.out.a 5
    by_cases hlt : i < m
    · have n9 : decide ((i : Int) < (m : Int)) = true := decide_eq_true (by omega)
      have n9b : decide (i < m) = true := decide_eq_true hlt
      have ii0 : (0 : Int) ≤ (i : Int) := by omega
      have ii9 : (i : Int) < (m : Int) := by omega
      have HIl : Hid (i < m) := hlt
      go_wp2_with fail
      go_roundw
      case rel => exact ⟨i + 1, HIl.out, by go_num, HF.out⟩
      case measure => have := HIl.out; simp [intOf]; omega
    · have n9 : decide ((i : Int) < (m : Int)) = false := decide_eq_false (by omega)
      have n9b : decide (i < m) = false := decide_eq_false hlt
      have HXe : Hid (i = m) := Nat.le_antisymm hi (Nat.le_of_not_lt hlt)
      have HE : Hid (DoneEnd n (bs) w (.returned (.slice (some ⟨g, 0, none⟩) n cc)) wr) := by
        have h1 := HF.out.end_ hns
        exact h1
      go_wp2_with fail
      go_ret
      exact HE.out
end Go.Proofs.Ytjkoambfecmglaa
