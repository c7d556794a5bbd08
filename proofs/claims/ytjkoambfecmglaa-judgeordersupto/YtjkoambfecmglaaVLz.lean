import Derived.Test.YtjkoambfecmglaaVKz
import Derived.Deep.RegionHeld3
namespace Go.Proofs.Ytjkoambfecmglaa
open Go.RowKit
set_option linter.unusedVariables false
set_option linter.unusedSimpArgs false
set_option maxRecDepth 100000
/-- bs with the first i of ds laid at off -/
def laidTo (bs ds : List Nat) (off i : Nat) : List Nat := bs.take off ++ (ds.take i ++ bs.drop (off + i))
theorem laidTo_zero (bs ds : List Nat) (off : Nat) : laidTo bs ds off 0 = bs := by simp [laidTo]
theorem laidTo_set {bs ds : List Nat} {off i y : Nat} (hb : off + i < bs.length) (hd : ds[i]? = some y) : (laidTo bs ds off i).set (off + i) y = laidTo bs ds off (i + 1) := by
  have hi := (List.getElem?_eq_some_iff.1 hd).1
  have l1 : (bs.take off).length = off := by rw [List.length_take]; omega
  have l2 : (ds.take i).length = i := by rw [List.length_take]; omega
  unfold laidTo
  rw [List.set_append_right _ _ (by omega), l1, show off + i - off = i by omega, List.set_append_right _ _ (by omega), l2, Nat.sub_self, List.drop_eq_getElem_cons hb, List.set_cons_zero, List.take_add_one, hd]
  simp [Nat.add_assoc]
theorem laidTo_len {bs ds : List Nat} {off i : Nat} (hb : off + i ≤ bs.length) (hi : i ≤ ds.length) : (laidTo bs ds off i).length = bs.length := by
  simp [laidTo]; omega
theorem laidTo_lt {bs ds : List Nat} {off i : Nat} (hb : ∀ x ∈ bs, x < 256) (hd : ∀ x ∈ ds, x < 256) : ∀ x ∈ laidTo bs ds off i, x < 256 := fun x hx => by
  unfold laidTo at hx
  rcases List.mem_append.1 hx with h | h
  · exact hb x (List.mem_of_mem_take h)
  · rcases List.mem_append.1 h with h | h
    · exact hd x (List.mem_of_mem_take h)
    · exact hb x (List.mem_of_mem_drop h)
theorem own_set {W : World} {B e n g cap j : Nat} {xs : List Value} (h : W.ownsRow B e 1 (.slice (some ⟨g, 0, none⟩) n cap) n xs) (x : Value) (hj : j < n) : (W.setCell ⟨g, j, none⟩ x).ownsRow B e 1 (.slice (some ⟨g, 0, none⟩) n cap) n (xs.set j x) := by
  refine ⟨by rw [List.length_set]; exact h.1, Or.inr ?_⟩
  rcases h.2 with ⟨h0, _⟩ | ⟨g', cap', cur, hv, hb, hc, h1, h2, h3, h4⟩
  · simp at h0
  · simp at hv
    obtain ⟨rfl, rfl⟩ := hv
    refine ⟨g, cap, cur.setIfInBounds j x, rfl, hb, heap_setCell_same W g j cur e x hc, h1, h2, by simpa using h3, ?_⟩
    rw [Array.toList_setIfInBounds, List.take_set, h4]
/-- an owned row that holds something: its block, its cells, none frozen -/
theorem own_some {W : World} {B e n cc : Nat} {co : Option Addr} {xs : List Value} (h : W.ownsRow B e 1 (.slice co n cc) n xs) (hn : 0 < n) : ∃ g, co = some ⟨g, 0, none⟩ ∧ B ≤ g ∧ (∀ j, j < n → W.cell? ⟨g, j, none⟩ = xs[j]?) ∧ ∀ j, W.frozen? ⟨g, j, none⟩ = false := by
  rcases h.2 with ⟨h0, h1⟩ | ⟨g', cap', cur, hv, hb, hc, h1, h2, h3, h4⟩
  · omega
  · simp at hv
    obtain ⟨rfl, rfl⟩ := hv
    refine ⟨g', rfl, hb, fun j hj => ?_, fun j => blk_free hc j⟩
    rw [blk_at hc j, ← h4, List.getElem?_take_of_lt (by omega), Array.getElem?_toList]
set_option maxHeartbeats 4000000 in
/-- the document plays what makes zeros -/
theorem rPlay_zero (bo da : Option Addr) (cap dc n m off k : Nat) (bs : List Nat) (fr t : Int) (sy : Bool) (w : World) (hb : BRow w bo cap bs) (hn : bs.length = n) (hin : off + m ≤ n) (hs : n ≤ 4096) :
    Calls Try.prog 30 #[.slice bo n cap, .agg #[.int .i64 3, .int .i64 fr, .int .i64 t, .int .i64 (off : Int), .int .i64 (m : Int), .slice da k dc, .bool sy]] w fun e w' => ∃ co cc, e = .returned (.tuple #[.slice co n cc, .bool true]) ∧ BRow w' co cc (laidTo bs (List.replicate m 0) off m) ∧ w'.ownsRow w.heap.size 5 1 (.slice co n cc) n ((laidTo bs (List.replicate m 0) off m).map bv) ∧ Below w.heap.size w w' := by
  obtain ⟨ds, hds⟩ : ∃ ds, List.replicate m 0 = ds := ⟨_, rfl⟩
  have HDs : Hid ((∀ i, i < m → ds[i]? = some 0) ∧ ds.length = m ∧ ∀ x ∈ ds, x < 256) := by subst hds; exact ⟨fun i hi => by simp [hi], by simp, fun x hx => by rw [(List.mem_replicate.1 hx).2]; omega⟩
  rw [hds]; clear hds
  obtain ⟨H, hH⟩ : ∃ H, w.heap.size = H := ⟨_, rfl⟩
  obtain ⟨W0, hW0⟩ : ∃ W0, W0 = w.alloc (.cells #[.int .i64 3, .int .i64 fr, .int .i64 t, .int .i64 (off : Int), .int .i64 (m : Int), .slice da k dc, .bool sy] 50) := ⟨_, rfl⟩
  have b0 : Below H w W0 := by rw [hW0, ← hH]; exact (Below.refl _ w).alloc (Nat.le_refl _) _
  have hx0 : W0.heap[H]? = some (.cells #[.int .i64 3, .int .i64 fr, .int .i64 t, .int .i64 (off : Int), .int .i64 (m : Int), .slice da k dc, .bool sy] 50 (0, 0)) := by rw [hW0, ← hH]; exact heap_new _ _
  have hz0 : W0.heap.size = H + 1 := by rw [hW0, World.size_alloc, hH]
  have HC : Hid _ := copy_any bo cap n bs W0 (hb.later (by rw [hH]; exact b0)) hn
  have HD : Hid ((∀ x ∈ bs, x < 256) ∧ bs.length ≤ 140737488351232 ∧ bs.length = n ∧ w.heap.size = H) := ⟨hb.lt, hb.len, hn, hH⟩
  have HB0 : Hid (Below H w W0 ∧ W0.heap[H]? = some (.cells #[.int .i64 3, .int .i64 fr, .int .i64 t, .int .i64 (off : Int), .int .i64 (m : Int), .slice da k dc, .bool sy] 50 (0, 0)) ∧ W0.heap.size = H + 1) := ⟨b0, hx0, hz0⟩
  rw [hH]
  rw [hW0] at HC
  clear hb hn b0 hx0 hz0
  go_enter Try.func30, Try.ntmps30
  go_wp2_with fail
  refine Calls.mono HC.out ?_
  rintro e W1 ⟨co, cc, rfl, hr, ho, hb1⟩
  rw [← hW0] at ho hb1
  have HX : Hid (W1.heap[H]? = some (.cells #[.int .i64 3, .int .i64 fr, .int .i64 t, .int .i64 (off : Int), .int .i64 (m : Int), .slice da k dc, .bool sy] 50 (0, 0)) ∧ Below H w W1 ∧ W1.ownsRow (H + 1) 5 1 (.slice co n cc) n (bs.map bv)) := ⟨(hb1.block H (by rw [HB0.out.2.2]; omega)).trans HB0.out.2.1, HB0.out.1.trans (hb1.mono (by rw [HB0.out.2.2]; omega)), by rw [← HB0.out.2.2]; exact ho⟩
  clear hr ho hb1 HC HB0 hW0
  go_wp2
  go_loopw [7] (fun iv wr => ∃ i : Nat, i ≤ m ∧ iv = .int .i64 (i : Int) ∧ Hid (wr.heap[H]? = some (.cells #[.int .i64 3, .int .i64 fr, .int .i64 t, .int .i64 (off : Int), .int .i64 (m : Int), .slice da k dc, .bool sy] 50 (0, 0)) ∧ Below H w wr ∧ wr.ownsRow (H + 1) 5 1 (.slice co n cc) n ((laidTo bs ds off i).map bv))) (fun iv _ => m - (intOf iv).toNat)
  case atStart => exact ⟨0, Nat.zero_le _, rfl, by rw [laidTo_zero]; exact HX⟩
  case round =>
    obtain ⟨i, hi, rfl, HR⟩ := hrel
    have c4 : wr.cell? ⟨H, 4, none⟩ = some (.int .i64 (m : Int)) := blk_at HR.out.1 4
    by_cases hlt : i < m
    · have c0 : wr.cell? ⟨H, 0, none⟩ = some (.int .i64 3) := blk_at HR.out.1 0
      have c3 : wr.cell? ⟨H, 3, none⟩ = some (.int .i64 (off : Int)) := blk_at HR.out.1 3
      have n9 : decide ((i : Int) < (m : Int)) = true := by simp; omega
      have ii0 : (0 : Int) ≤ (i : Int) := by omega
      have ii9 : (i : Int) < (m : Int) := by omega
      have oo0 : (0 : Int) ≤ (off : Int) + (i : Int) := by omega
      have oo9 : (off : Int) + (i : Int) < (n : Int) := by omega
      have oo8 : ((off : Int) + (i : Int)).toNat = off + i := by omega
      have oo7 : IntKind.i64.wrap ((off : Int) + (i : Int)) = (off : Int) + (i : Int) := by rw [IntKind.wrap_i64]; omega
      obtain ⟨g, e0, hg, hc, hf⟩ := own_some HR.out.2.2 (by omega)
      subst e0
      have hll : off + i < ((laidTo bs ds off i).map bv).length := by rw [List.length_map, laidTo_len (by rw [HD.out.2.2.1]; omega) (by rw [HDs.out.2.1]; omega), HD.out.2.2.1]; omega
      have cg := hc (off + i) (by omega)
      rw [List.getElem?_eq_getElem hll] at cg
      have fg := hf (off + i)
      have HN : Hid ((wr.setCell ⟨g, off + i, none⟩ (.int .u8 0)).heap[H]? = some (.cells #[.int .i64 3, .int .i64 fr, .int .i64 t, .int .i64 (off : Int), .int .i64 (m : Int), .slice da k dc, .bool sy] 50 (0, 0)) ∧ Below H w (wr.setCell ⟨g, off + i, none⟩ (.int .u8 0)) ∧ (wr.setCell ⟨g, off + i, none⟩ (.int .u8 0)).ownsRow (H + 1) 5 1 (.slice (some ⟨g, 0, none⟩) n cc) n ((laidTo bs ds off (i + 1)).map bv)) := by
        refine ⟨(Below.heap_setCell _ _ _ _ (by simp; omega)).trans HR.out.1, HR.out.2.1.setCell (by simp; omega) _, ?_⟩
        have h5 := own_set HR.out.2.2 (bv 0) (show off + i < n by omega)
        rw [← List.map_set, laidTo_set (by rw [HD.out.2.2.1]; omega) (HDs.out.1 i hlt)] at h5
        exact h5
      generalize ((laidTo bs ds off i).map bv)[off + i] = old at cg
      clear hc hf hll hg
      go_wp2
      go_roundw
      case rel => exact ⟨i + 1, by omega, by go_num, HN⟩
      case measure => simp [intOf]; omega
    · have n9 : decide ((i : Int) < (m : Int)) = false := by simp; omega
      obtain rfl : i = m := by omega
      have ho := HR.out.2.2
      have hl : (laidTo bs ds off i).length = n := by rw [laidTo_len (by rw [HD.out.2.2.1]; omega) (by rw [HDs.out.2.1]; omega), HD.out.2.2.1]
      have HF : Hid (BRow wr co cc (laidTo bs ds off i) ∧ wr.ownsRow H 5 1 (.slice co n cc) n ((laidTo bs ds off i).map bv) ∧ Below H w wr) := by
        have hlt := laidTo_lt (off := off) (i := i) HD.out.1 HDs.out.2.2
        have h6 : wr.ownsRow (H + 1) 5 1 (.slice co n cc) (laidTo bs ds off i).length ((laidTo bs ds off i).map bv) := by rw [hl]; exact ho
        obtain ⟨a3, c3, e3, h3⟩ := BRow.own h6 hlt (by omega)
        cases e3
        exact ⟨h3, owns_mono ho (by omega), HR.out.2.1⟩
      clear ho
      go_wp2
      go_ret2
      exact ⟨co, cc, rfl, HF.out⟩
end Go.Proofs.Ytjkoambfecmglaa
