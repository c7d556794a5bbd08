import Derived.Test.YtjkoambfecmglaaVLz
import Derived.Deep.RegionHeld3
namespace Go.Proofs.Ytjkoambfecmglaa
open Go.RowKit
set_option linter.unusedVariables false
set_option linter.unusedSimpArgs false
set_option maxRecDepth 100000
set_option maxHeartbeats 4000000 in
/-- the document plays a write -/
theorem rPlay_write (bo da : Option Addr) (cap dc n m off : Nat) (bs ds : List Nat) (fr t : Int) (sy : Bool) (w : World) (hb : BRow w bo cap bs) (hn : bs.length = n) (hd : BRow w da dc ds) (hm : ds.length = m) (hin : off + m ≤ n) (hs : n ≤ 4096) :
    Calls Try.prog 30 #[.slice bo n cap, .agg #[.int .i64 2, .int .i64 fr, .int .i64 t, .int .i64 (off : Int), .int .i64 (m : Int), .slice da m dc, .bool sy]] w fun e w' => ∃ co cc, e = .returned (.tuple #[.slice co n cc, .bool true]) ∧ BRow w' co cc (laidTo bs ds off m) ∧ w'.ownsRow w.heap.size 5 1 (.slice co n cc) n ((laidTo bs ds off m).map bv) ∧ Below w.heap.size w w' := by
  have HDs : Hid (BRow w da dc ds ∧ ds.length = m ∧ ∀ x ∈ ds, x < 256) := ⟨hd, hm, hd.lt⟩
  obtain ⟨H, hH⟩ : ∃ H, w.heap.size = H := ⟨_, rfl⟩
  obtain ⟨W0, hW0⟩ : ∃ W0, W0 = w.alloc (.cells #[.int .i64 2, .int .i64 fr, .int .i64 t, .int .i64 (off : Int), .int .i64 (m : Int), .slice da m dc, .bool sy] 50) := ⟨_, rfl⟩
  have b0 : Below H w W0 := by rw [hW0, ← hH]; exact (Below.refl _ w).alloc (Nat.le_refl _) _
  have hx0 : W0.heap[H]? = some (.cells #[.int .i64 2, .int .i64 fr, .int .i64 t, .int .i64 (off : Int), .int .i64 (m : Int), .slice da m dc, .bool sy] 50 (0, 0)) := by rw [hW0, ← hH]; exact heap_new _ _
  have hz0 : W0.heap.size = H + 1 := by rw [hW0, World.size_alloc, hH]
  have HC : Hid _ := copy_any bo cap n bs W0 (hb.later (by rw [hH]; exact b0)) hn
  have HD : Hid ((∀ x ∈ bs, x < 256) ∧ bs.length ≤ 140737488351232 ∧ bs.length = n ∧ w.heap.size = H) := ⟨hb.lt, hb.len, hn, hH⟩
  have HB0 : Hid (Below H w W0 ∧ W0.heap[H]? = some (.cells #[.int .i64 2, .int .i64 fr, .int .i64 t, .int .i64 (off : Int), .int .i64 (m : Int), .slice da m dc, .bool sy] 50 (0, 0)) ∧ W0.heap.size = H + 1) := ⟨b0, hx0, hz0⟩
  rw [hH]
  rw [hW0] at HC
  clear hb hn hd hm b0 hx0 hz0
  go_enter Try.func30, Try.ntmps30
  go_wp2_with fail
  refine Calls.mono HC.out ?_
  rintro e W1 ⟨co, cc, rfl, hr, ho, hb1⟩
  rw [← hW0] at ho hb1
  have HX : Hid (W1.heap[H]? = some (.cells #[.int .i64 2, .int .i64 fr, .int .i64 t, .int .i64 (off : Int), .int .i64 (m : Int), .slice da m dc, .bool sy] 50 (0, 0)) ∧ Below H w W1 ∧ W1.ownsRow (H + 1) 5 1 (.slice co n cc) n (bs.map bv)) := ⟨(hb1.block H (by rw [HB0.out.2.2]; omega)).trans HB0.out.2.1, HB0.out.1.trans (hb1.mono (by rw [HB0.out.2.2]; omega)), by rw [← HB0.out.2.2]; exact ho⟩
  clear hr ho hb1 HC HB0 hW0
  go_wp2
  go_loopw [7] (fun iv wr => ∃ i : Nat, i ≤ m ∧ iv = .int .i64 (i : Int) ∧ Hid (wr.heap[H]? = some (.cells #[.int .i64 2, .int .i64 fr, .int .i64 t, .int .i64 (off : Int), .int .i64 (m : Int), .slice da m dc, .bool sy] 50 (0, 0)) ∧ Below H w wr ∧ wr.ownsRow (H + 1) 5 1 (.slice co n cc) n ((laidTo bs ds off i).map bv))) (fun iv _ => m - (intOf iv).toNat)
  case atStart => exact ⟨0, Nat.zero_le _, rfl, by rw [laidTo_zero]; exact HX⟩
  case round =>
    obtain ⟨i, hi, rfl, HR⟩ := hrel
    have c4 : wr.cell? ⟨H, 4, none⟩ = some (.int .i64 (m : Int)) := blk_at HR.out.1 4
    by_cases hlt : i < m
    · have c0 : wr.cell? ⟨H, 0, none⟩ = some (.int .i64 2) := blk_at HR.out.1 0
      have c3 : wr.cell? ⟨H, 3, none⟩ = some (.int .i64 (off : Int)) := blk_at HR.out.1 3
      have n9 : decide ((i : Int) < (m : Int)) = true := by simp; omega
      have ii0 : (0 : Int) ≤ (i : Int) := by omega
      have ii9 : (i : Int) < (m : Int) := by omega
      have oo0 : (0 : Int) ≤ (off : Int) + (i : Int) := by omega
      have oo9 : (off : Int) + (i : Int) < (n : Int) := by omega
      have oo8 : ((off : Int) + (i : Int)).toNat = off + i := by omega
      have oo7 : IntKind.i64.wrap ((off : Int) + (i : Int)) = (off : Int) + (i : Int) := by rw [IntKind.wrap_i64]; omega
      obtain ⟨g, e0, hg, hc, hf⟩ := own_some HR.out.2.2 (by omega)
      subst e0
      have hll : off + i < ((laidTo bs ds off i).map bv).length := by rw [List.length_map, laidTo_len (by rw [HD.out.2.2.1]; omega) (by rw [HDs.out.2.1]; omega), HD.out.2.2.1]; omega
      have cg := hc (off + i) (by omega)
      rw [List.getElem?_eq_getElem hll] at cg
      have fg := hf (off + i)
      have hdl : i < ds.length := by rw [HDs.out.2.1]; exact hlt
      obtain ⟨y, hyy⟩ : ∃ y, ds[i] = y := ⟨_, rfl⟩
      have HY : ds[i]? = some y := by rw [List.getElem?_eq_getElem hdl, hyy]
      have HN : Hid ((wr.setCell ⟨g, off + i, none⟩ (.int .u8 (y : Int))).heap[H]? = some (.cells #[.int .i64 2, .int .i64 fr, .int .i64 t, .int .i64 (off : Int), .int .i64 (m : Int), .slice da m dc, .bool sy] 50 (0, 0)) ∧ Below H w (wr.setCell ⟨g, off + i, none⟩ (.int .u8 (y : Int))) ∧ (wr.setCell ⟨g, off + i, none⟩ (.int .u8 (y : Int))).ownsRow (H + 1) 5 1 (.slice (some ⟨g, 0, none⟩) n cc) n ((laidTo bs ds off (i + 1)).map bv)) := by
        refine ⟨(Below.heap_setCell _ _ _ _ (by simp; omega)).trans HR.out.1, HR.out.2.1.setCell (by simp; omega) _, ?_⟩
        have h5 := own_set HR.out.2.2 (bv y) (show off + i < n by omega)
        rw [← List.map_set, laidTo_set (by rw [HD.out.2.2.1]; omega) HY] at h5
        exact h5
      generalize ((laidTo bs ds off i).map bv)[off + i] = old at cg
      have c5 : wr.cell? ⟨H, 5, none⟩ = some (.slice da m dc) := blk_at HR.out.1 5
      obtain ⟨gd, d0, e1, hdc⟩ := (HDs.out.1.later (by rw [HD.out.2.2.2]; exact HR.out.2.1)).at_ (by rintro rfl; simp at hdl)
      subst e1
      have cd : wr.cell? ⟨gd, d0 + i, none⟩ = some (.int .u8 (y : Int)) := by rw [← hyy]; exact hdc i hdl
      have HS : Hid ((wr.setCell ⟨g, off + i, none⟩ (.int .u8 (y : Int))).drew.cell? ⟨H, 3, none⟩ = some (.int .i64 (off : Int)) ∧ (wr.setCell ⟨g, off + i, none⟩ (.int .u8 (y : Int))).drew.cell? ⟨H, 5, none⟩ = some (.slice (some ⟨gd, d0, none⟩) m dc) ∧ (wr.setCell ⟨g, off + i, none⟩ (.int .u8 (y : Int))).drew.cell? ⟨gd, d0 + i, none⟩ = some (.int .u8 (y : Int))) := by
        refine ⟨blk_at HN.out.1 3, blk_at HN.out.1 5, ?_⟩
        obtain ⟨g2, d2, e2, h2⟩ := (HDs.out.1.later (by rw [HD.out.2.2.2]; exact HN.out.2.1)).at_ (by rintro rfl; simp at hdl)
        simp only [Option.some.injEq, Addr.mk.injEq, and_true] at e2
        obtain ⟨rfl, rfl⟩ := e2
        have h3 := h2 i hdl
        rw [hyy] at h3
        exact h3
      have HN2 : Hid ((wr.setCell ⟨g, off + i, none⟩ (.int .u8 (y : Int))).drew.heap[H]? = some (.cells #[.int .i64 2, .int .i64 fr, .int .i64 t, .int .i64 (off : Int), .int .i64 (m : Int), .slice (some ⟨gd, d0, none⟩) m dc, .bool sy] 50 (0, 0)) ∧ Below H w (wr.setCell ⟨g, off + i, none⟩ (.int .u8 (y : Int))).drew ∧ (wr.setCell ⟨g, off + i, none⟩ (.int .u8 (y : Int))).drew.ownsRow (H + 1) 5 1 (.slice (some ⟨g, 0, none⟩) n cc) n ((laidTo bs ds off (i + 1)).map bv)) :=
        ⟨HN.out.1, HN.out.2.1.trans ⟨rfl, rfl, rfl, Nat.le_refl _, fun _ _ => rfl⟩, owns_same HN.out.2.2 (fun _ _ => rfl)⟩
      clear hc hf hll hg hdc hyy hdl
      go_wp2
      go_region_held3 (fun w' => w'.cell? ⟨H, 3, none⟩ = some (.int .i64 (off : Int)) ∧ w'.cell? ⟨H, 5, none⟩ = some (.slice (some ⟨gd, d0, none⟩) m dc) ∧ w'.cell? ⟨gd, d0 + i, none⟩ = some (.int .u8 (y : Int))) (first | exact HS.out | go_keep) (first | fail)
      go_wp2
      go_roundw
      case rel => exact ⟨i + 1, by omega, by go_num, HN2⟩
      case measure => simp [intOf]; omega
    · have n9 : decide ((i : Int) < (m : Int)) = false := by simp; omega
      obtain rfl : i = m := by omega
      have ho := HR.out.2.2
      have hl : (laidTo bs ds off i).length = n := by rw [laidTo_len (by rw [HD.out.2.2.1]; omega) (by rw [HDs.out.2.1]; omega), HD.out.2.2.1]
      have HF : Hid (BRow wr co cc (laidTo bs ds off i) ∧ wr.ownsRow H 5 1 (.slice co n cc) n ((laidTo bs ds off i).map bv) ∧ Below H w wr) := by
        have hlt := laidTo_lt (off := off) (i := i) HD.out.1 HDs.out.2.2
        have h6 : wr.ownsRow (H + 1) 5 1 (.slice co n cc) (laidTo bs ds off i).length ((laidTo bs ds off i).map bv) := by rw [hl]; exact ho
        obtain ⟨a3, c3, e3, h3⟩ := BRow.own h6 hlt (by omega)
        cases e3
        exact ⟨h3, owns_mono ho (by omega), HR.out.2.1⟩
      clear ho
      go_wp2
      go_ret2
      exact ⟨co, cc, rfl, HF.out⟩
end Go.Proofs.Ytjkoambfecmglaa
