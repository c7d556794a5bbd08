import Derived.Test.YtjhickfjagalfaaDoorJFu
namespace Go.Proofs.YtjhickfjagalfaaDoor
open Go.ChangeShapes Go.WideShapes Go.ChangeAt Go.RowKit Go.Lib
open Go.Deep
set_option linter.unusedVariables false
set_option linter.unusedSimpArgs false
set_option maxRecDepth 100000

theorem open_opt {H : Type} {enc : TypeId × Value → H} {w : World} {base : Nat} {fuel : Nat} {cs : List Value} {d : DataW H} {p : List MemPlace} (h : DataW.trod enc Tryd.prog w base (fun _ => true) true fuel 55 cs = some (d, p)) (hb : Rows.uptoBulk d ≤ 1048576) : ∃ (x0 : Nat) (x1 : Nat) (x2 : Bool) (ao : Option Addr) (cap : Nat) (l : List Nat), cs = [.int .u32 (x0 : Int), .int .u32 (x1 : Int), .bool x2, .slice ao l.length cap] ∧ x0 < 4294967296 ∧ x1 < 4294967296 ∧ BRow w ao cap l ∧ l.length ≤ 1048576 := by
  obtain ⟨xs, n, rfl, hx, hl, hxl, hall⟩ := DataW.trod_struct Tryd.underlying55 h
  have hl' : cs.length = 4 := hl.trans (by kernel_rfl)
  have h0 := hall 0 _ rfl
  obtain ⟨y0, hy0⟩ : ∃ y, xs[0]? = some y := ⟨_, List.getElem?_eq_getElem (by rw [hxl]; decide)⟩
  have c0 : Tryd.prog.cellsOf 22 = 1 := by kernel_rfl
  simp only [c0, hy0] at h0
  obtain ⟨a0, e0, _, w0⟩ := DataW.trod_int Tryd.underlying22 h0
  obtain ⟨n0, rfl⟩ := Int.eq_ofNat_of_zero_le (bounds_u32 w0).1
  have b0 := (bounds_u32 w0).2
  have z0 := take1 e0
  have h1 := hall 1 _ rfl
  obtain ⟨y1, hy1⟩ : ∃ y, xs[1]? = some y := ⟨_, List.getElem?_eq_getElem (by rw [hxl]; decide)⟩
  have c1 : Tryd.prog.cellsOf 22 = 1 := by kernel_rfl
  simp only [c1, hy1] at h1
  obtain ⟨a1, e1, _, w1⟩ := DataW.trod_int Tryd.underlying22 h1
  obtain ⟨n1, rfl⟩ := Int.eq_ofNat_of_zero_le (bounds_u32 w1).1
  have b1 := (bounds_u32 w1).2
  have z1 := take1 e1
  have h2 := hall 2 _ rfl
  obtain ⟨y2, hy2⟩ : ∃ y, xs[2]? = some y := ⟨_, List.getElem?_eq_getElem (by rw [hxl]; decide)⟩
  have c2 : Tryd.prog.cellsOf 4 = 1 := by kernel_rfl
  simp only [c2, hy2] at h2
  obtain ⟨n2, e2, _⟩ := DataW.trod_bool Tryd.underlying4 h2
  have z2 := take1 e2
  have h3 := hall 3 _ rfl
  obtain ⟨⟨y3, yp⟩, hy3⟩ : ∃ y, xs[3]? = some y := ⟨_, List.getElem?_eq_getElem (by rw [hxl]; decide)⟩
  have c3 : Tryd.prog.cellsOf 37 = 1 := by kernel_rfl
  simp only [c3, hy3] at h3
  have hbk : Rows.uptoBulk y3 ≤ 1048576 := by
    have hd : d = .agg (xs.map (·.1)) := (Prod.mk.inj hx).1
    have hm : y3 ∈ xs.map (·.1) := List.mem_map.2 ⟨_, List.mem_of_getElem? hy3, rfl⟩
    have h1 := bulk_le_all hm
    rw [hd] at hb
    simp only [Rows.uptoBulk] at hb
    omega
  obtain ⟨ao, cap, l, e3, hbr, hll⟩ := open_bytes h3 hbk
  have z3 := take1 e3
  refine ⟨n0, n1, n2, ao, cap, l, ?_, by omega, by omega, hbr, by omega⟩
  apply List.ext_getElem?
  intro i
  match i with
  | 0 => exact z0
  | 1 => exact z1
  | 2 => exact z2
  | 3 => exact z3
  | i + 4 => rw [List.getElem?_eq_none (by omega)]; rfl
theorem open_rep {H : Type} {enc : TypeId × Value → H} {w : World} {base : Nat} {fuel : Nat} {cs : List Value} {d : DataW H} {p : List MemPlace} (h : DataW.trod enc Tryd.prog w base (fun _ => true) true fuel 57 cs = some (d, p)) (hb : Rows.uptoBulk d ≤ 1048576) : ∃ (x0 : Nat) (x1 : Nat) (ao : Option Addr) (cap : Nat) (l : List Nat), cs = [.int .u32 (x0 : Int), .int .u32 (x1 : Int), .slice ao l.length cap] ∧ x0 < 4294967296 ∧ x1 < 4294967296 ∧ BRow w ao cap l ∧ l.length ≤ 1048576 := by
  obtain ⟨xs, n, rfl, hx, hl, hxl, hall⟩ := DataW.trod_struct Tryd.underlying57 h
  have hl' : cs.length = 3 := hl.trans (by kernel_rfl)
  have h0 := hall 0 _ rfl
  obtain ⟨y0, hy0⟩ : ∃ y, xs[0]? = some y := ⟨_, List.getElem?_eq_getElem (by rw [hxl]; decide)⟩
  have c0 : Tryd.prog.cellsOf 22 = 1 := by kernel_rfl
  simp only [c0, hy0] at h0
  obtain ⟨a0, e0, _, w0⟩ := DataW.trod_int Tryd.underlying22 h0
  obtain ⟨n0, rfl⟩ := Int.eq_ofNat_of_zero_le (bounds_u32 w0).1
  have b0 := (bounds_u32 w0).2
  have z0 := take1 e0
  have h1 := hall 1 _ rfl
  obtain ⟨y1, hy1⟩ : ∃ y, xs[1]? = some y := ⟨_, List.getElem?_eq_getElem (by rw [hxl]; decide)⟩
  have c1 : Tryd.prog.cellsOf 22 = 1 := by kernel_rfl
  simp only [c1, hy1] at h1
  obtain ⟨a1, e1, _, w1⟩ := DataW.trod_int Tryd.underlying22 h1
  obtain ⟨n1, rfl⟩ := Int.eq_ofNat_of_zero_le (bounds_u32 w1).1
  have b1 := (bounds_u32 w1).2
  have z1 := take1 e1
  have h2 := hall 2 _ rfl
  obtain ⟨⟨y2, yp⟩, hy2⟩ : ∃ y, xs[2]? = some y := ⟨_, List.getElem?_eq_getElem (by rw [hxl]; decide)⟩
  have c2 : Tryd.prog.cellsOf 37 = 1 := by kernel_rfl
  simp only [c2, hy2] at h2
  have hbk : Rows.uptoBulk y2 ≤ 1048576 := by
    have hd : d = .agg (xs.map (·.1)) := (Prod.mk.inj hx).1
    have hm : y2 ∈ xs.map (·.1) := List.mem_map.2 ⟨_, List.mem_of_getElem? hy2, rfl⟩
    have h1 := bulk_le_all hm
    rw [hd] at hb
    simp only [Rows.uptoBulk] at hb
    omega
  obtain ⟨ao, cap, l, e2, hbr, hll⟩ := open_bytes h2 hbk
  have z2 := take1 e2
  refine ⟨n0, n1, ao, cap, l, ?_, by omega, by omega, hbr, by omega⟩
  apply List.ext_getElem?
  intro i
  match i with
  | 0 => exact z0
  | 1 => exact z1
  | 2 => exact z2
  | i + 3 => rw [List.getElem?_eq_none (by omega)]; rfl
theorem open_req {H : Type} {enc : TypeId × Value → H} {w : World} {base : Nat} {fuel : Nat} {cs : List Value} {d : DataW H} {p : List MemPlace} (h : DataW.trod enc Tryd.prog w base (fun _ => true) true fuel 59 cs = some (d, p)) (hb : Rows.uptoBulk d ≤ 1048576) : ∃ (x0 : Nat) (x1 : Nat) (x2 : Nat) (x3 : Nat) (x4 : Nat) (ao : Option Addr) (cap : Nat) (l : List Nat), cs = [.int .u16 (x0 : Int), .int .u16 (x1 : Int), .int .u64 (x2 : Int), .int .u64 (x3 : Int), .int .u64 (x4 : Int), .slice ao l.length cap] ∧ x0 < 65536 ∧ x1 < 65536 ∧ x2 < 18446744073709551616 ∧ x3 < 18446744073709551616 ∧ x4 < 18446744073709551616 ∧ BRow w ao cap l ∧ l.length ≤ 1048576 := by
  obtain ⟨xs, n, rfl, hx, hl, hxl, hall⟩ := DataW.trod_struct Tryd.underlying59 h
  have hl' : cs.length = 6 := hl.trans (by kernel_rfl)
  have h0 := hall 0 _ rfl
  obtain ⟨y0, hy0⟩ : ∃ y, xs[0]? = some y := ⟨_, List.getElem?_eq_getElem (by rw [hxl]; decide)⟩
  have c0 : Tryd.prog.cellsOf 29 = 1 := by kernel_rfl
  simp only [c0, hy0] at h0
  obtain ⟨a0, e0, _, w0⟩ := DataW.trod_int Tryd.underlying29 h0
  obtain ⟨n0, rfl⟩ := Int.eq_ofNat_of_zero_le (bounds_u16 w0).1
  have b0 := (bounds_u16 w0).2
  have z0 := take1 e0
  have h1 := hall 1 _ rfl
  obtain ⟨y1, hy1⟩ : ∃ y, xs[1]? = some y := ⟨_, List.getElem?_eq_getElem (by rw [hxl]; decide)⟩
  have c1 : Tryd.prog.cellsOf 29 = 1 := by kernel_rfl
  simp only [c1, hy1] at h1
  obtain ⟨a1, e1, _, w1⟩ := DataW.trod_int Tryd.underlying29 h1
  obtain ⟨n1, rfl⟩ := Int.eq_ofNat_of_zero_le (bounds_u16 w1).1
  have b1 := (bounds_u16 w1).2
  have z1 := take1 e1
  have h2 := hall 2 _ rfl
  obtain ⟨y2, hy2⟩ : ∃ y, xs[2]? = some y := ⟨_, List.getElem?_eq_getElem (by rw [hxl]; decide)⟩
  have c2 : Tryd.prog.cellsOf 32 = 1 := by kernel_rfl
  simp only [c2, hy2] at h2
  obtain ⟨a2, e2, _, w2⟩ := DataW.trod_int Tryd.underlying32 h2
  obtain ⟨n2, rfl⟩ := Int.eq_ofNat_of_zero_le (bounds_u64 w2).1
  have b2 := (bounds_u64 w2).2
  have z2 := take1 e2
  have h3 := hall 3 _ rfl
  obtain ⟨y3, hy3⟩ : ∃ y, xs[3]? = some y := ⟨_, List.getElem?_eq_getElem (by rw [hxl]; decide)⟩
  have c3 : Tryd.prog.cellsOf 32 = 1 := by kernel_rfl
  simp only [c3, hy3] at h3
  obtain ⟨a3, e3, _, w3⟩ := DataW.trod_int Tryd.underlying32 h3
  obtain ⟨n3, rfl⟩ := Int.eq_ofNat_of_zero_le (bounds_u64 w3).1
  have b3 := (bounds_u64 w3).2
  have z3 := take1 e3
  have h4 := hall 4 _ rfl
  obtain ⟨y4, hy4⟩ : ∃ y, xs[4]? = some y := ⟨_, List.getElem?_eq_getElem (by rw [hxl]; decide)⟩
  have c4 : Tryd.prog.cellsOf 32 = 1 := by kernel_rfl
  simp only [c4, hy4] at h4
  obtain ⟨a4, e4, _, w4⟩ := DataW.trod_int Tryd.underlying32 h4
  obtain ⟨n4, rfl⟩ := Int.eq_ofNat_of_zero_le (bounds_u64 w4).1
  have b4 := (bounds_u64 w4).2
  have z4 := take1 e4
  have h5 := hall 5 _ rfl
  obtain ⟨⟨y5, yp⟩, hy5⟩ : ∃ y, xs[5]? = some y := ⟨_, List.getElem?_eq_getElem (by rw [hxl]; decide)⟩
  have c5 : Tryd.prog.cellsOf 37 = 1 := by kernel_rfl
  simp only [c5, hy5] at h5
  have hbk : Rows.uptoBulk y5 ≤ 1048576 := by
    have hd : d = .agg (xs.map (·.1)) := (Prod.mk.inj hx).1
    have hm : y5 ∈ xs.map (·.1) := List.mem_map.2 ⟨_, List.mem_of_getElem? hy5, rfl⟩
    have h1 := bulk_le_all hm
    rw [hd] at hb
    simp only [Rows.uptoBulk] at hb
    omega
  obtain ⟨ao, cap, l, e5, hbr, hll⟩ := open_bytes h5 hbk
  have z5 := take1 e5
  refine ⟨n0, n1, n2, n3, n4, ao, cap, l, ?_, by omega, by omega, by omega, by omega, by omega, hbr, by omega⟩
  apply List.ext_getElem?
  intro i
  match i with
  | 0 => exact z0
  | 1 => exact z1
  | 2 => exact z2
  | 3 => exact z3
  | 4 => exact z4
  | 5 => exact z5
  | i + 6 => rw [List.getElem?_eq_none (by omega)]; rfl
theorem open_chk {H : Type} {enc : TypeId × Value → H} {w : World} {base : Nat} {fuel : Nat} {cs : List Value} {d : DataW H} {p : List MemPlace} (h : DataW.trod enc Tryd.prog w base (fun _ => true) true fuel 61 cs = some (d, p)) (hb : Rows.uptoBulk d ≤ 1048576) : ∃ (x0 : Nat) (x1 : Nat) (x2 : Nat) (x3 : Nat) (ao : Option Addr) (cap : Nat) (l : List Nat), cs = [.int .u16 (x0 : Int), .int .u16 (x1 : Int), .int .u64 (x2 : Int), .int .u64 (x3 : Int), .slice ao l.length cap] ∧ x0 < 65536 ∧ x1 < 65536 ∧ x2 < 18446744073709551616 ∧ x3 < 18446744073709551616 ∧ BRow w ao cap l ∧ l.length ≤ 1048576 := by
  obtain ⟨xs, n, rfl, hx, hl, hxl, hall⟩ := DataW.trod_struct Tryd.underlying61 h
  have hl' : cs.length = 5 := hl.trans (by kernel_rfl)
  have h0 := hall 0 _ rfl
  obtain ⟨y0, hy0⟩ : ∃ y, xs[0]? = some y := ⟨_, List.getElem?_eq_getElem (by rw [hxl]; decide)⟩
  have c0 : Tryd.prog.cellsOf 29 = 1 := by kernel_rfl
  simp only [c0, hy0] at h0
  obtain ⟨a0, e0, _, w0⟩ := DataW.trod_int Tryd.underlying29 h0
  obtain ⟨n0, rfl⟩ := Int.eq_ofNat_of_zero_le (bounds_u16 w0).1
  have b0 := (bounds_u16 w0).2
  have z0 := take1 e0
  have h1 := hall 1 _ rfl
  obtain ⟨y1, hy1⟩ : ∃ y, xs[1]? = some y := ⟨_, List.getElem?_eq_getElem (by rw [hxl]; decide)⟩
  have c1 : Tryd.prog.cellsOf 29 = 1 := by kernel_rfl
  simp only [c1, hy1] at h1
  obtain ⟨a1, e1, _, w1⟩ := DataW.trod_int Tryd.underlying29 h1
  obtain ⟨n1, rfl⟩ := Int.eq_ofNat_of_zero_le (bounds_u16 w1).1
  have b1 := (bounds_u16 w1).2
  have z1 := take1 e1
  have h2 := hall 2 _ rfl
  obtain ⟨y2, hy2⟩ : ∃ y, xs[2]? = some y := ⟨_, List.getElem?_eq_getElem (by rw [hxl]; decide)⟩
  have c2 : Tryd.prog.cellsOf 32 = 1 := by kernel_rfl
  simp only [c2, hy2] at h2
  obtain ⟨a2, e2, _, w2⟩ := DataW.trod_int Tryd.underlying32 h2
  obtain ⟨n2, rfl⟩ := Int.eq_ofNat_of_zero_le (bounds_u64 w2).1
  have b2 := (bounds_u64 w2).2
  have z2 := take1 e2
  have h3 := hall 3 _ rfl
  obtain ⟨y3, hy3⟩ : ∃ y, xs[3]? = some y := ⟨_, List.getElem?_eq_getElem (by rw [hxl]; decide)⟩
  have c3 : Tryd.prog.cellsOf 32 = 1 := by kernel_rfl
  simp only [c3, hy3] at h3
  obtain ⟨a3, e3, _, w3⟩ := DataW.trod_int Tryd.underlying32 h3
  obtain ⟨n3, rfl⟩ := Int.eq_ofNat_of_zero_le (bounds_u64 w3).1
  have b3 := (bounds_u64 w3).2
  have z3 := take1 e3
  have h4 := hall 4 _ rfl
  obtain ⟨⟨y4, yp⟩, hy4⟩ : ∃ y, xs[4]? = some y := ⟨_, List.getElem?_eq_getElem (by rw [hxl]; decide)⟩
  have c4 : Tryd.prog.cellsOf 37 = 1 := by kernel_rfl
  simp only [c4, hy4] at h4
  have hbk : Rows.uptoBulk y4 ≤ 1048576 := by
    have hd : d = .agg (xs.map (·.1)) := (Prod.mk.inj hx).1
    have hm : y4 ∈ xs.map (·.1) := List.mem_map.2 ⟨_, List.mem_of_getElem? hy4, rfl⟩
    have h1 := bulk_le_all hm
    rw [hd] at hb
    simp only [Rows.uptoBulk] at hb
    omega
  obtain ⟨ao, cap, l, e4, hbr, hll⟩ := open_bytes h4 hbk
  have z4 := take1 e4
  refine ⟨n0, n1, n2, n3, ao, cap, l, ?_, by omega, by omega, by omega, by omega, hbr, by omega⟩
  apply List.ext_getElem?
  intro i
  match i with
  | 0 => exact z0
  | 1 => exact z1
  | 2 => exact z2
  | 3 => exact z3
  | 4 => exact z4
  | i + 5 => rw [List.getElem?_eq_none (by omega)]; rfl
end Go.Proofs.YtjhickfjagalfaaDoor
