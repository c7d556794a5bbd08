import Derived.Test.YtjhickfjagalfaaDoorJFu
import Derived.Test.YtjhickfjagalfaaDoorJWe
namespace Go.Proofs.YtjhickfjagalfaaDoor
open Go.ChangeShapes Go.WideShapes Go.ChangeAt Go.RowKit Go.Lib
open Go.Deep
set_option linter.unusedVariables false
set_option linter.unusedSimpArgs false
set_option maxRecDepth 100000

theorem open_opt {H : Type} {enc : TypeId × Value → H} {w : World} {base : Nat} {fuel : Nat} {cs : List Value} {d : DataW H} {p : List MemPlace} (h : DataW.trod enc Tryd.prog w base (fun _ => true) true fuel 55 cs = some (d, p)) (hb : Rows.uptoBulk d ≤ 1048576) : ∃ (x0 : Nat) (x1 : Nat) (x2 : Bool) (ao : Option Addr) (cap : Nat) (l : List Nat), cs = [.int .u32 (x0 : Int), .int .u32 (x1 : Int), .bool x2, .slice ao l.length cap] ∧ x0 < 4294967296 ∧ x1 < 4294967296 ∧ BRow w ao cap l ∧ l.length ≤ 1048576 := by
  obtain ⟨xs, n, rfl, hx, hl, hxl, hall⟩ := DataW.trod_struct Tryd.underlying55 h
  have hl' : cs.length = 4 := hl.trans (by kernel_rfl)
  have h0 := hall 0 _ rfl
  obtain ⟨y0, hy0⟩ : ∃ y, xs[0]? = some y := ⟨_, List.getElem?_eq_getElem (by rw [hxl]; decide)⟩
  have c0 : Tryd.prog.cellsOf 22 = 1 := by kernel_rfl
  simp only [c0, hy0] at h0
  obtain ⟨a0, e0, _, w0⟩ := DataW.trod_int Tryd.underlying22 h0
  obtain ⟨n0, rfl⟩ := Int.eq_ofNat_of_zero_le (bounds_u32 w0).1
  have b0 := (bounds_u32 w0).2
  have z0 := take1 e0
  have h1 := hall 1 _ rfl
  obtain ⟨y1, hy1⟩ : ∃ y, xs[1]? = some y := ⟨_, List.getElem?_eq_getElem (by rw [hxl]; decide)⟩
  have c1 : Tryd.prog.cellsOf 22 = 1 := by kernel_rfl
  simp only [c1, hy1] at h1
  obtain ⟨a1, e1, _, w1⟩ := DataW.trod_int Tryd.underlying22 h1
  obtain ⟨n1, rfl⟩ := Int.eq_ofNat_of_zero_le (bounds_u32 w1).1
  have b1 := (bounds_u32 w1).2
  have z1 := take1 e1
  have h2 := hall 2 _ rfl
  obtain ⟨y2, hy2⟩ : ∃ y, xs[2]? = some y := ⟨_, List.getElem?_eq_getElem (by rw [hxl]; decide)⟩
  have c2 : Tryd.prog.cellsOf 4 = 1 := by kernel_rfl
  simp only [c2, hy2] at h2
  obtain ⟨n2, e2, _⟩ := DataW.trod_bool Tryd.underlying4 h2
  have z2 := take1 e2
  have h3 := hall 3 _ rfl
  obtain ⟨⟨y3, yp⟩, hy3⟩ : ∃ y, xs[3]? = some y := ⟨_, List.getElem?_eq_getElem (by rw [hxl]; decide)⟩
  have c3 : Tryd.prog.cellsOf 37 = 1 := by kernel_rfl
  simp only [c3, hy3] at h3
  have hbk : Rows.uptoBulk y3 ≤ 1048576 := by
    have hd : d = .agg (xs.map (·.1)) := (Prod.mk.inj hx).1
    have hm : y3 ∈ xs.map (·.1) := List.mem_map.2 ⟨_, List.mem_of_getElem? hy3, rfl⟩
    have h1 := bulk_le_all hm
    rw [hd] at hb
    simp only [Rows.uptoBulk] at hb
    omega
  obtain ⟨ao, cap, l, e3, hbr, hll⟩ := open_bytes h3 hbk
  have z3 := take1 e3
  refine ⟨n0, n1, n2, ao, cap, l, ?_, by omega, by omega, hbr, by omega⟩
  apply List.ext_getElem?
  intro i
  match i with
  | 0 => exact z0
  | 1 => exact z1
  | 2 => exact z2
  | 3 => exact z3
  | i + 4 => rw [List.getElem?_eq_none (by omega)]; rfl
theorem open_rep {H : Type} {enc : TypeId × Value → H} {w : World} {base : Nat} {fuel : Nat} {cs : List Value} {d : DataW H} {p : List MemPlace} (h : DataW.trod enc Tryd.prog w base (fun _ => true) true fuel 57 cs = some (d, p)) (hb : Rows.uptoBulk d ≤ 1048576) : ∃ (x0 : Nat) (x1 : Nat) (ao : Option Addr) (cap : Nat) (l : List Nat), cs = [.int .u32 (x0 : Int), .int .u32 (x1 : Int), .slice ao l.length cap] ∧ x0 < 4294967296 ∧ x1 < 4294967296 ∧ BRow w ao cap l ∧ l.length ≤ 1048576 := by
  obtain ⟨xs, n, rfl, hx, hl, hxl, hall⟩ := DataW.trod_struct Tryd.underlying57 h
  have hl' : cs.length = 3 := hl.trans (by kernel_rfl)
  have h0 := hall 0 _ rfl
  obtain ⟨y0, hy0⟩ : ∃ y, xs[0]? = some y := ⟨_, List.getElem?_eq_getElem (by rw [hxl]; decide)⟩
  have c0 : Tryd.prog.cellsOf 22 = 1 := by kernel_rfl
  simp only [c0, hy0] at h0
  obtain ⟨a0, e0, _, w0⟩ := DataW.trod_int Tryd.underlying22 h0
  obtain ⟨n0, rfl⟩ := Int.eq_ofNat_of_zero_le (bounds_u32 w0).1
  have b0 := (bounds_u32 w0).2
  have z0 := take1 e0
  have h1 := hall 1 _ rfl
  obtain ⟨y1, hy1⟩ : ∃ y, xs[1]? = some y := ⟨_, List.getElem?_eq_getElem (by rw [hxl]; decide)⟩
  have c1 : Tryd.prog.cellsOf 22 = 1 := by kernel_rfl
  simp only [c1, hy1] at h1
  obtain ⟨a1, e1, _, w1⟩ := DataW.trod_int Tryd.underlying22 h1
  obtain ⟨n1, rfl⟩ := Int.eq_ofNat_of_zero_le (bounds_u32 w1).1
  have b1 := (bounds_u32 w1).2
  have z1 := take1 e1
  have h2 := hall 2 _ rfl
  obtain ⟨⟨y2, yp⟩, hy2⟩ : ∃ y, xs[2]? = some y := ⟨_, List.getElem?_eq_getElem (by rw [hxl]; decide)⟩
  have c2 : Tryd.prog.cellsOf 37 = 1 := by kernel_rfl
  simp only [c2, hy2] at h2
  have hbk : Rows.uptoBulk y2 ≤ 1048576 := by
    have hd : d = .agg (xs.map (·.1)) := (Prod.mk.inj hx).1
    have hm : y2 ∈ xs.map (·.1) := List.mem_map.2 ⟨_, List.mem_of_getElem? hy2, rfl⟩
    have h1 := bulk_le_all hm
    rw [hd] at hb
    simp only [Rows.uptoBulk] at hb
    omega
  obtain ⟨ao, cap, l, e2, hbr, hll⟩ := open_bytes h2 hbk
  have z2 := take1 e2
  refine ⟨n0, n1, ao, cap, l, ?_, by omega, by omega, hbr, by omega⟩
  apply List.ext_getElem?
  intro i
  match i with
  | 0 => exact z0
  | 1 => exact z1
  | 2 => exact z2
  | i + 3 => rw [List.getElem?_eq_none (by omega)]; rfl
theorem open_req {H : Type} {enc : TypeId × Value → H} {w : World} {base : Nat} {fuel : Nat} {cs : List Value} {d : DataW H} {p : List MemPlace} (h : DataW.trod enc Tryd.prog w base (fun _ => true) true fuel 59 cs = some (d, p)) (hb : Rows.uptoBulk d ≤ 1048576) : ∃ (x0 : Nat) (x1 : Nat) (x2 : Nat) (x3 : Nat) (x4 : Nat) (ao : Option Addr) (cap : Nat) (l : List Nat), cs = [.int .u16 (x0 : Int), .int .u16 (x1 : Int), .int .u64 (x2 : Int), .int .u64 (x3 : Int), .int .u64 (x4 : Int), .slice ao l.length cap] ∧ x0 < 65536 ∧ x1 < 65536 ∧ x2 < 18446744073709551616 ∧ x3 < 18446744073709551616 ∧ x4 < 18446744073709551616 ∧ BRow w ao cap l ∧ l.length ≤ 1048576 := by
  obtain ⟨xs, n, rfl, hx, hl, hxl, hall⟩ := DataW.trod_struct Tryd.underlying59 h
  have hl' : cs.length = 6 := hl.trans (by kernel_rfl)
  have h0 := hall 0 _ rfl
  obtain ⟨y0, hy0⟩ : ∃ y, xs[0]? = some y := ⟨_, List.getElem?_eq_getElem (by rw [hxl]; decide)⟩
  have c0 : Tryd.prog.cellsOf 29 = 1 := by kernel_rfl
  simp only [c0, hy0] at h0
  obtain ⟨a0, e0, _, w0⟩ := DataW.trod_int Tryd.underlying29 h0
  obtain ⟨n0, rfl⟩ := Int.eq_ofNat_of_zero_le (bounds_u16 w0).1
  have b0 := (bounds_u16 w0).2
  have z0 := take1 e0
  have h1 := hall 1 _ rfl
  obtain ⟨y1, hy1⟩ : ∃ y, xs[1]? = some y := ⟨_, List.getElem?_eq_getElem (by rw [hxl]; decide)⟩
  have c1 : Tryd.prog.cellsOf 29 = 1 := by kernel_rfl
  simp only [c1, hy1] at h1
  obtain ⟨a1, e1, _, w1⟩ := DataW.trod_int Tryd.underlying29 h1
  obtain ⟨n1, rfl⟩ := Int.eq_ofNat_of_zero_le (bounds_u16 w1).1
  have b1 := (bounds_u16 w1).2
  have z1 := take1 e1
  have h2 := hall 2 _ rfl
  obtain ⟨y2, hy2⟩ : ∃ y, xs[2]? = some y := ⟨_, List.getElem?_eq_getElem (by rw [hxl]; decide)⟩
  have c2 : Tryd.prog.cellsOf 32 = 1 := by kernel_rfl
  simp only [c2, hy2] at h2
  obtain ⟨a2, e2, _, w2⟩ := DataW.trod_int Tryd.underlying32 h2
  obtain ⟨n2, rfl⟩ := Int.eq_ofNat_of_zero_le (bounds_u64 w2).1
  have b2 := (bounds_u64 w2).2
  have z2 := take1 e2
  have h3 := hall 3 _ rfl
  obtain ⟨y3, hy3⟩ : ∃ y, xs[3]? = some y := ⟨_, List.getElem?_eq_getElem (by rw [hxl]; decide)⟩
  have c3 : Tryd.prog.cellsOf 32 = 1 := by kernel_rfl
  simp only [c3, hy3] at h3
  obtain ⟨a3, e3, _, w3⟩ := DataW.trod_int Tryd.underlying32 h3
  obtain ⟨n3, rfl⟩ := Int.eq_ofNat_of_zero_le (bounds_u64 w3).1
  have b3 := (bounds_u64 w3).2
  have z3 := take1 e3
  have h4 := hall 4 _ rfl
  obtain ⟨y4, hy4⟩ : ∃ y, xs[4]? = some y := ⟨_, List.getElem?_eq_getElem (by rw [hxl]; decide)⟩
  have c4 : Tryd.prog.cellsOf 32 = 1 := by kernel_rfl
  simp only [c4, hy4] at h4
  obtain ⟨a4, e4, _, w4⟩ := DataW.trod_int Tryd.underlying32 h4
  obtain ⟨n4, rfl⟩ := Int.eq_ofNat_of_zero_le (bounds_u64 w4).1
  have b4 := (bounds_u64 w4).2
  have z4 := take1 e4
  have h5 := hall 5 _ rfl
  obtain ⟨⟨y5, yp⟩, hy5⟩ : ∃ y, xs[5]? = some y := ⟨_, List.getElem?_eq_getElem (by rw [hxl]; decide)⟩
  have c5 : Tryd.prog.cellsOf 37 = 1 := by kernel_rfl
  simp only [c5, hy5] at h5
  have hbk : Rows.uptoBulk y5 ≤ 1048576 := by
    have hd : d = .agg (xs.map (·.1)) := (Prod.mk.inj hx).1
    have hm : y5 ∈ xs.map (·.1) := List.mem_map.2 ⟨_, List.mem_of_getElem? hy5, rfl⟩
    have h1 := bulk_le_all hm
    rw [hd] at hb
    simp only [Rows.uptoBulk] at hb
    omega
  obtain ⟨ao, cap, l, e5, hbr, hll⟩ := open_bytes h5 hbk
  have z5 := take1 e5
  refine ⟨n0, n1, n2, n3, n4, ao, cap, l, ?_, by omega, by omega, by omega, by omega, by omega, hbr, by omega⟩
  apply List.ext_getElem?
  intro i
  match i with
  | 0 => exact z0
  | 1 => exact z1
  | 2 => exact z2
  | 3 => exact z3
  | 4 => exact z4
  | 5 => exact z5
  | i + 6 => rw [List.getElem?_eq_none (by omega)]; rfl
theorem open_chk {H : Type} {enc : TypeId × Value → H} {w : World} {base : Nat} {fuel : Nat} {cs : List Value} {d : DataW H} {p : List MemPlace} (h : DataW.trod enc Tryd.prog w base (fun _ => true) true fuel 61 cs = some (d, p)) (hb : Rows.uptoBulk d ≤ 1048576) : ∃ (x0 : Nat) (x1 : Nat) (x2 : Nat) (x3 : Nat) (ao : Option Addr) (cap : Nat) (l : List Nat), cs = [.int .u16 (x0 : Int), .int .u16 (x1 : Int), .int .u64 (x2 : Int), .int .u64 (x3 : Int), .slice ao l.length cap] ∧ x0 < 65536 ∧ x1 < 65536 ∧ x2 < 18446744073709551616 ∧ x3 < 18446744073709551616 ∧ BRow w ao cap l ∧ l.length ≤ 1048576 := by
  obtain ⟨xs, n, rfl, hx, hl, hxl, hall⟩ := DataW.trod_struct Tryd.underlying61 h
  have hl' : cs.length = 5 := hl.trans (by kernel_rfl)
  have h0 := hall 0 _ rfl
  obtain ⟨y0, hy0⟩ : ∃ y, xs[0]? = some y := ⟨_, List.getElem?_eq_getElem (by rw [hxl]; decide)⟩
  have c0 : Tryd.prog.cellsOf 29 = 1 := by kernel_rfl
  simp only [c0, hy0] at h0
  obtain ⟨a0, e0, _, w0⟩ := DataW.trod_int Tryd.underlying29 h0
  obtain ⟨n0, rfl⟩ := Int.eq_ofNat_of_zero_le (bounds_u16 w0).1
  have b0 := (bounds_u16 w0).2
  have z0 := take1 e0
  have h1 := hall 1 _ rfl
  obtain ⟨y1, hy1⟩ : ∃ y, xs[1]? = some y := ⟨_, List.getElem?_eq_getElem (by rw [hxl]; decide)⟩
  have c1 : Tryd.prog.cellsOf 29 = 1 := by kernel_rfl
  simp only [c1, hy1] at h1
  obtain ⟨a1, e1, _, w1⟩ := DataW.trod_int Tryd.underlying29 h1
  obtain ⟨n1, rfl⟩ := Int.eq_ofNat_of_zero_le (bounds_u16 w1).1
  have b1 := (bounds_u16 w1).2
  have z1 := take1 e1
  have h2 := hall 2 _ rfl
  obtain ⟨y2, hy2⟩ : ∃ y, xs[2]? = some y := ⟨_, List.getElem?_eq_getElem (by rw [hxl]; decide)⟩
  have c2 : Tryd.prog.cellsOf 32 = 1 := by kernel_rfl
  simp only [c2, hy2] at h2
  obtain ⟨a2, e2, _, w2⟩ := DataW.trod_int Tryd.underlying32 h2
  obtain ⟨n2, rfl⟩ := Int.eq_ofNat_of_zero_le (bounds_u64 w2).1
  have b2 := (bounds_u64 w2).2
  have z2 := take1 e2
  have h3 := hall 3 _ rfl
  obtain ⟨y3, hy3⟩ : ∃ y, xs[3]? = some y := ⟨_, List.getElem?_eq_getElem (by rw [hxl]; decide)⟩
  have c3 : Tryd.prog.cellsOf 32 = 1 := by kernel_rfl
  simp only [c3, hy3] at h3
  obtain ⟨a3, e3, _, w3⟩ := DataW.trod_int Tryd.underlying32 h3
  obtain ⟨n3, rfl⟩ := Int.eq_ofNat_of_zero_le (bounds_u64 w3).1
  have b3 := (bounds_u64 w3).2
  have z3 := take1 e3
  have h4 := hall 4 _ rfl
  obtain ⟨⟨y4, yp⟩, hy4⟩ : ∃ y, xs[4]? = some y := ⟨_, List.getElem?_eq_getElem (by rw [hxl]; decide)⟩
  have c4 : Tryd.prog.cellsOf 37 = 1 := by kernel_rfl
  simp only [c4, hy4] at h4
  have hbk : Rows.uptoBulk y4 ≤ 1048576 := by
    have hd : d = .agg (xs.map (·.1)) := (Prod.mk.inj hx).1
    have hm : y4 ∈ xs.map (·.1) := List.mem_map.2 ⟨_, List.mem_of_getElem? hy4, rfl⟩
    have h1 := bulk_le_all hm
    rw [hd] at hb
    simp only [Rows.uptoBulk] at hb
    omega
  obtain ⟨ao, cap, l, e4, hbr, hll⟩ := open_bytes h4 hbk
  have z4 := take1 e4
  refine ⟨n0, n1, n2, n3, ao, cap, l, ?_, by omega, by omega, by omega, by omega, hbr, by omega⟩
  apply List.ext_getElem?
  intro i
  match i with
  | 0 => exact z0
  | 1 => exact z1
  | 2 => exact z2
  | 3 => exact z3
  | 4 => exact z4
  | i + 5 => rw [List.getElem?_eq_none (by omega)]; rfl
end Go.Proofs.YtjhickfjagalfaaDoor
namespace Go.Proofs.YtjhickfjagalfaaDoor.wireEncodes
open Go.ChangeShapes Go.WideShapes Go.ChangeAt Go.RowKit Go.Lib
open Go.Deep
set_option linter.unusedVariables false
set_option maxRecDepth 100000

theorem contract (H : Type) (enc : TypeId × Value → H) (W : World) (base : Nat) (args : Array Value) (ds gs : List (DataW H)) (before : List MemPlace)
    (hval : ∀ (j : Nat) t v, Tryd.f6.params[j]? = some t → args[j]? = some v → Value.okWide Tryd.prog W .any base t v)
    (hW : DataW.Whole enc Tryd.prog Tryd.f6.params.toList Rows.wireEncodesSpec.vars false W args.toList ds gs before) (hk : Rows.uptoSmall H (ds ++ gs) = true) (hL : laidMetH Tryd.prog theLaid W) :
    Calls Tryd.prog 6 args W fun e W' => ∃ v, e = .returned v ∧ Rows.wireEncodesSpec.post enc Tryd.prog Tryd.f6 false true false false W args v W' := by
  have hW' := hW
  obtain ⟨p, q, hA0, hV, rfl, hfz, hnd⟩ := hW
  have hA : DataW.TrodAll enc Tryd.prog W 0 (fun _ => true) true Tryd.f6.params.toList args.toList ds p := hA0
  rw [Tryd.params6] at hA hval
  obtain ⟨v0, vs0, d0, ds0, p0, q0, hargs0, rfl, rfl, h0, r0⟩ := trodAll_cons hA
  obtain ⟨v1, vs1, d1, ds1, p1, q1, hargs1, rfl, rfl, h1, r1⟩ := trodAll_cons r0
  obtain ⟨v2, vs2, d2, ds2, p2, q2, hargs2, rfl, rfl, h2, r2⟩ := trodAll_cons r1
  obtain ⟨v3, vs3, d3, ds3, p3, q3, hargs3, rfl, rfl, h3, r3⟩ := trodAll_cons r2
  obtain ⟨v4, vs4, d4, ds4, p4, q4, hargs4, rfl, rfl, h4, r4⟩ := trodAll_cons r3
  obtain ⟨rfl, rfl, rfl⟩ := trodAll_nil r4
  obtain rfl : args = #[v0, v1, v2, v3, v4] := by cases args; simp_all
  obtain ⟨rfl, rfl⟩ := trodVars_none hV
  have k0 := h0
  have lt0 : ∀ x ∈ p0, x.block < W.heap.size := by obtain ⟨m, hm⟩ := k0; exact DataW.trod_lt m _ _ _ hm
  obtain ⟨cs0, rfl, hcs0⟩ := okWide_struct Tryd.underlying55 (hval 0 55 v0 rfl rfl)
  have k1 := h1
  have lt1 : ∀ x ∈ p1, x.block < W.heap.size := by obtain ⟨m, hm⟩ := k1; exact DataW.trod_lt m _ _ _ hm
  obtain ⟨cs1, rfl, hcs1⟩ := okWide_struct Tryd.underlying57 (hval 1 57 v1 rfl rfl)
  have k2 := h2
  have lt2 : ∀ x ∈ p2, x.block < W.heap.size := by obtain ⟨m, hm⟩ := k2; exact DataW.trod_lt m _ _ _ hm
  obtain ⟨cs2, rfl, hcs2⟩ := okWide_struct Tryd.underlying59 (hval 2 59 v2 rfl rfl)
  have k3 := h3
  have lt3 : ∀ x ∈ p3, x.block < W.heap.size := by obtain ⟨m, hm⟩ := k3; exact DataW.trod_lt m _ _ _ hm
  obtain ⟨cs3, rfl, hcs3⟩ := okWide_struct Tryd.underlying61 (hval 3 61 v3 rfl rfl)
  have k4 := h4
  have lt4 : ∀ x ∈ p4, x.block < W.heap.size := by obtain ⟨m, hm⟩ := k4; exact DataW.trod_lt m _ _ _ hm
  obtain ⟨z4, rfl, _, _⟩ := open_bool Tryd.underlying4 (hval 4 4 v4 rfl rfl) h4
  have hbd : ((Rows.uptoBulk d0 ≤ 1048576 ∧ Rows.uptoBulk d1 ≤ 1048576) ∧ Rows.uptoBulk d2 ≤ 1048576) ∧ Rows.uptoBulk d3 ≤ 1048576 := by
    have h := bulk_bound hk
    simp only [Rows.uptoBulkAll, List.append_nil] at h
    omega
  have hwalk : Calls Tryd.prog 6 #[.agg cs0, .agg cs1, .agg cs2, .agg cs3, .bool z4] W fun e w' => e = .returned (.bool true) ∧ Below W.heap.size W w' := by
    obtain ⟨m0, hm0⟩ := h0
    obtain ⟨m1, hm1⟩ := h1
    obtain ⟨m2, hm2⟩ := h2
    obtain ⟨m3, hm3⟩ := h3
    obtain ⟨oc, ok, lg, a1, c1, l1, e0, u1, u2, br1, n1⟩ := open_opt hm0 hbd.1.1.1
    obtain ⟨rc, rk, a2, c2, l2, e1, u3, u4, br2, n2⟩ := open_rep hm1 hbd.1.1.2
    obtain ⟨qf, qt, qc, qo, qn, a3, c3, l3, e2, u5, u6, u7, u8, u9, br3, n3⟩ := open_req hm2 hbd.1.2
    obtain ⟨cf, ct, cc, co, a4, c4, l4, e3, u10, u11, u12, u13, br4, n4⟩ := open_chk hm3 hbd.2
    simp [Value.cells] at e0 e1 e2 e3
    obtain rfl : cs0 = #[.int .u32 (oc : Int), .int .u32 (ok : Int), .bool lg, .slice a1 l1.length c1] := by apply Array.toList_inj.1; rw [e0]
    obtain rfl : cs1 = #[.int .u32 (rc : Int), .int .u32 (rk : Int), .slice a2 l2.length c2] := by apply Array.toList_inj.1; rw [e1]
    obtain rfl : cs2 = #[.int .u16 (qf : Int), .int .u16 (qt : Int), .int .u64 (qc : Int), .int .u64 (qo : Int), .int .u64 (qn : Int), .slice a3 l3.length c3] := by apply Array.toList_inj.1; rw [e2]
    obtain rfl : cs3 = #[.int .u16 (cf : Int), .int .u16 (ct : Int), .int .u64 (cc : Int), .int .u64 (co : Int), .slice a4 l4.length c4] := by apply Array.toList_inj.1; rw [e3]
    exact wireEncodes_any oc ok rc rk qf qt qc qo qn cf ct cc co lg z4 a1 a2 a3 a4 c1 c2 c3 c4 l1 l2 l3 l4 W (tb_of hL) br1 br2 br3 br4 n1 n2 n3 n4 u1 u2 u3 u4 u5 u6 u7 u8 u9 u10 u11 u12 u13
  clear hA0
  refine hwalk.mono fun e W' ⟨he, bel⟩ => ?_
  subst he
  exact ⟨_, rfl, _, _, _, [], _, [], hW', trodAll_mk1 (shut_bool Tryd.underlying4 _), (trodAll_cons_mk (Below.trod laidOut (by kernel_rfl) (of_decide_eq_true (by kernel_rfl)) k0 bel lt0) (trodAll_cons_mk (Below.trod laidOut (by kernel_rfl) (of_decide_eq_true (by kernel_rfl)) k1 bel lt1) (trodAll_cons_mk (Below.trod laidOut (by kernel_rfl) (of_decide_eq_true (by kernel_rfl)) k2 bel lt2) (trodAll_cons_mk (Below.trod laidOut (by kernel_rfl) (of_decide_eq_true (by kernel_rfl)) k3 bel lt3) (trodAll_cons_mk (Below.trod laidOut (by kernel_rfl) (of_decide_eq_true (by kernel_rfl)) k4 bel lt4) trodAll_mk0))))), rfl, bel.frame _, fun h => by cases h⟩
def wit : Array Value := #[.agg #[.int .u32 0, .int .u32 0, .bool false, .slice none 0 0], .agg #[.int .u32 0, .int .u32 0, .slice none 0 0], .agg #[.int .u16 0, .int .u16 0, .int .u64 0, .int .u64 0, .int .u64 0, .slice none 0 0], .agg #[.int .u16 0, .int .u16 0, .int .u64 0, .int .u64 0, .slice none 0 0], .bool false]
theorem reads (os : Os) {H : Type} (enc : TypeId × Value → H) : ∃ places, DataW.whole enc Tryd.prog ((putTabs (World.holding Tryd.prog os ⟨#[], #[], []⟩)).forCall (fun _ _ => 0) ⟨#[], wit, []⟩).memory Tryd.f6.params.toList Rows.wireEncodesSpec.vars false wit.toList 8 = some ([.agg [.lit (.int .u32 0), .lit (.int .u32 0), .lit (.bool false), .nil], .agg [.lit (.int .u32 0), .lit (.int .u32 0), .nil], .agg [.lit (.int .u16 0), .lit (.int .u16 0), .lit (.int .u64 0), .lit (.int .u64 0), .lit (.int .u64 0), .nil], .agg [.lit (.int .u16 0), .lit (.int .u16 0), .lit (.int .u64 0), .lit (.int .u64 0), .nil], .lit (.bool false)], [], places) :=
  ⟨[], by kernel_rfl⟩

theorem lifted (os : Os) (started : os.Started) (H : Type) (enc : TypeId × Value → H) (F : Stop.Interp) :
    ReturnsInHanded {} Tryd.checked os 6 .any ((Rows.OpenSpec.upto Rows.wireEncodesSpec).preRow enc Tryd.prog Tryd.f6 Rows.wireEncodesUptoRow.domain false Rows.wireEncodesUptoRow.laid) (((Rows.OpenSpec.upto Rows.wireEncodesSpec).at F).post enc Tryd.prog Tryd.f6 false true false false) := by
  obtain ⟨places, hx⟩ := reads os enc
  refine returnsInHanded_of_row (C := Tryd.checked) (s := Rows.OpenSpec.upto Rows.wireEncodesSpec) own started (by kernel_rfl) Tryd.func6
    (witness_row_atRef (enc := enc) (C := Tryd.checked) false (putTabs (World.holding Tryd.prog os ⟨#[], #[], []⟩)) wit rfl (by kernel_rfl) (by kernel_rfl) (by kernel_rfl)
      (OpenSpec.preRow_of_cond 8 hx (by kernel_rfl) (fun k hk => by cases hk; kernel_rfl) (by kernel_rfl) (laid_met os _))) ?_
  intro W base args ds gs before hval hW _ hk _ hL _ _
  exact contract H enc W base args ds gs before hval hW (hk _ rfl) hL

theorem said : Rows.WireEncodesUptoSaid :=
  OpenClaim.holds_of_cond 6 Tryd.f6 rfl rfl rfl rfl rfl rfl rfl ⟨rfl, rfl, rfl, rfl, rfl⟩ rfl rfl rfl rfl rfl (by kernel_rfl) Tryd.func6 (by kernel_rfl)
    (of_decide_eq_true (by kernel_rfl)) (by unfold Func.isWrapper; first | (rw [if_pos (by decide +kernel)]; kernel_rfl) | (rw [if_neg (by decide +kernel)]; exact ⟨rfl, rfl⟩))
    (fun os started H enc _ F => by rw [OpenClaim.pre_eq_preRow]; exact lifted os started H enc F)
theorem plain (f : FuncId) (fn : Func) (hf : Tryd.pinned.checked.prog.funcNamed Tryd.f6.name = some f) (hfn : Tryd.pinned.checked.prog.funcs[f]? = some fn) :
    false = Tryd.pinned.checked.prog.looks [] ∧ ∀ (j : Nat) t, fn.params[j]? = some t → Tryd.pinned.checked.prog.wantsStandIn t = false := by
  obtain rfl : f = 6 := Option.some.inj ((show Tryd.prog.funcNamed Tryd.f6.name = some 6 by kernel_rfl).symm.trans hf) |>.symm
  obtain rfl : fn = Tryd.f6 := (Option.some.inj (Tryd.func6.symm.trans hfn)).symm
  refine ⟨by kernel_rfl, fun j t ht => ?_⟩
  rw [Tryd.params6] at ht
  have hm := Array.mem_of_getElem? ht
  have hall : (#[55, 57, 59, 61, 4] : Array TypeId).all (fun t => Tryd.prog.wantsStandIn t == false) = true := by kernel_rfl
  have := Array.all_eq_true_iff_forall_mem.1 hall t hm
  exact (show Tryd.prog.wantsStandIn t = false by simpa using this)
end Go.Proofs.YtjhickfjagalfaaDoor.wireEncodes
namespace Go.Proofs.YtjhickfjagalfaaDoor
theorem wireEncodes_proved : Rows.WireEncodesUptoCardSaid :=
  Claim7.holds_tied_plain_at .later [] _ _ _ _ wireEncodes.said (fun _ h => by cases h) (by kernel_rfl) (fun _ h => by cases h) wireEncodesUpto_row_tie rfl ⟨rfl, rfl⟩ (by kernel_rfl) rfl wireEncodes.plain (by kernel_rfl)
#print axioms wireEncodes_proved
end Go.Proofs.YtjhickfjagalfaaDoor
