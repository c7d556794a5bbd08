import Derived.Test.YtodinademhibjaaDoorRuQ
import Derived.Deep.Slices
namespace Go.Proofs.YtodinademhibjaaDoor
open Go.ChangeShapes Go.WideShapes Go.ChangeAt Go.RowKit Go.Lib
open Go.Deep
set_option linter.unusedVariables false
set_option linter.unusedSimpArgs false
set_option maxRecDepth 100000
theorem open_exp {H : Type} {enc : TypeId × Value → H} {w : World} {base : Nat} {fuel : Nat} {cs : List Value} {d : DataW H} {p : List MemPlace} (h : DataW.trod enc Tryd.prog w base (fun _ => true) true fuel 27 cs = some (d, p)) : ∃ (x0 : ByteArray) (x1 : ByteArray) (x2 : Int) (x3 : Bool) (x4 : Bool) (x5 : Bool) (x6 : Bool) (x7 : Nat) (x8 : Nat), cs = [.string x0, .string x1, .int .i64 x2, .bool x3, .bool x4, .bool x5, .bool x6, .int .u32 (x7 : Int), .int .u32 (x8 : Int)] ∧ (Lit.int .i64 x2).wf = true ∧ x7 < 4294967296 ∧ x8 < 4294967296 := by
  obtain ⟨xs, n, rfl, hx, hl, hxl, hall⟩ := DataW.trod_struct Tryd.underlying27 h
  have hl' : cs.length = 9 := hl.trans (by kernel_rfl)
  have h0 := hall 0 _ rfl
  obtain ⟨⟨y0, yp0⟩, hy0⟩ : ∃ y, xs[0]? = some y := ⟨_, List.getElem?_eq_getElem (by rw [hxl]; decide)⟩
  have k0 : Tryd.prog.cellsOf 9 = 1 := by kernel_rfl
  simp only [k0, hy0] at h0
  obtain ⟨z0, e0, _⟩ := DataW.trod_string Tryd.underlying9 h0
  have t0 := take1 e0
  have h1 := hall 1 _ rfl
  obtain ⟨⟨y1, yp1⟩, hy1⟩ : ∃ y, xs[1]? = some y := ⟨_, List.getElem?_eq_getElem (by rw [hxl]; decide)⟩
  have k1 : Tryd.prog.cellsOf 9 = 1 := by kernel_rfl
  simp only [k1, hy1] at h1
  obtain ⟨z1, e1, _⟩ := DataW.trod_string Tryd.underlying9 h1
  have t1 := take1 e1
  have h2 := hall 2 _ rfl
  obtain ⟨⟨y2, yp2⟩, hy2⟩ : ∃ y, xs[2]? = some y := ⟨_, List.getElem?_eq_getElem (by rw [hxl]; decide)⟩
  have k2 : Tryd.prog.cellsOf 3 = 1 := by kernel_rfl
  simp only [k2, hy2] at h2
  obtain ⟨z2, e2, _, w2⟩ := DataW.trod_int Tryd.underlying3 h2
  have t2 := take1 e2
  have h3 := hall 3 _ rfl
  obtain ⟨⟨y3, yp3⟩, hy3⟩ : ∃ y, xs[3]? = some y := ⟨_, List.getElem?_eq_getElem (by rw [hxl]; decide)⟩
  have k3 : Tryd.prog.cellsOf 4 = 1 := by kernel_rfl
  simp only [k3, hy3] at h3
  obtain ⟨z3, e3, _⟩ := DataW.trod_bool Tryd.underlying4 h3
  have t3 := take1 e3
  have h4 := hall 4 _ rfl
  obtain ⟨⟨y4, yp4⟩, hy4⟩ : ∃ y, xs[4]? = some y := ⟨_, List.getElem?_eq_getElem (by rw [hxl]; decide)⟩
  have k4 : Tryd.prog.cellsOf 4 = 1 := by kernel_rfl
  simp only [k4, hy4] at h4
  obtain ⟨z4, e4, _⟩ := DataW.trod_bool Tryd.underlying4 h4
  have t4 := take1 e4
  have h5 := hall 5 _ rfl
  obtain ⟨⟨y5, yp5⟩, hy5⟩ : ∃ y, xs[5]? = some y := ⟨_, List.getElem?_eq_getElem (by rw [hxl]; decide)⟩
  have k5 : Tryd.prog.cellsOf 4 = 1 := by kernel_rfl
  simp only [k5, hy5] at h5
  obtain ⟨z5, e5, _⟩ := DataW.trod_bool Tryd.underlying4 h5
  have t5 := take1 e5
  have h6 := hall 6 _ rfl
  obtain ⟨⟨y6, yp6⟩, hy6⟩ : ∃ y, xs[6]? = some y := ⟨_, List.getElem?_eq_getElem (by rw [hxl]; decide)⟩
  have k6 : Tryd.prog.cellsOf 4 = 1 := by kernel_rfl
  simp only [k6, hy6] at h6
  obtain ⟨z6, e6, _⟩ := DataW.trod_bool Tryd.underlying4 h6
  have t6 := take1 e6
  have h7 := hall 7 _ rfl
  obtain ⟨⟨y7, yp7⟩, hy7⟩ : ∃ y, xs[7]? = some y := ⟨_, List.getElem?_eq_getElem (by rw [hxl]; decide)⟩
  have k7 : Tryd.prog.cellsOf 25 = 1 := by kernel_rfl
  simp only [k7, hy7] at h7
  obtain ⟨i7, e7, _, w7⟩ := DataW.trod_int Tryd.underlying25 h7
  obtain ⟨z7, rfl⟩ := Int.eq_ofNat_of_zero_le (bounds_u32 w7).1
  have b7 := (bounds_u32 w7).2
  have t7 := take1 e7
  have h8 := hall 8 _ rfl
  obtain ⟨⟨y8, yp8⟩, hy8⟩ : ∃ y, xs[8]? = some y := ⟨_, List.getElem?_eq_getElem (by rw [hxl]; decide)⟩
  have k8 : Tryd.prog.cellsOf 25 = 1 := by kernel_rfl
  simp only [k8, hy8] at h8
  obtain ⟨i8, e8, _, w8⟩ := DataW.trod_int Tryd.underlying25 h8
  obtain ⟨z8, rfl⟩ := Int.eq_ofNat_of_zero_le (bounds_u32 w8).1
  have b8 := (bounds_u32 w8).2
  have t8 := take1 e8
  refine ⟨z0, z1, z2, z3, z4, z5, z6, z7, z8, ?_, w2, by omega, by omega⟩
  · apply List.ext_getElem?
    intro i
    match i with
    | 0 => exact t0
    | 1 => exact t1
    | 2 => exact t2
    | 3 => exact t3
    | 4 => exact t4
    | 5 => exact t5
    | 6 => exact t6
    | 7 => exact t7
    | 8 => exact t8
    | i + 9 => rw [List.getElem?_eq_none (by omega)]; rfl
theorem open_ses {H : Type} {enc : TypeId × Value → H} {w : World} {base : Nat} {fuel : Nat} {cs : List Value} {d : DataW H} {p : List MemPlace} (h : DataW.trod enc Tryd.prog w base (fun _ => true) true fuel 30 cs = some (d, p)) : ∃ (x0 : Int) (x1 : Bool) (x2 : Bool) (a3 : Option Addr) (n3 c3 : Nat), cs = [.int .i64 x0, .bool x1, .bool x2, .slice a3 n3 c3] ∧ (Lit.int .i64 x0).wf = true := by
  obtain ⟨xs, n, rfl, hx, hl, hxl, hall⟩ := DataW.trod_struct Tryd.underlying30 h
  have hl' : cs.length = 4 := hl.trans (by kernel_rfl)
  have h0 := hall 0 _ rfl
  obtain ⟨⟨y0, yp0⟩, hy0⟩ : ∃ y, xs[0]? = some y := ⟨_, List.getElem?_eq_getElem (by rw [hxl]; decide)⟩
  have k0 : Tryd.prog.cellsOf 3 = 1 := by kernel_rfl
  simp only [k0, hy0] at h0
  obtain ⟨z0, e0, _, w0⟩ := DataW.trod_int Tryd.underlying3 h0
  have t0 := take1 e0
  have h1 := hall 1 _ rfl
  obtain ⟨⟨y1, yp1⟩, hy1⟩ : ∃ y, xs[1]? = some y := ⟨_, List.getElem?_eq_getElem (by rw [hxl]; decide)⟩
  have k1 : Tryd.prog.cellsOf 4 = 1 := by kernel_rfl
  simp only [k1, hy1] at h1
  obtain ⟨z1, e1, _⟩ := DataW.trod_bool Tryd.underlying4 h1
  have t1 := take1 e1
  have h2 := hall 2 _ rfl
  obtain ⟨⟨y2, yp2⟩, hy2⟩ : ∃ y, xs[2]? = some y := ⟨_, List.getElem?_eq_getElem (by rw [hxl]; decide)⟩
  have k2 : Tryd.prog.cellsOf 4 = 1 := by kernel_rfl
  simp only [k2, hy2] at h2
  obtain ⟨z2, e2, _⟩ := DataW.trod_bool Tryd.underlying4 h2
  have t2 := take1 e2
  have h3 := hall 3 _ rfl
  obtain ⟨⟨y3, yp3⟩, hy3⟩ : ∃ y, xs[3]? = some y := ⟨_, List.getElem?_eq_getElem (by rw [hxl]; decide)⟩
  have k3 : Tryd.prog.cellsOf 28 = 1 := by kernel_rfl
  simp only [k3, hy3] at h3
  obtain ⟨a3, n3, c3, e3⟩ : ∃ a m c, (cs.drop 3).take 1 = [Value.slice a m c] := by
    rcases open_ints Tryd.underlying28 Tryd.underlying25 (by kernel_rfl) h3 with ⟨hcs, _⟩ | ⟨x, l, c, zs, hcs, _⟩
    · exact ⟨_, _, _, hcs⟩
    · exact ⟨_, _, _, hcs⟩
  have t3 := take1 e3
  refine ⟨z0, z1, z2, a3, n3, c3, ?_, w0⟩
  · apply List.ext_getElem?
    intro i
    match i with
    | 0 => exact t0
    | 1 => exact t1
    | 2 => exact t2
    | 3 => exact t3
    | i + 4 => rw [List.getElem?_eq_none (by omega)]; rfl
theorem open_lim {H : Type} {enc : TypeId × Value → H} {w : World} {base : Nat} {fuel : Nat} {cs : List Value} {d : DataW H} {p : List MemPlace} (h : DataW.trod enc Tryd.prog w base (fun _ => true) true fuel 32 cs = some (d, p)) : ∃ (x0 : Nat) (x1 : Nat) (x2 : Int), cs = [.int .u32 (x0 : Int), .int .u32 (x1 : Int), .int .i64 x2] ∧ x0 < 4294967296 ∧ x1 < 4294967296 ∧ (Lit.int .i64 x2).wf = true := by
  obtain ⟨xs, n, rfl, hx, hl, hxl, hall⟩ := DataW.trod_struct Tryd.underlying32 h
  have hl' : cs.length = 3 := hl.trans (by kernel_rfl)
  have h0 := hall 0 _ rfl
  obtain ⟨⟨y0, yp0⟩, hy0⟩ : ∃ y, xs[0]? = some y := ⟨_, List.getElem?_eq_getElem (by rw [hxl]; decide)⟩
  have k0 : Tryd.prog.cellsOf 25 = 1 := by kernel_rfl
  simp only [k0, hy0] at h0
  obtain ⟨i0, e0, _, w0⟩ := DataW.trod_int Tryd.underlying25 h0
  obtain ⟨z0, rfl⟩ := Int.eq_ofNat_of_zero_le (bounds_u32 w0).1
  have b0 := (bounds_u32 w0).2
  have t0 := take1 e0
  have h1 := hall 1 _ rfl
  obtain ⟨⟨y1, yp1⟩, hy1⟩ : ∃ y, xs[1]? = some y := ⟨_, List.getElem?_eq_getElem (by rw [hxl]; decide)⟩
  have k1 : Tryd.prog.cellsOf 25 = 1 := by kernel_rfl
  simp only [k1, hy1] at h1
  obtain ⟨i1, e1, _, w1⟩ := DataW.trod_int Tryd.underlying25 h1
  obtain ⟨z1, rfl⟩ := Int.eq_ofNat_of_zero_le (bounds_u32 w1).1
  have b1 := (bounds_u32 w1).2
  have t1 := take1 e1
  have h2 := hall 2 _ rfl
  obtain ⟨⟨y2, yp2⟩, hy2⟩ : ∃ y, xs[2]? = some y := ⟨_, List.getElem?_eq_getElem (by rw [hxl]; decide)⟩
  have k2 : Tryd.prog.cellsOf 3 = 1 := by kernel_rfl
  simp only [k2, hy2] at h2
  obtain ⟨z2, e2, _, w2⟩ := DataW.trod_int Tryd.underlying3 h2
  have t2 := take1 e2
  refine ⟨z0, z1, z2, ?_, by omega, by omega, w2⟩
  · apply List.ext_getElem?
    intro i
    match i with
    | 0 => exact t0
    | 1 => exact t1
    | 2 => exact t2
    | i + 3 => rw [List.getElem?_eq_none (by omega)]; rfl
theorem open_req {H : Type} {enc : TypeId × Value → H} {w : World} {base : Nat} {fuel : Nat} {cs : List Value} {d : DataW H} {p : List MemPlace} (h : DataW.trod enc Tryd.prog w base (fun _ => true) true fuel 36 cs = some (d, p)) : ∃ (x0 : Nat) (x1 : Nat) (x2 : Nat) (x3 : Nat) (x4 : Nat) (a5 : Option Addr) (n5 c5 : Nat), cs = [.int .u16 (x0 : Int), .int .u16 (x1 : Int), .int .u64 (x2 : Int), .int .u64 (x3 : Int), .int .u64 (x4 : Int), .slice a5 n5 c5] ∧ x0 < 65536 ∧ x1 < 65536 ∧ x2 < 18446744073709551616 ∧ x3 < 18446744073709551616 ∧ x4 < 18446744073709551616 ∧ ∃ (fu : Nat) (dd : DataW H) (pp : List MemPlace) (qs : List (DataW H)), DataW.trod enc Tryd.prog w base (fun _ => true) true fu 34 [.slice a5 n5 c5] = some (dd, pp) ∧ d = .agg qs ∧ qs[5]? = some dd := by
  obtain ⟨xs, n, rfl, hx, hl, hxl, hall⟩ := DataW.trod_struct Tryd.underlying36 h
  have hl' : cs.length = 6 := hl.trans (by kernel_rfl)
  have h0 := hall 0 _ rfl
  obtain ⟨⟨y0, yp0⟩, hy0⟩ : ∃ y, xs[0]? = some y := ⟨_, List.getElem?_eq_getElem (by rw [hxl]; decide)⟩
  have k0 : Tryd.prog.cellsOf 22 = 1 := by kernel_rfl
  simp only [k0, hy0] at h0
  obtain ⟨i0, e0, _, w0⟩ := DataW.trod_int Tryd.underlying22 h0
  obtain ⟨z0, rfl⟩ := Int.eq_ofNat_of_zero_le (bounds_u16 w0).1
  have b0 := (bounds_u16 w0).2
  have t0 := take1 e0
  have h1 := hall 1 _ rfl
  obtain ⟨⟨y1, yp1⟩, hy1⟩ : ∃ y, xs[1]? = some y := ⟨_, List.getElem?_eq_getElem (by rw [hxl]; decide)⟩
  have k1 : Tryd.prog.cellsOf 22 = 1 := by kernel_rfl
  simp only [k1, hy1] at h1
  obtain ⟨i1, e1, _, w1⟩ := DataW.trod_int Tryd.underlying22 h1
  obtain ⟨z1, rfl⟩ := Int.eq_ofNat_of_zero_le (bounds_u16 w1).1
  have b1 := (bounds_u16 w1).2
  have t1 := take1 e1
  have h2 := hall 2 _ rfl
  obtain ⟨⟨y2, yp2⟩, hy2⟩ : ∃ y, xs[2]? = some y := ⟨_, List.getElem?_eq_getElem (by rw [hxl]; decide)⟩
  have k2 : Tryd.prog.cellsOf 33 = 1 := by kernel_rfl
  simp only [k2, hy2] at h2
  obtain ⟨i2, e2, _, w2⟩ := DataW.trod_int Tryd.underlying33 h2
  obtain ⟨z2, rfl⟩ := Int.eq_ofNat_of_zero_le (bounds_u64 w2).1
  have b2 := (bounds_u64 w2).2
  have t2 := take1 e2
  have h3 := hall 3 _ rfl
  obtain ⟨⟨y3, yp3⟩, hy3⟩ : ∃ y, xs[3]? = some y := ⟨_, List.getElem?_eq_getElem (by rw [hxl]; decide)⟩
  have k3 : Tryd.prog.cellsOf 33 = 1 := by kernel_rfl
  simp only [k3, hy3] at h3
  obtain ⟨i3, e3, _, w3⟩ := DataW.trod_int Tryd.underlying33 h3
  obtain ⟨z3, rfl⟩ := Int.eq_ofNat_of_zero_le (bounds_u64 w3).1
  have b3 := (bounds_u64 w3).2
  have t3 := take1 e3
  have h4 := hall 4 _ rfl
  obtain ⟨⟨y4, yp4⟩, hy4⟩ : ∃ y, xs[4]? = some y := ⟨_, List.getElem?_eq_getElem (by rw [hxl]; decide)⟩
  have k4 : Tryd.prog.cellsOf 33 = 1 := by kernel_rfl
  simp only [k4, hy4] at h4
  obtain ⟨i4, e4, _, w4⟩ := DataW.trod_int Tryd.underlying33 h4
  obtain ⟨z4, rfl⟩ := Int.eq_ofNat_of_zero_le (bounds_u64 w4).1
  have b4 := (bounds_u64 w4).2
  have t4 := take1 e4
  have h5 := hall 5 _ rfl
  obtain ⟨⟨y5, yp5⟩, hy5⟩ : ∃ y, xs[5]? = some y := ⟨_, List.getElem?_eq_getElem (by rw [hxl]; decide)⟩
  have k5 : Tryd.prog.cellsOf 34 = 1 := by kernel_rfl
  simp only [k5, hy5] at h5
  obtain ⟨a5, n5, c5, e5⟩ : ∃ a m c, (cs.drop 5).take 1 = [Value.slice a m c] := by
    rcases open_ints Tryd.underlying34 Tryd.underlying5 (by kernel_rfl) h5 with ⟨hcs, _⟩ | ⟨x, l, c, zs, hcs, _⟩
    · exact ⟨_, _, _, hcs⟩
    · exact ⟨_, _, _, hcs⟩
  have t5 := take1 e5
  refine ⟨z0, z1, z2, z3, z4, a5, n5, c5, ?_, by omega, by omega, by omega, by omega, by omega, n, y5, yp5, xs.map (·.1), ?_, (Prod.mk.inj hx).1, ?_⟩
  · apply List.ext_getElem?
    intro i
    match i with
    | 0 => exact t0
    | 1 => exact t1
    | 2 => exact t2
    | 3 => exact t3
    | 4 => exact t4
    | 5 => exact t5
    | i + 6 => rw [List.getElem?_eq_none (by omega)]; rfl
  · rw [← e5]; exact h5
  · simp [hy5]

theorem open_case {H : Type} {enc : TypeId × Value → H} {w : World} {base : Nat} {fuel : Nat} {cs : List Value} {d : DataW H} {p : List MemPlace} (h : DataW.trod enc Tryd.prog w base (fun _ => true) true fuel 38 cs = some (d, p)) :
    ∃ (nm ds : ByteArray) (sec : Int) (ro rt pv tr : Bool) (mn pf : Nat) (ix : Int) (st ex : Bool) (bo : Option Addr) (m bc : Nat) (py op : Nat) (fi : Int) (fl ty ck of ln : Nat) (ao : Option Addr) (n cap : Nat),
      cs = [.string nm, .string ds, .int .i64 sec, .bool ro, .bool rt, .bool pv, .bool tr, .int .u32 (mn : Int), .int .u32 (pf : Int), .int .i64 ix, .bool st, .bool ex, .slice bo m bc, .int .u32 (py : Int), .int .u32 (op : Int), .int .i64 fi, .int .u16 (fl : Int), .int .u16 (ty : Int), .int .u64 (ck : Int), .int .u64 (of : Int), .int .u64 (ln : Int), .slice ao n cap] ∧ (Lit.int .i64 sec).wf = true ∧ mn < 4294967296 ∧ py < 4294967296 ∧ fl < 65536 ∧ ty < 65536 ∧ ck < 18446744073709551616 ∧ of < 18446744073709551616 ∧ ln < 18446744073709551616 ∧
      ∃ (fu : Nat) (dd : DataW H) (pp : List MemPlace) (qs ps : List (DataW H)), DataW.trod enc Tryd.prog w base (fun _ => true) true fu 34 [.slice ao n cap] = some (dd, pp) ∧ d = .agg ps ∧ ps[3]? = some (.agg qs) ∧ qs[5]? = some dd := by
  obtain ⟨xs, fu, rfl, hx, hl, hxl, hall⟩ := DataW.trod_struct Tryd.underlying38 h
  have hl' : cs.length = 22 := hl.trans (by kernel_rfl)
  have h0 := hall 0 _ rfl
  have h1 := hall 1 _ rfl
  have h2 := hall 2 _ rfl
  have h3 := hall 3 _ rfl
  obtain ⟨⟨y0, yp0⟩, hy0⟩ : ∃ y, xs[0]? = some y := ⟨_, List.getElem?_eq_getElem (by rw [hxl]; decide)⟩
  obtain ⟨⟨y1, yp1⟩, hy1⟩ : ∃ y, xs[1]? = some y := ⟨_, List.getElem?_eq_getElem (by rw [hxl]; decide)⟩
  obtain ⟨⟨y2, yp2⟩, hy2⟩ : ∃ y, xs[2]? = some y := ⟨_, List.getElem?_eq_getElem (by rw [hxl]; decide)⟩
  obtain ⟨⟨y3, yp3⟩, hy3⟩ : ∃ y, xs[3]? = some y := ⟨_, List.getElem?_eq_getElem (by rw [hxl]; decide)⟩
  have k0 : Tryd.prog.cellsOf 27 = 9 := by kernel_rfl
  have k1 : Tryd.prog.cellsOf 30 = 4 := by kernel_rfl
  have k2 : Tryd.prog.cellsOf 32 = 3 := by kernel_rfl
  have k3 : Tryd.prog.cellsOf 36 = 6 := by kernel_rfl
  simp only [k0, k1, k2, k3, hy0, hy1, hy2, hy3] at h0 h1 h2 h3
  obtain ⟨nm, ds, sec, ro, rt, pv, tr, mn, pf, e0, b1, b2, b3⟩ := open_exp h0
  obtain ⟨ix, st, ex, bo, m, bc, e1, _⟩ := open_ses h1
  obtain ⟨py, op, fi, e2, b4, b5, _⟩ := open_lim h2
  obtain ⟨fl, ty, ck, of, ln, ao, n, cap, e3, b6, b7, b8, b9, b10, fu', dd, pp, qs, hd, hq, hq5⟩ := open_req h3
  refine ⟨nm, ds, sec, ro, rt, pv, tr, mn, pf, ix, st, ex, bo, m, bc, py, op, fi, fl, ty, ck, of, ln, ao, n, cap, ?_, b1, b2, b4, b6, b7, b8, b9, b10, fu', dd, pp, qs, xs.map (·.1), hd, (Prod.mk.inj hx).1, ?_, hq5⟩
  · have e : cs = (cs.drop 0).take 9 ++ ((cs.drop 9).take 4 ++ ((cs.drop 13).take 3 ++ (cs.drop 16).take 6)) := by
      apply List.ext_getElem?
      intro i
      simp only [List.getElem?_append, List.getElem?_take, List.getElem?_drop, List.length_take, List.length_drop, hl']
      split
      · simp; omega
      · split
        · rw [if_pos (by omega)]; congr 1; omega
        · split
          · rw [if_pos (by omega)]; congr 1; omega
          · split
            · congr 1; omega
            · rw [List.getElem?_eq_none (by omega)]
    have f0 : (cs.drop 0).take 9 = _ := e0
    have f1 : (cs.drop 9).take 4 = _ := e1
    have f2 : (cs.drop 13).take 3 = _ := e2
    have f3 : (cs.drop 16).take 6 = _ := e3
    rw [e, f0, f1, f2, f3]; rfl
  · simp [hy3, hq]
end Go.Proofs.YtodinademhibjaaDoor
