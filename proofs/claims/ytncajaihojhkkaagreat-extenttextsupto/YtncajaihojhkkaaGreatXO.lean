import Derived.Test.YtncajaihojhkkaaGreatXD
namespace Go.Proofs.YtncajaihojhkkaaGreat.I
open Go.RowKit Go.Sort Go.Lib
set_option linter.unusedVariables false
set_option linter.unusedSimpArgs false
set_option maxRecDepth 100000

theorem eqRng (a b c d : Int) (w : World) : (binOp .eql 63 (.agg #[.int .i64 a, .int .i64 b]) (.agg #[.int .i64 c, .int .i64 d])).run Tryz.prog w = .ok (.bool (a == c && b == d)) w := by
  have u3 := Tryz.underlying2
  have a3 := Tryz.isAgg2
  have z3 := Tryz.sizeOf2
  have hS : Tryz.prog.underlying 63 = some (.struct (Tryz.prog.fieldsOf 63)) := by kernel_rfl
  have hp : Tryz.prog.stoodInHeld 63 = false := by kernel_rfl
  rw [run_eql_struct, show (10000 : Nat) = 9999 + 1 from rfl, run_equalIn_agg w 9999 63 _ _ hS hp]
  simp only [Program.fieldsOf, Tryz.underlying63]
  go_simp
  by_cases h1 : a = c <;> by_cases h2 : b = d <;> simp [h1, h2]

theorem set_end {w : World} {B bm : Nat} {v : Value} {size : Int} {rs : List (Rn Int)} (h : MO w B bm v size rs) (lo hi : Int) (x : Int) (h0 : 0 ≤ lo) (h1 : lo < hi) (h2 : hi ≤ size) (hlast : find rs (min hi (size - 1)) + 1 = rs.length) :
    Calls Tryz.prog 18 #[.pointer (some ⟨bm, 0, none⟩), .int .i64 lo, .int .i64 hi, .int .i64 x] w fun e w' => e = .returned (.int .i64 0) ∧ SetTo w B bm v size (lay size rs ⟨lo, hi, x⟩) w' :=
  set_by h lo hi x h0 h1 h2 (lay_end h ⟨lo, hi, x⟩ h0 h1 h2 hlast)
theorem setB_end (W : World) (Bs bm : Nat) (v : Value) (rs : List (Rn Bool)) (p : Int × Int) (h : B.MO W Bs bm v 1099511627776 rs) (hlast : find rs (min p.2 (1099511627776 - 1)) + 1 = rs.length) (h0 : 0 ≤ p.1) (h1 : p.1 < p.2) (h2 : p.2 ≤ 1099511627776) :
    Calls Tryz.prog 47 #[.pointer (some ⟨bm, 0, none⟩), .int .i64 p.1, .int .i64 p.2, .bool true] W fun e w' => e = .returned (.int .i64 0) ∧ B.SetTo W Bs bm v 1099511627776 (lay 1099511627776 rs ⟨p.1, p.2, true⟩) w' :=
  B.set_by h p.1 p.2 true h0 h1 h2 (B.lay_end h ⟨p.1, p.2, true⟩ h0 h1 h2 hlast)

abbrev three : List (Int × Int) := [(5, 9), (-3, 2), (2, 4)]
theorem clamps3 : B.clamps three = [(5, 9), (0, 2), (2, 4)] := by decide
theorem sorted3 (l : List (Int × Int)) (h : l.Perm [(5, 9), (0, 2), (2, 4)]) (hs : B.SortedLo l) : l = [(0, 2), (2, 4), (5, 9)] := by
  have hl := h.length_eq
  match l, hl with
  | [a, b, c], _ =>
    have ha := h.mem_iff (a := a) |>.1 (by simp)
    have hb := h.mem_iff (a := b) |>.1 (by simp)
    have hc := h.mem_iff (a := c) |>.1 (by simp)
    have s1 := hs 0 1 a b rfl rfl (by omega)
    have s2 := hs 1 2 b c rfl rfl (by omega)
    simp only [List.mem_cons, List.not_mem_nil, or_false] at ha hb hc
    rcases ha with rfl | rfl | rfl <;> rcases hb with rfl | rfl | rfl <;> rcases hc with rfl | rfl | rfl <;> first | rfl | (exfalso; revert h; decide) | (exfalso; simp at s1 s2)
theorem good3 (k : Nat) (p : Int × Int) (h : ([(0, 2), (2, 4), (5, 9)] : List (Int × Int))[k]? = some p) : find (B.runsOf (([(0, 2), (2, 4), (5, 9)] : List (Int × Int)).take k)) (min p.2 (1099511627776 - 1)) + 1 = (B.runsOf (([(0, 2), (2, 4), (5, 9)] : List (Int × Int)).take k)).length := by
  match k, h with
  | 0, h => simp at h; subst h; decide
  | 1, h => simp at h; subst h; decide
  | 2, h => simp at h; subst h; decide
theorem lst3 : B.lst (B.runsOf [(0, 2), (2, 4), (5, 9)]) = [(0, 4), (5, 9)] := by decide
theorem rs0 : joined [(⟨0, 10, 1⟩ : Rn Int)] = [⟨0, 10, 1⟩] := by rfl
theorem rs1 : lay 10 [(⟨0, 10, 1⟩ : Rn Int)] ⟨2, 5, 2⟩ = [⟨0, 2, 1⟩, ⟨2, 5, 2⟩, ⟨5, 10, 1⟩] := by rfl
theorem rs2 : lay 10 [(⟨0, 2, 1⟩ : Rn Int), ⟨2, 5, 2⟩, ⟨5, 10, 1⟩] ⟨4, 7, 3⟩ = [⟨0, 2, 1⟩, ⟨2, 4, 2⟩, ⟨4, 7, 3⟩, ⟨7, 10, 1⟩] := by rfl

theorem normal3 (W : World) (H : Nat) (hH : W.heap.size = H) : Calls Tryz.prog 20 #[.slice (some ⟨H, 0, none⟩) 3 3] (W.alloc (.cells #[.int .i64 5, .int .i64 9, .int .i64 (-3), .int .i64 2, .int .i64 2, .int .i64 4] 63)) fun e w' => ∃ g c, e = .returned (.slice (some ⟨g, 0, none⟩) 2 c) ∧ w'.cell? ⟨g, 0, none⟩ = some (.int .i64 0) ∧ w'.cell? ⟨g, 1, none⟩ = some (.int .i64 4) ∧ w'.cell? ⟨g, 2, none⟩ = some (.int .i64 5) ∧ w'.cell? ⟨g, 3, none⟩ = some (.int .i64 9) ∧ Below (W.alloc (.cells #[.int .i64 5, .int .i64 9, .int .i64 (-3), .int .i64 2, .int .i64 2, .int .i64 4] 63)).heap.size (W.alloc (.cells #[.int .i64 5, .int .i64 9, .int .i64 (-3), .int .i64 2, .int .i64 2, .int .i64 4] 63)) w' := by
  subst hH
  have hc : ∀ j, (W.alloc (.cells #[.int .i64 5, .int .i64 9, .int .i64 (-3), .int .i64 2, .int .i64 2, .int .i64 4] 63)).cell? ⟨W.heap.size, j, none⟩ = #[.int .i64 5, .int .i64 9, .int .i64 (-3), .int .i64 2, .int .i64 2, .int .i64 4][j]? := fun j => World.cell?_alloc_mark W _ 63 (0, 0) j
  have := B.normal_by (fun rs p => find rs (min p.2 (1099511627776 - 1)) + 1 = rs.length) (fun W Bs bm v rs p h hg h0 h1 h2 => setB_end W Bs bm v rs p h hg h0 h1 h2) (some ⟨W.heap.size, 0, none⟩) 3 3 three (W.alloc (.cells #[.int .i64 5, .int .i64 9, .int .i64 (-3), .int .i64 2, .int .i64 2, .int .i64 4] 63)) rfl (by decide)
    (fun k p hk => ⟨W.heap.size, 0, rfl, by
      match k, hk with
      | 0, hk => simp at hk; subst hk; exact ⟨hc 0, hc 1⟩
      | 1, hk => simp at hk; subst hk; exact ⟨hc 2, hc 3⟩
      | 2, hk => simp at hk; subst hk; exact ⟨hc 4, hc 5⟩⟩)
    (fun l' hp hs k p hk => by
      rw [clamps3] at hp
      have e := sorted3 l' hp hs
      subst e
      exact good3 k p hk)
  refine this.mono ?_
  rintro e w' ⟨l', v, rfl, hp, hs, ho, hb⟩
  rw [clamps3] at hp
  have e := sorted3 l' hp hs
  subst e
  rw [lst3] at ho
  obtain ⟨g, c, rfl, hg1, hg2⟩ := owns_some ho (by decide)
  exact ⟨g, c, rfl, ho.cellAt 0 (by decide), ho.cellAt 1 (by decide), ho.cellAt 2 (by decide), ho.cellAt 3 (by decide), hb⟩

theorem below_kept {B : Nat} {w W W' : World} {bm : Nat} {v v' : Value} (h : Below B w W) (k : KeptM W W' bm v v') (hB : B ≤ W.heap.size) (hbm : B ≤ bm) (hv : ∀ g, v.ownBlock = some g → B ≤ g) : Below B w W' :=
  ⟨k.os.trans h.os, k.tape.trans h.tape, k.output.trans h.output, Nat.le_trans h.size k.size, fun i hi => (k.block i (by omega) (by omega) (fun e => by have := hv i e; omega)).trans (h.block i hi)⟩
set_option maxHeartbeats 8000000 in
theorem alive_any (w : World) : Calls Tryz.prog 7 #[] w fun e w' => e = .returned (.bool true) ∧ Below w.heap.size w w' := by
  have HN := new_any 10 1 w (by decide) (by decide)
  rw [rs0] at HN
  have qp : ∀ (w : World) (a : Addr), (binOp .eql 54 (.pointer (some a)) (.pointer none)).run Tryz.prog w = .ok (.bool false) w := fun _ _ => rfl
  have HQ := eqRng
  go_enter Tryz.func7, Tryz.ntmps7
  go_wp2_with (go_at_call 17; refine HN.mono ?_; rintro e w1 ⟨bm, vv, rfl, hMO, hb1⟩)
  have HS1 := set_end hMO 2 5 2 (by decide) (by decide) (by decide) (by decide)
  rw [rs1] at HS1
  have HM1 : Hid (MO w1 w.heap.size bm vv 10 [⟨0, 10, 1⟩] ∧ Below w.heap.size w w1) := ⟨hMO, hb1⟩
  clear HN hMO hb1
  go_wp2_with (first | (go_at_call 5; refine (num_any _ _).mono ?_; rintro e w9 ⟨rfl, hw9⟩; rw [hw9]; clear hw9) | (go_at_call 18; refine HS1.mono ?_; clear HS1; rintro e w2 ⟨rfl, v2, hMO2, hK2⟩))
  have HB2 : Hid (Below w.heap.size w w2) := below_kept HM1.out.2 hK2 HM1.out.2.size HM1.out.1.base (fun g' hg' => (HM1.out.1.row.lt g' hg').1)
  have HS2 := set_end hMO2 4 7 3 (by decide) (by decide) (by decide) (by decide)
  rw [rs2] at HS2
  have HM2 : Hid (MO w2 w.heap.size bm v2 10 [⟨0, 2, 1⟩, ⟨2, 5, 2⟩, ⟨5, 10, 1⟩]) := hMO2
  clear HM1 hMO2 hK2
  go_wp2_with (first | (go_at_call 5; refine (num_any _ _).mono ?_; rintro e w9 ⟨rfl, hw9⟩; rw [hw9]; clear hw9) | (go_at_call 18; refine HS2.mono ?_; clear HS2; rintro e w3 ⟨rfl, v3, hMO3, hK3⟩))
  have HB3 : Hid (Below w.heap.size w w3) := below_kept HB2.out hK3 HB2.out.size HM2.out.base (fun g' hg' => (HM2.out.row.lt g' hg').1)
  obtain ⟨g3, cap3, rfl, hg31, hg32, hcap3, hrm3⟩ := hMO3.rm (by decide)
  have HA := at_any hrm3 4 (by decide) (by decide) ⟨4, 7, 3⟩ (by rfl)
  have HM3 : Hid (MO w3 w.heap.size bm (.slice (some ⟨g3, 0, none⟩) 4 cap3) 10 [⟨0, 2, 1⟩, ⟨2, 4, 2⟩, ⟨4, 7, 3⟩, ⟨7, 10, 1⟩]) := hMO3
  clear HM2 hMO3 hK3 HB2 hrm3
  go_wp2_with (first | (go_at_call 5; refine (num_any _ _).mono ?_; rintro e w9 ⟨rfl, hw9⟩; rw [hw9]; clear hw9) | (go_at_call 19; refine HA.mono ?_; clear HA; rintro e w4 ⟨rfl, hb4⟩) | (go_at_call 20; refine (normal3 _ _ (by simp)).mono ?_; rintro e w5 ⟨g5, c5, rfl, n0, n1, n2, n3, hb5⟩))
  have hb35 : Below w3.heap.size w3 w5 := hb4.trans (((Below.refl _ w4).alloc (Nat.le_refl _) _ |>.mono hb4.size).trans (hb5.mono (by have := hb4.size; simp; omega)))
  have HC := count_any (HM3.out.later hb35)
  have HB5 : Hid (Below w.heap.size w w5) := HB3.out.trans (hb35.mono HB3.out.size)
  clear hb4 hb5 hb35 HM3 HB3
  go_wp2_with (go_at_call 21; refine HC.mono ?_; clear HC; rintro e w9 ⟨rfl, hw9⟩; rw [hw9]; clear hw9)
  go_ret
  exact ⟨rfl, HB5.out⟩
end Go.Proofs.YtncajaihojhkkaaGreat.I
