import Derived.Test.YtefgdhoapmikhaaDoorRpL
import Derived.Test.YtefgdhoapmikhaaDoorRpI
namespace Go.Proofs.YtefgdhoapmikhaaDoor
open Go.RowKit
set_option linter.unusedVariables false
set_option linter.unusedSimpArgs false
set_option maxRecDepth 100000
def ThrC (b : Nat) (c0 c1 c2 c3 c4 c5 c6 c7 c8 c9 c10 c11 c12 c13 c14 : Value) (w : World) : Prop := w.cell? ⟨b, 0, none⟩ = some c0 ∧ w.cell? ⟨b, 1, none⟩ = some c1 ∧ w.cell? ⟨b, 2, none⟩ = some c2 ∧ w.cell? ⟨b, 3, none⟩ = some c3 ∧ w.cell? ⟨b + 1, 0, none⟩ = some c4 ∧ w.cell? ⟨b + 1, 1, none⟩ = some c5 ∧ w.cell? ⟨b + 1, 2, none⟩ = some c6 ∧ w.cell? ⟨b + 1, 3, none⟩ = some c7 ∧ w.cell? ⟨b + 1, 4, none⟩ = some c8 ∧ w.cell? ⟨b + 1, 5, none⟩ = some c9 ∧ w.cell? ⟨b + 1 + 1, 0, none⟩ = some c10 ∧ w.cell? ⟨b + 1 + 1, 1, none⟩ = some c11 ∧ w.cell? ⟨b + 1 + 1, 2, none⟩ = some c12 ∧ w.cell? ⟨b + 1 + 1, 3, none⟩ = some c13 ∧ w.cell? ⟨b + 1 + 1, 4, none⟩ = some c14
theorem thrC_of {w W : World} {c0 c1 c2 c3 c4 c5 c6 c7 c8 c9 c10 c11 c12 c13 c14 : Value} {t t' t'' : TypeId} (h : Bx3 w W #[c0, c1, c2, c3] #[c4, c5, c6, c7, c8, c9] #[c10, c11, c12, c13, c14] t t' t'') : ThrC w.heap.size c0 c1 c2 c3 c4 c5 c6 c7 c8 c9 c10 c11 c12 c13 c14 W := by
  unfold ThrC
  simp [blk_at h.a, blk_at h.b, blk_at h.c]
set_option maxHeartbeats 2000000 in
theorem replyFits_any (ix : Int) (st ex : Bool) (co : Option Addr) (cn cc : Nat) (fl ty ck off len : Nat) (d : Value) (cd : Nat) (pl : Bool) (at_ : Nat) (po : Option Addr) (pc : Nat) (P : List Pc) (lo : Option Addr) (lc : Nat) (L : List Ls) (w : World)
    (hcn : cn ≤ 1048576) (hty : ty < 65536) (hP : PRow w po P) (hL : LRow w lo L) (h1 : off < 18446744073709551616) (h2 : len < 18446744073709551616) (h3 : at_ < 18446744073709551616) (h4 : cd < 4294967296) :
    Calls Tryd.prog 3 #[.agg #[.int .i64 ix, .bool st, .bool ex, .slice co cn cc], .agg #[.int .u16 (fl : Int), .int .u16 (ty : Int), .int .u64 (ck : Int), .int .u64 (off : Int), .int .u64 (len : Int), d], .agg #[.int .u32 (cd : Int), .bool pl, .int .u64 (at_ : Int), .slice po P.length pc, .slice lo L.length lc]] w fun e w' => e = .returned (.bool true) ∧ Below w.heap.size w w' := by
  have H1 : Hid (∀ W, Below w.heap.size w W → Calls Tryd.prog 10 #[.agg #[.int .i64 ix, .bool st, .bool ex, .slice co cn cc], .agg #[.int .u16 (fl : Int), .int .u16 (ty : Int), .int .u64 (ck : Int), .int .u64 (off : Int), .int .u64 (len : Int), d], .agg #[.int .u32 (cd : Int), .bool pl, .int .u64 (at_ : Int), .slice po P.length pc, .slice lo L.length lc]] W fun e w' => e = .returned (.int .i64 (eFit (fitB12 st ex cn ty off len cd pl at_ P L))) ∧ Below W.heap.size W w') := fun W hb => Fits_any ix st ex co cn cc fl ty ck off len d cd pl at_ po pc P lo lc L W hcn hty (hP.later hb) (hL.later hb) h1 h2 h3 h4
  have H2 : Hid (∀ W, Below w.heap.size w W → Calls Tryd.prog 11 #[.agg #[.int .i64 ix, .bool st, .bool ex, .slice co cn cc], .agg #[.int .u16 (fl : Int), .int .u16 (ty : Int), .int .u64 (ck : Int), .int .u64 (off : Int), .int .u64 (len : Int), d], .agg #[.int .u32 (cd : Int), .bool pl, .int .u64 (at_ : Int), .slice po P.length pc, .slice lo L.length lc]] W fun e w' => e = .returned (.int .i64 (eFit (fitB12 st ex cn ty off len cd pl at_ P L))) ∧ Below W.heap.size W w') := fun W hb => rFits_any ix st ex co cn cc fl ty ck off len d cd pl at_ po pc P lo lc L W hcn hty (hP.later hb) (hL.later hb) h1 h2 h3 h4
  have H3 : Hid (∀ W, Calls Tryd.prog 12 #[.agg #[.int .i64 ix, .bool st, .bool ex, .slice co cn cc], .agg #[.int .u16 (fl : Int), .int .u16 (ty : Int), .int .u64 (ck : Int), .int .u64 (off : Int), .int .u64 (len : Int), d]] W fun e w' => e = .returned (.bool (strB st ex ty)) ∧ Below W.heap.size W w') := fun W => struct_any ix st ex _ fl ty ck off len d W hty
  have H4 : Hid (∀ W, Calls Tryd.prog 13 #[.agg #[.int .i64 ix, .bool st, .bool ex, .slice co cn cc], .agg #[.int .u16 (fl : Int), .int .u16 (ty : Int), .int .u64 (ck : Int), .int .u64 (off : Int), .int .u64 (len : Int), d]] W fun e w' => e = .returned (.bool (strB st ex ty)) ∧ Below W.heap.size W w') := fun W => rstruct_any ix st ex _ fl ty ck off len d W hty
  have H5 : Hid (∀ W, Calls Tryd.prog 14 #[] W fun e w' => e = .returned (.bool true) ∧ Below W.heap.size W w') := alive_any
  have HNm : Hid (∀ e W, Calls Tryd.prog 9 #[.int .i64 e] W fun r w' => r = .returned (.int .i64 e) ∧ w' = W) := num_any
  clear hP hL hcn hty h1 h2 h3 h4
  generalize eFit (fitB12 st ex cn ty off len cd pl at_ P L) = E at *
  generalize strB st ex ty = B at *
  generalize P.length = pn at *
  generalize L.length = ln at *
  have f0 : (E == E) = true := by simp
  have f1 : (B == B) = true := by cases B <;> rfl
  go_enter Tryd.func3, Tryd.ntmps3
  go_wp2_with fail
  have hx : Bx3 w (((w.alloc (Obj.cells #[.int .i64 ix, .bool st, .bool ex, .slice co cn cc] 24)).alloc (Obj.cells #[.int .u16 (fl : Int), .int .u16 (ty : Int), .int .u64 (ck : Int), .int .u64 (off : Int), .int .u64 (len : Int), d] 29)).alloc (Obj.cells #[.int .u32 (cd : Int), .bool pl, .int .u64 (at_ : Int), .slice po pn pc, .slice lo ln lc] 34)) #[.int .i64 ix, .bool st, .bool ex, .slice co cn cc] #[.int .u16 (fl : Int), .int .u16 (ty : Int), .int .u64 (ck : Int), .int .u64 (off : Int), .int .u64 (len : Int), d] #[.int .u32 (cd : Int), .bool pl, .int .u64 (at_ : Int), .slice po pn pc, .slice lo ln lc] 24 29 34 := mkb3 w _ _ _ _ _ _
  generalize (((w.alloc (Obj.cells #[.int .i64 ix, .bool st, .bool ex, .slice co cn cc] 24)).alloc (Obj.cells #[.int .u16 (fl : Int), .int .u16 (ty : Int), .int .u64 (ck : Int), .int .u64 (off : Int), .int .u64 (len : Int), d] 29)).alloc (Obj.cells #[.int .u32 (cd : Int), .bool pl, .int .u64 (at_ : Int), .slice po pn pc, .slice lo ln lc] 34)) = W0 at *
  have X0 : Hid (Bx3 w W0.drew #[.int .i64 ix, .bool st, .bool ex, .slice co cn cc] #[.int .u16 (fl : Int), .int .u16 (ty : Int), .int .u64 (ck : Int), .int .u64 (off : Int), .int .u64 (len : Int), d] #[.int .u32 (cd : Int), .bool pl, .int .u64 (at_ : Int), .slice po pn pc, .slice lo ln lc] 24 29 34) := hx.later (below_drewN W0 1)
  have hs0 := thrC_of X0.out
  unfold ThrC at hs0
  clear hx
  go_region_held3 (fun w' => w'.cell? ⟨w.heap.size, 0, none⟩ = some (.int .i64 ix) ∧ w'.cell? ⟨w.heap.size, 1, none⟩ = some (.bool st) ∧ w'.cell? ⟨w.heap.size, 2, none⟩ = some (.bool ex) ∧ w'.cell? ⟨w.heap.size, 3, none⟩ = some (.slice co cn cc) ∧ w'.cell? ⟨w.heap.size + 1, 0, none⟩ = some (.int .u16 (fl : Int)) ∧ w'.cell? ⟨w.heap.size + 1, 1, none⟩ = some (.int .u16 (ty : Int)) ∧ w'.cell? ⟨w.heap.size + 1, 2, none⟩ = some (.int .u64 (ck : Int)) ∧ w'.cell? ⟨w.heap.size + 1, 3, none⟩ = some (.int .u64 (off : Int)) ∧ w'.cell? ⟨w.heap.size + 1, 4, none⟩ = some (.int .u64 (len : Int)) ∧ w'.cell? ⟨w.heap.size + 1, 5, none⟩ = some (d) ∧ w'.cell? ⟨w.heap.size + 1 + 1, 0, none⟩ = some (.int .u32 (cd : Int)) ∧ w'.cell? ⟨w.heap.size + 1 + 1, 1, none⟩ = some (.bool pl) ∧ w'.cell? ⟨w.heap.size + 1 + 1, 2, none⟩ = some (.int .u64 (at_ : Int)) ∧ w'.cell? ⟨w.heap.size + 1 + 1, 3, none⟩ = some (.slice po pn pc) ∧ w'.cell? ⟨w.heap.size + 1 + 1, 4, none⟩ = some (.slice lo ln lc)) (first | exact hs0 | exact hs1 | exact hs3 | exact hs4 | exact hs5 | exact hs6 | go_keep) (first
    | (go_at_call 10; refine (H1.out _ X0.out.bel).mono ?_; rintro e W1 ⟨rfl, hb⟩; have X1 : Hid (Bx3 w W1 #[.int .i64 ix, .bool st, .bool ex, .slice co cn cc] #[.int .u16 (fl : Int), .int .u16 (ty : Int), .int .u64 (ck : Int), .int .u64 (off : Int), .int .u64 (len : Int), d] #[.int .u32 (cd : Int), .bool pl, .int .u64 (at_ : Int), .slice po pn pc, .slice lo ln lc] 24 29 34) := X0.out.later hb; have hs1 := thrC_of X1.out; unfold ThrC at hs1; clear hb)
    | (go_at_call 9; refine (HNm.out _ _).mono ?_; rintro e W2 ⟨rfl, hw⟩; rw [hw]; clear hw)
    | (go_at_call 11; refine (H2.out _ X1.out.bel).mono ?_; rintro e W3 ⟨rfl, hb⟩; have X3 : Hid (Bx3 w W3 #[.int .i64 ix, .bool st, .bool ex, .slice co cn cc] #[.int .u16 (fl : Int), .int .u16 (ty : Int), .int .u64 (ck : Int), .int .u64 (off : Int), .int .u64 (len : Int), d] #[.int .u32 (cd : Int), .bool pl, .int .u64 (at_ : Int), .slice po pn pc, .slice lo ln lc] 24 29 34) := X1.out.later hb; have hs3 := thrC_of X3.out; unfold ThrC at hs3; clear hb)
    | (go_at_call 12; refine (H3.out _).mono ?_; rintro e W4 ⟨rfl, hb⟩; have X4 : Hid (Bx3 w W4 #[.int .i64 ix, .bool st, .bool ex, .slice co cn cc] #[.int .u16 (fl : Int), .int .u16 (ty : Int), .int .u64 (ck : Int), .int .u64 (off : Int), .int .u64 (len : Int), d] #[.int .u32 (cd : Int), .bool pl, .int .u64 (at_ : Int), .slice po pn pc, .slice lo ln lc] 24 29 34) := X3.out.later hb; have hs4 := thrC_of X4.out; unfold ThrC at hs4; clear hb)
    | (go_at_call 13; refine (H4.out _).mono ?_; rintro e W5 ⟨rfl, hb⟩; have X5 : Hid (Bx3 w W5 #[.int .i64 ix, .bool st, .bool ex, .slice co cn cc] #[.int .u16 (fl : Int), .int .u16 (ty : Int), .int .u64 (ck : Int), .int .u64 (off : Int), .int .u64 (len : Int), d] #[.int .u32 (cd : Int), .bool pl, .int .u64 (at_ : Int), .slice po pn pc, .slice lo ln lc] 24 29 34) := X4.out.later hb; have hs5 := thrC_of X5.out; unfold ThrC at hs5; clear hb)
    | (go_at_call 14; refine (H5.out _).mono ?_; rintro e W6 ⟨rfl, hb⟩; have X6 : Hid (Bx3 w W6 #[.int .i64 ix, .bool st, .bool ex, .slice co cn cc] #[.int .u16 (fl : Int), .int .u16 (ty : Int), .int .u64 (ck : Int), .int .u64 (off : Int), .int .u64 (len : Int), d] #[.int .u32 (cd : Int), .bool pl, .int .u64 (at_ : Int), .slice po pn pc, .slice lo ln lc] 24 29 34) := X5.out.later hb; have hs6 := thrC_of X6.out; unfold ThrC at hs6; clear hb))
  all_goals
    go_wp2
    go_ret
    exact ⟨rfl, X6.out.bel⟩
end Go.Proofs.YtefgdhoapmikhaaDoor
