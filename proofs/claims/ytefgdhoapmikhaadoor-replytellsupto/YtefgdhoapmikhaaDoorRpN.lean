import Derived.Test.YtefgdhoapmikhaaDoorRpQ
namespace Go.Proofs.YtefgdhoapmikhaaDoor
open Go.RowKit
set_option linter.unusedVariables false
set_option linter.unusedSimpArgs false
set_option maxRecDepth 100000
set_option maxHeartbeats 2000000 in
theorem chunks_read (ix : Int) (st ex : Bool) (co : Option Addr) (cn cc : Nat) (fl ty ck off len : Nat) (d : Value) (cd : Nat) (pl : Bool) (at_ : Nat) (po : Option Addr) (pn pc : Nat) (lo : Option Addr) (ln lc : Nat) (w : World) (S : List Say) (hS : 0 < S.length) (hS2 : S.length ≤ 1048576) (hcd : cd = 0) (hty : ty = 0) (hlen : 0 < len)
    (HRd : Hid (∀ W, Below w.heap.size w W → Calls Tryd.prog 71 #[.agg #[.int .i64 ix, .bool st, .bool ex, .slice co cn cc, .int .u16 (fl : Int), .int .u16 (ty : Int), .int .u64 (ck : Int), .int .u64 (off : Int), .int .u64 (len : Int), d, .int .u32 (cd : Int), .bool pl, .int .u64 (at_ : Int), .slice po pn pc, .slice lo ln lc]] W fun e w' => ∃ v L, e = .returned v ∧ Cks W w' v L ∧ L.map Ck.say = S ∧ Below W.heap.size W w')) :
    Calls Tryd.prog 41 #[.agg #[.int .i64 ix, .bool st, .bool ex, .slice co cn cc, .int .u16 (fl : Int), .int .u16 (ty : Int), .int .u64 (ck : Int), .int .u64 (off : Int), .int .u64 (len : Int), d, .int .u32 (cd : Int), .bool pl, .int .u64 (at_ : Int), .slice po pn pc, .slice lo ln lc]] w fun e w' => ∃ g cap L, e = .returned (.slice (some ⟨g, 0, none⟩) L.length cap) ∧ Cks w w' (.slice (some ⟨g, 0, none⟩) L.length cap) L ∧ L.map Ck.say = doneS S ∧ Below w.heap.size w w' := by
  have f1 : ((cd : Int) != 0) = false := by rw [bne_eq_false_iff_eq]; omega
  have f2 : ((ty : Int) == 0) = true := by rw [beq_iff_eq]; omega
  have f3 : decide ((0 : Int) < (len : Int)) = true := by simp; omega
  clear hcd hty
  go_enter Tryd.func41, Tryd.ntmps41
  go_wp2_with fail
  have hx := mkb1 w #[.int .i64 ix, .bool st, .bool ex, .slice co cn cc, .int .u16 (fl : Int), .int .u16 (ty : Int), .int .u64 (ck : Int), .int .u64 (off : Int), .int .u64 (len : Int), d, .int .u32 (cd : Int), .bool pl, .int .u64 (at_ : Int), .slice po pn pc, .slice lo ln lc] 105
  generalize w.alloc (Obj.cells #[.int .i64 ix, .bool st, .bool ex, .slice co cn cc, .int .u16 (fl : Int), .int .u16 (ty : Int), .int .u64 (ck : Int), .int .u64 (off : Int), .int .u64 (len : Int), d, .int .u32 (cd : Int), .bool pl, .int .u64 (at_ : Int), .slice po pn pc, .slice lo ln lc] 105) = W0 at *
  refine (HRd.out _ hx.bel).mono ?_
  rintro e W1 ⟨v, L, rfl, hck, hsay, hbe⟩
  have hl : L.length = S.length := by rw [← hsay, List.length_map]
  have hck' : Cks w W1 v L := ⟨owns_monoK hck.own hx.bel.size, fun c hc => ⟨owns_mono (hck.dat c hc).1 hx.bel.size, (hck.dat c hc).2⟩⟩
  obtain ⟨g, cap, rfl, hg1, hg2, hg3, hg4, hg5, u, hg6⟩ := cks_form hck' (by omega)
  generalize hk : L.length = k at *
  have HK : Hid (L.length = k) := hk
  have HC : Hid (Cks w W1 (.slice (some ⟨g, 0, none⟩) k cap) L ∧ L.map Ck.say = S ∧ Below w.heap.size w W1) := ⟨hck', hsay, (hx.later hbe).bel⟩
  clear hck hck' hsay hbe hx HRd hk
  have hk0 : 0 < k := by omega
  have hk1 : k ≤ 1048576 := by omega
  have a1 : IntKind.i64.wrap ((k : Int) - 1) = ((k - 1 : Nat) : Int) := by rw [IntKind.wrap_i64]; omega
  have a2 : ((k : Int) - 1) = ((k - 1 : Nat) : Int) := by omega
  clear hl hS hS2
  go_wp2
  go_ret
  refine ⟨g, cap, doneK L, by rw [doneK_len, HK.out]; rfl, ?_, by rw [doneK_say, HC.out.2.1], HC.out.2.2.setCell hg1 _⟩
  rw [doneK_len, HK.out]
  exact HC.out.1.done HK.out hk0
set_option maxHeartbeats 2000000 in
theorem refusal_ok (ix : Int) (st ex : Bool) (co : Option Addr) (cn cc : Nat) (fl ty ck off len : Nat) (d : Value) (cd : Nat) (pl : Bool) (at_ : Nat) (po : Option Addr) (pn pc : Nat) (lo : Option Addr) (ln lc : Nat) (w : World) (B : Bool) (HF : Hid (∀ W, Below w.heap.size w W → Calls Tryd.prog 10 #[.agg #[.int .i64 ix, .bool st, .bool ex, .slice co cn cc], .agg #[.int .u16 (fl : Int), .int .u16 (ty : Int), .int .u64 (ck : Int), .int .u64 (off : Int), .int .u64 (len : Int), d], .agg #[.int .u32 (cd : Int), .bool pl, .int .u64 (at_ : Int), .slice po pn pc, .slice lo ln lc]] W fun e w' => e = .returned (.int .i64 0) ∧ Below W.heap.size W w')) (hty : ty < 65536) (hs : strB st ex ty = B) :
    Calls Tryd.prog 36 #[.agg #[.int .i64 ix, .bool st, .bool ex, .slice co cn cc], .agg #[.int .u16 (fl : Int), .int .u16 (ty : Int), .int .u64 (ck : Int), .int .u64 (off : Int), .int .u64 (len : Int), d], .agg #[.int .u32 (cd : Int), .bool pl, .int .u64 (at_ : Int), .slice po pn pc, .slice lo ln lc], .bool B] w fun e w' => e = .returned (.int .i64 0) ∧ Below w.heap.size w w' := by
  have HST : Hid (∀ W, Calls Tryd.prog 12 #[.agg #[.int .i64 ix, .bool st, .bool ex, .slice co cn cc], .agg #[.int .u16 (fl : Int), .int .u16 (ty : Int), .int .u64 (ck : Int), .int .u64 (off : Int), .int .u64 (len : Int), d]] W fun e w' => e = .returned (.bool B) ∧ Below W.heap.size W w') := fun W => hs ▸ struct_any ix st ex _ fl ty ck off len d W hty
  clear hs
  have f0 : (B != B) = false := by cases B <;> rfl
  go_enter Tryd.func36, Tryd.ntmps36
  go_wp2_with fail
  have hx := mkb3 w #[.int .i64 ix, .bool st, .bool ex, .slice co cn cc] #[.int .u16 (fl : Int), .int .u16 (ty : Int), .int .u64 (ck : Int), .int .u64 (off : Int), .int .u64 (len : Int), d] #[.int .u32 (cd : Int), .bool pl, .int .u64 (at_ : Int), .slice po pn pc, .slice lo ln lc] 24 29 34
  generalize (((w.alloc (Obj.cells #[.int .i64 ix, .bool st, .bool ex, .slice co cn cc] 24)).alloc (Obj.cells #[.int .u16 (fl : Int), .int .u16 (ty : Int), .int .u64 (ck : Int), .int .u64 (off : Int), .int .u64 (len : Int), d] 29)).alloc (Obj.cells #[.int .u32 (cd : Int), .bool pl, .int .u64 (at_ : Int), .slice po pn pc, .slice lo ln lc] 34)) = W0 at *
  refine (HF.out _ hx.bel).mono ?_
  rintro e W1 ⟨rfl, hbe⟩
  have hy := hx.later hbe
  have za0 : W1.cell? ⟨w.heap.size, 0, none⟩ = some (.int .i64 ix) := by rw [blk_at hy.a]; rfl
  have za1 : W1.cell? ⟨w.heap.size, 1, none⟩ = some (.bool st) := by rw [blk_at hy.a]; rfl
  have za2 : W1.cell? ⟨w.heap.size, 2, none⟩ = some (.bool ex) := by rw [blk_at hy.a]; rfl
  have za3 : W1.cell? ⟨w.heap.size, 3, none⟩ = some (.slice co cn cc) := by rw [blk_at hy.a]; rfl
  have zb0 : W1.cell? ⟨w.heap.size + 1, 0, none⟩ = some (.int .u16 (fl : Int)) := by rw [blk_at hy.b]; rfl
  have zb1 : W1.cell? ⟨w.heap.size + 1, 1, none⟩ = some (.int .u16 (ty : Int)) := by rw [blk_at hy.b]; rfl
  have zb2 : W1.cell? ⟨w.heap.size + 1, 2, none⟩ = some (.int .u64 (ck : Int)) := by rw [blk_at hy.b]; rfl
  have zb3 : W1.cell? ⟨w.heap.size + 1, 3, none⟩ = some (.int .u64 (off : Int)) := by rw [blk_at hy.b]; rfl
  have zb4 : W1.cell? ⟨w.heap.size + 1, 4, none⟩ = some (.int .u64 (len : Int)) := by rw [blk_at hy.b]; rfl
  have zb5 : W1.cell? ⟨w.heap.size + 1, 5, none⟩ = some (d) := by rw [blk_at hy.b]; rfl
  have zc0 : W1.cell? ⟨w.heap.size + 1 + 1, 0, none⟩ = some (.int .u32 (cd : Int)) := by rw [blk_at hy.c]; rfl
  have zc1 : W1.cell? ⟨w.heap.size + 1 + 1, 1, none⟩ = some (.bool pl) := by rw [blk_at hy.c]; rfl
  have zc2 : W1.cell? ⟨w.heap.size + 1 + 1, 2, none⟩ = some (.int .u64 (at_ : Int)) := by rw [blk_at hy.c]; rfl
  have zc3 : W1.cell? ⟨w.heap.size + 1 + 1, 3, none⟩ = some (.slice po pn pc) := by rw [blk_at hy.c]; rfl
  have zc4 : W1.cell? ⟨w.heap.size + 1 + 1, 4, none⟩ = some (.slice lo ln lc) := by rw [blk_at hy.c]; rfl
  have HB : Hid (Bx3 w W1 #[.int .i64 ix, .bool st, .bool ex, .slice co cn cc] #[.int .u16 (fl : Int), .int .u16 (ty : Int), .int .u64 (ck : Int), .int .u64 (off : Int), .int .u64 (len : Int), d] #[.int .u32 (cd : Int), .bool pl, .int .u64 (at_ : Int), .slice po pn pc, .slice lo ln lc] 24 29 34) := hy
  clear hbe hx hy HF
  go_wp2_with fail
  refine (HST.out _).mono ?_
  rintro e W2 ⟨rfl, hbe⟩
  have HB2 : Hid (Below w.heap.size w W2) := (HB.out.later hbe).bel
  clear hbe HST
  go_wp2
  go_ret
  exact ⟨rfl, HB2.out⟩
set_option maxHeartbeats 2000000 in
theorem Chunks_ok (ix : Int) (st ex : Bool) (co : Option Addr) (cn cc : Nat) (fl ty ck off len : Nat) (d : Value) (cd : Nat) (pl : Bool) (at_ : Nat) (po : Option Addr) (pn pc : Nat) (lo : Option Addr) (ln lc : Nat) (w : World) (S : List Say) (HF : Hid (∀ W, Below w.heap.size w W → Calls Tryd.prog 10 #[.agg #[.int .i64 ix, .bool st, .bool ex, .slice co cn cc], .agg #[.int .u16 (fl : Int), .int .u16 (ty : Int), .int .u64 (ck : Int), .int .u64 (off : Int), .int .u64 (len : Int), d], .agg #[.int .u32 (cd : Int), .bool pl, .int .u64 (at_ : Int), .slice po pn pc, .slice lo ln lc]] W fun e w' => e = .returned (.int .i64 0) ∧ Below W.heap.size W w')) (hty : ty < 65536) (hs : strB st ex ty = true)
    (HC : Hid (∀ W, Below w.heap.size w W → Calls Tryd.prog 41 #[.agg #[.int .i64 ix, .bool st, .bool ex, .slice co cn cc, .int .u16 (fl : Int), .int .u16 (ty : Int), .int .u64 (ck : Int), .int .u64 (off : Int), .int .u64 (len : Int), d, .int .u32 (cd : Int), .bool pl, .int .u64 (at_ : Int), .slice po pn pc, .slice lo ln lc]] W fun e w' => ∃ g cap L, e = .returned (.slice (some ⟨g, 0, none⟩) L.length cap) ∧ Cks W w' (.slice (some ⟨g, 0, none⟩) L.length cap) L ∧ L.map Ck.say = S ∧ Below W.heap.size W w')) :
    Calls Tryd.prog 19 #[.agg #[.int .i64 ix, .bool st, .bool ex, .slice co cn cc], .agg #[.int .u16 (fl : Int), .int .u16 (ty : Int), .int .u64 (ck : Int), .int .u64 (off : Int), .int .u64 (len : Int), d], .agg #[.int .u32 (cd : Int), .bool pl, .int .u64 (at_ : Int), .slice po pn pc, .slice lo ln lc]] w fun e w' => ∃ g cap L, e = .returned (.tuple #[.slice (some ⟨g, 0, none⟩) L.length cap, .int .i64 0]) ∧ Cks w w' (.slice (some ⟨g, 0, none⟩) L.length cap) L ∧ L.map Ck.say = S ∧ Below w.heap.size w w' := by
  have HRf : Hid (∀ W, Below w.heap.size w W → Calls Tryd.prog 36 #[.agg #[.int .i64 ix, .bool st, .bool ex, .slice co cn cc], .agg #[.int .u16 (fl : Int), .int .u16 (ty : Int), .int .u64 (ck : Int), .int .u64 (off : Int), .int .u64 (len : Int), d], .agg #[.int .u32 (cd : Int), .bool pl, .int .u64 (at_ : Int), .slice po pn pc, .slice lo ln lc], .bool true] W fun e w' => e = .returned (.int .i64 0) ∧ Below W.heap.size W w') := fun W hb => refusal_ok ix st ex co cn cc fl ty ck off len d cd pl at_ po pn pc lo ln lc W true (fun W' hb' => HF.out W' (hb.trans (hb'.mono hb.size))) hty hs
  clear hs HF
  go_enter Tryd.func19, Tryd.ntmps19
  go_wp2_with fail
  have hx := mkb3 w #[.int .i64 ix, .bool st, .bool ex, .slice co cn cc] #[.int .u16 (fl : Int), .int .u16 (ty : Int), .int .u64 (ck : Int), .int .u64 (off : Int), .int .u64 (len : Int), d] #[.int .u32 (cd : Int), .bool pl, .int .u64 (at_ : Int), .slice po pn pc, .slice lo ln lc] 24 29 34
  generalize (((w.alloc (Obj.cells #[.int .i64 ix, .bool st, .bool ex, .slice co cn cc] 24)).alloc (Obj.cells #[.int .u16 (fl : Int), .int .u16 (ty : Int), .int .u64 (ck : Int), .int .u64 (off : Int), .int .u64 (len : Int), d] 29)).alloc (Obj.cells #[.int .u32 (cd : Int), .bool pl, .int .u64 (at_ : Int), .slice po pn pc, .slice lo ln lc] 34)) = W0 at *
  refine (HRf.out _ hx.bel).mono ?_
  rintro e W1 ⟨rfl, hbe⟩
  have hy := hx.later hbe
  have za0 : W1.cell? ⟨w.heap.size, 0, none⟩ = some (.int .i64 ix) := by rw [blk_at hy.a]; rfl
  have za1 : W1.cell? ⟨w.heap.size, 1, none⟩ = some (.bool st) := by rw [blk_at hy.a]; rfl
  have za2 : W1.cell? ⟨w.heap.size, 2, none⟩ = some (.bool ex) := by rw [blk_at hy.a]; rfl
  have za3 : W1.cell? ⟨w.heap.size, 3, none⟩ = some (.slice co cn cc) := by rw [blk_at hy.a]; rfl
  have zb0 : W1.cell? ⟨w.heap.size + 1, 0, none⟩ = some (.int .u16 (fl : Int)) := by rw [blk_at hy.b]; rfl
  have zb1 : W1.cell? ⟨w.heap.size + 1, 1, none⟩ = some (.int .u16 (ty : Int)) := by rw [blk_at hy.b]; rfl
  have zb2 : W1.cell? ⟨w.heap.size + 1, 2, none⟩ = some (.int .u64 (ck : Int)) := by rw [blk_at hy.b]; rfl
  have zb3 : W1.cell? ⟨w.heap.size + 1, 3, none⟩ = some (.int .u64 (off : Int)) := by rw [blk_at hy.b]; rfl
  have zb4 : W1.cell? ⟨w.heap.size + 1, 4, none⟩ = some (.int .u64 (len : Int)) := by rw [blk_at hy.b]; rfl
  have zb5 : W1.cell? ⟨w.heap.size + 1, 5, none⟩ = some (d) := by rw [blk_at hy.b]; rfl
  have zc0 : W1.cell? ⟨w.heap.size + 1 + 1, 0, none⟩ = some (.int .u32 (cd : Int)) := by rw [blk_at hy.c]; rfl
  have zc1 : W1.cell? ⟨w.heap.size + 1 + 1, 1, none⟩ = some (.bool pl) := by rw [blk_at hy.c]; rfl
  have zc2 : W1.cell? ⟨w.heap.size + 1 + 1, 2, none⟩ = some (.int .u64 (at_ : Int)) := by rw [blk_at hy.c]; rfl
  have zc3 : W1.cell? ⟨w.heap.size + 1 + 1, 3, none⟩ = some (.slice po pn pc) := by rw [blk_at hy.c]; rfl
  have zc4 : W1.cell? ⟨w.heap.size + 1 + 1, 4, none⟩ = some (.slice lo ln lc) := by rw [blk_at hy.c]; rfl
  have HB : Hid (Bx3 w W1 #[.int .i64 ix, .bool st, .bool ex, .slice co cn cc] #[.int .u16 (fl : Int), .int .u16 (ty : Int), .int .u64 (ck : Int), .int .u64 (off : Int), .int .u64 (len : Int), d] #[.int .u32 (cd : Int), .bool pl, .int .u64 (at_ : Int), .slice po pn pc, .slice lo ln lc] 24 29 34) := hy
  clear hbe hx hy HRf
  go_wp2_with fail
  refine (HC.out _ HB.out.bel).mono ?_
  rintro e W2 ⟨g, cap, L, rfl, hck, hsay, hbe⟩
  have hR : Cks w W2 (.slice (some ⟨g, 0, none⟩) L.length cap) L := ⟨owns_monoK hck.own HB.out.bel.size, fun c hc => ⟨owns_mono (hck.dat c hc).1 HB.out.bel.size, (hck.dat c hc).2⟩⟩
  have HR : Hid (Cks w W2 (.slice (some ⟨g, 0, none⟩) L.length cap) L ∧ L.map Ck.say = S ∧ Below w.heap.size w W2) := ⟨hR, hsay, (HB.out.later hbe).bel⟩
  clear hck hsay hbe hR HC
  generalize hk : L.length = k at *
  have HK : Hid (L.length = k) := hk
  clear hk
  go_wp2
  go_ret2
  refine ⟨g, cap, L, by rw [HK.out]; rfl, ?_, HR.out.2.1, HR.out.2.2⟩
  rw [HK.out]; exact HR.out.1
end Go.Proofs.YtefgdhoapmikhaaDoor
