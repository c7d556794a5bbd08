import Derived.Test.YtefgdhoapmikhaaDoorRvS
import Derived.Test.YtefgdhoapmikhaaDoorRvT1
import Derived.Test.YtefgdhoapmikhaaDoorRvT2
import Derived.Test.YtefgdhoapmikhaaDoorRvT3
import Derived.Test.YtefgdhoapmikhaaDoorRvT4
import Derived.Test.YtefgdhoapmikhaaDoorRvT5
namespace Go.Proofs.YtefgdhoapmikhaaDoor
open Go.RowKit
set_option linter.unusedVariables false
set_option linter.unusedSimpArgs false
set_option maxRecDepth 100000
set_option maxHeartbeats 1000000 in
theorem replyFails_zero (ix : Int) (st ex : Bool) (co : Option Addr) (cn cc : Nat) (fl ty ck off len : Nat) (d : Value) (tb : Bool) (by_ : Nat) (w : World) :
    Calls Tryd.prog 6 #[.agg #[.int .i64 ix, .bool st, .bool ex, .slice co cn cc], .agg #[.int .u16 (fl : Int), .int .u16 (ty : Int), .int .u64 (ck : Int), .int .u64 (off : Int), .int .u64 (len : Int), d], .int .u32 0, .bool tb, .int .u32 (by_ : Int)] w fun e w' => e = .returned (.bool true) ∧ Below w.heap.size w w' := by
  have H5 : Hid (∀ W, Calls Tryd.prog 14 #[] W fun e w' => e = .returned (.bool true) ∧ Below W.heap.size W w') := alive_any
  go_enter Tryd.func6, Tryd.ntmps6
  go_wp2_with fail
  have hx : Bx2 w ((w.alloc (Obj.cells #[.int .i64 ix, .bool st, .bool ex, .slice co cn cc] 24)).alloc (Obj.cells #[.int .u16 (fl : Int), .int .u16 (ty : Int), .int .u64 (ck : Int), .int .u64 (off : Int), .int .u64 (len : Int), d] 29)) #[.int .i64 ix, .bool st, .bool ex, .slice co cn cc] #[.int .u16 (fl : Int), .int .u16 (ty : Int), .int .u64 (ck : Int), .int .u64 (off : Int), .int .u64 (len : Int), d] 24 29 := mkb2 w _ _ _ _
  generalize ((w.alloc (Obj.cells #[.int .i64 ix, .bool st, .bool ex, .slice co cn cc] 24)).alloc (Obj.cells #[.int .u16 (fl : Int), .int .u16 (ty : Int), .int .u64 (ck : Int), .int .u64 (off : Int), .int .u64 (len : Int), d] 29)) = W0 at *
  refine (H5.out _).mono ?_
  rintro e W1 ⟨rfl, hb⟩
  have HB : Hid (Below w.heap.size w W1) := (hx.later hb).bel
  clear hx hb H5
  go_wp2
  go_ret
  exact ⟨rfl, HB.out⟩
theorem fails_t (ix : Int) (st ex : Bool) (co : Option Addr) (cn cc : Nat) (fl ty ck off len : Nat) (d : Value) (cd by_ : Nat) (w : World) (hcn : True) (hty : ty < 65536) (hck : ck < 18446744073709551616) (h1 : off < 18446744073709551616) (h2 : len < 18446744073709551616) (h4 : cd < 4294967296) (hcd : cd ≠ 0) (hby : by_ < 4294967296) (hl0 : 0 < len) (ho0 : off ≤ 9223372036854775808) :
    Calls Tryd.prog 6 #[.agg #[.int .i64 ix, .bool st, .bool ex, .slice co cn cc], .agg #[.int .u16 (fl : Int), .int .u16 (ty : Int), .int .u64 (ck : Int), .int .u64 (off : Int), .int .u64 (len : Int), d], .int .u32 (cd : Int), .bool true, .int .u32 (by_ : Int)] w fun e w' => e = .returned (.bool true) ∧ Below w.heap.size w w' := by
  cases ex
  · cases st
    · exact fails_tS1 ix co cn cc fl ty ck off len d cd by_ w hcn hty hck h1 h2 h4 hcd hby hl0 ho0
    · by_cases h0 : ty = 0
      · exact fails_tT2 ix co cn cc fl ty ck off len d cd by_ w hcn hty hck h1 h2 h4 hcd h0 hby hl0 ho0
      · by_cases h7 : ty = 7
        · exact fails_tT3 ix co cn cc fl ty ck off len d cd by_ w hcn hty hck h1 h2 h4 hcd h7 hby hl0 ho0
        · exact fails_tS2 ix co cn cc fl ty ck off len d cd by_ w hcn hty hck h1 h2 h4 hcd h0 h7 hby hl0 ho0
  · exact fails_tT1 ix st co cn cc fl ty ck off len d cd by_ w hcn hty hck h1 h2 h4 hcd hby hl0 ho0
theorem fails_na (ix : Int) (st ex : Bool) (co : Option Addr) (cn cc : Nat) (fl ty ck off len : Nat) (d : Value) (cd by_ : Nat) (w : World) (hcn : True) (hty : ty < 65536) (hck : ck < 18446744073709551616) (h1 : off < 18446744073709551616) (h2 : len < 18446744073709551616) (h4 : cd < 4294967296) (hcd : cd ≠ 0) (hby : by_ < 4294967296) :
    Calls Tryd.prog 6 #[.agg #[.int .i64 ix, .bool st, .bool ex, .slice co cn cc], .agg #[.int .u16 (fl : Int), .int .u16 (ty : Int), .int .u64 (ck : Int), .int .u64 (off : Int), .int .u64 (len : Int), d], .int .u32 (cd : Int), .bool false, .int .u32 (by_ : Int)] w fun e w' => e = .returned (.bool true) ∧ Below w.heap.size w w' := by
  cases ex
  · cases st
    · exact fails_nS1a ix co cn cc fl ty ck off len d cd by_ w hcn hty hck h1 h2 h4 hcd hby
    · by_cases h0 : ty = 0
      · exact fails_nT2a ix co cn cc fl ty ck off len d cd by_ w hcn hty hck h1 h2 h4 hcd h0 hby
      · by_cases h7 : ty = 7
        · exact fails_nT3a ix co cn cc fl ty ck off len d cd by_ w hcn hty hck h1 h2 h4 hcd h7 hby
        · exact fails_nS2a ix co cn cc fl ty ck off len d cd by_ w hcn hty hck h1 h2 h4 hcd h0 h7 hby
  · exact fails_nT1a ix st co cn cc fl ty ck off len d cd by_ w hcn hty hck h1 h2 h4 hcd hby
theorem fails_nb (ix : Int) (st ex : Bool) (co : Option Addr) (cn cc : Nat) (fl ty ck off : Nat) (d : Value) (cd by_ : Nat) (w : World) (hcn : True) (hty : ty < 65536) (hck : ck < 18446744073709551616) (h1 : off < 18446744073709551616) (h4 : cd < 4294967296) (hcd : cd ≠ 0) (hby : by_ < 4294967296) :
    Calls Tryd.prog 6 #[.agg #[.int .i64 ix, .bool st, .bool ex, .slice co cn cc], .agg #[.int .u16 (fl : Int), .int .u16 (ty : Int), .int .u64 (ck : Int), .int .u64 (off : Int), .int .u64 0, d], .int .u32 (cd : Int), .bool true, .int .u32 (by_ : Int)] w fun e w' => e = .returned (.bool true) ∧ Below w.heap.size w w' := by
  cases ex
  · cases st
    · exact fails_nS1b ix co cn cc fl ty ck off d cd by_ w hcn hty hck h1 h4 hcd hby
    · by_cases h0 : ty = 0
      · exact fails_nT2b ix co cn cc fl ty ck off d cd by_ w hcn hty hck h1 h4 hcd h0 hby
      · by_cases h7 : ty = 7
        · exact fails_nT3b ix co cn cc fl ty ck off d cd by_ w hcn hty hck h1 h4 hcd h7 hby
        · exact fails_nS2b ix co cn cc fl ty ck off d cd by_ w hcn hty hck h1 h4 hcd h0 h7 hby
  · exact fails_nT1b ix st co cn cc fl ty ck off d cd by_ w hcn hty hck h1 h4 hcd hby
theorem fails_nc (ix : Int) (st ex : Bool) (co : Option Addr) (cn cc : Nat) (fl ty ck off len : Nat) (d : Value) (cd by_ : Nat) (w : World) (hcn : True) (hty : ty < 65536) (hck : ck < 18446744073709551616) (h1 : off < 18446744073709551616) (h2 : len < 18446744073709551616) (h4 : cd < 4294967296) (hcd : cd ≠ 0) (hby : by_ < 4294967296) (hl0 : 0 < len) (ho0 : 9223372036854775808 < off) :
    Calls Tryd.prog 6 #[.agg #[.int .i64 ix, .bool st, .bool ex, .slice co cn cc], .agg #[.int .u16 (fl : Int), .int .u16 (ty : Int), .int .u64 (ck : Int), .int .u64 (off : Int), .int .u64 (len : Int), d], .int .u32 (cd : Int), .bool true, .int .u32 (by_ : Int)] w fun e w' => e = .returned (.bool true) ∧ Below w.heap.size w w' := by
  cases ex
  · cases st
    · exact fails_nS1c ix co cn cc fl ty ck off len d cd by_ w hcn hty hck h1 h2 h4 hcd hby hl0 ho0
    · by_cases h0 : ty = 0
      · exact fails_nT2c ix co cn cc fl ty ck off len d cd by_ w hcn hty hck h1 h2 h4 hcd h0 hby hl0 ho0
      · by_cases h7 : ty = 7
        · exact fails_nT3c ix co cn cc fl ty ck off len d cd by_ w hcn hty hck h1 h2 h4 hcd h7 hby hl0 ho0
        · exact fails_nS2c ix co cn cc fl ty ck off len d cd by_ w hcn hty hck h1 h2 h4 hcd h0 h7 hby hl0 ho0
  · exact fails_nT1c ix st co cn cc fl ty ck off len d cd by_ w hcn hty hck h1 h2 h4 hcd hby hl0 ho0
theorem replyFails_any (ix : Int) (st ex : Bool) (co : Option Addr) (cn cc : Nat) (fl ty ck off len : Nat) (d : Value) (cd : Nat) (tb : Bool) (by_ : Nat) (w : World) (hcn : True) (hty : ty < 65536) (hck : ck < 18446744073709551616) (h1 : off < 18446744073709551616) (h2 : len < 18446744073709551616) (h4 : cd < 4294967296) (hby : by_ < 4294967296) :
    Calls Tryd.prog 6 #[.agg #[.int .i64 ix, .bool st, .bool ex, .slice co cn cc], .agg #[.int .u16 (fl : Int), .int .u16 (ty : Int), .int .u64 (ck : Int), .int .u64 (off : Int), .int .u64 (len : Int), d], .int .u32 (cd : Int), .bool tb, .int .u32 (by_ : Int)] w fun e w' => e = .returned (.bool true) ∧ Below w.heap.size w w' := by
  by_cases h0 : cd = 0
  · subst h0
    exact replyFails_zero ix st ex co cn cc fl ty ck off len d tb by_ w
  · cases tb
    · exact fails_na ix st ex co cn cc fl ty ck off len d cd by_ w hcn hty hck h1 h2 h4 h0 hby
    · by_cases hl : len = 0
      · subst hl
        exact fails_nb ix st ex co cn cc fl ty ck off d cd by_ w hcn hty hck h1 h4 h0 hby
      · by_cases ho : off ≤ 9223372036854775808
        · exact fails_t ix st ex co cn cc fl ty ck off len d cd by_ w hcn hty hck h1 h2 h4 h0 hby (by omega) ho
        · exact fails_nc ix st ex co cn cc fl ty ck off len d cd by_ w hcn hty hck h1 h2 h4 h0 hby (by omega) (by omega)
end Go.Proofs.YtefgdhoapmikhaaDoor
