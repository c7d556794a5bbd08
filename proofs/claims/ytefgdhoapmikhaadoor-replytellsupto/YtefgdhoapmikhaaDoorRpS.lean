import Derived.Test.YtefgdhoapmikhaaDoorRpY
import Derived.Test.YtefgdhoapmikhaaDoorRpZ
import Derived.Test.YtefgdhoapmikhaaDoorJG
import Derived.Deep.RegionHeld3
namespace Go.Proofs.YtefgdhoapmikhaaDoor
open Go.RowKit
set_option linter.unusedVariables false
set_option linter.unusedSimpArgs false
set_option maxRecDepth 100000
def SimC (b : Nat) (c0 c1 c2 c3 c4 c5 c6 c7 c8 c9 c10 : Value) (w : World) : Prop := w.cell? ⟨b, 0, none⟩ = some c0 ∧ w.cell? ⟨b, 1, none⟩ = some c1 ∧ w.cell? ⟨b, 2, none⟩ = some c2 ∧ w.cell? ⟨b, 3, none⟩ = some c3 ∧ w.cell? ⟨b, 4, none⟩ = some c4 ∧ w.cell? ⟨b, 5, none⟩ = some c5 ∧ w.cell? ⟨b, 6, none⟩ = some c6 ∧ w.cell? ⟨b, 7, none⟩ = some c7 ∧ w.cell? ⟨b, 8, none⟩ = some c8 ∧ w.cell? ⟨b, 9, none⟩ = some c9 ∧ w.cell? ⟨b, 10, none⟩ = some c10
theorem simC_of {w : World} {b : Nat} {c0 c1 c2 c3 c4 c5 c6 c7 c8 c9 c10 : Value} {t : TypeId} (h : w.heap[b]? = some (.cells #[c0, c1, c2, c3, c4, c5, c6, c7, c8, c9, c10] t (0, 0))) : SimC b c0 c1 c2 c3 c4 c5 c6 c7 c8 c9 c10 w := by
  unfold SimC
  simp [blk_at h]
set_option maxHeartbeats 1000000 in
theorem sdata_none (fl ty ck off len : Nat) (d : Value) (cd : Nat) (pl : Bool) (at_ : Nat) (po : Option Addr) (pn pc : Nat) (lo : Option Addr) (ln lc : Nat) (w : World) (hty : ty < 65536) (hcd : cd < 4294967296) (h : ¬ (ty = 0 ∧ cd = 0)) :
    Calls Tryd.prog 38 #[.agg #[.int .u16 (fl : Int), .int .u16 (ty : Int), .int .u64 (ck : Int), .int .u64 (off : Int), .int .u64 (len : Int), d, .int .u32 (cd : Int), .bool pl, .int .u64 (at_ : Int), .slice po pn pc, .slice lo ln lc]] w fun e w' => e = .returned (.slice none 0 0) ∧ Below w.heap.size w w' := by
  go_enter Tryd.func38, Tryd.ntmps38
  by_cases h0 : ty = 0
  · have f1 : ((cd : Int) != 0) = true := by rw [bne_iff_ne]; intro hh; exact h ⟨h0, by omega⟩
    have f2 : ((ty : Int) != 0) = false := by rw [bne_eq_false_iff_eq]; omega
    clear h h0
    go_wp2
    go_ret
    exact ⟨rfl, below1 _ _⟩
  · have f2 : ((ty : Int) != 0) = true := by rw [bne_iff_ne]; omega
    clear h h0
    go_wp2
    go_ret
    exact ⟨rfl, below1 _ _⟩
set_option maxHeartbeats 1000000 in
theorem sdata_read (fl ty ck off len : Nat) (d : Value) (cd : Nat) (pl : Bool) (at_ : Nat) (po : Option Addr) (pc : Nat) (lo : Option Addr) (ln lc : Nat) (P : List Pc) (D : Pc → List Nat) (w : World) (h : PRow w po P) (h1 : off < 18446744073709551616) (h2 : len ≤ 35184372088832) (hp : pieB off len 0 P = true) (hd : ∀ p ∈ P, (D p).length = p.n ∧ BRow w p.ao p.cap (D p)) (hty : ty = 0) (hcd : cd = 0) :
    Calls Tryd.prog 38 #[.agg #[.int .u16 (fl : Int), .int .u16 (ty : Int), .int .u64 (ck : Int), .int .u64 (off : Int), .int .u64 (len : Int), d, .int .u32 (cd : Int), .bool pl, .int .u64 (at_ : Int), .slice po P.length pc, .slice lo ln lc]] w fun e w' => ∃ ad cap, e = .returned (.slice (some ad) len cap) ∧ Row w w' (some ad) cap (rowL D P) := by
  have HG : Hid (∀ W, Below w.heap.size w W → Calls Tryd.prog 69 #[.agg #[.int .u16 (fl : Int), .int .u16 (ty : Int), .int .u64 (ck : Int), .int .u64 (off : Int), .int .u64 (len : Int), d], .slice po P.length pc] W fun e w' => ∃ ad cap, e = .returned (.slice (some ad) len cap) ∧ Row W w' (some ad) cap (rowL D P)) := fun W hb => gather_any fl ty ck off len d po pc P D W (h.later hb) h1 h2 hp (fun p hq => ⟨(hd p hq).1, (hd p hq).2.later hb⟩)
  have f1 : ((cd : Int) != 0) = false := by rw [bne_eq_false_iff_eq]; omega
  have f2 : ((ty : Int) != 0) = false := by rw [bne_eq_false_iff_eq]; omega
  clear hty hcd hd hp h
  generalize P.length = pn at *
  go_enter Tryd.func38, Tryd.ntmps38
  go_wp2_with fail
  have hx := mkb1 w #[.int .u16 (fl : Int), .int .u16 (ty : Int), .int .u64 (ck : Int), .int .u64 (off : Int), .int .u64 (len : Int), d, .int .u32 (cd : Int), .bool pl, .int .u64 (at_ : Int), .slice po pn pc, .slice lo ln lc] 100
  generalize w.alloc (Obj.cells #[.int .u16 (fl : Int), .int .u16 (ty : Int), .int .u64 (ck : Int), .int .u64 (off : Int), .int .u64 (len : Int), d, .int .u32 (cd : Int), .bool pl, .int .u64 (at_ : Int), .slice po pn pc, .slice lo ln lc] 100) = W0 at *
  refine (HG.out _ hx.bel).mono ?_
  rintro e W1 ⟨ao, cap, rfl, hr⟩
  have HR : Hid (Row w W1 (some ao) cap (rowL D P)) := ⟨owns_mono hr.own hx.bel.size, hr.lt, hx.bel.trans (hr.bel.mono hx.bel.size)⟩
  clear hr hx HG
  go_wp2
  go_ret
  exact ⟨_, _, rfl, HR.out⟩
theorem own_thenB {w W1 W2 W3 : World} {ao : Option Addr} {cap : Nat} {l : List Nat} (h1 : Below w.heap.size w W1) (h2 : Row W1 W2 ao cap l) (h3 : Below W2.heap.size W2 W3) : W3.ownsRow w.heap.size 5 1 (.slice ao l.length cap) l.length (l.map bv) :=
  owns_mono (owns_same h2.own (fun g hg => h3.block g (owns_lt h2.own g hg).1)) h1.size
theorem own_then {w W1 W2 W3 : World} {ao a3 : Option Addr} {cap c3 : Nat} {l m : List Nat} (h1 : Below w.heap.size w W1) (h2 : Row W1 W2 ao cap l) (h3 : Row W2 W3 a3 c3 m) : W3.ownsRow w.heap.size 5 1 (.slice ao l.length cap) l.length (l.map bv) := own_thenB h1 h2 h3.bel
theorem app_row {w W3 W4 : World} {v : Value} {ao : Option Addr} {cap : Nat} {l m : List Nat} (h1 : Below w.heap.size w W3) (h2 : W3.ownsRow w.heap.size 5 1 v l.length (l.map bv)) (hl : ∀ x ∈ l, x < 256) (hm : ∀ x ∈ m, x < 256)
    (ho : W4.ownsRow w.heap.size 5 1 (.slice ao (l.length + m.length) cap) (l.length + m.length) (l.map bv ++ m.map bv)) (hg : W3.grownBy W4 v.ownBlock) : Row w W4 ao cap (l ++ m) :=
  ⟨by rw [List.length_append, List.map_append]; exact ho, fun x hx => (List.mem_append.1 hx).elim (hl x) (hm x), h1.grown hg h1.size (fun k hk => (owns_lt h2 k hk).2)⟩
theorem box_grown {W1 W2 W3 W4 : World} {ao : Option Addr} {cap b : Nat} {l : List Nat} {A : Array Value} {t : TypeId} (h2 : Row W1 W2 ao cap l) (hb : b < W1.heap.size) (h3 : W3.heap[b]? = some (.cells A t (0, 0))) (hg : W3.grownBy W4 (Value.slice ao l.length cap).ownBlock) : W4.heap[b]? = some (.cells A t (0, 0)) := by
  rw [hg.block b (block_lt h3) (fun e => by have := (owns_lt h2.own b e.symm).2; omega)]
  exact h3
theorem BRow.news' {w : World} {ad : Addr} {cap : Nat} {l : List Nat} (h : BRow w (some ad) cap l) : ∀ j u, (l.map bv)[j]? = some u → w.cell? (ad.add j) = some u := h.news ad rfl
theorem step_append_none {P : Program} {w : World} {ops : Array Oper} {o : Oper} {a : Act} {K : Act → World → Prop} {Q : Exit → Act → World → Prop} {E : Prop} (hgd : o.guard = none) (s x : Operand) (t : TypeId)
    (ho : o.op = .call { callee := .builtin .append, args := #[s, x], argTypes := #[t, t] })
    (base : Nat) (e : TypeId) (i : TypeInfo) (size : Nat) (ht : P.underlying t = some (.slice e)) (hi : P.info? e = some i)
    (v : Value) (n : Nat) (xs : List Value) (hs : a.eval s = v) (hown : w.ownsRow base e size v n xs) (hx : a.eval x = .slice none 0 0)
    (h : K (a.put o.dst v) w) : if Region.wanted o (yielded ops a.tmps) = true then Oper.wp P o a w K Q else E := by
  have hw : Region.wanted o (yielded ops a.tmps) = true := by simp [Region.wanted, hgd]
  rw [if_pos hw]
  have hrun := run_append_owned_none (P := P) (w := w) base t o.type e i size ht hi v n xs hown
  unfold Oper.wp
  simp [execOp, ho, resolve, invoke, builtin, hs, hx, hrun, Result.andThen]
  exact h
set_option maxHeartbeats 1000000 in
theorem sbytes_none (fl ty ck off len : Nat) (d : Value) (cd : Nat) (pl : Bool) (at_ : Nat) (po : Option Addr) (pn pc : Nat) (lo : Option Addr) (ln lc : Nat) (w : World) (hcd : cd < 4294967296) (hck : ck < 18446744073709551616)
    (HD : Hid (∀ W, Below w.heap.size w W → Calls Tryd.prog 38 #[.agg #[.int .u16 (fl : Int), .int .u16 (ty : Int), .int .u64 (ck : Int), .int .u64 (off : Int), .int .u64 (len : Int), d, .int .u32 (cd : Int), .bool pl, .int .u64 (at_ : Int), .slice po pn pc, .slice lo ln lc]] W fun e w' => e = .returned (.slice none 0 0) ∧ Below W.heap.size W w')) :
    Calls Tryd.prog 141 #[.agg #[.int .u16 (fl : Int), .int .u16 (ty : Int), .int .u64 (ck : Int), .int .u64 (off : Int), .int .u64 (len : Int), d, .int .u32 (cd : Int), .bool pl, .int .u64 (at_ : Int), .slice po pn pc, .slice lo ln lc]] w fun e w' => ∃ ao cap, e = .returned (.slice ao (sL cd ck).length cap) ∧ Row w w' ao cap (sL cd ck) := by
  have HH : Hid (∀ W, Calls Tryd.prog 37 #[.agg #[.int .u16 (fl : Int), .int .u16 (ty : Int), .int .u64 (ck : Int), .int .u64 (off : Int), .int .u64 (len : Int), d, .int .u32 (cd : Int), .bool pl, .int .u64 (at_ : Int), .slice po pn pc, .slice lo ln lc]] W fun e w' => e = .returned (.agg #[.int .u32 (cd : Int), .int .u64 (ck : Int)]) ∧ Below W.heap.size W w') := fun W => head_any fl ty ck off len d cd pl at_ po pn pc lo ln lc W
  have HE : Hid (∀ W, Calls Tryd.prog 142 #[.agg #[.int .u32 (cd : Int), .int .u64 (ck : Int)]] W fun e w' => ∃ ao cap, e = .returned (.slice ao (sL cd ck).length cap) ∧ Row W w' ao cap (sL cd ck)) := fun W => encSimple cd ck W hcd hck
  obtain ⟨i0, hi, hz0, hz1, hz2⟩ := info_parts Tryd.info5
  have hx : Bx1 w (w.alloc (Obj.cells #[.int .u16 (fl : Int), .int .u16 (ty : Int), .int .u64 (ck : Int), .int .u64 (off : Int), .int .u64 (len : Int), d, .int .u32 (cd : Int), .bool pl, .int .u64 (at_ : Int), .slice po pn pc, .slice lo ln lc] 100)) #[.int .u16 (fl : Int), .int .u16 (ty : Int), .int .u64 (ck : Int), .int .u64 (off : Int), .int .u64 (len : Int), d, .int .u32 (cd : Int), .bool pl, .int .u64 (at_ : Int), .slice po pn pc, .slice lo ln lc] 100 := mkb1 w _ _
  obtain ⟨W0, hW0⟩ : ∃ W0, W0 = w.alloc (Obj.cells #[.int .u16 (fl : Int), .int .u16 (ty : Int), .int .u64 (ck : Int), .int .u64 (off : Int), .int .u64 (len : Int), d, .int .u32 (cd : Int), .bool pl, .int .u64 (at_ : Int), .slice po pn pc, .slice lo ln lc] 100) := ⟨_, rfl⟩
  rw [← hW0] at hx
  have HX : Hid (Bx1 w W0.drew #[.int .u16 (fl : Int), .int .u16 (ty : Int), .int .u64 (ck : Int), .int .u64 (off : Int), .int .u64 (len : Int), d, .int .u32 (cd : Int), .bool pl, .int .u64 (at_ : Int), .slice po pn pc, .slice lo ln lc] 100) := hx.later (below_drewN W0 1)
  have hs0 : SimC w.heap.size (.int .u16 (fl : Int)) (.int .u16 (ty : Int)) (.int .u64 (ck : Int)) (.int .u64 (off : Int)) (.int .u64 (len : Int)) (d) (.int .u32 (cd : Int)) (.bool pl) (.int .u64 (at_ : Int)) (.slice po pn pc) (.slice lo ln lc) W0.drew := simC_of HX.out.a
  clear hx
  go_enter Tryd.func141, Tryd.ntmps141
  go_wp2_with fail
  rw [← hW0]
  clear hW0
  unfold SimC at hs0
  go_region_held3 (fun w' => w'.cell? ⟨w.heap.size, 0, none⟩ = some (.int .u16 (fl : Int)) ∧ w'.cell? ⟨w.heap.size, 1, none⟩ = some (.int .u16 (ty : Int)) ∧ w'.cell? ⟨w.heap.size, 2, none⟩ = some (.int .u64 (ck : Int)) ∧ w'.cell? ⟨w.heap.size, 3, none⟩ = some (.int .u64 (off : Int)) ∧ w'.cell? ⟨w.heap.size, 4, none⟩ = some (.int .u64 (len : Int)) ∧ w'.cell? ⟨w.heap.size, 5, none⟩ = some (d) ∧ w'.cell? ⟨w.heap.size, 6, none⟩ = some (.int .u32 (cd : Int)) ∧ w'.cell? ⟨w.heap.size, 7, none⟩ = some (.bool pl) ∧ w'.cell? ⟨w.heap.size, 8, none⟩ = some (.int .u64 (at_ : Int)) ∧ w'.cell? ⟨w.heap.size, 9, none⟩ = some (.slice po pn pc) ∧ w'.cell? ⟨w.heap.size, 10, none⟩ = some (.slice lo ln lc)) (first | exact hs0 | exact hs1 | exact hs2 | exact hs3 | exact hs4 | go_keep) (first
    | (go_at_call 37; refine (HH.out _).mono ?_; rintro e W1 ⟨rfl, hb1⟩; have HX1 : Hid (Bx1 w W1 #[.int .u16 (fl : Int), .int .u16 (ty : Int), .int .u64 (ck : Int), .int .u64 (off : Int), .int .u64 (len : Int), d, .int .u32 (cd : Int), .bool pl, .int .u64 (at_ : Int), .slice po pn pc, .slice lo ln lc] 100) := HX.out.later hb1; have hs1 := simC_of HX1.out.a; unfold SimC at hs1; clear hb1)
    | (go_at_call 142; refine (HE.out _).mono ?_; rintro e W2 ⟨ao2, cap2, rfl, hr2⟩; have HX2 : Hid (Bx1 w W2 #[.int .u16 (fl : Int), .int .u16 (ty : Int), .int .u64 (ck : Int), .int .u64 (off : Int), .int .u64 (len : Int), d, .int .u32 (cd : Int), .bool pl, .int .u64 (at_ : Int), .slice po pn pc, .slice lo ln lc] 100) := HX1.out.later hr2.bel; have HR2 : Hid (Row W1 W2 ao2 cap2 (sL cd ck)) := hr2; have hs2 := simC_of HX2.out.a; unfold SimC at hs2; clear hr2)
    | (go_at_call 38; refine (HD.out _ HX2.out.bel).mono ?_; rintro e W3 ⟨rfl, hr3⟩; have HX3 : Hid (Bx1 w W3 #[.int .u16 (fl : Int), .int .u16 (ty : Int), .int .u64 (ck : Int), .int .u64 (off : Int), .int .u64 (len : Int), d, .int .u32 (cd : Int), .bool pl, .int .u64 (at_ : Int), .slice po pn pc, .slice lo ln lc] 100) := HX2.out.later hr3; have HR3 : Hid (Below W2.heap.size W2 W3) := hr3; have hs3 := simC_of HX3.out.a; unfold SimC at hs3; clear hr3)
    | (refine step_append_none rfl (.tmp 5) (.tmp 7) 27 rfl w.heap.size 5 i0 1 Tryd.underlying27 hi (.slice ao2 (sL cd ck).length cap2) (sL cd ck).length ((sL cd ck).map bv) rfl (own_thenB HX1.out.bel HR2.out HR3.out) rfl ?_))
  all_goals
    go_wp2
    go_ret
    exact ⟨_, _, rfl, own_thenB HX1.out.bel HR2.out HR3.out, HR2.out.lt, HX3.out.bel⟩
set_option maxHeartbeats 1000000 in
theorem sbytes_some (fl ty ck off len : Nat) (d : Value) (cd : Nat) (pl : Bool) (at_ : Nat) (po : Option Addr) (pn pc : Nat) (lo : Option Addr) (ln lc : Nat) (w : World) (L : List Nat) (hcd : cd < 4294967296) (hck : ck < 18446744073709551616)
    (HD : Hid (∀ W, Below w.heap.size w W → Calls Tryd.prog 38 #[.agg #[.int .u16 (fl : Int), .int .u16 (ty : Int), .int .u64 (ck : Int), .int .u64 (off : Int), .int .u64 (len : Int), d, .int .u32 (cd : Int), .bool pl, .int .u64 (at_ : Int), .slice po pn pc, .slice lo ln lc]] W fun e w' => ∃ ad cap, e = .returned (.slice (some ad) L.length cap) ∧ Row W w' (some ad) cap L)) (hl : L.length ≤ 70368744177664) :
    Calls Tryd.prog 141 #[.agg #[.int .u16 (fl : Int), .int .u16 (ty : Int), .int .u64 (ck : Int), .int .u64 (off : Int), .int .u64 (len : Int), d, .int .u32 (cd : Int), .bool pl, .int .u64 (at_ : Int), .slice po pn pc, .slice lo ln lc]] w fun e w' => ∃ ao cap, e = .returned (.slice ao (sL cd ck ++ L).length cap) ∧ Row w w' ao cap (sL cd ck ++ L) := by
  have HH : Hid (∀ W, Calls Tryd.prog 37 #[.agg #[.int .u16 (fl : Int), .int .u16 (ty : Int), .int .u64 (ck : Int), .int .u64 (off : Int), .int .u64 (len : Int), d, .int .u32 (cd : Int), .bool pl, .int .u64 (at_ : Int), .slice po pn pc, .slice lo ln lc]] W fun e w' => e = .returned (.agg #[.int .u32 (cd : Int), .int .u64 (ck : Int)]) ∧ Below W.heap.size W w') := fun W => head_any fl ty ck off len d cd pl at_ po pn pc lo ln lc W
  have HE : Hid (∀ W, Calls Tryd.prog 142 #[.agg #[.int .u32 (cd : Int), .int .u64 (ck : Int)]] W fun e w' => ∃ ao cap, e = .returned (.slice ao (sL cd ck).length cap) ∧ Row W w' ao cap (sL cd ck)) := fun W => encSimple cd ck W hcd hck
  obtain ⟨i0, hi, hz0, hz1, hz2⟩ := info_parts Tryd.info5
  have hx : Bx1 w (w.alloc (Obj.cells #[.int .u16 (fl : Int), .int .u16 (ty : Int), .int .u64 (ck : Int), .int .u64 (off : Int), .int .u64 (len : Int), d, .int .u32 (cd : Int), .bool pl, .int .u64 (at_ : Int), .slice po pn pc, .slice lo ln lc] 100)) #[.int .u16 (fl : Int), .int .u16 (ty : Int), .int .u64 (ck : Int), .int .u64 (off : Int), .int .u64 (len : Int), d, .int .u32 (cd : Int), .bool pl, .int .u64 (at_ : Int), .slice po pn pc, .slice lo ln lc] 100 := mkb1 w _ _
  obtain ⟨W0, hW0⟩ : ∃ W0, W0 = w.alloc (Obj.cells #[.int .u16 (fl : Int), .int .u16 (ty : Int), .int .u64 (ck : Int), .int .u64 (off : Int), .int .u64 (len : Int), d, .int .u32 (cd : Int), .bool pl, .int .u64 (at_ : Int), .slice po pn pc, .slice lo ln lc] 100) := ⟨_, rfl⟩
  rw [← hW0] at hx
  have HX : Hid (Bx1 w W0.drew #[.int .u16 (fl : Int), .int .u16 (ty : Int), .int .u64 (ck : Int), .int .u64 (off : Int), .int .u64 (len : Int), d, .int .u32 (cd : Int), .bool pl, .int .u64 (at_ : Int), .slice po pn pc, .slice lo ln lc] 100) := hx.later (below_drewN W0 1)
  have hs0 : SimC w.heap.size (.int .u16 (fl : Int)) (.int .u16 (ty : Int)) (.int .u64 (ck : Int)) (.int .u64 (off : Int)) (.int .u64 (len : Int)) (d) (.int .u32 (cd : Int)) (.bool pl) (.int .u64 (at_ : Int)) (.slice po pn pc) (.slice lo ln lc) W0.drew := simC_of HX.out.a
  clear hx
  go_enter Tryd.func141, Tryd.ntmps141
  go_wp2_with fail
  rw [← hW0]
  clear hW0
  unfold SimC at hs0
  go_region_held3 (fun w' => w'.cell? ⟨w.heap.size, 0, none⟩ = some (.int .u16 (fl : Int)) ∧ w'.cell? ⟨w.heap.size, 1, none⟩ = some (.int .u16 (ty : Int)) ∧ w'.cell? ⟨w.heap.size, 2, none⟩ = some (.int .u64 (ck : Int)) ∧ w'.cell? ⟨w.heap.size, 3, none⟩ = some (.int .u64 (off : Int)) ∧ w'.cell? ⟨w.heap.size, 4, none⟩ = some (.int .u64 (len : Int)) ∧ w'.cell? ⟨w.heap.size, 5, none⟩ = some (d) ∧ w'.cell? ⟨w.heap.size, 6, none⟩ = some (.int .u32 (cd : Int)) ∧ w'.cell? ⟨w.heap.size, 7, none⟩ = some (.bool pl) ∧ w'.cell? ⟨w.heap.size, 8, none⟩ = some (.int .u64 (at_ : Int)) ∧ w'.cell? ⟨w.heap.size, 9, none⟩ = some (.slice po pn pc) ∧ w'.cell? ⟨w.heap.size, 10, none⟩ = some (.slice lo ln lc)) (first | exact hs0 | exact hs1 | exact hs2 | exact hs3 | exact hs4 | go_keep) (first
    | (go_at_call 37; refine (HH.out _).mono ?_; rintro e W1 ⟨rfl, hb1⟩; have HX1 : Hid (Bx1 w W1 #[.int .u16 (fl : Int), .int .u16 (ty : Int), .int .u64 (ck : Int), .int .u64 (off : Int), .int .u64 (len : Int), d, .int .u32 (cd : Int), .bool pl, .int .u64 (at_ : Int), .slice po pn pc, .slice lo ln lc] 100) := HX.out.later hb1; have hs1 := simC_of HX1.out.a; unfold SimC at hs1; clear hb1)
    | (go_at_call 142; refine (HE.out _).mono ?_; rintro e W2 ⟨ao2, cap2, rfl, hr2⟩; have HX2 : Hid (Bx1 w W2 #[.int .u16 (fl : Int), .int .u16 (ty : Int), .int .u64 (ck : Int), .int .u64 (off : Int), .int .u64 (len : Int), d, .int .u32 (cd : Int), .bool pl, .int .u64 (at_ : Int), .slice po pn pc, .slice lo ln lc] 100) := HX1.out.later hr2.bel; have HR2 : Hid (Row W1 W2 ao2 cap2 (sL cd ck)) := hr2; have hs2 := simC_of HX2.out.a; unfold SimC at hs2; clear hr2)
    | (go_at_call 38; refine (HD.out _ HX2.out.bel).mono ?_; rintro e W3 ⟨ao3, cap3, rfl, hr3⟩; have HX3 : Hid (Bx1 w W3 #[.int .u16 (fl : Int), .int .u16 (ty : Int), .int .u64 (ck : Int), .int .u64 (off : Int), .int .u64 (len : Int), d, .int .u32 (cd : Int), .bool pl, .int .u64 (at_ : Int), .slice po pn pc, .slice lo ln lc] 100) := HX2.out.later hr3.bel; have HR3 : Hid (Row W2 W3 ao3 cap3 L) := hr3; have hs3 := simC_of HX3.out.a; unfold SimC at hs3; clear hr3)
    | (refine step_append_two rfl (.tmp 5) (.tmp 7) 27 rfl w.heap.size 5 i0 (.int .u8 0) 1 Tryd.underlying27 hi hz0 hz1 hz2 rfl (.slice ao2 (sL cd ck).length cap2) (sL cd ck).length ((sL cd ck).map bv) rfl (own_then HX1.out.bel HR2.out HR3.out) ao3 L.length cap3 (L.map bv) rfl (by simp) (HR3.out.brow (by omega)).news' (bv_one L) (by rw [show (sL cd ck).length = 16 by simp [sL, bigTo_length]]; unfold maxLen; omega) (by rw [show (sL cd ck).length = 16 by simp [sL, bigTo_length]]; omega) HX3.out.bel.size ?_; intro ao4 cap4 W4 ho4 hg4 hf4; have hs4 := simC_of (box_grown HR2.out (by have := HX1.out.size; omega) HX3.out.a hg4); unfold SimC at hs4; have HF : Hid (Row w W4 ao4 cap4 (sL cd ck ++ L)) := app_row (HX3.out.bel) (own_then HX1.out.bel HR2.out HR3.out) HR2.out.lt HR3.out.lt ho4 hg4; clear ho4 hg4 hf4))
  all_goals
    go_wp2
    go_ret
    refine ⟨_, _, ?_, HF.out⟩
    show Ending.returned (Value.slice ao4 ((sL cd ck).length + L.length) cap4) = _
    rw [List.length_append]
end Go.Proofs.YtefgdhoapmikhaaDoor
