import Derived.Test.YtefgdhoapmikhaaDoorRpCf
import Derived.Test.YtefgdhoapmikhaaDoorRpDc
import Derived.Test.YtefgdhoapmikhaaDoorRqUe
namespace Go.Proofs.YtefgdhoapmikhaaDoor
open Go.RowKit
set_option linter.unusedVariables false
set_option linter.unusedSimpArgs false
set_option maxRecDepth 100000
set_option maxHeartbeats 2000000 in
theorem bytes_str (ix : Int) (st ex : Bool) (co : Option Addr) (cn cc : Nat) (fl ty ck off len : Nat) (d : Value) (cd : Nat) (pl : Bool) (at_ : Nat) (po : Option Addr) (pn pc : Nat) (lo : Option Addr) (ln lc : Nat) (w : World) (L : List Nat) (HF : Hid (∀ W, Below w.heap.size w W → Calls Tryd.prog 10 #[.agg #[.int .i64 ix, .bool st, .bool ex, .slice co cn cc], .agg #[.int .u16 (fl : Int), .int .u16 (ty : Int), .int .u64 (ck : Int), .int .u64 (off : Int), .int .u64 (len : Int), d], .agg #[.int .u32 (cd : Int), .bool pl, .int .u64 (at_ : Int), .slice po pn pc, .slice lo ln lc]] W fun e w' => e = .returned (.int .i64 0) ∧ Below W.heap.size W w')) (hty : ty < 65536) (hs : strB st ex ty = true)
    (HS : Hid (∀ W, Below w.heap.size w W → Calls Tryd.prog 143 #[.agg #[.int .i64 ix, .bool st, .bool ex, .slice co cn cc, .int .u16 (fl : Int), .int .u16 (ty : Int), .int .u64 (ck : Int), .int .u64 (off : Int), .int .u64 (len : Int), d, .int .u32 (cd : Int), .bool pl, .int .u64 (at_ : Int), .slice po pn pc, .slice lo ln lc]] W fun e w' => ∃ ao cap, e = .returned (.slice ao L.length cap) ∧ Row W w' ao cap L)) :
    Calls Tryd.prog 22 #[.agg #[.int .i64 ix, .bool st, .bool ex, .slice co cn cc], .agg #[.int .u16 (fl : Int), .int .u16 (ty : Int), .int .u64 (ck : Int), .int .u64 (off : Int), .int .u64 (len : Int), d], .agg #[.int .u32 (cd : Int), .bool pl, .int .u64 (at_ : Int), .slice po pn pc, .slice lo ln lc]] w fun e w' => ∃ ao cap, e = .returned (.tuple #[.slice ao L.length cap, .int .i64 0]) ∧ Row w w' ao cap L := by
  have HM : Hid (∀ W, Calls Tryd.prog 43 #[.agg #[.int .i64 ix, .bool st, .bool ex, .slice co cn cc], .agg #[.int .u16 (fl : Int), .int .u16 (ty : Int), .int .u64 (ck : Int), .int .u64 (off : Int), .int .u64 (len : Int), d], .agg #[.int .u32 (cd : Int), .bool pl, .int .u64 (at_ : Int), .slice po pn pc, .slice lo ln lc]] W fun e w' => e = .returned (.iface 105 (.agg #[.int .i64 ix, .bool st, .bool ex, .slice co cn cc, .int .u16 (fl : Int), .int .u16 (ty : Int), .int .u64 (ck : Int), .int .u64 (off : Int), .int .u64 (len : Int), d, .int .u32 (cd : Int), .bool pl, .int .u64 (at_ : Int), .slice po pn pc, .slice lo ln lc])) ∧ Below W.heap.size W w') := fun W => makerOf_str ix st ex co cn cc fl ty ck off len d cd pl at_ po pn pc lo ln lc W hty hs
  clear hs
  go_enter Tryd.func22, Tryd.ntmps22
  go_wp2_with fail
  have hx := mkb3 w #[.int .i64 ix, .bool st, .bool ex, .slice co cn cc] #[.int .u16 (fl : Int), .int .u16 (ty : Int), .int .u64 (ck : Int), .int .u64 (off : Int), .int .u64 (len : Int), d] #[.int .u32 (cd : Int), .bool pl, .int .u64 (at_ : Int), .slice po pn pc, .slice lo ln lc] 24 29 34
  generalize (((w.alloc (Obj.cells #[.int .i64 ix, .bool st, .bool ex, .slice co cn cc] 24)).alloc (Obj.cells #[.int .u16 (fl : Int), .int .u16 (ty : Int), .int .u64 (ck : Int), .int .u64 (off : Int), .int .u64 (len : Int), d] 29)).alloc (Obj.cells #[.int .u32 (cd : Int), .bool pl, .int .u64 (at_ : Int), .slice po pn pc, .slice lo ln lc] 34)) = W0 at *
  refine (HF.out _ hx.bel).mono ?_
  rintro e W1 ⟨rfl, hbe⟩
  have hy := hx.later hbe
  have za0 : W1.cell? ⟨w.heap.size, 0, none⟩ = some (.int .i64 ix) := by rw [blk_at hy.a]; rfl
  have za1 : W1.cell? ⟨w.heap.size, 1, none⟩ = some (.bool st) := by rw [blk_at hy.a]; rfl
  have za2 : W1.cell? ⟨w.heap.size, 2, none⟩ = some (.bool ex) := by rw [blk_at hy.a]; rfl
  have za3 : W1.cell? ⟨w.heap.size, 3, none⟩ = some (.slice co cn cc) := by rw [blk_at hy.a]; rfl
  have zb0 : W1.cell? ⟨w.heap.size + 1, 0, none⟩ = some (.int .u16 (fl : Int)) := by rw [blk_at hy.b]; rfl
  have zb1 : W1.cell? ⟨w.heap.size + 1, 1, none⟩ = some (.int .u16 (ty : Int)) := by rw [blk_at hy.b]; rfl
  have zb2 : W1.cell? ⟨w.heap.size + 1, 2, none⟩ = some (.int .u64 (ck : Int)) := by rw [blk_at hy.b]; rfl
  have zb3 : W1.cell? ⟨w.heap.size + 1, 3, none⟩ = some (.int .u64 (off : Int)) := by rw [blk_at hy.b]; rfl
  have zb4 : W1.cell? ⟨w.heap.size + 1, 4, none⟩ = some (.int .u64 (len : Int)) := by rw [blk_at hy.b]; rfl
  have zb5 : W1.cell? ⟨w.heap.size + 1, 5, none⟩ = some (d) := by rw [blk_at hy.b]; rfl
  have zc0 : W1.cell? ⟨w.heap.size + 1 + 1, 0, none⟩ = some (.int .u32 (cd : Int)) := by rw [blk_at hy.c]; rfl
  have zc1 : W1.cell? ⟨w.heap.size + 1 + 1, 1, none⟩ = some (.bool pl) := by rw [blk_at hy.c]; rfl
  have zc2 : W1.cell? ⟨w.heap.size + 1 + 1, 2, none⟩ = some (.int .u64 (at_ : Int)) := by rw [blk_at hy.c]; rfl
  have zc3 : W1.cell? ⟨w.heap.size + 1 + 1, 3, none⟩ = some (.slice po pn pc) := by rw [blk_at hy.c]; rfl
  have zc4 : W1.cell? ⟨w.heap.size + 1 + 1, 4, none⟩ = some (.slice lo ln lc) := by rw [blk_at hy.c]; rfl
  have HB : Hid (Bx3 w W1 #[.int .i64 ix, .bool st, .bool ex, .slice co cn cc] #[.int .u16 (fl : Int), .int .u16 (ty : Int), .int .u64 (ck : Int), .int .u64 (off : Int), .int .u64 (len : Int), d] #[.int .u32 (cd : Int), .bool pl, .int .u64 (at_ : Int), .slice po pn pc, .slice lo ln lc] 24 29 34) := hy
  clear hbe hx hy HF
  go_wp2_with fail
  refine (HM.out _).mono ?_
  rintro e W2 ⟨rfl, hbe⟩
  have HB2 : Hid (Below w.heap.size w W2) := (HB.out.later hbe).bel
  clear hbe HM
  go_wp2_with fail
  refine (HS.out _ HB2.out).mono ?_
  rintro e W3 ⟨ao, cap, rfl, hr⟩
  have HR : Hid (Row w W3 ao cap L) := ⟨owns_mono hr.own HB2.out.size, hr.lt, HB2.out.trans (hr.bel.mono HB2.out.size)⟩
  clear hr HS
  go_wp2
  go_ret2
  exact ⟨_, _, rfl, HR.out⟩
theorem fitE (st ex : Bool) (cn ty off len cd : Nat) (pl : Bool) (at_ : Nat) (hcd : cd ≠ 0) (hp : if pl = true then off ≤ at_ ∧ at_ < off + len else at_ = 0) : fitB12 st ex cn ty off len cd pl at_ [] [] = true := by
  unfold fitB12
  rw [if_pos hcd]
  cases pl
  · simp at hp; simp [hp]
  · simp at hp; simp [hp]
theorem fitsE (ix : Int) (st ex : Bool) (co : Option Addr) (cn cc : Nat) (fl ty ck off len : Nat) (d : Value) (cd : Nat) (pl : Bool) (at_ : Nat) (w : World) (hcn : cn ≤ 1048576) (hty : ty < 65536) (h1 : off < 18446744073709551616) (h2 : len < 18446744073709551616) (h3 : at_ < 18446744073709551616) (h4 : cd < 4294967296) (hcd : cd ≠ 0) (hp : if pl = true then off ≤ at_ ∧ at_ < off + len else at_ = 0) :
    Calls Tryd.prog 10 #[.agg #[.int .i64 ix, .bool st, .bool ex, .slice co cn cc], .agg #[.int .u16 (fl : Int), .int .u16 (ty : Int), .int .u64 (ck : Int), .int .u64 (off : Int), .int .u64 (len : Int), d], .agg #[.int .u32 (cd : Int), .bool pl, .int .u64 (at_ : Int), .slice none 0 0, .slice none 0 0]] w fun e w' => e = .returned (.int .i64 0) ∧ Below w.heap.size w w' := by
  have := Fits_any ix st ex co cn cc fl ty ck off len d cd pl at_ none 0 [] none 0 [] w hcn hty ⟨by simp, by simp, fun h => absurd rfl h⟩ (Al.lrow w) h1 h2 h3 h4
  rw [fitE st ex cn ty off len cd pl at_ hcd hp] at this
  exact this
theorem bytesE_sim (ix : Int) (st ex : Bool) (co : Option Addr) (cn cc : Nat) (fl ty ck off len : Nat) (d : Value) (cd : Nat) (pl : Bool) (at_ : Nat) (w : World) (hcn : cn ≤ 1048576) (hty : ty < 65536) (hck : ck < 18446744073709551616) (h1 : off < 18446744073709551616) (h2 : len < 18446744073709551616) (h3 : at_ < 18446744073709551616) (h4 : cd < 4294967296) (hcd : cd ≠ 0) (hp : if pl = true then off ≤ at_ ∧ at_ < off + len else at_ = 0) (hs : strB st ex ty = false) :
    Calls Tryd.prog 22 #[.agg #[.int .i64 ix, .bool st, .bool ex, .slice co cn cc], .agg #[.int .u16 (fl : Int), .int .u16 (ty : Int), .int .u64 (ck : Int), .int .u64 (off : Int), .int .u64 (len : Int), d], .agg #[.int .u32 (cd : Int), .bool pl, .int .u64 (at_ : Int), .slice none 0 0, .slice none 0 0]] w fun e w' => ∃ ao cap, e = .returned (.tuple #[.slice ao (sL cd ck).length cap, .int .i64 0]) ∧ Row w w' ao cap (sL cd ck) :=
  bytes_sim ix st ex co cn cc fl ty ck off len d cd pl at_ none 0 0 none 0 0 w (sL cd ck) (fun W _ => fitsE ix st ex co cn cc fl ty ck off len d cd pl at_ W hcn hty h1 h2 h3 h4 hcd hp) hty hs
    (fun W _ => sbytes_none fl ty ck off len d cd pl at_ none 0 0 none 0 0 W h4 hck (fun W' _ => sdata_none fl ty ck off len d cd pl at_ none 0 0 none 0 0 W' hty h4 (by omega)))
def kdE (pl : Bool) : Nat := if pl = true then 32770 else 32769
def eoE (ex : Bool) (off : Nat) : Nat := if ex = true then off else 0
theorem eo_cast (ex : Bool) (off : Nat) : (if ex = true then (off : Int) else 0) = ((eoE ex off : Nat) : Int) := by unfold eoE; split <;> rfl
theorem erL_len (c : Nat) (pl : Bool) (a : Nat) : (erL c pl a).length = if pl = true then 14 else 6 := by unfold erL; cases pl <;> simp [bigTo_length]
theorem failE (ix : Int) (st ex : Bool) (co : Option Addr) (cn cc : Nat) (fl ty ck off len : Nat) (d : Value) (cd : Nat) (pl : Bool) (at_ : Nat) (W : World) (h3 : at_ < 18446744073709551616) (h4 : cd < 4294967296) (hp : pl = false → at_ = 0) :
    Calls Tryd.prog 70 #[.agg #[.int .i64 ix, .bool st, .bool ex, .slice co cn cc, .int .u16 (fl : Int), .int .u16 (ty : Int), .int .u64 (ck : Int), .int .u64 (off : Int), .int .u64 (len : Int), d, .int .u32 (cd : Int), .bool pl, .int .u64 (at_ : Int), .slice none 0 0, .slice none 0 0]] W fun e w' => ∃ ao cap, e = .returned (.agg #[.int .u16 0, .int .u16 (kdE pl : Int), .int .u64 (ck : Int), .int .u64 (eoE ex off : Int), .slice ao (erL cd pl at_).length cap]) ∧ Row W w' ao cap (erL cd pl at_) := by
  rw [← eo_cast]
  cases pl
  · exact fail_false ix st ex co cn cc fl ty ck off len d cd at_ none 0 0 none 0 0 W h4 h3 (hp rfl)
  · exact fail_true ix st ex co cn cc fl ty ck off len d cd at_ none 0 0 none 0 0 W h4 h3
def sayE (cd ck off : Nat) (pl : Bool) (at_ : Nat) (ex : Bool) : List Say := [(1, kdE pl, ck, eoE ex off, erL cd pl at_)]
theorem sayE_ok (cd ck off : Nat) (pl : Bool) (at_ : Nat) (ex : Bool) (hck : ck < 18446744073709551616) (h1 : off < 18446744073709551616) : ∀ x ∈ sayE cd ck off pl at_ ex, okS x ∧ x.2.2.2.2.length ≤ 4294967295 ∧ (ex = false → x.2.2.2.1 = 0) := by
  intro x hx
  simp [sayE] at hx
  subst hx
  have hl := erL_len cd pl at_
  refine ⟨⟨by show (1 : Nat) < 65536; decide, by show kdE pl < 65536; unfold kdE; split <;> decide, hck, by show eoE ex off < _; unfold eoE; split <;> omega, by show (erL cd pl at_).length ≤ _; rw [hl]; split <;> decide⟩, by show (erL cd pl at_).length ≤ _; rw [hl]; split <;> decide, fun he => by show eoE ex off = 0; rw [he]; rfl⟩
theorem bytesE_str (ix : Int) (st ex : Bool) (co : Option Addr) (cn cc : Nat) (fl ty ck off len : Nat) (d : Value) (cd : Nat) (pl : Bool) (at_ : Nat) (w : World) (hcn : cn ≤ 1048576) (hty : ty < 65536) (hck : ck < 18446744073709551616) (h1 : off < 18446744073709551616) (h2 : len < 18446744073709551616) (h3 : at_ < 18446744073709551616) (h4 : cd < 4294967296) (hcd : cd ≠ 0) (hp : if pl = true then off ≤ at_ ∧ at_ < off + len else at_ = 0) (hs : strB st ex ty = true) :
    Calls Tryd.prog 22 #[.agg #[.int .i64 ix, .bool st, .bool ex, .slice co cn cc], .agg #[.int .u16 (fl : Int), .int .u16 (ty : Int), .int .u64 (ck : Int), .int .u64 (off : Int), .int .u64 (len : Int), d], .agg #[.int .u32 (cd : Int), .bool pl, .int .u64 (at_ : Int), .slice none 0 0, .slice none 0 0]] w fun e w' => ∃ ao cap, e = .returned (.tuple #[.slice ao (encS ex (sayE cd ck off pl at_ ex)).length cap, .int .i64 0]) ∧ Row w w' ao cap (encS ex (sayE cd ck off pl at_ ex)) := by
  refine bytes_str ix st ex co cn cc fl ty ck off len d cd pl at_ none 0 0 none 0 0 w _ (fun W _ => fitsE ix st ex co cn cc fl ty ck off len d cd pl at_ W hcn hty h1 h2 h3 h4 hcd hp) hty hs (fun W _ => ?_)
  refine strbytes ix st ex co cn cc fl ty ck off len d cd pl at_ none 0 0 none 0 0 W (sayE cd ck off pl at_ ex) (by simp [sayE]) (fun x hx => (sayE_ok cd ck off pl at_ ex hck h1 x hx).1) ?_ (fun W' _ => ?_)
  · have := enS_len ex (1, kdE pl, ck, eoE ex off, erL cd pl at_)
    simp only [erL_len] at this
    show (encS ex (sayE cd ck off pl at_ ex)).length ≤ _
    unfold encS sayE
    simp
    split at this <;> omega
  · exact chunks_fail ix st ex co cn cc fl ty ck off len d cd pl at_ none 0 0 none 0 0 W' (kdE pl) (eoE ex off) (erL cd pl at_) hcd h4 (fun W2 => failE ix st ex co cn cc fl ty ck off len d cd pl at_ W2 h3 h4 (fun he => by rw [he] at hp; simpa using hp))
end Go.Proofs.YtefgdhoapmikhaaDoor
namespace Go.Proofs.YtefgdhoapmikhaaDoor
open Go.RowKit
set_option linter.unusedVariables false
set_option linter.unusedSimpArgs false
set_option maxRecDepth 100000
theorem tailA {w W8 W9 : World} {A B C : Array Value} {tA tB tC t : TypeId} {z0 z1 z2 z3 : Value} (h8 : Bx3 w W8 A B C tA tB tC) (hb : Below W8.heap.size W8 W9) (bx : W9.heap[W8.heap.size]? = some (.cells #[z0, z1, z2, z3] t (0, 0))) (v0 v1 v2 v3 : Value) :
    Bx3 w ((((W9.setCell ⟨W8.heap.size, 0, none⟩ v0).setCell ⟨W8.heap.size, 1, none⟩ v1).setCell ⟨W8.heap.size, 2, none⟩ v2).setCell ⟨W8.heap.size, 3, none⟩ v3) A B C tA tB tC ∧ ((((W9.setCell ⟨W8.heap.size, 0, none⟩ v0).setCell ⟨W8.heap.size, 1, none⟩ v1).setCell ⟨W8.heap.size, 2, none⟩ v2).setCell ⟨W8.heap.size, 3, none⟩ v3).heap[W8.heap.size]? = some (.cells #[v0, v1, v2, v3] t (0, 0)) ∧ Below W8.heap.size W8 ((((W9.setCell ⟨W8.heap.size, 0, none⟩ v0).setCell ⟨W8.heap.size, 1, none⟩ v1).setCell ⟨W8.heap.size, 2, none⟩ v2).setCell ⟨W8.heap.size, 3, none⟩ v3) := by
  obtain ⟨hp, hq⟩ := put4 bx v0 v1 v2 v3
  have hbl : Below W8.heap.size W8 ((((W9.setCell ⟨W8.heap.size, 0, none⟩ v0).setCell ⟨W8.heap.size, 1, none⟩ v1).setCell ⟨W8.heap.size, 2, none⟩ v2).setCell ⟨W8.heap.size, 3, none⟩ v3) := hb.trans (hq.below hb.size (fun g hg => by omega))
  exact ⟨h8.later hbl, hp, hbl⟩
theorem boxD (W : World) (q : Nat) (A : Array Value) (t : TypeId) : ((W.drewN q).alloc (.cells A t)).heap[W.heap.size]? = some (.cells A t (0, 0)) := heap_new (W.drewN q) _
theorem one_of {L : List Ck} {f t c o : Nat} {d : List Nat} (h : L.map Ck.say = [(f, t, c, o, d)]) : ∃ ao cap, L = [⟨f, t, c, o, ao, cap, d⟩] := by
  match L, h with
  | [x], h =>
    obtain ⟨f', t', c', o', ao, cap, d'⟩ := x
    simp [Ck.say] at h
    obtain ⟨rfl, rfl, rfl, rfl, rfl⟩ := h
    exact ⟨ao, cap, rfl⟩
theorem Bx3.put2 {w W : World} {A B : Array Value} {c0 c1 c2 c3 c4 : Value} {tA tB tC : TypeId} (h : Bx3 w W A B #[c0, c1, c2, c3, c4] tA tB tC) (v : Value) (hv : True) : Bx3 w (W.setCell ⟨w.heap.size + 1 + 1, 2, none⟩ v) A B #[c0, c1, v, c3, c4] tA tB tC := by
  have k := keptIn_set W (w.heap.size + 1 + 1) 2 v
  have hs := h.size
  exact ⟨h.bel.trans (k.below h.bel.size (fun g hg e => by omega)), by rw [k.block _ (by omega) (by omega)]; exact h.a, by rw [k.block _ (by omega) (by omega)]; exact h.b, put_boxX h.c 2 v (by simp), Nat.le_trans hs k.size⟩
end Go.Proofs.YtefgdhoapmikhaaDoor
