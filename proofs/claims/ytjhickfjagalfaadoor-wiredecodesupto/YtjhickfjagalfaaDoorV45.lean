import Derived.Test.YtjhickfjagalfaaDoorV43
import Derived.Test.YtjhickfjagalfaaDoorV18
import Derived.Test.YtjhickfjagalfaaDoorV34
import Derived.Test.YtjhickfjagalfaaDoorV44
namespace Go.Proofs.YtjhickfjagalfaaDoor
open Go.RowKit
set_option linter.unusedVariables false
set_option linter.unusedSimpArgs false
set_option maxRecDepth 100000

set_option maxHeartbeats 400000 in
theorem same8_true (ao bo : Option Addr) (cap cap' n : Nat) (l : List Nat) (w : World) (h : BRow w ao cap l) (h' : BRow w bo cap' l) (hn : l.length = n) :
    Calls Tryd.prog 18 #[.slice ao n cap, .slice bo n cap'] w fun e w' => e = .returned (.bool true) ∧ Below w.heap.size w w' := by
  have H1 : Hid (Calls Tryd.prog 91 #[.slice ao n cap, .slice bo n cap'] w fun e w' => e = .returned (.bool true) ∧ ∃ q, w' = w.drewN q) := by
    have := same_any ao bo cap cap' l l w h h'
    rw [hn] at this
    simp at this
    exact this
  clear h h'
  have H2 : Hid (Calls Tryd.prog 64 #[.slice ao n cap, .slice bo n cap'] w fun e w' => e = .returned (.bool true) ∧ ∃ q, w' = w.drewN q) := by
    show Calls _ _ _ _ _
    go_enter Tryd.func64, Tryd.ntmps64
    go_wp2_with fail
    refine H1.out.mono ?_
    rintro e w1 ⟨rfl, q, hw⟩
    rw [hw]; clear hw
    go_wp2
    go_ret
    exact ⟨rfl, q, rfl⟩
  clear H1
  go_enter Tryd.func18, Tryd.ntmps18
  go_wp2_with fail
  refine H2.out.mono ?_
  rintro e w1 ⟨rfl, q, hw⟩
  rw [hw]; clear hw
  go_wp2
  go_ret
  exact ⟨rfl, ⟨rfl, rfl, rfl, Nat.le_refl _, fun _ _ => rfl⟩⟩
/-- a row of one's own between two numbers of blocks -/
structure RowAt (W : World) (lo hi : Nat) (ao : Option Addr) (n cap : Nat) (l : List Nat) : Prop where
  own : W.ownsRow lo 5 1 (.slice ao n cap) n (l.map bv)
  lt : ∀ x ∈ l, x < 256
  hi : ∀ g, (Value.slice ao n cap).ownBlock = some g → g < hi
  len : l.length = n
theorem RowAt.later {W W' : World} {lo hi : Nat} {ao : Option Addr} {n cap : Nat} {l : List Nat} (h : RowAt W lo hi ao n cap l) (hb : Below W.heap.size W W') : RowAt W' lo hi ao n cap l :=
  ⟨owns_same h.own fun g hg => hb.block g (owns_lt h.own g hg).1, h.lt, h.hi, h.len⟩
theorem RowAt.grown {W W' : World} {lo hi : Nat} {ao : Option Addr} {n cap : Nat} {l : List Nat} (h : RowAt W lo hi ao n cap l) {blk : Option Nat} (hg : W.grownBy W' blk) (hd : ∀ g, blk = some g → g < lo ∨ hi ≤ g) : RowAt W' lo hi ao n cap l :=
  ⟨owns_same h.own fun g hg' => hg.block g (owns_lt h.own g hg').1 (fun e => by have h1 := (owns_lt h.own g hg').2; have h2 := h.hi g hg'; rcases hd g e.symm with h3 | h3 <;> omega), h.lt, h.hi, h.len⟩
theorem RowAt.brow {W : World} {lo hi : Nat} {ao : Option Addr} {n cap : Nat} {l : List Nat} (h : RowAt W lo hi ao n cap l) (hl : n ≤ 140737488351232) : BRow W ao cap l := by
  have hlen := h.len
  subst hlen
  obtain ⟨ao', cap', hv, hb⟩ := BRow.own h.own h.lt hl
  simp only [Value.slice.injEq] at hv
  obtain ⟨rfl, _, rfl⟩ := hv
  exact hb
theorem Row.at {w w' : World} {ao : Option Addr} {cap n : Nat} {l : List Nat} (h : Row w w' ao cap l) (hn : l.length = n) : RowAt w' w.heap.size w'.heap.size ao n cap l := by
  subst hn
  exact ⟨h.own, h.lt, fun g hg => (owns_lt h.own g hg).1, rfl⟩
theorem crow_of {W : World} {B : Nat} {ao : Option Addr} {n cap : Nat} {l : List Nat} (h : W.ownsRow B 5 1 (.slice ao n cap) n (l.map bv)) (hlt : ∀ x ∈ l, x < 256) (hl : l.length = n) (hn : n ≤ 140737488351232) : CRow W ao cap l := by
  subst hl
  obtain ⟨ao', cap', hv, hb⟩ := BRow.own h hlt hn
  simp only [Value.slice.injEq] at hv
  obtain ⟨rfl, _, rfl⟩ := hv
  exact ⟨hb, (owns_cap h).1, (owns_cap h).2⟩
/-- how many zeros an export has -/
def zn (z : Bool) : Nat := if z = true then 124 else 0
def XL (s f : Nat) (z : Bool) : List Nat := xL s f ++ List.replicate (zn z) 0
theorem XL_len (s f : Nat) (z : Bool) : (XL s f z).length = 10 + zn z := by simp [XL, xL, bigTo_length]; omega
theorem encExport (s f : Nat) (z : Bool) (w : World) (hs : s < 18446744073709551616) (hf : f < 65536) :
    Calls Tryd.prog 16 #[.agg #[.int .u64 (s : Int), .int .u16 (f : Int)], .bool z] w fun e w' => ∃ ao cap, e = .returned (.slice ao (10 + zn z) cap) ∧ Row w w' ao cap (XL s f z) := by
  rw [← XL_len s f z]
  cases z with
  | true => exact encExport1 s f w hs hf
  | false => exact encExport0 s f w hs hf
theorem rExport (s f : Nat) (z : Bool) (w : World) (hs : s < 18446744073709551616) (hf : f < 65536) :
    Calls Tryd.prog 21 #[.agg #[.int .u64 (s : Int), .int .u16 (f : Int)], .bool z] w fun e w' => ∃ ao cap, e = .returned (.slice ao (10 + zn z) cap) ∧ Row w w' ao cap (XL s f z) := by
  cases z with
  | true => exact rExport1 s f w hs hf
  | false =>
    refine (rExport0 s f w hs hf).mono ?_
    rintro e w' ⟨ao, cap, he, hr⟩
    have e1 : XL s f false = xL s f := by simp [XL, zn]
    rw [e1]
    exact ⟨ao, cap, by rw [he]; simp [xL, bigTo_length, zn], hr⟩
theorem val_at (x k : Nat) (pre tl : List Nat) (a : Nat) (ha : pre.length = a) (hx : x < 256 ^ k) : valB (((pre ++ (bigTo x k k ++ tl)).drop a).take k) = x := by
  rw [← ha, List.drop_left, List.take_append_of_le_length (by rw [bigTo_length]; omega), List.take_of_length_le (by rw [bigTo_length]; omega), valB_big x k hx]
theorem decExport (b off cap n s f : Nat) (z : Bool) (m : List Nat) (w : World) (h : CRow w (some ⟨b, off, none⟩) cap (XL s f z ++ m)) (HN : Hid ((XL s f z ++ m).length = n)) (hs : s < 18446744073709551616) (hf : f < 65536) :
    Calls Tryd.prog 25 #[.slice (some ⟨b, off, none⟩) n cap, .bool z] w fun e w' => e = .returned (.tuple #[.agg #[.int .u64 (s : Int), .int .u16 (f : Int)], .int .i64 ((10 + zn z : Nat) : Int), .int .i64 0]) ∧ Below w.heap.size w w' := by
  have hx : XL s f z ++ m = [] ++ (bigTo s 8 8 ++ (bigTo f 2 2 ++ (List.replicate (zn z) 0 ++ m))) := by simp [XL, xL]
  have h0 : valB (((XL s f z ++ m).drop 0).take 8) = s := by rw [hx]; exact val_at s 8 [] _ 0 rfl (by simpa using hs)
  have h1 : valB (((XL s f z ++ m).drop 8).take 2) = f := by
    rw [hx, show ([] : List Nat) ++ (bigTo s 8 8 ++ (bigTo f 2 2 ++ (List.replicate (zn z) 0 ++ m))) = bigTo s 8 8 ++ (bigTo f 2 2 ++ (List.replicate (zn z) 0 ++ m)) by simp]
    exact val_at f 2 (bigTo s 8 8) _ 8 (bigTo_length _ _ _) (by simpa using hf)
  have hz : ∀ x ∈ ((XL s f z ++ m).take (10 + zn z)).drop 10, x = 0 := by
    rw [List.take_append_of_le_length (by rw [XL_len]; omega), List.take_of_length_le (by rw [XL_len]; omega)]
    have : (XL s f z).drop 10 = List.replicate (zn z) 0 := by
      rw [XL, List.drop_append_of_le_length (by simp [xL, bigTo_length]), List.drop_of_length_le (by simp [xL, bigTo_length])]; simp
    rw [this]
    exact fun x hx => (List.mem_replicate.1 hx).2
  have hn : 10 + zn z ≤ n := by have := HN.out; rw [List.length_append, XL_len] at this; omega
  cases z with
  | true => exact decExport1_ok b off cap n _ s f w h HN hn h0 h1 hz
  | false => exact decExport0_ok b off cap n _ s f w h HN hn h0 h1 hz
end Go.Proofs.YtjhickfjagalfaaDoor
