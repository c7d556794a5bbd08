import Derived.Test.YtjikibhhhchgeaaDoorJS
import Derived.Test.YtjikibhhhchgeaaDoorJMs
import Derived.Test.YtjikibhhhchgeaaDoorJLd
import Derived.Test.YtjikibhhhchgeaaDoorJLc
import Derived.Test.YtjikibhhhchgeaaDoorJV
import Derived.Test.YtjikibhhhchgeaaDoorPX
namespace Go.Proofs.YtjikibhhhchgeaaDoor
open Go.RowKit
set_option linter.unusedVariables false
set_option linter.unusedSimpArgs false
set_option maxRecDepth 100000
set_option maxHeartbeats 400000 in
theorem same8_true (ao bo : Option Addr) (cap cap' n : Nat) (l : List Nat) (w : World) (h : BRow w ao cap l) (h' : BRow w bo cap' l) (hn : l.length = n) :
    Calls Tryd.prog 9 #[.slice ao n cap, .slice bo n cap'] w fun e w' => e = .returned (.bool true) ∧ Below w.heap.size w w' := by
  have H1 : Hid (Calls Tryd.prog 98 #[.slice ao n cap, .slice bo n cap'] w fun e w' => e = .returned (.bool true) ∧ ∃ q, w' = w.drewN q) := by
    have := same_any ao bo cap cap' l l w h h'
    rw [hn] at this
    simp at this
    exact this
  clear h h'
  have H2 : Hid (Calls Tryd.prog 47 #[.slice ao n cap, .slice bo n cap'] w fun e w' => e = .returned (.bool true) ∧ ∃ q, w' = w.drewN q) := by
    show Calls _ _ _ _ _
    go_enter Tryd.func47, Tryd.ntmps47
    go_wp2_with fail
    refine H1.out.mono ?_
    rintro e w1 ⟨rfl, q, hw⟩
    rw [hw]; clear hw
    go_wp2
    go_ret
    exact ⟨rfl, q, rfl⟩
  clear H1
  go_enter Tryd.func9, Tryd.ntmps9
  go_wp2_with fail
  refine H2.out.mono ?_
  rintro e w1 ⟨rfl, q, hw⟩
  rw [hw]; clear hw
  go_wp2
  go_ret
  exact ⟨rfl, ⟨rfl, rfl, rfl, Nat.le_refl _, fun _ _ => rfl⟩⟩
/-- a row of one's own between two numbers of blocks -/
structure RowAt (W : World) (lo hi : Nat) (ao : Option Addr) (n cap : Nat) (l : List Nat) : Prop where
  own : W.ownsRow lo 5 1 (.slice ao n cap) n (l.map bv)
  lt : ∀ x ∈ l, x < 256
  hi : ∀ g, (Value.slice ao n cap).ownBlock = some g → g < hi
  len : l.length = n
theorem RowAt.later {W W' : World} {lo hi : Nat} {ao : Option Addr} {n cap : Nat} {l : List Nat} (h : RowAt W lo hi ao n cap l) (hb : Below W.heap.size W W') : RowAt W' lo hi ao n cap l :=
  ⟨owns_same h.own fun g hg => hb.block g (owns_lt h.own g hg).1, h.lt, h.hi, h.len⟩
theorem RowAt.grown {W W' : World} {lo hi : Nat} {ao : Option Addr} {n cap : Nat} {l : List Nat} (h : RowAt W lo hi ao n cap l) {blk : Option Nat} (hg : W.grownBy W' blk) (hd : ∀ g, blk = some g → g < lo ∨ hi ≤ g) : RowAt W' lo hi ao n cap l :=
  ⟨owns_same h.own fun g hg' => hg.block g (owns_lt h.own g hg').1 (fun e => by have h1 := (owns_lt h.own g hg').2; have h2 := h.hi g hg'; rcases hd g e.symm with h3 | h3 <;> omega), h.lt, h.hi, h.len⟩
theorem RowAt.brow {W : World} {lo hi : Nat} {ao : Option Addr} {n cap : Nat} {l : List Nat} (h : RowAt W lo hi ao n cap l) (hl : n ≤ 140737488351232) : BRow W ao cap l := by
  have hlen := h.len
  subst hlen
  obtain ⟨ao', cap', hv, hb⟩ := BRow.own h.own h.lt hl
  simp only [Value.slice.injEq] at hv
  obtain ⟨rfl, _, rfl⟩ := hv
  exact hb
theorem Row.at {w w' : World} {ao : Option Addr} {cap n : Nat} {l : List Nat} (h : Row w w' ao cap l) (hn : l.length = n) : RowAt w' w.heap.size w'.heap.size ao n cap l := by
  subst hn
  exact ⟨h.own, h.lt, fun g hg => (owns_lt h.own g hg).1, rfl⟩
theorem crow_of {W : World} {B : Nat} {ao : Option Addr} {n cap : Nat} {l : List Nat} (h : W.ownsRow B 5 1 (.slice ao n cap) n (l.map bv)) (hlt : ∀ x ∈ l, x < 256) (hl : l.length = n) (hn : n ≤ 140737488351232) : CRow W ao cap l := by
  subst hl
  obtain ⟨ao', cap', hv, hb⟩ := BRow.own h hlt hn
  simp only [Value.slice.injEq] at hv
  obtain ⟨rfl, _, rfl⟩ := hv
  exact ⟨hb, (owns_cap h).1, (owns_cap h).2⟩
def kC (f t c o : Nat) (d : List Nat) (ext : Bool) : List Nat := if ext = true then cL64 f t c o d else cL f t c d
theorem encChunkC (f t c o : Nat) (ao : Option Addr) (cap : Nat) (d : List Nat) (ext : Bool) (w : World) (hf : f < 65536) (ht : t < 65536) (hc : c < 18446744073709551616) (ho : o < 18446744073709551616) (hd : BRow w ao cap d) (hn : d.length < 4294967296) :
    Calls Tryd.prog 27 #[.agg #[.int .u16 (f : Int), .int .u16 (t : Int), .int .u64 (c : Int), .int .u64 (o : Int), .slice ao d.length cap], .bool ext] w fun e w' => ∃ ao' cap', e = .returned (.slice ao' (kC f t c o d ext).length cap') ∧ Row w w' ao' cap' (kC f t c o d ext) := by
  cases ext with
  | true => exact encChunk_true f t c o ao cap d w hf ht hc ho hd (by omega)
  | false => exact encChunk_false f t c o ao cap d w hf ht hc ho hd (by omega)
theorem rChunkC (f t c o : Nat) (ao : Option Addr) (cap : Nat) (d : List Nat) (ext : Bool) (w : World) (hf : f < 65536) (ht : t < 65536) (hc : c < 18446744073709551616) (ho : o < 18446744073709551616) (hd : BRow w ao cap d) (hn : d.length < 4294967296) :
    Calls Tryd.prog 30 #[.agg #[.int .u16 (f : Int), .int .u16 (t : Int), .int .u64 (c : Int), .int .u64 (o : Int), .slice ao d.length cap], .bool ext] w fun e w' => ∃ ao' cap', e = .returned (.slice ao' (kC f t c o d ext).length cap') ∧ Row w w' ao' cap' (kC f t c o d ext) := by
  cases ext with
  | true => exact rChunk_true f t c o ao cap d w hf ht hc ho hd hn
  | false => exact rChunk_false f t c o ao cap d w hf ht hc ho hd hn
theorem val_of {l pre tl : List Nat} (x k a : Nat) (h : l = pre ++ (bigTo x k k ++ tl)) (ha : pre.length = a) (hx : x < 256 ^ k) : valB ((l.drop a).take k) = x := by
  rw [h, ← ha, List.drop_left, List.take_append_of_le_length (by rw [bigTo_length]; omega), List.take_of_length_le (by rw [bigTo_length]; omega), valB_big x k hx]
theorem tail_of {l pre d m : List Nat} {k : Nat} (a : Nat) (h : l = pre ++ (d ++ m)) (ha : pre.length = a) (hk : d.length = k) : (l.drop a).take k = d := by
  rw [h, ← ha, List.drop_left, ← hk, List.take_append_of_le_length (Nat.le_refl _), List.take_of_length_le (Nat.le_refl _)]
theorem kC_len (f t c o : Nat) (d : List Nat) (ext : Bool) : (kC f t c o d ext).length = (if ext = true then 32 else 20) + d.length := by
  cases ext <;> simp [kC, cL64, cL, nL, bigTo_length] <;> omega
/-- a chunk that was laid down, read -/
theorem decK (f t c o : Nat) (d : List Nat) (ext : Bool) (b off cap n k : Nat) (w : World) (hf : f < 65536) (ht : t < 65536) (hc : c < 18446744073709551616) (ho : o < 18446744073709551616) (hk : d.length = k) (hk1 : k ≤ 1099511627776) (hk2 : k < 4294967296) (h : CRow w (some ⟨b, off, none⟩) cap (kC f t c o d ext)) (hn : (kC f t c o d ext).length = n) :
    Calls Tryd.prog 28 #[.slice (some ⟨b, off, none⟩) n cap, .int .u32 (k : Int), .bool ext] w fun e w' => ∃ (x y : Nat) (ao2 : Option Addr) (cap2 : Nat), e = .returned (.tuple #[.agg #[.int .u16 (f : Int), .int .u16 (t : Int), .int .u64 (c : Int), .int .u64 (x : Int), .slice ao2 k cap2], .int .i64 (y : Int), .int .i64 0]) ∧ w'.ownsRow w.heap.size 5 1 (.slice ao2 k cap2) k (d.map bv) ∧ Below w.heap.size w w' := by
  have hl := kC_len f t c o d ext
  rw [hn] at hl
  have hmod : k % 4294967296 = k := Nat.mod_eq_of_lt hk2
  cases ext with
  | false =>
    simp only [Bool.false_eq_true, if_false] at hl
    have hx : kC f t c o d false = (bigTo mChunk 4 4 ++ (bigTo f 2 2 ++ (bigTo t 2 2 ++ (bigTo c 8 8 ++ (bigTo k 4 4 ++ (d ++ [])))))) := by simp [kC, cL64, cL, nL, hk, hmod]
    refine Calls.mono (decChunk0_ok b off cap n _ k f t c k w h (show Hid (_ = n) from hn) (by omega) (show valB _ = _ from val_of (pre := ([] : List Nat)) (tl := (bigTo f 2 2 ++ (bigTo t 2 2 ++ (bigTo c 8 8 ++ (bigTo k 4 4 ++ (d ++ [])))))) mChunk 4 0 (hx.trans (by simp)) (by simp [bigTo_length]) (by decide)) (show valB _ = _ from val_of (pre := (bigTo mChunk 4 4)) (tl := (bigTo t 2 2 ++ (bigTo c 8 8 ++ (bigTo k 4 4 ++ (d ++ []))))) f 2 4 (hx.trans (by simp)) (by simp [bigTo_length]) (by simpa using hf)) (show valB _ = _ from val_of (pre := (bigTo mChunk 4 4 ++ bigTo f 2 2)) (tl := (bigTo c 8 8 ++ (bigTo k 4 4 ++ (d ++ [])))) t 2 6 (hx.trans (by simp)) (by simp [bigTo_length]) (by simpa using ht)) (show valB _ = _ from val_of (pre := (bigTo mChunk 4 4 ++ bigTo f 2 2 ++ bigTo t 2 2)) (tl := (bigTo k 4 4 ++ (d ++ []))) c 8 8 (hx.trans (by simp)) (by simp [bigTo_length]) (by simpa using hc)) (show valB _ = _ from val_of (pre := (bigTo mChunk 4 4 ++ bigTo f 2 2 ++ bigTo t 2 2 ++ bigTo c 8 8)) (tl := (d ++ [])) k 4 16 (hx.trans (by simp)) (by simp [bigTo_length]) (by omega)) (by omega) hk2 (Nat.le_refl _) (by omega) _ rfl d (tail_of (m := []) (pre := (bigTo mChunk 4 4 ++ bigTo f 2 2 ++ bigTo t 2 2 ++ bigTo c 8 8 ++ bigTo k 4 4)) 20 (hx.trans (by simp)) (by simp [bigTo_length]) hk)) ?_
    rintro e w' ⟨ao2, cap2, rfl, ho2, hb⟩
    exact ⟨0, _, _, _, rfl, ho2, hb⟩
  | true =>
    simp only [if_true] at hl
    have hx : kC f t c o d true = (bigTo mChunk64 4 4 ++ (bigTo f 2 2 ++ (bigTo t 2 2 ++ (bigTo c 8 8 ++ (bigTo o 8 8 ++ (bigTo k 8 8 ++ (d ++ []))))))) := by simp [kC, cL64, cL, nL, hk, hmod]
    refine Calls.mono (decChunk1_ok b off cap n _ k f t c o k w h (show Hid (_ = n) from hn) (by omega) (show valB _ = _ from val_of (pre := ([] : List Nat)) (tl := (bigTo f 2 2 ++ (bigTo t 2 2 ++ (bigTo c 8 8 ++ (bigTo o 8 8 ++ (bigTo k 8 8 ++ (d ++ []))))))) mChunk64 4 0 (hx.trans (by simp)) (by simp [bigTo_length]) (by decide)) (show valB _ = _ from val_of (pre := (bigTo mChunk64 4 4)) (tl := (bigTo t 2 2 ++ (bigTo c 8 8 ++ (bigTo o 8 8 ++ (bigTo k 8 8 ++ (d ++ [])))))) f 2 4 (hx.trans (by simp)) (by simp [bigTo_length]) (by simpa using hf)) (show valB _ = _ from val_of (pre := (bigTo mChunk64 4 4 ++ bigTo f 2 2)) (tl := (bigTo c 8 8 ++ (bigTo o 8 8 ++ (bigTo k 8 8 ++ (d ++ []))))) t 2 6 (hx.trans (by simp)) (by simp [bigTo_length]) (by simpa using ht)) (show valB _ = _ from val_of (pre := (bigTo mChunk64 4 4 ++ bigTo f 2 2 ++ bigTo t 2 2)) (tl := (bigTo o 8 8 ++ (bigTo k 8 8 ++ (d ++ [])))) c 8 8 (hx.trans (by simp)) (by simp [bigTo_length]) (by simpa using hc)) (show valB _ = _ from val_of (pre := (bigTo mChunk64 4 4 ++ bigTo f 2 2 ++ bigTo t 2 2 ++ bigTo c 8 8)) (tl := (bigTo k 8 8 ++ (d ++ []))) o 8 16 (hx.trans (by simp)) (by simp [bigTo_length]) (by simpa using ho)) (show valB _ = _ from val_of (pre := (bigTo mChunk64 4 4 ++ bigTo f 2 2 ++ bigTo t 2 2 ++ bigTo c 8 8 ++ bigTo o 8 8)) (tl := (d ++ [])) k 8 24 (hx.trans (by simp)) (by simp [bigTo_length]) (by omega)) (by omega) hk2 (Nat.le_refl _) (by omega) _ rfl d (tail_of (m := []) (pre := (bigTo mChunk64 4 4 ++ bigTo f 2 2 ++ bigTo t 2 2 ++ bigTo c 8 8 ++ bigTo o 8 8 ++ bigTo k 8 8)) 32 (hx.trans (by simp)) (by simp [bigTo_length]) hk)) ?_
    rintro e w' ⟨ao2, cap2, rfl, ho2, hb⟩
    exact ⟨o, _, _, _, rfl, ho2, hb⟩
end Go.Proofs.YtjikibhhhchgeaaDoor
