import Derived.Test.YtjhickfjagalfabDoorQ12
import Derived.Test.YtjhickfjagalfabDoorQ9
import Derived.Test.YtjhickfjagalfabDoorQ13
import Derived.Test.YtjhickfjagalfabDoorQ11
import Derived.Test.YtjhickfjagalfabDoorQ6
import Derived.Test.YtjhickfjagalfabDoorQ15
import Derived.Test.YtjhickfjagalfabDoorQ4
namespace Go.Proofs.YtjhickfjagalfabDoor
open Go.RowKit
set_option linter.unusedVariables false
set_option linter.unusedSimpArgs false
set_option maxRecDepth 100000
/-- the number of k bytes at a place -/
def vl (l : List Nat) (a k : Nat) : Nat := valB ((l.drop a).take k)
theorem vl_lt {w : World} {ao : Option Addr} {cap : Nat} {l : List Nat} (h : CRow w ao cap l) (a k : Nat) : vl l a k < 256 ^ k := valB_bound l a k h.row.lt
def greD (l : List Nat) : Nat × Nat × Nat :=
  if l.length < 18 then (0, 18, 10) else if vl l 0 8 ≠ mInit then (0, 0, 80) else if vl l 8 8 ≠ mHave then (0, 0, 80) else (vl l 16 2, 18, 0)
def flaD (l : List Nat) : Nat × Nat × Nat := if l.length < 4 then (0, 4, 10) else (vl l 0 4, 4, 0)
/-- how many bytes an answer to EXPORT_NAME has -/
def xz (z : Bool) : Nat := if z = true then 134 else 10
/-- are the bytes behind the tenth zeros? -/
def xzs (z : Bool) (l : List Nat) : Bool := ((l.take (xz z)).drop 10).all (· == 0)
def expD (z : Bool) (l : List Nat) : (Nat × Nat) × Nat × Nat :=
  if l.length < xz z then ((0, 0), xz z, 10) else if xzs z l = false then ((0, 0), 0, 81) else ((vl l 0 8, vl l 8 2), xz z, 0)
def simD (l : List Nat) : (Nat × Nat) × Nat × Nat :=
  if l.length < 16 then ((0, 0), 16, 10) else if vl l 0 4 ≠ mSimple then ((0, 0), 0, 80) else ((vl l 4 4, vl l 8 8), 16, 0)
def optD (most : Nat) (l : List Nat) : (Nat × Nat × Bool × List Nat) × Nat × Nat :=
  if l.length < 16 then ((0, 0, false, []), 16, 10)
  else if vl l 0 8 ≠ mHave then ((0, 0, false, []), 0, 80)
  else if most < vl l 12 4 then ((vl l 8 4, vl l 12 4, true, []), 16, 12)
  else if l.length < 16 + vl l 12 4 then ((0, 0, false, []), 16 + vl l 12 4, 10)
  else ((vl l 8 4, vl l 12 4, false, (l.drop 16).take (vl l 12 4)), 16 + vl l 12 4, 0)
def repD (most : Nat) (l : List Nat) : (Nat × Nat × List Nat) × Nat × Nat :=
  if l.length < 20 then ((0, 0, []), 20, 10)
  else if vl l 0 8 ≠ mReply then ((0, 0, []), 0, 80)
  else if most < vl l 16 4 then ((vl l 8 4, vl l 12 4, []), 20, 12)
  else if l.length < 20 + vl l 16 4 then ((0, 0, []), 20 + vl l 16 4, 10)
  else ((vl l 8 4, vl l 12 4, (l.drop 20).take (vl l 16 4)), 20 + vl l 16 4, 0)
def qz (ext : Bool) : Nat := if ext = true then 32 else 28
def qm (ext : Bool) : Nat := if ext = true then mReq64 else mReq
def qk (ext : Bool) : Nat := if ext = true then 8 else 4
def reqD (most : Nat) (ext : Bool) (l : List Nat) : (Nat × Nat × Nat × Nat × Nat × List Nat) × Nat × Nat :=
  if l.length < qz ext then ((0, 0, 0, 0, 0, []), qz ext, 10)
  else if vl l 0 4 ≠ qm ext then ((0, 0, 0, 0, 0, []), 0, 80)
  else if payB (vl l 4 2) (vl l 6 2) ext = false then ((vl l 4 2, vl l 6 2, vl l 8 8, vl l 16 8, vl l 24 (qk ext), []), qz ext, 0)
  else if most < vl l 24 (qk ext) then ((vl l 4 2, vl l 6 2, vl l 8 8, vl l 16 8, vl l 24 (qk ext), []), qz ext, 12)
  else if l.length < qz ext + vl l 24 (qk ext) then ((0, 0, 0, 0, 0, []), qz ext + vl l 24 (qk ext), 10)
  else ((vl l 4 2, vl l 6 2, vl l 8 8, vl l 16 8, vl l 24 (qk ext), (l.drop (qz ext)).take (vl l 24 (qk ext))), qz ext + vl l 24 (qk ext), 0)
def cz (ext : Bool) : Nat := if ext = true then 32 else 20
def cm (ext : Bool) : Nat := if ext = true then mChunk64 else mChunk
def cof (ext : Bool) (l : List Nat) : Nat := if ext = true then vl l 16 8 else 0
def cln (ext : Bool) (l : List Nat) : Nat := if ext = true then vl l 24 8 else vl l 16 4
def chkD (most : Nat) (ext : Bool) (l : List Nat) : (Nat × Nat × Nat × Nat × List Nat) × Nat × Nat :=
  if l.length < cz ext then ((0, 0, 0, 0, []), cz ext, 10)
  else if vl l 0 4 ≠ cm ext then ((0, 0, 0, 0, []), 0, 80)
  else if most < cln ext l then ((vl l 4 2, vl l 6 2, vl l 8 8, cof ext l, []), cz ext, 12)
  else if l.length < cz ext + cln ext l then ((0, 0, 0, 0, []), cz ext + cln ext l, 10)
  else ((vl l 4 2, vl l 6 2, vl l 8 8, cof ext l, (l.drop (cz ext)).take (cln ext l)), cz ext + cln ext l, 0)
end Go.Proofs.YtjhickfjagalfabDoor

namespace Go.Proofs.YtjhickfjagalfabDoor
open Go.RowKit
set_option linter.unusedVariables false
set_option linter.unusedSimpArgs false
set_option maxRecDepth 100000
set_option maxHeartbeats 400000 in
theorem same8_true (ao bo : Option Addr) (cap cap' n : Nat) (l : List Nat) (w : World) (h : BRow w ao cap l) (h' : BRow w bo cap' l) (hn : l.length = n) :
    Calls Tryd.prog 10 #[.slice ao n cap, .slice bo n cap'] w fun e w' => e = .returned (.bool true) ∧ Below w.heap.size w w' := by
  have H1 : Hid (Calls Tryd.prog 109 #[.slice ao n cap, .slice bo n cap'] w fun e w' => e = .returned (.bool true) ∧ ∃ q, w' = w.drewN q) := by
    have := same_any ao bo cap cap' l l w h h'
    rw [hn] at this
    simp at this
    exact this
  clear h h'
  have H2 : Hid (Calls Tryd.prog 46 #[.slice ao n cap, .slice bo n cap'] w fun e w' => e = .returned (.bool true) ∧ ∃ q, w' = w.drewN q) := by
    show Calls _ _ _ _ _
    go_enter Tryd.func46, Tryd.ntmps46
    go_wp2_with fail
    refine H1.out.mono ?_
    rintro e w1 ⟨rfl, q, hw⟩
    rw [hw]; clear hw
    go_wp2
    go_ret
    exact ⟨rfl, q, rfl⟩
  clear H1
  go_enter Tryd.func10, Tryd.ntmps10
  go_wp2_with fail
  refine H2.out.mono ?_
  rintro e w1 ⟨rfl, q, hw⟩
  rw [hw]; clear hw
  go_wp2
  go_ret
  exact ⟨rfl, ⟨rfl, rfl, rfl, Nat.le_refl _, fun _ _ => rfl⟩⟩
/-- how many zeros an export has -/
def zn (z : Bool) : Nat := if z = true then 124 else 0
def XL (s f : Nat) (z : Bool) : List Nat := xL s f ++ List.replicate (zn z) 0
theorem XL_len (s f : Nat) (z : Bool) : (XL s f z).length = 10 + zn z := by simp [XL, xL, bigTo_length]; omega
theorem encExport (s f : Nat) (z : Bool) (w : World) (hs : s < 18446744073709551616) (hf : f < 65536) :
    Calls Tryd.prog 35 #[.agg #[.int .u64 (s : Int), .int .u16 (f : Int)], .bool z] w fun e w' => ∃ ao cap, e = .returned (.slice ao (10 + zn z) cap) ∧ Row w w' ao cap (XL s f z) := by
  rw [← XL_len s f z]
  cases z with
  | true => exact encExport1 s f w hs hf
  | false => exact encExport0 s f w hs hf
end Go.Proofs.YtjhickfjagalfabDoor

namespace Go.Proofs.YtjhickfjagalfabDoor
open Go.RowKit
set_option linter.unusedVariables false
set_option linter.unusedSimpArgs false
set_option maxRecDepth 100000
/-- what is laid down of an option, and the error -/
def oC (c k : Nat) (lg : Bool) (d : List Nat) : List Nat := if lg = false ∧ k = d.length then oL c d else []
def oE (k : Nat) (lg : Bool) (d : List Nat) : Nat := if lg = false ∧ k = d.length then 0 else 81
def qC (f t c o n : Nat) (d : List Nat) (ext : Bool) : List Nat := if fitB f t n d.length ext = true then qL f t c o n d ext else []
def qE (f t n : Nat) (d : List Nat) (ext : Bool) : Nat := if fitB f t n d.length ext = true then 0 else 81
def kC (f t c o : Nat) (d : List Nat) (ext : Bool) : List Nat := if ext = true then cL64 f t c o d else cL f t c d
theorem encOptionC (c k : Nat) (lg : Bool) (ao : Option Addr) (cap : Nat) (d : List Nat) (w : World) (hc : c < 4294967296) (hk : k < 4294967296) (hd : BRow w ao cap d) (hn : d.length < 4294967296) :
    Calls Tryd.prog 39 #[.agg #[.int .u32 (c : Int), .int .u32 (k : Int), .bool lg, .slice ao d.length cap]] w fun e w' => ∃ ao' cap', e = .returned (.tuple #[.slice ao' (oC c k lg d).length cap', .int .i64 (oE k lg d : Nat)]) ∧ Row w w' ao' cap' (oC c k lg d) := by
  by_cases h : lg = false ∧ k = d.length
  · unfold oC oE
    rw [if_pos h, if_pos h]
    obtain ⟨rfl, rfl⟩ := h
    exact encOption c ao cap d w hc hd (by omega) hn
  · unfold oC oE
    rw [if_neg h, if_neg h]
    refine (encOption_bad c k lg ao cap d w hk (by omega) (by cases lg <;> simp_all)).mono ?_
    rintro e w' ⟨rfl, hb⟩
    exact ⟨none, 0, rfl, row_nil w w' hb⟩
theorem encRequestC (f t c o n : Nat) (ao : Option Addr) (cap : Nat) (d : List Nat) (ext : Bool) (w : World) (hf : f < 65536) (ht : t < 65536) (hc : c < 18446744073709551616) (ho : o < 18446744073709551616) (hn64 : n < 18446744073709551616) (hd : BRow w ao cap d) (hn : d.length < 4294967296) :
    Calls Tryd.prog 43 #[.agg #[.int .u16 (f : Int), .int .u16 (t : Int), .int .u64 (c : Int), .int .u64 (o : Int), .int .u64 (n : Int), .slice ao d.length cap], .bool ext] w fun e w' => ∃ ao' cap', e = .returned (.tuple #[.slice ao' (qC f t c o n d ext).length cap', .int .i64 (qE f t n d ext : Nat)]) ∧ Row w w' ao' cap' (qC f t c o n d ext) := by
  cases ext with
  | true =>
    by_cases h : fitB f t n d.length true = true
    · unfold qC qE
      rw [if_pos h, if_pos h]
      exact encRequest_true f t c o n ao cap d w hf ht hc ho hn64 hd (by omega) h
    · unfold qC qE
      rw [if_neg h, if_neg h]
      refine (encRequest_bad f t c o n ao cap d true w hn64 (by omega) (by simpa using h)).mono ?_
      rintro e w' ⟨rfl, hb⟩
      exact ⟨none, 0, rfl, row_nil w w' hb⟩
  | false =>
    by_cases h : fitB f t n d.length false = true
    · unfold qC qE
      rw [if_pos h, if_pos h]
      exact encRequest_false f t c o n ao cap d w hf ht hc ho hn64 hd (by omega) h
    · unfold qC qE
      rw [if_neg h, if_neg h]
      refine (encRequest_bad f t c o n ao cap d false w hn64 (by omega) (by simpa using h)).mono ?_
      rintro e w' ⟨rfl, hb⟩
      exact ⟨none, 0, rfl, row_nil w w' hb⟩
theorem encChunkC (f t c o : Nat) (ao : Option Addr) (cap : Nat) (d : List Nat) (ext : Bool) (w : World) (hf : f < 65536) (ht : t < 65536) (hc : c < 18446744073709551616) (ho : o < 18446744073709551616) (hd : BRow w ao cap d) (hn : d.length < 4294967296) :
    Calls Tryd.prog 45 #[.agg #[.int .u16 (f : Int), .int .u16 (t : Int), .int .u64 (c : Int), .int .u64 (o : Int), .slice ao d.length cap], .bool ext] w fun e w' => ∃ ao' cap', e = .returned (.slice ao' (kC f t c o d ext).length cap') ∧ Row w w' ao' cap' (kC f t c o d ext) := by
  cases ext with
  | true => exact encChunk_true f t c o ao cap d w hf ht hc ho hd (by omega)
  | false => exact encChunk_false f t c o ao cap d w hf ht hc ho hd (by omega)
end Go.Proofs.YtjhickfjagalfabDoor

namespace Go.Proofs.YtjhickfjagalfabDoor
open Go.RowKit
set_option linter.unusedVariables false
set_option linter.unusedSimpArgs false
set_option maxRecDepth 100000
/-- what told says: how many bytes, the error, the message laid down again -/
def toD (k most : Nat) (l : List Nat) : Nat × Nat × List Nat :=
  match k with
  | 0 => ((greD l).2.1, (greD l).2.2, gL (greD l).1)
  | 1 => ((flaD l).2.1, (flaD l).2.2, bigTo (flaD l).1 4 4)
  | 2 => ((expD false l).2.1, (expD false l).2.2, XL (expD false l).1.1 (expD false l).1.2 false)
  | 3 => ((expD true l).2.1, (expD true l).2.2, XL (expD true l).1.1 (expD true l).1.2 true)
  | 4 => ((simD l).2.1, (simD l).2.2, sL (simD l).1.1 (simD l).1.2)
  | 5 => ((optD most l).2.1, (optD most l).2.2, oC (optD most l).1.1 (optD most l).1.2.1 (optD most l).1.2.2.1 (optD most l).1.2.2.2)
  | 6 => ((repD most l).2.1, (repD most l).2.2, rL (repD most l).1.1 (repD most l).1.2.1 (repD most l).1.2.2)
  | 7 => ((reqD most false l).2.1, (reqD most false l).2.2, qC (reqD most false l).1.1 (reqD most false l).1.2.1 (reqD most false l).1.2.2.1 (reqD most false l).1.2.2.2.1 (reqD most false l).1.2.2.2.2.1 (reqD most false l).1.2.2.2.2.2 false)
  | 8 => ((reqD most true l).2.1, (reqD most true l).2.2, qC (reqD most true l).1.1 (reqD most true l).1.2.1 (reqD most true l).1.2.2.1 (reqD most true l).1.2.2.2.1 (reqD most true l).1.2.2.2.2.1 (reqD most true l).1.2.2.2.2.2 true)
  | 9 => ((chkD most false l).2.1, (chkD most false l).2.2, kC (chkD most false l).1.1 (chkD most false l).1.2.1 (chkD most false l).1.2.2.1 (chkD most false l).1.2.2.2.1 (chkD most false l).1.2.2.2.2 false)
  | _ => ((chkD most true l).2.1, (chkD most true l).2.2, kC (chkD most true l).1.1 (chkD most true l).1.2.1 (chkD most true l).1.2.2.1 (chkD most true l).1.2.2.2.1 (chkD most true l).1.2.2.2.2 true)
theorem vlb {l : List Nat} (h : ∀ x ∈ l, x < 256) (a k : Nat) : vl l a k < 256 ^ k := valB_bound l a k h
theorem vl2 {l : List Nat} (h : ∀ x ∈ l, x < 256) (a : Nat) : vl l a 2 < 65536 := by simpa using vlb h a 2
theorem vl4 {l : List Nat} (h : ∀ x ∈ l, x < 256) (a : Nat) : vl l a 4 < 4294967296 := by simpa using vlb h a 4
theorem vl8 {l : List Nat} (h : ∀ x ∈ l, x < 256) (a : Nat) : vl l a 8 < 18446744073709551616 := by simpa using vlb h a 8
theorem greD_b {l : List Nat} (h : ∀ x ∈ l, x < 256) : (greD l).1 < 65536 := by
  have := vl2 h 16
  unfold greD; repeat' split
  all_goals simp <;> omega
theorem flaD_b {l : List Nat} (h : ∀ x ∈ l, x < 256) : (flaD l).1 < 4294967296 := by
  have := vl4 h 0
  unfold flaD; split
  all_goals simp <;> omega
theorem expD_b {l : List Nat} (h : ∀ x ∈ l, x < 256) (z : Bool) : (expD z l).1.1 < 18446744073709551616 ∧ (expD z l).1.2 < 65536 := by
  have := vl8 h 0
  have := vl2 h 8
  unfold expD; repeat' split
  all_goals simp <;> omega
theorem simD_b {l : List Nat} (h : ∀ x ∈ l, x < 256) : (simD l).1.1 < 4294967296 ∧ (simD l).1.2 < 18446744073709551616 := by
  have := vl4 h 4
  have := vl8 h 8
  unfold simD; repeat' split
  all_goals simp <;> omega
theorem optD_b {l : List Nat} (h : ∀ x ∈ l, x < 256) (most : Nat) : (optD most l).1.1 < 4294967296 ∧ (optD most l).1.2.1 < 4294967296 ∧ (optD most l).1.2.2.2.length ≤ l.length := by
  have := vl4 h 8
  have := vl4 h 12
  unfold optD; repeat' split
  all_goals simp <;> omega
theorem repD_b {l : List Nat} (h : ∀ x ∈ l, x < 256) (most : Nat) : (repD most l).1.1 < 4294967296 ∧ (repD most l).1.2.1 < 4294967296 ∧ (repD most l).1.2.2.length ≤ l.length := by
  have := vl4 h 8
  have := vl4 h 12
  unfold repD; repeat' split
  all_goals simp <;> omega
theorem qk_b {l : List Nat} (h : ∀ x ∈ l, x < 256) (ext : Bool) : vl l 24 (qk ext) < 18446744073709551616 := by
  cases ext with
  | false => exact Nat.lt_trans (vl4 h 24) (by decide)
  | true => exact vl8 h 24
theorem reqD_b {l : List Nat} (h : ∀ x ∈ l, x < 256) (most : Nat) (ext : Bool) : (reqD most ext l).1.1 < 65536 ∧ (reqD most ext l).1.2.1 < 65536 ∧ (reqD most ext l).1.2.2.1 < 18446744073709551616 ∧ (reqD most ext l).1.2.2.2.1 < 18446744073709551616 ∧ (reqD most ext l).1.2.2.2.2.1 < 18446744073709551616 ∧ (reqD most ext l).1.2.2.2.2.2.length ≤ l.length := by
  have := vl2 h 4
  have := vl2 h 6
  have := vl8 h 8
  have := vl8 h 16
  have := qk_b h ext
  unfold reqD; repeat' split
  all_goals simp <;> omega
theorem cof_b {l : List Nat} (h : ∀ x ∈ l, x < 256) (ext : Bool) : cof ext l < 18446744073709551616 := by
  cases ext with
  | false => show 0 < _; decide
  | true => exact vl8 h 16
theorem chkD_b {l : List Nat} (h : ∀ x ∈ l, x < 256) (most : Nat) (ext : Bool) : (chkD most ext l).1.1 < 65536 ∧ (chkD most ext l).1.2.1 < 65536 ∧ (chkD most ext l).1.2.2.1 < 18446744073709551616 ∧ (chkD most ext l).1.2.2.2.1 < 18446744073709551616 ∧ (chkD most ext l).1.2.2.2.2.length ≤ l.length := by
  have := vl2 h 4
  have := vl2 h 6
  have := vl8 h 8
  have := cof_b h ext
  unfold chkD; repeat' split
  all_goals simp <;> omega
end Go.Proofs.YtjhickfjagalfabDoor

namespace Go.Proofs.YtjhickfjagalfabDoor
open Go.RowKit
set_option linter.unusedVariables false
set_option linter.unusedSimpArgs false
set_option maxRecDepth 100000
set_option maxHeartbeats 8000000 in
theorem decRequest0_ok (b off cap n : Nat) (l : List Nat) (most : Nat) (f t c o k : Nat) (w : World) (h : CRow w (some ⟨b, off, none⟩) cap l) (HN : Hid (l.length = n)) (hs : 28 ≤ n) (HX0 : Hid (valB ((l.drop 0).take 4) = mReq)) (HX1 : Hid (valB ((l.drop 4).take 2) = f)) (HX2 : Hid (valB ((l.drop 6).take 2) = t)) (HX3 : Hid (valB ((l.drop 8).take 8) = c)) (HX4 : Hid (valB ((l.drop 16).take 8) = o)) (HX5 : Hid (valB ((l.drop 24).take 4) = k)) (hk64 : k < 18446744073709551616) (hm4 : most < 4294967296) (hpay : payB f t false = true) (hle : k ≤ most) (hfit : k ≤ n - 28) (N : Nat) (hN : 28 + k = N) (m : List Nat) (hm : (l.drop 28).take k = m) :
    Calls Tryd.prog 42 #[.slice (some ⟨b, off, none⟩) n cap, .int .u32 (most : Int), .bool false] w fun e w' => ∃ ao2 cap2, e = .returned (.tuple #[.agg #[.int .u16 (f : Int), .int .u16 (t : Int), .int .u64 (c : Int), .int .u64 (o : Int), .int .u64 (k : Int), .slice ao2 k cap2], .int .i64 (N : Int), .int .i64 0]) ∧ w'.ownsRow w.heap.size 5 1 (.slice ao2 k cap2) k (m.map bv) ∧ Below w.heap.size w w' := by
  have HXs : Hid (∀ W : World, Calls Tryd.prog 103 #[.bool false] W fun e W' => e = .returned (.tuple #[.int .u32 (mReq : Nat), .int .i64 28]) ∧ W' = W) := fun W => by
    go_enter Tryd.func103, Tryd.ntmps103
    go_wp2
    go_ret2
    exact ⟨rfl, rfl⟩
  have hnl := h.row.len
  rw [HN.out] at hnl
  have hsl : 28 ≤ l.length := by rw [HN.out]; exact hs
  have HC : Hid (CRow w (some ⟨b, off, none⟩) cap l) := h
  obtain ⟨W0, hW0⟩ : ∃ W0, W0 = (((w.alloc (.cells #[.int .u16 0, .int .u16 0, .int .u64 0, .int .u64 0, .int .u64 0, nilV] 120)).alloc (.cells #[.int .u16 0, .int .u16 0, .int .u64 0, .int .u64 0, .int .u64 0, nilV] 120)).alloc (.cells #[.int .u16 0, .int .u16 0, .int .u64 0, .int .u64 0, .int .u64 0, nilV] 120)) := ⟨_, rfl⟩
  have HO : Hid (Calls Tryd.prog 90 #[.slice (some ⟨b, off, none⟩) n cap, .int .i64 28] W0 fun e W' => ∃ r hh ao' cap' a2 c2, e = .returned (.pointer (some ⟨r, 0, none⟩)) ∧ Dec w W' (bx3 w 120 #[.int .u16 0, .int .u16 0, .int .u64 0, .int .u64 0, .int .u64 0, nilV] #[.int .u16 0, .int .u16 0, .int .u64 0, .int .u64 0, .int .u64 0, nilV] #[.int .u16 0, .int .u16 0, .int .u64 0, .int .u64 0, .int .u64 0, nilV]) W0.heap.size r hh ao' cap' (l.take 28) 0 (.slice (some a2) (n - 28) c2) 0 28 0 ∧ n - 28 ≤ c2 ∧ c2 ≤ 9223372036854775807 ∧ (n - 28 ≠ 0 → a2 = ⟨b, off + 28, none⟩)) := by
    rw [hW0]; exact open_ok b off cap n 28 l (bx3_bel w _ _ _) (bx3_new w _ _ _ _) (bx3_nd w _ _ _ _) (h.later (bx3_bel w _ _ _)) HN hs (by decide) (by decide)
  clear h
  go_enter Tryd.func42, Tryd.ntmps42
  go_wp2
  refine wp_scope_jumps 0 (fun _ _ => False) (fun _ _ => 0) rfl ?first ?pass
  case first =>
    go_wp2_with fail
    refine (HXs.out _).mono ?_
    rintro e W9 ⟨rfl, hw9⟩
    rw [hw9]; clear hw9 HXs
    go_wp2_with fail
    rw [← hW0]
    clear hW0
    refine HO.out.mono ?_
    rintro e W1 ⟨r, hh, ao', cap', a2, c2, rfl, h1, hc1, hc2, ha2⟩
    have H1 : Hid _ := h1
    have HA : Hid _ := ha2
    clear h1 HO ha2
    go_wp2_with fail
    refine (magic32_ok H1.out (by rw [List.length_take]; omega) mReq (by rw [tk _ _ _ _ (by decide)]; exact HX0.out)).mono ?_
    rintro e W2 ⟨rfl, hx⟩
    have H2 : Hid _ := hx
    clear hx H1
    go_wp2_with fail
    refine (rx_u16 H2.out f HX1.out (by decide) hsl).mono ?_
    rintro e W3 ⟨rfl, hx⟩
    have H3 : Hid _ := hx
    clear hx H2
    go_wp2_with fail
    refine (rx_u16 H3.out t HX2.out (by decide) hsl).mono ?_
    rintro e W4 ⟨rfl, hx⟩
    have H4 : Hid _ := hx
    clear hx H3
    obtain ⟨s0, u0⟩ := H4.out.b (.tail _ (.tail _ (.head _))) 0
    simp at s0
    obtain ⟨s1, u1⟩ := H4.out.b (.tail _ (.tail _ (.head _))) 1
    simp at s1
    go_wp2_with fail
    replace H4 : Hid _ := H4.out.putS 0 (.int .u16 (f : Int)) #[.int .u16 (f : Int), .int .u16 0, .int .u64 0, .int .u64 0, .int .u64 0, nilV] rfl
    replace H4 : Hid _ := H4.out.putS 1 (.int .u16 (t : Int)) #[.int .u16 (f : Int), .int .u16 (t : Int), .int .u64 0, .int .u64 0, .int .u64 0, nilV] rfl
    refine (rx_u64 H4.out c HX3.out (by decide) hsl).mono ?_
    rintro e W5 ⟨rfl, hx⟩
    have H5 : Hid _ := hx
    clear hx H4 s0 u0 s1 u1
    go_wp2_with fail
    refine (rx_u64 H5.out o HX4.out (by decide) hsl).mono ?_
    rintro e W6 ⟨rfl, hx⟩
    have H6 : Hid _ := hx
    clear hx H5
    go_wp2_with fail
    refine (rx_number_plain H6.out k HX5.out (by decide) hsl).mono ?_
    rintro e W7 ⟨rfl, hx⟩
    have H7 : Hid _ := hx
    clear hx H6
    obtain ⟨s2, u2⟩ := H7.out.b (.tail _ (.tail _ (.head _))) 2
    simp at s2
    obtain ⟨s3, u3⟩ := H7.out.b (.tail _ (.tail _ (.head _))) 3
    simp at s3
    obtain ⟨s4, u4⟩ := H7.out.b (.tail _ (.tail _ (.head _))) 4
    simp at s4
    obtain ⟨s0, u0⟩ := H7.out.b (.tail _ (.tail _ (.head _))) 0
    simp at s0
    obtain ⟨s1, u1⟩ := H7.out.b (.tail _ (.tail _ (.head _))) 1
    simp at s1
    obtain ⟨s5, u5⟩ := H7.out.b (.tail _ (.tail _ (.head _))) 5
    simp at s5
    go_wp2_with fail
    replace H7 : Hid _ := H7.out.putS 2 (.int .u64 (c : Int)) #[.int .u16 (f : Int), .int .u16 (t : Int), .int .u64 (c : Int), .int .u64 0, .int .u64 0, nilV] rfl
    replace H7 : Hid _ := H7.out.putS 3 (.int .u64 (o : Int)) #[.int .u16 (f : Int), .int .u16 (t : Int), .int .u64 (c : Int), .int .u64 (o : Int), .int .u64 0, nilV] rfl
    replace H7 : Hid _ := H7.out.putS 4 (.int .u64 (k : Int)) #[.int .u16 (f : Int), .int .u16 (t : Int), .int .u64 (c : Int), .int .u64 (o : Int), .int .u64 (k : Int), nilV] rfl
    refine (pay_any f t c o k none 0 [] false _).mono ?_
    rintro e W8 ⟨rfl, hb9⟩
    have H8 : Hid _ := H7.out.later hb9
    clear hb9 H7 s2 u2 s3 u3 s4 u4 s0 u0 s1 u1 s5 u5
    rw [hpay]
    obtain ⟨s4, u4⟩ := H8.out.b (.tail _ (.tail _ (.head _))) 4
    simp at s4
    go_wp2_with fail
    refine (measure_rest H8.out (by decide) (by omega) k most hm4 hle N hN).mono ?_
    rintro e W9 hx
    have HX9 : Hid _ := hx
    clear hx H8 s4 u4
    rcases HX9.out with ⟨hx, _⟩ | ⟨_, rfl, hx⟩
    · omega
    have H9 : Hid _ := hx
    clear hx HX9
    have hml : m.length = k := by rw [← hm, List.length_take, List.length_drop, HN.out]; omega
    have hmt : ∀ x ∈ m, x < 256 := fun x hx => HC.out.row.lt x (by rw [← hm] at hx; exact List.mem_of_mem_drop (List.mem_of_mem_take hx))
    have HDt : Hid _ := data_any (len := k) H9.out m hml hmt (by rw [← hm]; exact tail_news HC.out H9.out.bel (by rw [HN.out]; exact HA.out)) (by omega) hc1 (by omega) hc2
    have HB : Hid (w.heap.size + 1 + 1 < W9.heap.size) := by show _ < _; have h1 := block_lt H9.out.rd; have h2 := H9.out.hr; have h3 : w.heap.size + 1 + 1 < _ := (H9.out.box _ (.tail _ (.tail _ (.head _)))).2.2; omega
    clear H9 HX0 HX1 HX2 HX3 HX4 HX5 HN HC hml hmt HA 
    go_wp2_with fail
    refine Calls.mono HDt.out ?_
    rintro e W10 ⟨ao2, cap2, rfl, ho, hb, h9⟩
    have H10 : Hid _ := h9
    have HR : Hid (W10.ownsRow W9.heap.size 5 1 (.slice ao2 k cap2) k (m.map bv)) := ho
    clear h9 ho hb HDt
    obtain ⟨c10, f10⟩ := H10.out.b (.tail _ (.head _)) 0
    obtain ⟨c20, f20⟩ := H10.out.b (.tail _ (.tail _ (.head _))) 0
    obtain ⟨c11, f11⟩ := H10.out.b (.tail _ (.head _)) 1
    obtain ⟨c21, f21⟩ := H10.out.b (.tail _ (.tail _ (.head _))) 1
    obtain ⟨c12, f12⟩ := H10.out.b (.tail _ (.head _)) 2
    obtain ⟨c22, f22⟩ := H10.out.b (.tail _ (.tail _ (.head _))) 2
    obtain ⟨c13, f13⟩ := H10.out.b (.tail _ (.head _)) 3
    obtain ⟨c23, f23⟩ := H10.out.b (.tail _ (.tail _ (.head _))) 3
    obtain ⟨c14, f14⟩ := H10.out.b (.tail _ (.head _)) 4
    obtain ⟨c24, f24⟩ := H10.out.b (.tail _ (.tail _ (.head _))) 4
    obtain ⟨c15, f15⟩ := H10.out.b (.tail _ (.head _)) 5
    obtain ⟨c25, f25⟩ := H10.out.b (.tail _ (.tail _ (.head _))) 5
    simp at c10 c20 c11 c21 c12 c22 c13 c23 c14 c24 c15 c25
    go_wp2
    go_step3
    have HF : Hid _ := (((((((H10.out.putS 5 (.slice ao2 k cap2) #[.int .u16 (f : Int), .int .u16 (t : Int), .int .u64 (c : Int), .int .u64 (o : Int), .int .u64 (k : Int), .slice ao2 k cap2] rfl).putO 0 (.int .u16 (f : Int)) #[.int .u16 (f : Int), .int .u16 0, .int .u64 0, .int .u64 0, .int .u64 0, nilV] rfl).putO 1 (.int .u16 (t : Int)) #[.int .u16 (f : Int), .int .u16 (t : Int), .int .u64 0, .int .u64 0, .int .u64 0, nilV] rfl).putO 2 (.int .u64 (c : Int)) #[.int .u16 (f : Int), .int .u16 (t : Int), .int .u64 (c : Int), .int .u64 0, .int .u64 0, nilV] rfl).putO 3 (.int .u64 (o : Int)) #[.int .u16 (f : Int), .int .u16 (t : Int), .int .u64 (c : Int), .int .u64 (o : Int), .int .u64 0, nilV] rfl).putO 4 (.int .u64 (k : Int)) #[.int .u16 (f : Int), .int .u16 (t : Int), .int .u64 (c : Int), .int .u64 (o : Int), .int .u64 (k : Int), nilV] rfl).putO 5 (.slice ao2 k cap2) #[.int .u16 (f : Int), .int .u16 (t : Int), .int .u64 (c : Int), .int .u64 (o : Int), .int .u64 (k : Int), .slice ao2 k cap2] rfl)
    have HW : Hid (((((((((W10.setCell ⟨w.heap.size + 1 + 1, 5, none⟩ (.slice ao2 k cap2)).setCell ⟨w.heap.size + 1, 0, none⟩ (.int .u16 (f : Int))).setCell ⟨w.heap.size + 1, 1, none⟩ (.int .u16 (t : Int))).setCell ⟨w.heap.size + 1, 2, none⟩ (.int .u64 (c : Int))).setCell ⟨w.heap.size + 1, 3, none⟩ (.int .u64 (o : Int))).setCell ⟨w.heap.size + 1, 4, none⟩ (.int .u64 (k : Int))).setCell ⟨w.heap.size + 1, 5, none⟩ (.slice ao2 k cap2))).ownsRow W9.heap.size 5 1 (.slice ao2 k cap2) k (m.map bv)) := setAll_owns [(w.heap.size + 1 + 1, 5, .slice ao2 k cap2), (w.heap.size + 1, 0, .int .u16 (f : Int)), (w.heap.size + 1, 1, .int .u16 (t : Int)), (w.heap.size + 1, 2, .int .u64 (c : Int)), (w.heap.size + 1, 3, .int .u64 (o : Int)), (w.heap.size + 1, 4, .int .u64 (k : Int)), (w.heap.size + 1, 5, .slice ao2 k cap2)] W10 HR.out (by have := HB.out; simp; omega)
    clear HR H10 c10 f10 c20 f20 c11 f11 c21 f21 c12 f12 c22 f22 c13 f13 c23 f23 c14 f14 c24 f24 c15 f15 c25 f25
    generalize (((((((W10.setCell ⟨w.heap.size + 1 + 1, 5, none⟩ (.slice ao2 k cap2)).setCell ⟨w.heap.size + 1, 0, none⟩ (.int .u16 (f : Int))).setCell ⟨w.heap.size + 1, 1, none⟩ (.int .u16 (t : Int))).setCell ⟨w.heap.size + 1, 2, none⟩ (.int .u64 (c : Int))).setCell ⟨w.heap.size + 1, 3, none⟩ (.int .u64 (o : Int))).setCell ⟨w.heap.size + 1, 4, none⟩ (.int .u64 (k : Int))).setCell ⟨w.heap.size + 1, 5, none⟩ (.slice ao2 k cap2)) = Wx at *
    have hn1 : ¬ (w.heap.size = r) := (HF.out.lb.box _ (.head _)).2.2
    have hn2 : ¬ (r = w.heap.size) := fun e => hn1 e.symm
    have r3 := HF.out.lb.cn
    have r4 := HF.out.lb.ce
    obtain ⟨c00, f00⟩ := HF.out.b (.head _) 0
    obtain ⟨c10, f10⟩ := HF.out.b (.tail _ (.head _)) 0
    obtain ⟨c01, f01⟩ := HF.out.b (.head _) 1
    obtain ⟨c11, f11⟩ := HF.out.b (.tail _ (.head _)) 1
    obtain ⟨c02, f02⟩ := HF.out.b (.head _) 2
    obtain ⟨c12, f12⟩ := HF.out.b (.tail _ (.head _)) 2
    obtain ⟨c03, f03⟩ := HF.out.b (.head _) 3
    obtain ⟨c13, f13⟩ := HF.out.b (.tail _ (.head _)) 3
    obtain ⟨c04, f04⟩ := HF.out.b (.head _) 4
    obtain ⟨c14, f14⟩ := HF.out.b (.tail _ (.head _)) 4
    obtain ⟨c05, f05⟩ := HF.out.b (.head _) 5
    obtain ⟨c15, f15⟩ := HF.out.b (.tail _ (.head _)) 5
    simp at c00 c10 c01 c11 c02 c12 c03 c13 c04 c14 c05 c15
    go_wp2
    go_region
    all_goals
      go_wp2
      rw [jump_ret]
      obtain ⟨HG, HW2, HB2⟩ := close6 (HF.out.box _ (.head _)).1 HF.out.bel HW.out (by have := HB.out; omega) (.int .u16 (f : Int)) (.int .u16 (t : Int)) (.int .u64 (c : Int)) (.int .u64 (o : Int)) (.int .u64 (k : Int)) (.slice ao2 k cap2)
      clear HF HW
      generalize ((((((Wx.setCell ⟨w.heap.size, 0, none⟩ (.int .u16 (f : Int))).setCell ⟨w.heap.size, 1, none⟩ (.int .u16 (t : Int))).setCell ⟨w.heap.size, 2, none⟩ (.int .u64 (c : Int))).setCell ⟨w.heap.size, 3, none⟩ (.int .u64 (o : Int))).setCell ⟨w.heap.size, 4, none⟩ (.int .u64 (k : Int))).setCell ⟨w.heap.size, 5, none⟩ (.slice ao2 k cap2)).drew = Wz at HG HW2 HB2 ⊢
      exact bodyPost_ret (results_cell_tmp2 rfl _ Wz w.heap.size 120 #[.int .u16 (f : Int), .int .u16 (t : Int), .int .u64 (c : Int), .int .u64 (o : Int), .int .u64 (k : Int), .slice ao2 k cap2] (0, 0) _ rfl HG Tryd.underlying120 rfl infoReq) rfl ⟨_, _, rfl, owns_mono HW2 (by have := HB.out; omega), HB2⟩
  case pass =>
    rintro a W hf
    exact hf.elim
end Go.Proofs.YtjhickfjagalfabDoor

namespace Go.Proofs.YtjhickfjagalfabDoor
open Go.RowKit
set_option linter.unusedVariables false
set_option linter.unusedSimpArgs false
set_option maxRecDepth 100000
set_option maxHeartbeats 8000000 in
theorem decRequest1_ok (b off cap n : Nat) (l : List Nat) (most : Nat) (f t c o k : Nat) (w : World) (h : CRow w (some ⟨b, off, none⟩) cap l) (HN : Hid (l.length = n)) (hs : 32 ≤ n) (HX0 : Hid (valB ((l.drop 0).take 4) = mReq64)) (HX1 : Hid (valB ((l.drop 4).take 2) = f)) (HX2 : Hid (valB ((l.drop 6).take 2) = t)) (HX3 : Hid (valB ((l.drop 8).take 8) = c)) (HX4 : Hid (valB ((l.drop 16).take 8) = o)) (HX5 : Hid (valB ((l.drop 24).take 8) = k)) (hk64 : k < 18446744073709551616) (hm4 : most < 4294967296) (hpay : payB f t true = true) (hle : k ≤ most) (hfit : k ≤ n - 32) (N : Nat) (hN : 32 + k = N) (m : List Nat) (hm : (l.drop 32).take k = m) :
    Calls Tryd.prog 42 #[.slice (some ⟨b, off, none⟩) n cap, .int .u32 (most : Int), .bool true] w fun e w' => ∃ ao2 cap2, e = .returned (.tuple #[.agg #[.int .u16 (f : Int), .int .u16 (t : Int), .int .u64 (c : Int), .int .u64 (o : Int), .int .u64 (k : Int), .slice ao2 k cap2], .int .i64 (N : Int), .int .i64 0]) ∧ w'.ownsRow w.heap.size 5 1 (.slice ao2 k cap2) k (m.map bv) ∧ Below w.heap.size w w' := by
  have HXs : Hid (∀ W : World, Calls Tryd.prog 103 #[.bool true] W fun e W' => e = .returned (.tuple #[.int .u32 (mReq64 : Nat), .int .i64 32]) ∧ W' = W) := fun W => by
    go_enter Tryd.func103, Tryd.ntmps103
    go_wp2
    go_ret2
    exact ⟨rfl, rfl⟩
  have hnl := h.row.len
  rw [HN.out] at hnl
  have hsl : 32 ≤ l.length := by rw [HN.out]; exact hs
  have HC : Hid (CRow w (some ⟨b, off, none⟩) cap l) := h
  obtain ⟨W0, hW0⟩ : ∃ W0, W0 = (((w.alloc (.cells #[.int .u16 0, .int .u16 0, .int .u64 0, .int .u64 0, .int .u64 0, nilV] 120)).alloc (.cells #[.int .u16 0, .int .u16 0, .int .u64 0, .int .u64 0, .int .u64 0, nilV] 120)).alloc (.cells #[.int .u16 0, .int .u16 0, .int .u64 0, .int .u64 0, .int .u64 0, nilV] 120)) := ⟨_, rfl⟩
  have HO : Hid (Calls Tryd.prog 90 #[.slice (some ⟨b, off, none⟩) n cap, .int .i64 32] W0 fun e W' => ∃ r hh ao' cap' a2 c2, e = .returned (.pointer (some ⟨r, 0, none⟩)) ∧ Dec w W' (bx3 w 120 #[.int .u16 0, .int .u16 0, .int .u64 0, .int .u64 0, .int .u64 0, nilV] #[.int .u16 0, .int .u16 0, .int .u64 0, .int .u64 0, .int .u64 0, nilV] #[.int .u16 0, .int .u16 0, .int .u64 0, .int .u64 0, .int .u64 0, nilV]) W0.heap.size r hh ao' cap' (l.take 32) 0 (.slice (some a2) (n - 32) c2) 0 32 0 ∧ n - 32 ≤ c2 ∧ c2 ≤ 9223372036854775807 ∧ (n - 32 ≠ 0 → a2 = ⟨b, off + 32, none⟩)) := by
    rw [hW0]; exact open_ok b off cap n 32 l (bx3_bel w _ _ _) (bx3_new w _ _ _ _) (bx3_nd w _ _ _ _) (h.later (bx3_bel w _ _ _)) HN hs (by decide) (by decide)
  clear h
  go_enter Tryd.func42, Tryd.ntmps42
  go_wp2
  refine wp_scope_jumps 0 (fun _ _ => False) (fun _ _ => 0) rfl ?first ?pass
  case first =>
    go_wp2_with fail
    refine (HXs.out _).mono ?_
    rintro e W9 ⟨rfl, hw9⟩
    rw [hw9]; clear hw9 HXs
    go_wp2_with fail
    rw [← hW0]
    clear hW0
    refine HO.out.mono ?_
    rintro e W1 ⟨r, hh, ao', cap', a2, c2, rfl, h1, hc1, hc2, ha2⟩
    have H1 : Hid _ := h1
    have HA : Hid _ := ha2
    clear h1 HO ha2
    go_wp2_with fail
    refine (magic32_ok H1.out (by rw [List.length_take]; omega) mReq64 (by rw [tk _ _ _ _ (by decide)]; exact HX0.out)).mono ?_
    rintro e W2 ⟨rfl, hx⟩
    have H2 : Hid _ := hx
    clear hx H1
    go_wp2_with fail
    refine (rx_u16 H2.out f HX1.out (by decide) hsl).mono ?_
    rintro e W3 ⟨rfl, hx⟩
    have H3 : Hid _ := hx
    clear hx H2
    go_wp2_with fail
    refine (rx_u16 H3.out t HX2.out (by decide) hsl).mono ?_
    rintro e W4 ⟨rfl, hx⟩
    have H4 : Hid _ := hx
    clear hx H3
    obtain ⟨s0, u0⟩ := H4.out.b (.tail _ (.tail _ (.head _))) 0
    simp at s0
    obtain ⟨s1, u1⟩ := H4.out.b (.tail _ (.tail _ (.head _))) 1
    simp at s1
    go_wp2_with fail
    replace H4 : Hid _ := H4.out.putS 0 (.int .u16 (f : Int)) #[.int .u16 (f : Int), .int .u16 0, .int .u64 0, .int .u64 0, .int .u64 0, nilV] rfl
    replace H4 : Hid _ := H4.out.putS 1 (.int .u16 (t : Int)) #[.int .u16 (f : Int), .int .u16 (t : Int), .int .u64 0, .int .u64 0, .int .u64 0, nilV] rfl
    refine (rx_u64 H4.out c HX3.out (by decide) hsl).mono ?_
    rintro e W5 ⟨rfl, hx⟩
    have H5 : Hid _ := hx
    clear hx H4 s0 u0 s1 u1
    go_wp2_with fail
    refine (rx_u64 H5.out o HX4.out (by decide) hsl).mono ?_
    rintro e W6 ⟨rfl, hx⟩
    have H6 : Hid _ := hx
    clear hx H5
    go_wp2_with fail
    refine (rx_number_wide H6.out k HX5.out (by decide) hsl).mono ?_
    rintro e W7 ⟨rfl, hx⟩
    have H7 : Hid _ := hx
    clear hx H6
    obtain ⟨s2, u2⟩ := H7.out.b (.tail _ (.tail _ (.head _))) 2
    simp at s2
    obtain ⟨s3, u3⟩ := H7.out.b (.tail _ (.tail _ (.head _))) 3
    simp at s3
    obtain ⟨s4, u4⟩ := H7.out.b (.tail _ (.tail _ (.head _))) 4
    simp at s4
    obtain ⟨s0, u0⟩ := H7.out.b (.tail _ (.tail _ (.head _))) 0
    simp at s0
    obtain ⟨s1, u1⟩ := H7.out.b (.tail _ (.tail _ (.head _))) 1
    simp at s1
    obtain ⟨s5, u5⟩ := H7.out.b (.tail _ (.tail _ (.head _))) 5
    simp at s5
    go_wp2_with fail
    replace H7 : Hid _ := H7.out.putS 2 (.int .u64 (c : Int)) #[.int .u16 (f : Int), .int .u16 (t : Int), .int .u64 (c : Int), .int .u64 0, .int .u64 0, nilV] rfl
    replace H7 : Hid _ := H7.out.putS 3 (.int .u64 (o : Int)) #[.int .u16 (f : Int), .int .u16 (t : Int), .int .u64 (c : Int), .int .u64 (o : Int), .int .u64 0, nilV] rfl
    replace H7 : Hid _ := H7.out.putS 4 (.int .u64 (k : Int)) #[.int .u16 (f : Int), .int .u16 (t : Int), .int .u64 (c : Int), .int .u64 (o : Int), .int .u64 (k : Int), nilV] rfl
    refine (pay_any f t c o k none 0 [] true _).mono ?_
    rintro e W8 ⟨rfl, hb9⟩
    have H8 : Hid _ := H7.out.later hb9
    clear hb9 H7 s2 u2 s3 u3 s4 u4 s0 u0 s1 u1 s5 u5
    rw [hpay]
    obtain ⟨s4, u4⟩ := H8.out.b (.tail _ (.tail _ (.head _))) 4
    simp at s4
    go_wp2_with fail
    refine (measure_rest H8.out (by decide) (by omega) k most hm4 hle N hN).mono ?_
    rintro e W9 hx
    have HX9 : Hid _ := hx
    clear hx H8 s4 u4
    rcases HX9.out with ⟨hx, _⟩ | ⟨_, rfl, hx⟩
    · omega
    have H9 : Hid _ := hx
    clear hx HX9
    have hml : m.length = k := by rw [← hm, List.length_take, List.length_drop, HN.out]; omega
    have hmt : ∀ x ∈ m, x < 256 := fun x hx => HC.out.row.lt x (by rw [← hm] at hx; exact List.mem_of_mem_drop (List.mem_of_mem_take hx))
    have HDt : Hid _ := data_any (len := k) H9.out m hml hmt (by rw [← hm]; exact tail_news HC.out H9.out.bel (by rw [HN.out]; exact HA.out)) (by omega) hc1 (by omega) hc2
    have HB : Hid (w.heap.size + 1 + 1 < W9.heap.size) := by show _ < _; have h1 := block_lt H9.out.rd; have h2 := H9.out.hr; have h3 : w.heap.size + 1 + 1 < _ := (H9.out.box _ (.tail _ (.tail _ (.head _)))).2.2; omega
    clear H9 HX0 HX1 HX2 HX3 HX4 HX5 HN HC hml hmt HA 
    go_wp2_with fail
    refine Calls.mono HDt.out ?_
    rintro e W10 ⟨ao2, cap2, rfl, ho, hb, h9⟩
    have H10 : Hid _ := h9
    have HR : Hid (W10.ownsRow W9.heap.size 5 1 (.slice ao2 k cap2) k (m.map bv)) := ho
    clear h9 ho hb HDt
    obtain ⟨c10, f10⟩ := H10.out.b (.tail _ (.head _)) 0
    obtain ⟨c20, f20⟩ := H10.out.b (.tail _ (.tail _ (.head _))) 0
    obtain ⟨c11, f11⟩ := H10.out.b (.tail _ (.head _)) 1
    obtain ⟨c21, f21⟩ := H10.out.b (.tail _ (.tail _ (.head _))) 1
    obtain ⟨c12, f12⟩ := H10.out.b (.tail _ (.head _)) 2
    obtain ⟨c22, f22⟩ := H10.out.b (.tail _ (.tail _ (.head _))) 2
    obtain ⟨c13, f13⟩ := H10.out.b (.tail _ (.head _)) 3
    obtain ⟨c23, f23⟩ := H10.out.b (.tail _ (.tail _ (.head _))) 3
    obtain ⟨c14, f14⟩ := H10.out.b (.tail _ (.head _)) 4
    obtain ⟨c24, f24⟩ := H10.out.b (.tail _ (.tail _ (.head _))) 4
    obtain ⟨c15, f15⟩ := H10.out.b (.tail _ (.head _)) 5
    obtain ⟨c25, f25⟩ := H10.out.b (.tail _ (.tail _ (.head _))) 5
    simp at c10 c20 c11 c21 c12 c22 c13 c23 c14 c24 c15 c25
    go_wp2
    go_step3
    have HF : Hid _ := (((((((H10.out.putS 5 (.slice ao2 k cap2) #[.int .u16 (f : Int), .int .u16 (t : Int), .int .u64 (c : Int), .int .u64 (o : Int), .int .u64 (k : Int), .slice ao2 k cap2] rfl).putO 0 (.int .u16 (f : Int)) #[.int .u16 (f : Int), .int .u16 0, .int .u64 0, .int .u64 0, .int .u64 0, nilV] rfl).putO 1 (.int .u16 (t : Int)) #[.int .u16 (f : Int), .int .u16 (t : Int), .int .u64 0, .int .u64 0, .int .u64 0, nilV] rfl).putO 2 (.int .u64 (c : Int)) #[.int .u16 (f : Int), .int .u16 (t : Int), .int .u64 (c : Int), .int .u64 0, .int .u64 0, nilV] rfl).putO 3 (.int .u64 (o : Int)) #[.int .u16 (f : Int), .int .u16 (t : Int), .int .u64 (c : Int), .int .u64 (o : Int), .int .u64 0, nilV] rfl).putO 4 (.int .u64 (k : Int)) #[.int .u16 (f : Int), .int .u16 (t : Int), .int .u64 (c : Int), .int .u64 (o : Int), .int .u64 (k : Int), nilV] rfl).putO 5 (.slice ao2 k cap2) #[.int .u16 (f : Int), .int .u16 (t : Int), .int .u64 (c : Int), .int .u64 (o : Int), .int .u64 (k : Int), .slice ao2 k cap2] rfl)
    have HW : Hid (((((((((W10.setCell ⟨w.heap.size + 1 + 1, 5, none⟩ (.slice ao2 k cap2)).setCell ⟨w.heap.size + 1, 0, none⟩ (.int .u16 (f : Int))).setCell ⟨w.heap.size + 1, 1, none⟩ (.int .u16 (t : Int))).setCell ⟨w.heap.size + 1, 2, none⟩ (.int .u64 (c : Int))).setCell ⟨w.heap.size + 1, 3, none⟩ (.int .u64 (o : Int))).setCell ⟨w.heap.size + 1, 4, none⟩ (.int .u64 (k : Int))).setCell ⟨w.heap.size + 1, 5, none⟩ (.slice ao2 k cap2))).ownsRow W9.heap.size 5 1 (.slice ao2 k cap2) k (m.map bv)) := setAll_owns [(w.heap.size + 1 + 1, 5, .slice ao2 k cap2), (w.heap.size + 1, 0, .int .u16 (f : Int)), (w.heap.size + 1, 1, .int .u16 (t : Int)), (w.heap.size + 1, 2, .int .u64 (c : Int)), (w.heap.size + 1, 3, .int .u64 (o : Int)), (w.heap.size + 1, 4, .int .u64 (k : Int)), (w.heap.size + 1, 5, .slice ao2 k cap2)] W10 HR.out (by have := HB.out; simp; omega)
    clear HR H10 c10 f10 c20 f20 c11 f11 c21 f21 c12 f12 c22 f22 c13 f13 c23 f23 c14 f14 c24 f24 c15 f15 c25 f25
    generalize (((((((W10.setCell ⟨w.heap.size + 1 + 1, 5, none⟩ (.slice ao2 k cap2)).setCell ⟨w.heap.size + 1, 0, none⟩ (.int .u16 (f : Int))).setCell ⟨w.heap.size + 1, 1, none⟩ (.int .u16 (t : Int))).setCell ⟨w.heap.size + 1, 2, none⟩ (.int .u64 (c : Int))).setCell ⟨w.heap.size + 1, 3, none⟩ (.int .u64 (o : Int))).setCell ⟨w.heap.size + 1, 4, none⟩ (.int .u64 (k : Int))).setCell ⟨w.heap.size + 1, 5, none⟩ (.slice ao2 k cap2)) = Wx at *
    have hn1 : ¬ (w.heap.size = r) := (HF.out.lb.box _ (.head _)).2.2
    have hn2 : ¬ (r = w.heap.size) := fun e => hn1 e.symm
    have r3 := HF.out.lb.cn
    have r4 := HF.out.lb.ce
    obtain ⟨c00, f00⟩ := HF.out.b (.head _) 0
    obtain ⟨c10, f10⟩ := HF.out.b (.tail _ (.head _)) 0
    obtain ⟨c01, f01⟩ := HF.out.b (.head _) 1
    obtain ⟨c11, f11⟩ := HF.out.b (.tail _ (.head _)) 1
    obtain ⟨c02, f02⟩ := HF.out.b (.head _) 2
    obtain ⟨c12, f12⟩ := HF.out.b (.tail _ (.head _)) 2
    obtain ⟨c03, f03⟩ := HF.out.b (.head _) 3
    obtain ⟨c13, f13⟩ := HF.out.b (.tail _ (.head _)) 3
    obtain ⟨c04, f04⟩ := HF.out.b (.head _) 4
    obtain ⟨c14, f14⟩ := HF.out.b (.tail _ (.head _)) 4
    obtain ⟨c05, f05⟩ := HF.out.b (.head _) 5
    obtain ⟨c15, f15⟩ := HF.out.b (.tail _ (.head _)) 5
    simp at c00 c10 c01 c11 c02 c12 c03 c13 c04 c14 c05 c15
    go_wp2
    go_region
    all_goals
      go_wp2
      rw [jump_ret]
      obtain ⟨HG, HW2, HB2⟩ := close6 (HF.out.box _ (.head _)).1 HF.out.bel HW.out (by have := HB.out; omega) (.int .u16 (f : Int)) (.int .u16 (t : Int)) (.int .u64 (c : Int)) (.int .u64 (o : Int)) (.int .u64 (k : Int)) (.slice ao2 k cap2)
      clear HF HW
      generalize ((((((Wx.setCell ⟨w.heap.size, 0, none⟩ (.int .u16 (f : Int))).setCell ⟨w.heap.size, 1, none⟩ (.int .u16 (t : Int))).setCell ⟨w.heap.size, 2, none⟩ (.int .u64 (c : Int))).setCell ⟨w.heap.size, 3, none⟩ (.int .u64 (o : Int))).setCell ⟨w.heap.size, 4, none⟩ (.int .u64 (k : Int))).setCell ⟨w.heap.size, 5, none⟩ (.slice ao2 k cap2)).drew = Wz at HG HW2 HB2 ⊢
      exact bodyPost_ret (results_cell_tmp2 rfl _ Wz w.heap.size 120 #[.int .u16 (f : Int), .int .u16 (t : Int), .int .u64 (c : Int), .int .u64 (o : Int), .int .u64 (k : Int), .slice ao2 k cap2] (0, 0) _ rfl HG Tryd.underlying120 rfl infoReq) rfl ⟨_, _, rfl, owns_mono HW2 (by have := HB.out; omega), HB2⟩
  case pass =>
    rintro a W hf
    exact hf.elim
end Go.Proofs.YtjhickfjagalfabDoor

namespace Go.Proofs.YtjhickfjagalfabDoor
open Go.RowKit
set_option linter.unusedVariables false
set_option linter.unusedSimpArgs false
set_option maxRecDepth 100000

theorem valB_inj : ∀ (n : Nat) (a b : List Nat), a.length = n → b.length = n → (∀ x ∈ a, x < 256) → (∀ x ∈ b, x < 256) → valB a = valB b → a = b
  | 0, a, b, ha, hb, _, _, _ => by rw [List.eq_nil_of_length_eq_zero ha, List.eq_nil_of_length_eq_zero hb]
  | n + 1, a, b, ha, hb, la, lb, h => by
    rcases List.eq_nil_or_concat a with rfl | ⟨a', x, rfl⟩
    · simp at ha
    rcases List.eq_nil_or_concat b with rfl | ⟨b', y, rfl⟩
    · simp at hb
    simp only [List.concat_eq_append] at *
    rw [valB_snoc, valB_snoc] at h
    have hx : x < 256 := la x (by simp)
    have hy : y < 256 := lb y (by simp)
    have e1 : x = y := by omega
    have e2 : valB a' = valB b' := by omega
    rw [valB_inj n a' b' (by simpa using ha) (by simpa using hb) (fun z hz => la z (by simp [hz])) (fun z hz => lb z (by simp [hz])) e2, e1]
theorem big_vl {l : List Nat} (h : ∀ x ∈ l, x < 256) (a k : Nat) (hk : a + k ≤ l.length) : bigTo (vl l a k) k k = (l.drop a).take k :=
  have hl : ((l.drop a).take k).length = k := by rw [List.length_take, List.length_drop]; omega
  have hb : ∀ x ∈ (l.drop a).take k, x < 256 := fun x hx => h x (List.mem_of_mem_drop (List.mem_of_mem_take hx))
  valB_inj k _ _ (bigTo_length _ _ _) hl (bigTo_lt _ _ _) hb (valB_big _ _ (by have := valB_lt _ hb; rw [hl] at this; exact this))
theorem pc (l : List Nat) (a b : Nat) : l.take a ++ (l.drop a).take b = l.take (a + b) := List.take_add.symm
theorem pc0 (l : List Nat) (a : Nat) : (l.drop 0).take a = l.take a := by simp
/-- right errors -/
def erOk (e : Nat) : Prop := e = 0 ∨ e = 10 ∨ e = 12 ∨ e = 80 ∨ e = 81
/-- what is said again -/
def Ag (l : List Nat) (t : Nat × Nat × List Nat) : Prop := erOk t.2.1 ∧ (t.2.1 = 0 → 1 ≤ t.1 ∧ t.1 ≤ l.length ∧ t.2.2 = l.take t.1)
theorem ag_er {l : List Nat} {t : Nat × Nat × List Nat} (h : t.2.1 = 10 ∨ t.2.1 = 12 ∨ t.2.1 = 80 ∨ t.2.1 = 81) : Ag l t :=
  ⟨.inr h, fun e => by omega⟩
theorem again0 {l : List Nat} (h : ∀ x ∈ l, x < 256) (most : Nat) : Ag l (toD 0 most l) := by
  unfold toD greD
  by_cases h1 : l.length < 18
  · rw [if_pos h1]; exact ag_er (by simp)
  rw [if_neg h1]
  by_cases h2 : vl l 0 8 ≠ mInit
  · rw [if_pos h2]; exact ag_er (by simp)
  rw [if_neg h2]
  by_cases h3 : vl l 8 8 ≠ mHave
  · rw [if_pos h3]; exact ag_er (by simp)
  rw [if_neg h3]
  have h2' : vl l 0 8 = mInit := Classical.byContradiction h2
  have h3' : vl l 8 8 = mHave := Classical.byContradiction h3
  refine ⟨.inl rfl, fun _ => ⟨(show (1 : Nat) ≤ 18 by omega), (show 18 ≤ l.length by omega), ?_⟩⟩
  simp only
  unfold gL
  rw [← h2', ← h3', big_vl h 0 8 (by omega), big_vl h 8 8 (by omega), big_vl h 16 2 (by omega), List.nil_append, pc0, pc, pc]
theorem again1 {l : List Nat} (h : ∀ x ∈ l, x < 256) (most : Nat) : Ag l (toD 1 most l) := by
  unfold toD flaD
  by_cases h1 : l.length < 4
  · rw [if_pos h1]; exact ag_er (by simp)
  rw [if_neg h1]
  refine ⟨.inl rfl, fun _ => ⟨(show (1 : Nat) ≤ 4 by omega), (show 4 ≤ l.length by omega), ?_⟩⟩
  simp only
  rw [big_vl h 0 4 (by omega), pc0]
theorem zeros_take {l : List Nat} {s : Nat} (hs : 10 ≤ s) (hl : s ≤ l.length) (hz : ((l.take s).drop 10).all (· == 0) = true) : l.take 10 ++ List.replicate (s - 10) 0 = l.take s := by
  have e1 : (l.take s).drop 10 = List.replicate (s - 10) 0 := by
    apply List.eq_replicate_iff.2
    refine ⟨by rw [List.length_drop, List.length_take]; omega, fun x hx => ?_⟩
    rw [List.all_eq_true] at hz
    simpa using hz x hx
  have e2 := List.take_append_drop 10 (l.take s)
  rw [e1, List.take_take, Nat.min_eq_left hs] at e2
  exact e2
theorem againx {l : List Nat} (h : ∀ x ∈ l, x < 256) (z : Bool) : Ag l ((expD z l).2.1, (expD z l).2.2, XL (expD z l).1.1 (expD z l).1.2 z) := by
  have hx : 10 ≤ xz z ∧ xz z = 10 + zn z := by cases z <;> decide
  unfold expD
  by_cases h1 : l.length < xz z
  · rw [if_pos h1]; exact ag_er (by simp)
  rw [if_neg h1]
  by_cases h2 : xzs z l = false
  · rw [if_pos h2]; exact ag_er (by simp)
  rw [if_neg h2]
  have h2' : xzs z l = true := by simpa using h2
  refine ⟨.inl rfl, fun _ => ⟨by simp only; omega, by simp only; omega, ?_⟩⟩
  simp only
  unfold XL xL
  rw [big_vl h 0 8 (by omega), big_vl h 8 2 (by omega), List.nil_append, pc0, pc]
  have := zeros_take (l := l) hx.1 (by omega) h2'
  rw [show xz z - 10 = zn z by omega] at this
  exact this
theorem again4 {l : List Nat} (h : ∀ x ∈ l, x < 256) (most : Nat) : Ag l (toD 4 most l) := by
  unfold toD simD
  by_cases h1 : l.length < 16
  · rw [if_pos h1]; exact ag_er (by simp)
  rw [if_neg h1]
  by_cases h2 : vl l 0 4 ≠ mSimple
  · rw [if_pos h2]; exact ag_er (by simp)
  rw [if_neg h2]
  have h2' : vl l 0 4 = mSimple := Classical.byContradiction h2
  refine ⟨.inl rfl, fun _ => ⟨(show (1 : Nat) ≤ 16 by omega), (show 16 ≤ l.length by omega), ?_⟩⟩
  simp only
  unfold sL
  rw [← h2', big_vl h 0 4 (by omega), big_vl h 4 4 (by omega), big_vl h 8 8 (by omega), List.nil_append, pc0, pc, pc]
theorem again5 {l : List Nat} (h : ∀ x ∈ l, x < 256) (most : Nat) : Ag l (toD 5 most l) := by
  unfold toD optD
  by_cases h1 : l.length < 16
  · rw [if_pos h1]; exact ag_er (by simp)
  rw [if_neg h1]
  by_cases h2 : vl l 0 8 ≠ mHave
  · rw [if_pos h2]; exact ag_er (by simp)
  rw [if_neg h2]
  have h2' : vl l 0 8 = mHave := Classical.byContradiction h2
  by_cases h3 : most < vl l 12 4
  · rw [if_pos h3]; exact ag_er (by simp)
  rw [if_neg h3]
  by_cases h4 : l.length < 16 + vl l 12 4
  · rw [if_pos h4]; exact ag_er (by simp)
  rw [if_neg h4]
  refine ⟨.inl rfl, fun _ => ⟨by simp only; omega, by simp only; omega, ?_⟩⟩
  simp only
  have hd : ((l.drop 16).take (vl l 12 4)).length = vl l 12 4 := by rw [List.length_take, List.length_drop]; omega
  unfold oC
  rw [if_pos ⟨rfl, hd.symm⟩]
  unfold oL
  rw [hd, ← h2', big_vl h 0 8 (by omega), big_vl h 8 4 (by omega), big_vl h 12 4 (by omega), List.nil_append, pc0, pc, pc, pc]
theorem again6 {l : List Nat} (h : ∀ x ∈ l, x < 256) (most : Nat) : Ag l (toD 6 most l) := by
  unfold toD repD
  by_cases h1 : l.length < 20
  · rw [if_pos h1]; exact ag_er (by simp)
  rw [if_neg h1]
  by_cases h2 : vl l 0 8 ≠ mReply
  · rw [if_pos h2]; exact ag_er (by simp)
  rw [if_neg h2]
  have h2' : vl l 0 8 = mReply := Classical.byContradiction h2
  by_cases h3 : most < vl l 16 4
  · rw [if_pos h3]; exact ag_er (by simp)
  rw [if_neg h3]
  by_cases h4 : l.length < 20 + vl l 16 4
  · rw [if_pos h4]; exact ag_er (by simp)
  rw [if_neg h4]
  refine ⟨.inl rfl, fun _ => ⟨by simp only; omega, by simp only; omega, ?_⟩⟩
  simp only
  have hd : ((l.drop 20).take (vl l 16 4)).length = vl l 16 4 := by rw [List.length_take, List.length_drop]; omega
  have hm : vl l 16 4 % 4294967296 = vl l 16 4 := Nat.mod_eq_of_lt (vl4 h 16)
  unfold rL
  rw [hd, hm, ← h2', big_vl h 0 8 (by omega), big_vl h 8 4 (by omega), big_vl h 12 4 (by omega), big_vl h 16 4 (by omega), List.nil_append, pc0, pc, pc, pc, pc]
theorem nL_vl {l : List Nat} (h : ∀ x ∈ l, x < 256) (a : Nat) (ext : Bool) (hl : a + qk ext ≤ l.length) : nL (vl l a (qk ext)) ext = (l.drop a).take (qk ext) := by
  cases ext with
  | true => exact big_vl h a 8 hl
  | false =>
    show bigTo (vl l a 4 % 4294967296) 4 4 = (l.drop a).take 4
    rw [Nat.mod_eq_of_lt (vl4 h a)]
    exact big_vl h a 4 hl
theorem qL_vl {l : List Nat} (h : ∀ x ∈ l, x < 256) (ext : Bool) (d : List Nat) (h1 : ¬ l.length < qz ext) (h2 : vl l 0 4 = qm ext) : qL (vl l 4 2) (vl l 6 2) (vl l 8 8) (vl l 16 8) (vl l 24 (qk ext)) d ext = l.take (qz ext) ++ d := by
  have hq : qz ext = 24 + qk ext := by cases ext <;> rfl
  unfold qL
  rw [show (if ext = true then mReq64 else mReq) = qm ext from rfl, ← h2, big_vl h 0 4 (by omega), big_vl h 4 2 (by omega), big_vl h 6 2 (by omega), big_vl h 8 8 (by omega), big_vl h 16 8 (by omega), nL_vl h 24 ext (by omega), List.nil_append, pc0, pc, pc, pc, pc, pc, hq]
theorem againq {l : List Nat} (h : ∀ x ∈ l, x < 256) (most : Nat) (ext : Bool) : Ag l ((reqD most ext l).2.1, (reqD most ext l).2.2, qC (reqD most ext l).1.1 (reqD most ext l).1.2.1 (reqD most ext l).1.2.2.1 (reqD most ext l).1.2.2.2.1 (reqD most ext l).1.2.2.2.2.1 (reqD most ext l).1.2.2.2.2.2 ext) := by
  have hq : qz ext = 24 + qk ext := by cases ext <;> rfl
  have hk : ext = true ∨ vl l 24 (qk ext) ≤ 4294967295 := by
    cases ext with
    | true => exact .inl rfl
    | false => exact .inr (by have := vl4 h 24; show vl l 24 4 ≤ _; omega)
  unfold reqD
  by_cases h1 : l.length < qz ext
  · rw [if_pos h1]; exact ag_er (by simp)
  rw [if_neg h1]
  by_cases h2 : vl l 0 4 ≠ qm ext
  · rw [if_pos h2]; exact ag_er (by simp)
  rw [if_neg h2]
  have h2' : vl l 0 4 = qm ext := Classical.byContradiction h2
  by_cases hp : payB (vl l 4 2) (vl l 6 2) ext = false
  · rw [if_pos hp]
    refine ⟨.inl rfl, fun _ => ⟨by simp only; omega, by simp only; omega, ?_⟩⟩
    simp only
    have hf : fitB (vl l 4 2) (vl l 6 2) (vl l 24 (qk ext)) ([] : List Nat).length ext = true := by
      unfold fitB
      rw [hp]
      rcases hk with e | e
      · simp [e]
      · simp [e]
    unfold qC
    rw [if_pos hf, qL_vl h ext [] h1 h2', List.append_nil]
  rw [if_neg hp]
  have hp' : payB (vl l 4 2) (vl l 6 2) ext = true := by simpa using hp
  by_cases h3 : most < vl l 24 (qk ext)
  · rw [if_pos h3]; exact ag_er (by simp)
  rw [if_neg h3]
  by_cases h4 : l.length < qz ext + vl l 24 (qk ext)
  · rw [if_pos h4]; exact ag_er (by simp)
  rw [if_neg h4]
  refine ⟨.inl rfl, fun _ => ⟨by simp only; omega, by simp only; omega, ?_⟩⟩
  simp only
  have hd : ((l.drop (qz ext)).take (vl l 24 (qk ext))).length = vl l 24 (qk ext) := by rw [List.length_take, List.length_drop]; omega
  have hf : fitB (vl l 4 2) (vl l 6 2) (vl l 24 (qk ext)) ((l.drop (qz ext)).take (vl l 24 (qk ext))).length ext = true := by
    unfold fitB
    rw [hp', hd]
    rcases hk with e | e
    · simp [e]
    · simp [e]
  unfold qC
  rw [if_pos hf, qL_vl h ext _ h1 h2', pc]
theorem againc {l : List Nat} (h : ∀ x ∈ l, x < 256) (most : Nat) (ext : Bool) : Ag l ((chkD most ext l).2.1, (chkD most ext l).2.2, kC (chkD most ext l).1.1 (chkD most ext l).1.2.1 (chkD most ext l).1.2.2.1 (chkD most ext l).1.2.2.2.1 (chkD most ext l).1.2.2.2.2 ext) := by
  have hc : 20 ≤ cz ext := by cases ext <;> decide
  unfold chkD
  by_cases h1 : l.length < cz ext
  · rw [if_pos h1]; exact ag_er (by simp)
  rw [if_neg h1]
  by_cases h2 : vl l 0 4 ≠ cm ext
  · rw [if_pos h2]; exact ag_er (by simp)
  rw [if_neg h2]
  have h2' : vl l 0 4 = cm ext := Classical.byContradiction h2
  by_cases h3 : most < cln ext l
  · rw [if_pos h3]; exact ag_er (by simp)
  rw [if_neg h3]
  by_cases h4 : l.length < cz ext + cln ext l
  · rw [if_pos h4]; exact ag_er (by simp)
  rw [if_neg h4]
  refine ⟨.inl rfl, fun _ => ⟨by simp only; omega, by simp only; omega, ?_⟩⟩
  simp only
  have hd : ((l.drop (cz ext)).take (cln ext l)).length = cln ext l := by rw [List.length_take, List.length_drop]; omega
  cases ext with
  | true =>
    have e1 : cz true = 32 := rfl
    have e2 : cln true l = vl l 24 8 := rfl
    have e3 : cof true l = vl l 16 8 := rfl
    have e4 : cm true = mChunk64 := rfl
    rw [e1] at h1
    rw [e1, e2] at h4 hd ⊢
    rw [e4] at h2'
    rw [e3]
    unfold kC
    rw [if_pos rfl]
    unfold cL64
    rw [hd, ← h2', show nL (vl l 24 8) true = bigTo (vl l 24 8) 8 8 from rfl, big_vl h 0 4 (by omega), big_vl h 4 2 (by omega), big_vl h 6 2 (by omega), big_vl h 8 8 (by omega), big_vl h 16 8 (by omega), big_vl h 24 8 (by omega), List.nil_append, pc0, pc, pc, pc, pc, pc, pc]
  | false =>
    have e1 : cz false = 20 := rfl
    have e2 : cln false l = vl l 16 4 := rfl
    have e4 : cm false = mChunk := rfl
    rw [e1] at h1
    rw [e1, e2] at h4 hd ⊢
    rw [e4] at h2'
    unfold kC
    rw [if_neg (by simp)]
    unfold cL
    rw [hd, ← h2', show nL (vl l 16 4) false = bigTo (vl l 16 4 % 4294967296) 4 4 from rfl, Nat.mod_eq_of_lt (vl4 h 16), big_vl h 0 4 (by omega), big_vl h 4 2 (by omega), big_vl h 6 2 (by omega), big_vl h 8 8 (by omega), big_vl h 16 4 (by omega), List.nil_append, pc0, pc, pc, pc, pc, pc]
theorem again_any {l : List Nat} (h : ∀ x ∈ l, x < 256) (k most : Nat) (hk : k < 11) : Ag l (toD k most l) := by
  have hc : k = 0 ∨ k = 1 ∨ k = 2 ∨ k = 3 ∨ k = 4 ∨ k = 5 ∨ k = 6 ∨ k = 7 ∨ k = 8 ∨ k = 9 ∨ k = 10 := by omega
  rcases hc with rfl | rfl | rfl | rfl | rfl | rfl | rfl | rfl | rfl | rfl | rfl
  · exact again0 h most
  · exact again1 h most
  · exact againx h false
  · exact againx h true
  · exact again4 h most
  · exact again5 h most
  · exact again6 h most
  · exact againq h most false
  · exact againq h most true
  · exact againc h most false
  · exact againc h most true
end Go.Proofs.YtjhickfjagalfabDoor

namespace Go.Proofs.YtjhickfjagalfabDoor
open Go.RowKit
set_option linter.unusedVariables false
set_option linter.unusedSimpArgs false
set_option maxRecDepth 100000

/-- a decoder, by its head: how many bytes the message has, or why it is refused -/
def nf (s : Nat) (nd : List Nat → Nat ⊕ (Nat × Nat)) (l : List Nat) : Nat × Nat :=
  if l.length < s then (s, 10) else
  match nd (l.take s) with
  | .inr p => p
  | .inl n => if l.length < n then (n, 10) else (n, 0)
/-- heads that are right -/
structure Nd (s : Nat) (nd : List Nat → Nat ⊕ (Nat × Nat)) : Prop where
  le : ∀ h n, nd h = .inl n → s ≤ n
  no : ∀ h p, nd h = .inr p → p.2 ≠ 10 ∧ p.2 ≠ 0
  s1 : 1 ≤ s
theorem nf_short {s : Nat} {nd : List Nat → Nat ⊕ (Nat × Nat)} (H : Nd s nd) (l : List Nat) (h : (nf s nd l).2 = 10) : l.length < (nf s nd l).1 := by
  unfold nf at h ⊢
  by_cases h1 : l.length < s
  · rw [if_pos h1]; exact h1
  rw [if_neg h1] at h ⊢
  cases hn : nd (l.take s) with
  | inr p => rw [hn] at h; exact absurd h (H.no _ _ hn).1
  | inl n =>
    rw [hn] at h
    simp only at h ⊢
    by_cases h2 : l.length < n
    · rw [if_pos h2]; exact h2
    · rw [if_neg h2] at h; simp at h
/-- what is said of a beginning -/
structure Pc (cut : Nat) (a b : Nat × Nat) : Prop where
  ten : b.2 = 10 → a.2 = 10 ∧ a.1 ≤ b.1
  ok1 : b.2 = 0 → b.1 ≤ cut → a = b
  ok2 : b.2 = 0 → cut < b.1 → a.2 = 10 ∧ a.1 ≤ b.1
  els : b.2 ≠ 10 → b.2 ≠ 0 → a.2 = 10 ∨ a = b
theorem nf_cut {s : Nat} {nd : List Nat → Nat ⊕ (Nat × Nat)} (H : Nd s nd) (l : List Nat) (cut : Nat) (hc : cut ≤ l.length) : Pc cut (nf s nd (l.take cut)) (nf s nd l) := by
  have hl : (l.take cut).length = cut := by rw [List.length_take]; omega
  by_cases h1 : l.length < s
  · have ea : nf s nd (l.take cut) = (s, 10) := by unfold nf; rw [if_pos (by omega)]
    have eb : nf s nd l = (s, 10) := by unfold nf; rw [if_pos h1]
    rw [ea, eb]
    exact ⟨fun _ => ⟨rfl, Nat.le_refl _⟩, fun h => by simp at h, fun h => by simp at h, fun h => absurd rfl h⟩
  by_cases h2 : cut < s
  · have ea : nf s nd (l.take cut) = (s, 10) := by unfold nf; rw [if_pos (by omega)]
    rw [ea]
    have hs : (nf s nd l).2 = 10 ∨ (nf s nd l).2 = 0 → s ≤ (nf s nd l).1 := by
      unfold nf
      rw [if_neg h1]
      cases hn : nd (l.take s) with
      | inr p => intro h; have := H.no _ _ hn; simp only at h; omega
      | inl n =>
        have := H.le _ _ hn
        simp only
        split <;> (intro _; exact this)
    exact ⟨fun h => ⟨rfl, hs (.inl h)⟩, fun h hle => by have := hs (.inr h); omega, fun h _ => ⟨rfl, hs (.inr h)⟩, fun _ _ => .inl rfl⟩
  have et : (l.take cut).take s = l.take s := by rw [List.take_take, Nat.min_eq_left (by omega)]
  have ea : nf s nd (l.take cut) = match nd (l.take s) with | .inr p => p | .inl n => if cut < n then (n, 10) else (n, 0) := by
    unfold nf; rw [hl, if_neg h2, et]
  have eb : nf s nd l = match nd (l.take s) with | .inr p => p | .inl n => if l.length < n then (n, 10) else (n, 0) := by
    unfold nf; rw [if_neg h1]
  rw [ea, eb]
  cases hn : nd (l.take s) with
  | inr p =>
    have := H.no _ _ hn
    simp only
    exact ⟨fun h => absurd h this.1, fun h => absurd h this.2, fun h => absurd h this.2, fun _ _ => .inr rfl⟩
  | inl n =>
    simp only
    by_cases h3 : l.length < n
    · rw [if_pos h3, if_pos (by omega)]
      exact ⟨fun _ => ⟨rfl, Nat.le_refl _⟩, fun h => by simp at h, fun h => by simp at h, fun h => absurd rfl h⟩
    · rw [if_neg h3]
      by_cases h4 : cut < n
      · rw [if_pos h4]
        exact ⟨fun h => by simp at h, fun _ h => by simp only at h; omega, fun _ _ => ⟨rfl, Nat.le_refl _⟩, fun _ h => absurd rfl h⟩
      · rw [if_neg h4]
        exact ⟨fun h => by simp at h, fun _ _ => rfl, fun _ h => by simp only at h; omega, fun _ h => absurd rfl h⟩
theorem vlt (l : List Nat) (s a k : Nat) (h : a + k ≤ s) : vl (l.take s) a k = vl l a k := by unfold vl; rw [tk _ _ _ _ h]
/-- head's size and head, of each kind -/
def szD (k : Nat) : Nat := match k with
  | 0 => 18 | 1 => 4 | 2 => 10 | 3 => 134 | 4 => 16 | 5 => 16 | 6 => 20 | 7 => 28 | 8 => 32 | 9 => 20 | _ => 32
def ndq (most : Nat) (ext : Bool) (h : List Nat) : Nat ⊕ (Nat × Nat) :=
  if vl h 0 4 ≠ qm ext then .inr (0, 80) else if payB (vl h 4 2) (vl h 6 2) ext = false then .inl (qz ext) else if most < vl h 24 (qk ext) then .inr (qz ext, 12) else .inl (qz ext + vl h 24 (qk ext))
def ndc (most : Nat) (ext : Bool) (h : List Nat) : Nat ⊕ (Nat × Nat) :=
  if vl h 0 4 ≠ cm ext then .inr (0, 80) else if most < cln ext h then .inr (cz ext, 12) else .inl (cz ext + cln ext h)
def ndD (k most : Nat) (h : List Nat) : Nat ⊕ (Nat × Nat) := match k with
  | 0 => if vl h 0 8 ≠ mInit then .inr (0, 80) else if vl h 8 8 ≠ mHave then .inr (0, 80) else .inl 18
  | 1 => .inl 4
  | 2 => if xzs false h = false then .inr (0, 81) else .inl 10
  | 3 => if xzs true h = false then .inr (0, 81) else .inl 134
  | 4 => if vl h 0 4 ≠ mSimple then .inr (0, 80) else .inl 16
  | 5 => if vl h 0 8 ≠ mHave then .inr (0, 80) else if most < vl h 12 4 then .inr (16, 12) else .inl (16 + vl h 12 4)
  | 6 => if vl h 0 8 ≠ mReply then .inr (0, 80) else if most < vl h 16 4 then .inr (20, 12) else .inl (20 + vl h 16 4)
  | 7 => ndq most false h
  | 8 => ndq most true h
  | 9 => ndc most false h
  | _ => ndc most true h
theorem nd_if {s : Nat} {c : List Nat → Prop} [∀ h, Decidable (c h)] {p : Nat × Nat} {nd : List Nat → Nat ⊕ (Nat × Nat)} (hp : p.2 ≠ 10 ∧ p.2 ≠ 0) (H : Nd s nd) : Nd s (fun h => if c h then .inr p else nd h) := by
  refine ⟨fun h n e => ?_, fun h q e => ?_, H.s1⟩
  · by_cases hc : c h
    · rw [if_pos hc] at e; cases e
    · rw [if_neg hc] at e; exact H.le _ _ e
  · by_cases hc : c h
    · rw [if_pos hc] at e; cases e; exact hp
    · rw [if_neg hc] at e; exact H.no _ _ e
theorem nd_in {s : Nat} {f : List Nat → Nat} (hs : 1 ≤ s) (h : ∀ x, s ≤ f x) : Nd s (fun x => .inl (f x)) :=
  ⟨fun x n e => by simp only [Sum.inl.injEq] at e; rw [← e]; exact h x, fun x p e => by simp at e, hs⟩
theorem nd_or {s : Nat} {c : List Nat → Prop} [∀ h, Decidable (c h)] {m : Nat} {nd : List Nat → Nat ⊕ (Nat × Nat)} (hm : s ≤ m) (H : Nd s nd) : Nd s (fun h => if c h then .inl m else nd h) := by
  refine ⟨fun h n e => ?_, fun h q e => ?_, H.s1⟩
  · by_cases hc : c h
    · rw [if_pos hc] at e; cases e; exact hm
    · rw [if_neg hc] at e; exact H.le _ _ e
  · by_cases hc : c h
    · rw [if_pos hc] at e; cases e
    · rw [if_neg hc] at e; exact H.no _ _ e
theorem ndD_ok (k most : Nat) (hk : k < 11) : Nd (szD k) (ndD k most) := by
  have hc : k = 0 ∨ k = 1 ∨ k = 2 ∨ k = 3 ∨ k = 4 ∨ k = 5 ∨ k = 6 ∨ k = 7 ∨ k = 8 ∨ k = 9 ∨ k = 10 := by omega
  rcases hc with rfl | rfl | rfl | rfl | rfl | rfl | rfl | rfl | rfl | rfl | rfl
  · exact nd_if (by decide) (nd_if (by decide) (nd_in (by decide) (fun _ => Nat.le_refl _)))
  · exact nd_in (by decide) (fun _ => Nat.le_refl _)
  · exact nd_if (by decide) (nd_in (by decide) (fun _ => Nat.le_refl _))
  · exact nd_if (by decide) (nd_in (by decide) (fun _ => Nat.le_refl _))
  · exact nd_if (by decide) (nd_in (by decide) (fun _ => Nat.le_refl _))
  · exact nd_if (by decide) (nd_if (by decide) (nd_in (by decide) (fun _ => Nat.le_add_right _ _)))
  · exact nd_if (by decide) (nd_if (by decide) (nd_in (by decide) (fun _ => Nat.le_add_right _ _)))
  · exact nd_if (by decide) (nd_or (Nat.le_refl 28) (nd_if (by decide) (nd_in (s := 28) (f := fun h => 28 + vl h 24 4) (by decide) (fun _ => Nat.le_add_right _ _))))
  · exact nd_if (by decide) (nd_or (Nat.le_refl 32) (nd_if (by decide) (nd_in (s := 32) (f := fun h => 32 + vl h 24 8) (by decide) (fun _ => Nat.le_add_right _ _))))
  · exact nd_if (by decide) (nd_if (by decide) (nd_in (s := 20) (f := fun h => 20 + vl h 16 4) (by decide) (fun _ => Nat.le_add_right _ _)))
  · exact nd_if (by decide) (nd_if (by decide) (nd_in (s := 32) (f := fun h => 32 + vl h 24 8) (by decide) (fun _ => Nat.le_add_right _ _)))
/-- number and error of what told says -/
def neD (k most : Nat) (l : List Nat) : Nat × Nat := ((toD k most l).1, (toD k most l).2.1)
theorem neq {most : Nat} {ext : Bool} {l : List Nat} : ((reqD most ext l).2.1, (reqD most ext l).2.2) = nf (qz ext) (ndq most ext) l := by
  have hq : qz ext = 24 + qk ext := by cases ext <;> rfl
  unfold reqD nf
  by_cases h1 : l.length < qz ext
  · rw [if_pos h1, if_pos h1]
  rw [if_neg h1, if_neg h1]
  unfold ndq
  rw [vlt _ _ 0 4 (by omega), vlt _ _ 4 2 (by omega), vlt _ _ 6 2 (by omega), vlt _ _ 24 (qk ext) (by omega)]
  by_cases h2 : vl l 0 4 ≠ qm ext
  · rw [if_pos h2, if_pos h2]
  rw [if_neg h2, if_neg h2]
  by_cases hp : payB (vl l 4 2) (vl l 6 2) ext = false
  · rw [if_pos hp, if_pos hp]
    simp only
    rw [if_neg h1]
  rw [if_neg hp, if_neg hp]
  by_cases h3 : most < vl l 24 (qk ext)
  · rw [if_pos h3, if_pos h3]
  rw [if_neg h3, if_neg h3]
  simp only
  by_cases h4 : l.length < qz ext + vl l 24 (qk ext)
  · rw [if_pos h4, if_pos h4]
  · rw [if_neg h4, if_neg h4]
theorem clt {l : List Nat} (ext : Bool) : cln ext (l.take (cz ext)) = cln ext l := by
  cases ext with
  | false => exact vlt l 20 16 4 (by decide)
  | true => exact vlt l 32 24 8 (by decide)
theorem nec {most : Nat} {ext : Bool} {l : List Nat} : ((chkD most ext l).2.1, (chkD most ext l).2.2) = nf (cz ext) (ndc most ext) l := by
  have hc : 20 ≤ cz ext := by cases ext <;> decide
  unfold chkD nf
  by_cases h1 : l.length < cz ext
  · rw [if_pos h1, if_pos h1]
  rw [if_neg h1, if_neg h1]
  unfold ndc
  rw [vlt _ _ 0 4 (by omega), clt]
  by_cases h2 : vl l 0 4 ≠ cm ext
  · rw [if_pos h2, if_pos h2]
  rw [if_neg h2, if_neg h2]
  by_cases h3 : most < cln ext l
  · rw [if_pos h3, if_pos h3]
  rw [if_neg h3, if_neg h3]
  simp only
  by_cases h4 : l.length < cz ext + cln ext l
  · rw [if_pos h4, if_pos h4]
  · rw [if_neg h4, if_neg h4]
theorem nex {z : Bool} {l : List Nat} : ((expD z l).2.1, (expD z l).2.2) = nf (xz z) (fun h => if xzs z h = false then .inr (0, 81) else .inl (xz z)) l := by
  unfold expD nf
  by_cases h1 : l.length < xz z
  · rw [if_pos h1, if_pos h1]
  rw [if_neg h1, if_neg h1]
  simp only
  have e : xzs z (l.take (xz z)) = xzs z l := by unfold xzs; rw [List.take_take, Nat.min_self]
  rw [e]
  by_cases h2 : xzs z l = false
  · rw [if_pos h2, if_pos h2]
  rw [if_neg h2, if_neg h2]
  simp only
  rw [if_neg h1]
theorem ne_any (k most : Nat) (l : List Nat) (hk : k < 11) : neD k most l = nf (szD k) (ndD k most) l := by
  have hc : k = 0 ∨ k = 1 ∨ k = 2 ∨ k = 3 ∨ k = 4 ∨ k = 5 ∨ k = 6 ∨ k = 7 ∨ k = 8 ∨ k = 9 ∨ k = 10 := by omega
  rcases hc with rfl | rfl | rfl | rfl | rfl | rfl | rfl | rfl | rfl | rfl | rfl
  · show ((greD l).2.1, (greD l).2.2) = nf 18 (ndD 0 most) l
    unfold greD nf
    by_cases h1 : l.length < 18
    · rw [if_pos h1, if_pos h1]
    rw [if_neg h1, if_neg h1]
    unfold ndD
    simp only
    rw [vlt _ _ 0 8 (by omega), vlt _ _ 8 8 (by omega)]
    by_cases h2 : vl l 0 8 ≠ mInit
    · rw [if_pos h2, if_pos h2]
    rw [if_neg h2, if_neg h2]
    by_cases h3 : vl l 8 8 ≠ mHave
    · rw [if_pos h3, if_pos h3]
    rw [if_neg h3, if_neg h3]
    simp only
    rw [if_neg h1]
  · show ((flaD l).2.1, (flaD l).2.2) = nf 4 (ndD 1 most) l
    unfold flaD nf
    by_cases h1 : l.length < 4
    · rw [if_pos h1, if_pos h1]
    rw [if_neg h1, if_neg h1]
    unfold ndD
    simp only
    rw [if_neg h1]
  · exact nex (z := false)
  · exact nex (z := true)
  · show ((simD l).2.1, (simD l).2.2) = nf 16 (ndD 4 most) l
    unfold simD nf
    by_cases h1 : l.length < 16
    · rw [if_pos h1, if_pos h1]
    rw [if_neg h1, if_neg h1]
    unfold ndD
    simp only
    rw [vlt _ _ 0 4 (by omega)]
    by_cases h2 : vl l 0 4 ≠ mSimple
    · rw [if_pos h2, if_pos h2]
    rw [if_neg h2, if_neg h2]
    simp only
    rw [if_neg h1]
  · show ((optD most l).2.1, (optD most l).2.2) = nf 16 (ndD 5 most) l
    unfold optD nf
    by_cases h1 : l.length < 16
    · rw [if_pos h1, if_pos h1]
    rw [if_neg h1, if_neg h1]
    unfold ndD
    simp only
    rw [vlt _ _ 0 8 (by omega), vlt _ _ 12 4 (by omega)]
    by_cases h2 : vl l 0 8 ≠ mHave
    · rw [if_pos h2, if_pos h2]
    rw [if_neg h2, if_neg h2]
    by_cases h3 : most < vl l 12 4
    · rw [if_pos h3, if_pos h3]
    rw [if_neg h3, if_neg h3]
    simp only
    by_cases h4 : l.length < 16 + vl l 12 4
    · rw [if_pos h4, if_pos h4]
    · rw [if_neg h4, if_neg h4]
  · show ((repD most l).2.1, (repD most l).2.2) = nf 20 (ndD 6 most) l
    unfold repD nf
    by_cases h1 : l.length < 20
    · rw [if_pos h1, if_pos h1]
    rw [if_neg h1, if_neg h1]
    unfold ndD
    simp only
    rw [vlt _ _ 0 8 (by omega), vlt _ _ 16 4 (by omega)]
    by_cases h2 : vl l 0 8 ≠ mReply
    · rw [if_pos h2, if_pos h2]
    rw [if_neg h2, if_neg h2]
    by_cases h3 : most < vl l 16 4
    · rw [if_pos h3, if_pos h3]
    rw [if_neg h3, if_neg h3]
    simp only
    by_cases h4 : l.length < 20 + vl l 16 4
    · rw [if_pos h4, if_pos h4]
    · rw [if_neg h4, if_neg h4]
  · exact neq (ext := false)
  · exact neq (ext := true)
  · exact nec (ext := false)
  · exact nec (ext := true)
theorem short_gt (k most : Nat) (l : List Nat) (hk : k < 11) (h : (toD k most l).2.1 = 10) : l.length < (toD k most l).1 := by
  have e := ne_any k most l hk
  have h1 := nf_short (ndD_ok k most hk) l (by rw [← e]; exact h)
  rw [← e] at h1
  exact h1
theorem piece_any (k most : Nat) (l : List Nat) (cut : Nat) (hk : k < 11) (hc : cut ≤ l.length) : Pc cut (neD k most (l.take cut)) (neD k most l) := by
  rw [ne_any k most l hk, ne_any k most (l.take cut) hk]
  exact nf_cut (ndD_ok k most hk) l cut hc
end Go.Proofs.YtjhickfjagalfabDoor
