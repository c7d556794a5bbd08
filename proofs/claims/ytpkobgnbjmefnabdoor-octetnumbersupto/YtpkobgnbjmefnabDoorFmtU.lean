import Derived.Test.YtpkobgnbjmefnabDoorShelfN
import Derived.Test.YtpkobgnbjmefnabDoorNumM
import Derived.Lib.ItoaMem
import Derived.Lib.AppendIntMem
namespace Go.Proofs.YtpkobgnbjmefnabDoor
open Go.RowKit Go.Lib Go.Sort
set_option linter.unusedVariables false
set_option maxRecDepth 100000

abbrev encB : UInt8 → Value := fun (b : UInt8) => Value.int .u8 (b.toNat : Int)
theorem holds_start (w : World) (T : TypeId) (nd : Nat) (hs : nd ≤ 24) : Holds encB (w.alloc (.cells zeros24 T)) w.heap.size 0 (Array.replicate nd (0 : UInt8)) := fun j hj => by
  have hj' : j < nd := by simpa using hj
  refine ⟨?_, World.frozen?_alloc_new _ _ _ _⟩
  rw [World.cell?_alloc_new, zeros24_at _ (by omega), getElem!_pos _ j hj]
  simp
theorem below_grow (w : World) (k : Nat) (os : Array Obj) : Below w.heap.size w (grow (w.drewN k) os) := by
  refine ⟨rfl, rfl, rfl, ?_, fun b hb => ?_⟩
  · show w.heap.size ≤ (w.heap ++ os).size
    simp
  · show (w.heap ++ os)[b]? = w.heap[b]?
    rw [Array.getElem?_append_left hb]

set_option maxHeartbeats 2000000 in
theorem ifmt_small (v : Nat) (w : World) (h : v < 100) :
    Calls Tryd.prog 70 #[.int .u64 (v : Int), .int .i64 10] w fun e w' => e = .returned (.string ⟨(decDigits v).toArray⟩) ∧ w' = w := by
  have HS : Hid (Calls Tryd.prog 85 #[.int .i64 (v : Int)] w fun e w' => e = .returned (.string ⟨(decDigits v).toArray⟩) ∧ w' = w) := Tryd.internal_strconv_small v h w
  have t0 : decide ((v : Int) < 100) = true := by simp; omega
  generalize (⟨(decDigits v).toArray⟩ : ByteArray) = s at *
  go_enter Tryd.func70, Tryd.ntmps70
  go_wp2_with fail
  refine HS.out.mono ?_
  rintro e w1 ⟨rfl, hw⟩
  rw [hw]; clear hw
  go_wp2
  go_ret
  exact ⟨rfl, rfl⟩
set_option maxHeartbeats 4000000 in
theorem ifmt_big (u : Nat) (w : World) (hu1 : 100 ≤ u) (hu64 : u < 18446744073709551616) (htab : Lib.TabIs Tryd.prog w "internal/strconv.uint64pow10" .u64 Lib.pow10Tab) :
    Calls Tryd.prog 70 #[.int .u64 (u : Int), .int .i64 10] w fun e w' => e = .returned (.string ⟨(decDigits u).toArray⟩) ∧ Below w.heap.size w w' := by
  have hnd20 : nDigits u ≤ 20 := by have := numDigits_eq u (by omega) hu64; split at this <;> omega
  have hb3 : nDigits u ≤ 24 := by omega
  have t0 : decide ((u : Int) < 100) = false := by simp; omega
  have HN : Hid (Calls Tryd.prog 86 #[.int .u64 (u : Int)] (w.alloc (.cells zeros24 131)) fun e w' => e = .returned (.int .i64 (nDigits u : Nat)) ∧ w' = w.alloc (.cells zeros24 131)) := Tryd.internal_strconv_numDigits u (by omega) hu64 _ (tabIs_alloc htab _)
  have hH0 := holds_start w 131 (nDigits u) hb3
  have hfmt := Tryd.internal_strconv_formatBase10 w.heap.size 0 24 u (Array.replicate (nDigits u) 0) (w.alloc (.cells zeros24 131)) hH0 (by rw [Array.size_replicate]; exact lt_pow_nDigits u) hu64 (by rw [Array.size_replicate]; omega)
  rw [Array.size_replicate] at hfmt
  have HFm : Hid (Calls Tryd.prog 87 #[.slice (some ⟨w.heap.size, 0, none⟩) (nDigits u) 24, .int .u64 (u : Int)] (w.alloc (.cells zeros24 131)) fun e w' => e = .returned (.tuple #[]) ∧ ∃ (n v' : Nat) (dk : Array UInt8), w' = (putRow encB (w.alloc (.cells zeros24 131)) w.heap.size 0 dk).drewN n ∧ FmtInv (nDigits u) u 0 v' dk) := hfmt
  have HH0 : Hid (Holds encB (w.alloc (.cells zeros24 131)) w.heap.size 0 (Array.replicate (nDigits u) (0 : UInt8))) := hH0
  clear hfmt hH0 htab
  have hal : Tryd.prog.arrayLen 131 = 24 := by kernel_rfl
  have hel : Tryd.prog.elem 131 = 5 := by kernel_rfl
  have hsl : ∀ W, (Instr.sliceAt 131 (.pointer (some ⟨w.heap.size, 0, none⟩)) none (some (.int .i64 (nDigits u : Int))) none).run Tryd.prog W = .ok (.slice (some ⟨w.heap.size, 0, none⟩) (nDigits u) 24) W := fun W => by
    rw [run_sliceAt_array_h W 131 ⟨w.heap.size, 0, none⟩ (by kernel_rfl) .i64 (nDigits u : Int) (by omega) (by rw [hal]; omega)]
    rw [hal, hel]
    simp [Tryd.sizeOf5, slicedAt, Lib.add_plain]
  have HCv : Hid (∀ (dk : Array UInt8) (k v' : Nat), FmtInv (nDigits u) u 0 v' dk → (convert 37 9 (.slice (some ⟨w.heap.size, 0, none⟩) (nDigits u) 24)).run Tryd.prog ((putRow encB (w.alloc (.cells zeros24 131)) w.heap.size 0 dk).drewN k) = .ok (.string ⟨(decDigits u).toArray⟩) ((putRow encB (w.alloc (.cells zeros24 131)) w.heap.size 0 dk).drewN k)) := fun dk k v' hF => by
    have h := run_convert_bytes_back (P := Tryd.prog) ((putRow encB (w.alloc (.cells zeros24 131)) w.heap.size 0 dk).drewN k) 37 9 5 ⟨w.heap.size, 0, none⟩ 24 (decDigits u) Tryd.underlying37 Tryd.underlying5 Tryd.underlying9 (fun j hj => by
      rw [row_is_numeral hF j hj, Lib.add_plain, World.cell?_drewN]
      exact cell?_putRow encB _ w.heap.size 0 _ dk HH0.out (by rw [hF.size, Array.size_replicate]) j (by rw [hF.size]; rw [decDigits_length] at hj; exact hj))
    rw [decDigits_length] at h
    exact h
  have HFin : Hid (∀ (dk : Array UInt8) (k : Nat), Below w.heap.size w ((putRow encB (w.alloc (.cells zeros24 131)) w.heap.size 0 dk).drewN k)) := fun dk k => by
    obtain ⟨os, eo⟩ := fin_at w (.cells zeros24 131) dk k 0
    rw [eo]; exact below_grow w k os
  generalize hs : (⟨(decDigits u).toArray⟩ : ByteArray) = s at *
  clear hs
  go_enter Tryd.func70, Tryd.ntmps70
  go_wp2_with fail
  refine HN.out.mono ?_
  rintro e w1 ⟨rfl, hw⟩
  rw [hw]; clear hw
  go_wp2_with fail
  refine HFm.out.mono ?_
  rintro e w2 ⟨rfl, k, v', dk, hw, hF⟩
  rw [hw]; clear hw
  have hcv := HCv.out dk k v' hF
  have HB : Hid (Below w.heap.size w ((putRow encB (w.alloc (.cells zeros24 131)) w.heap.size 0 dk).drewN k)) := HFin.out dk k
  go_wp2
  go_ret
  exact ⟨rfl, HB.out⟩
theorem ifmt_any (u : Nat) (w : World) (hu64 : u < 18446744073709551616) (htab : Lib.TabIs Tryd.prog w "internal/strconv.uint64pow10" .u64 Lib.pow10Tab) :
    Calls Tryd.prog 70 #[.int .u64 (u : Int), .int .i64 10] w fun e w' => e = .returned (.string ⟨(decDigits u).toArray⟩) ∧ Below w.heap.size w w' := by
  by_cases h : u < 100
  · exact (ifmt_small u w h).mono fun e w' hh => ⟨hh.1, by rw [hh.2]; exact Below.refl _ _⟩
  · exact ifmt_big u w (by omega) hu64 htab
set_option maxHeartbeats 1000000 in
theorem decimal_any (u : Nat) (w : World) (hu64 : u < 18446744073709551616) (htab : Lib.TabIs Tryd.prog w "internal/strconv.uint64pow10" .u64 Lib.pow10Tab) :
    Calls Tryd.prog 8 #[.int .u64 (u : Int)] w fun e w' => e = .returned (.string ⟨(decDigits u).toArray⟩) ∧ Below w.heap.size w w' := by
  have HI : Hid (Calls Tryd.prog 70 #[.int .u64 (u : Int), .int .i64 10] w fun e w' => e = .returned (.string ⟨(decDigits u).toArray⟩) ∧ Below w.heap.size w w') := ifmt_any u w hu64 htab
  clear htab
  generalize (⟨(decDigits u).toArray⟩ : ByteArray) = s at *
  have HF : Hid (Calls Tryd.prog 26 #[.int .u64 (u : Int), .int .i64 10] w fun e w' => e = .returned (.string s) ∧ Below w.heap.size w w') := by
    show Calls _ _ _ _ _
    go_enter Tryd.func26, Tryd.ntmps26
    go_wp2_with fail
    refine HI.out.mono ?_
    rintro e w1 ⟨rfl, hb⟩
    have HB : Hid (Below w.heap.size w w1) := hb
    clear hb
    go_wp2
    go_ret
    exact ⟨rfl, HB.out⟩
  go_enter Tryd.func8, Tryd.ntmps8
  go_wp2_with fail
  refine HF.out.mono ?_
  rintro e w1 ⟨rfl, hb⟩
  have HB : Hid (Below w.heap.size w w1) := hb
  clear hb
  go_wp2
  go_ret
  exact ⟨rfl, HB.out⟩
end Go.Proofs.YtpkobgnbjmefnabDoor
