import Derived.Test.YtjikibhhhchgeaaDoorY3
namespace Go.Proofs.YtjikibhhhchgeaaDoor
open Go.RowKit Go.Lib
set_option linter.unusedVariables false
set_option maxRecDepth 100000

theorem made_zeros (n : Nat) : (madeCells (Value.int .u8 0).cells (n * 1)).toList = (List.replicate n 0).map bv := by
  apply List.ext_getElem?
  intro i
  by_cases hi : i < n
  · simp [madeCells, Value.cells, hi, Nat.mod_one, bv]
  · simp [madeCells, Value.cells, hi]
theorem pow_step (v k : Nat) : v / 256 ^ k / 256 = v / 256 ^ (k + 1) := by rw [Nat.div_div_eq_div_mul, Nat.pow_succ]
theorem pow_eight (v k : Nat) : v / 2 ^ (8 * k) = v / 256 ^ k := by rw [Nat.pow_mul]
set_option maxHeartbeats 1000000 in
theorem rbig_any (v n : Nat) (w : World) (hv : v < 18446744073709551616) (hn : n ≤ 8) :
    Calls Tryd.prog 97 #[.int .u64 (v : Int), .int .i64 (n : Int)] w fun e w' => e = .returned (.slice (some ⟨w.heap.size, 0, none⟩) n n) ∧ w'.ownsRow w.heap.size 5 1 (.slice (some ⟨w.heap.size, 0, none⟩) n n) n ((bigTo v n n).map bv) ∧ Below w.heap.size w w' := by
  obtain ⟨i0, hi, hz0, hz1, hz2⟩ := info_parts Tryd.info5
  go_enter Tryd.func97, Tryd.ntmps97
  go_wp2_with (at_make; refine wpList_make_full _ rfl _ _ 25 rfl w.heap.size 5 i0 (.int .u8 0) 1 Tryd.underlying25 hi hz0 hz1 .i64 .i64 _ _ n rfl rfl rfl rfl (by rw [hz2]; omega) (by unfold maxLen; omega) (Nat.le_refl _) ?_; intro w1 hown1 hgrow1)
  have HB1 : Hid (Below w.heap.size w w1) := (Below.refl w.heap.size w).grown hgrow1 (Nat.le_refl _) (by simp)
  have HO1 : Hid (w1.ownsRow w.heap.size 5 1 (.slice (some ⟨w.heap.size, 0, none⟩) n n) n ((List.replicate n 0).map bv)) := by rw [← made_zeros]; exact hown1
  clear hown1 hgrow1
  go_wp2
  go_loopw [0, 6] (fun x i wr => ∃ k : Nat, k ≤ n ∧ i = .int .i64 ((n : Int) - 1 - k) ∧ x = .int .u64 ((v / 256 ^ k : Nat) : Int) ∧ ∃ C : List Nat, C.length = n ∧ wr.ownsRow w.heap.size 5 1 (.slice (some ⟨w.heap.size, 0, none⟩) n n) n (C.map bv) ∧ (∀ j, n - k ≤ j → j < n → C[j]? = some (v / 2 ^ (8 * (n - 1 - j)) % 256)) ∧ Below w.heap.size w wr) (fun _ i _ => ((intOf i) + 1).toNat)
  case atStart => exact ⟨0, Nat.zero_le _, by simp, by simp, _, by simp, HO1.out, fun j h1 h2 => by omega, HB1.out⟩
  case round =>
    obtain ⟨k, hk, rfl, rfl, C, hC, ho, hj, hb⟩ := hrel
    by_cases hlt : k < n
    · obtain ⟨d, hd⟩ : ∃ d, n = d + k + 1 := ⟨n - k - 1, by omega⟩
      have ei : (n : Int) - 1 - k = (d : Int) := by omega
      rw [ei]
      have hdn : d < n := by omega
      have hc0 : wr.cell? ⟨w.heap.size, d, none⟩ = some (.int .u8 ((C[d]?.getD 0 : Nat) : Int)) := by
        rw [ho.cellAt d (by omega)]; simp [bv, hC, hdn]
      have hf0 := ho.frozenAt d
      have HX : Hid (v / 256 ^ k / 256 = v / 256 ^ (k + 1)) := pow_step v k
      have hx64 : v / 256 ^ k < 18446744073709551616 := Nat.lt_of_le_of_lt (Nat.div_le_self _ _) hv
      obtain ⟨hs, hgr⟩ := ho.stored d (bv (v / 256 ^ k % 256))
      have HS : Hid (∃ C' : List Nat, C'.length = n ∧ (wr.setCell ⟨w.heap.size, d, none⟩ (bv (v / 256 ^ k % 256))).ownsRow w.heap.size 5 1 (.slice (some ⟨w.heap.size, 0, none⟩) n n) n (C'.map bv) ∧ (∀ j, n - (k + 1) ≤ j → j < n → C'[j]? = some (v / 2 ^ (8 * (n - 1 - j)) % 256)) ∧ Below w.heap.size w (wr.setCell ⟨w.heap.size, d, none⟩ (bv (v / 256 ^ k % 256)))) := by
        refine ⟨C.set d (v / 256 ^ k % 256), by simp [hC], by rw [List.map_set]; exact hs, fun j h1 h2 => ?_, hb.grown hgr hb.size (fun g hg => by simp at hg; omega)⟩
        by_cases e : j = d
        · subst e
          rw [List.getElem?_set_self (by omega), show n - 1 - j = k by omega, pow_eight]
        · rw [List.getElem?_set_ne (by omega)]
          exact hj j (by omega) h2
      clear ho hs hgr hj hb hC
      generalize v / 256 ^ k = x at *
      generalize C[d]?.getD 0 = y at *
      go_wp2
      go_roundw
      case rel => exact ⟨k + 1, by omega, by go_num, congrArg (Value.int .u64) (by rw [← HX.out]; omega), HS.out⟩
      case measure => simp [intOf]
    · obtain rfl : k = n := by omega
      have ei : (k : Int) - 1 - k = -1 := by omega
      rw [ei]
      have HE : Hid (C = bigTo v k k) := by
        show C = bigTo v k k
        apply List.ext_getElem?
        intro j
        by_cases hjk : j < k
        · rw [hj j (by omega) hjk]; simp [bigTo, hjk]
        · simp [bigTo, hjk, hC]
      have HO : Hid (wr.ownsRow w.heap.size 5 1 (.slice (some ⟨w.heap.size, 0, none⟩) k k) k (C.map bv)) := ho
      have HB : Hid (Below w.heap.size w wr) := hb
      clear ho hb hj hC
      go_wp2
      go_ret
      exact ⟨rfl, by rw [← HE.out]; exact HO.out, HB.out⟩


def zstr (m : Nat) : ByteArray := ⟨(List.replicate m 0).toArray⟩
theorem zstr_size (m : Nat) : (zstr m).size = m := by show (List.replicate m (0 : UInt8)).toArray.size = m; simp
theorem zstr_cells (m : Nat) : strCells (zstr m) = (List.replicate m 0).map bv := by unfold strCells zstr; simp [bv]
theorem zero_cells (m : Nat) : Builtin.zeroCells #[Value.int .u8 0] m = (strCells (zstr m)).toArray := by
  rw [zstr_cells]
  apply Array.ext
  · simp [Builtin.zeroCells]
  · intro i h1 h2
    simp [Builtin.zeroCells, Nat.mod_one, bv]
/-- an append of a make is an append of as many zero bytes -/
theorem append_make_eq {P : Program} (w : World) (t u k ty e : TypeId) (i : TypeInfo) (ht : P.underlying t = some (.slice e)) (hu : P.underlying u = some .string) (hk : P.underlying k = some (.int .i64)) (hi : P.info? e = some i) (hz : i.zero = some (.int .u8 0))
    (hsize : i.size = 1) (hby : i.bytes = 1) (b : Option Addr) (sLen sCap m : Nat) (hm : m ≤ 2097152) (hl : sLen + m ≤ 140737488355328) :
    (Builtin.append_ #[t, k] ty #[.slice b sLen sCap, .int .i64 (m : Int)]).run P w = (Builtin.append_ #[t, u] ty #[.slice b sLen sCap, .string (zstr m)]).run P w := by
  have hw : IntKind.i64.wrap (m : Int) = (m : Int) := by rw [IntKind.wrap_i64]; omega
  have hn0 : ¬ ((m : Int) < 0) := by omega
  have hn1 : ¬ ((281474976710656 : Int) < (m : Int)) := by omega
  have hf := fun W => run_firstCells_string (P := P) W 1 (zstr m)
  rw [zstr_size] at hf
  have hc : strCells (zstr 0) = [] := by rw [zstr_cells]; rfl
  by_cases h0 : m = 0
  · subst h0
    have hw0 : IntKind.i64.wrap 0 = 0 := by decide
    rw [hc] at hf
    by_cases hroom : sLen ≤ sCap
    · simp [Builtin.append_, run_underlying ht, run_underlying hu, run_underlying hk, sizeOf, typeInfo, hi, hsize, hby, Builtin.lenOf, hroom, hf, zstr_size, asInt, asIntOf, hw0]
    · have h48 := growslice_fits (need := sLen) (old := sCap) (bytes := 1) (by omega) (by omega)
      have h48' : ¬ (281474976710656 < Builtin.nextslicecap sLen sCap) := by omega
      have h63' : ¬ (9223372036854775807 < (sLen : Int)) := by omega
      simp [Builtin.append_, run_underlying ht, run_underlying hu, run_underlying hk, sizeOf, typeInfo, zeroValue, hi, hz, hsize, hby, Builtin.lenOf, hroom, hf, zstr_size, asInt, asIntOf, hw0, h48', h63', Question.forced]
  · have hm0 : ¬ ((m : Int) ≤ 0) := by omega
    by_cases hroom : sLen + m ≤ sCap
    · simp [Builtin.append_, run_underlying ht, run_underlying hu, run_underlying hk, sizeOf, typeInfo, zeroValue, hi, hz, hsize, hby, Builtin.lenOf, hroom, hf, zstr_size, asInt, asIntOf, hw, hn0, hn1, h0, Value.cells, zero_cells]
    · have h48 := growslice_fits (need := sLen + m) (old := sCap) (bytes := 1) (by omega) (by omega)
      have h48' : ¬ (281474976710656 < Builtin.nextslicecap (sLen + m) sCap) := by omega
      have h63' : ¬ (9223372036854775807 < ((sLen : Int) + (m : Int))) := by omega
      simp [Builtin.append_, run_underlying ht, run_underlying hu, run_underlying hk, sizeOf, typeInfo, zeroValue, hi, hz, hsize, hby, Builtin.lenOf, hroom, hf, zstr_size, asInt, asIntOf, hw, hn0, hn1, h0, h48', h63', Question.forced, Value.cells, zero_cells]
theorem wpList_append_two_make {P : Program} (w : World) {ops : Array Oper} {rest : List Oper} {o : Oper} {a : Act} {Q : Exit → Act → World → Prop} (hgd : o.guard = none) (sl x : Operand) (t u k : TypeId)
    (ho : o.op = .call { callee := .builtin .append, args := #[sl, x], argTypes := #[t, k] })
    (base : Nat) (e : TypeId) (i : TypeInfo) (ht : P.underlying t = some (.slice e)) (hu : P.underlying u = some .string) (hk : P.underlying k = some (.int .i64)) (hi : P.info? e = some i) (hz : i.zero = some (.int .u8 0))
    (hsize : i.size = 1) (hby : i.bytes = 1) (v : Value) (n : Nat) (xs : List Value) (hs : a.eval sl = v) (hown : w.ownsRow base e 1 v n xs)
    (m : Nat) (hx : a.eval x = .int .i64 (m : Int)) (hm : m ≤ 2097152) (hbytes : n + m ≤ 140737488355328) (hbase : base ≤ w.heap.size)
    (h : ∀ ao cap w', w'.ownsRow base e 1 (.slice ao (n + m) cap) (n + m) (xs ++ (List.replicate m 0).map bv) → w.grownBy w' v.ownBlock → Fresh w v (.slice ao (n + m) cap) → wpList P ops Q rest (a.put o.dst (.slice ao (n + m) cap)) w') : wpList P ops Q (o :: rest) a w := by
  obtain ⟨v', w', hr, h2, h3, h4⟩ := run_append_two_string (P := P) w base t u o.type e i ht hu hi hz hsize hby v n xs hown (zstr m) (by rw [zstr_size]; exact hbytes) hbase
  obtain ⟨ao0, cap0, rfl⟩ := owns_form hown
  rw [← append_make_eq w t u k o.type e i ht hu hk hi hz hsize hby ao0 n cap0 m hm hbytes] at hr
  rw [zstr_cells, zstr_size] at h2
  obtain ⟨ao, cap, rfl⟩ := owns_form h2
  refine wpList_plain hgd fun K hK => ?_
  unfold Oper.wp execOp
  simp only [ho, resolve, invoke, builtin, Sem.run_bind, Sem.run_pure, Result.andThen_ok, List.map_toArray, List.map_cons, List.map_nil, hs, hx, hr]
  exact hK _ _ (h ao cap w' h2 h3 h4)

theorem zeros_lt (n : Nat) : ∀ x ∈ List.replicate n 0, x < 256 := fun x hx => by rw [(List.mem_replicate.1 hx).2]; decide
/-- what bytes of a number say -/
theorem valB_bigTo (x size k : Nat) (hk : k ≤ size) (hx : x < 256 ^ size) : valB (bigTo x size k) = x / 2 ^ (8 * (size - k)) := by
  induction k with
  | zero =>
    rw [show bigTo x size 0 = [] from rfl, show valB [] = 0 from rfl, Nat.sub_zero]
    have : (2 : Nat) ^ (8 * size) = 256 ^ size := by rw [Nat.pow_mul]
    rw [this, Nat.div_eq_of_lt hx]
  | succ k ih =>
    rw [bigTo_succ, valB_snoc, ih (by omega)]
    have e1 : size - k = (size - 1 - k) + 1 := by omega
    have e2 : size - (k + 1) = size - 1 - k := by omega
    rw [e1, e2]
    have : x / 2 ^ (8 * (size - 1 - k + 1)) = x / 2 ^ (8 * (size - 1 - k)) / 256 := by
      rw [Nat.div_div_eq_div_mul, show 8 * (size - 1 - k + 1) = 8 * (size - 1 - k) + 8 by omega, Nat.pow_add]
    rw [this]; omega
theorem valB_big (x size : Nat) (hx : x < 256 ^ size) : valB (bigTo x size size) = x := by
  rw [valB_bigTo x size size (Nat.le_refl _) hx]; simp
end Go.Proofs.YtjikibhhhchgeaaDoor
