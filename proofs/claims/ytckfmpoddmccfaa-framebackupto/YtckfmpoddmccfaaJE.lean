import Derived.Test.YtckfmpoddmccfaaJC
namespace Go.Proofs.Ytckfmpoddmccfaa
open Go.RowKit Go.Lib
set_option linter.unusedVariables false
set_option maxRecDepth 100000

theorem made_zeros (n : Nat) : (madeCells (Value.int .u8 0).cells (n * 1)).toList = (List.replicate n 0).map bv := by
  apply List.ext_getElem?
  intro i
  by_cases hi : i < n
  · simp [madeCells, Value.cells, hi, Nat.mod_one, bv]
  · simp [madeCells, Value.cells, hi]
theorem pow_step (v k : Nat) : v / 256 ^ k / 256 = v / 256 ^ (k + 1) := by rw [Nat.div_div_eq_div_mul, Nat.pow_succ]
theorem pow_eight (v k : Nat) : v / 2 ^ (8 * k) = v / 256 ^ k := by rw [Nat.pow_mul]
def zstr (m : Nat) : ByteArray := ⟨(List.replicate m 0).toArray⟩
theorem zstr_size (m : Nat) : (zstr m).size = m := by show (List.replicate m (0 : UInt8)).toArray.size = m; simp
theorem zstr_cells (m : Nat) : strCells (zstr m) = (List.replicate m 0).map bv := by unfold strCells zstr; simp [bv]
theorem zero_cells (m : Nat) : Builtin.zeroCells #[Value.int .u8 0] m = (strCells (zstr m)).toArray := by
  rw [zstr_cells]
  apply Array.ext
  · simp [Builtin.zeroCells]
  · intro i h1 h2
    simp [Builtin.zeroCells, Nat.mod_one, bv]
/-- an append of a make is an append of as many zero bytes -/
theorem append_make_eq {P : Program} (w : World) (t u k ty e : TypeId) (i : TypeInfo) (ht : P.underlying t = some (.slice e)) (hu : P.underlying u = some .string) (hk : P.underlying k = some (.int .i64)) (hi : P.info? e = some i) (hz : i.zero = some (.int .u8 0))
    (hsize : i.size = 1) (hby : i.bytes = 1) (b : Option Addr) (sLen sCap m : Nat) (hm : m ≤ 2097152) (hl : sLen + m ≤ 140737488355328) :
    (Builtin.append_ #[t, k] ty #[.slice b sLen sCap, .int .i64 (m : Int)]).run P w = (Builtin.append_ #[t, u] ty #[.slice b sLen sCap, .string (zstr m)]).run P w := by
  have hw : IntKind.i64.wrap (m : Int) = (m : Int) := by rw [IntKind.wrap_i64]; omega
  have hn0 : ¬ ((m : Int) < 0) := by omega
  have hn1 : ¬ ((281474976710656 : Int) < (m : Int)) := by omega
  have hf := fun W => run_firstCells_string (P := P) W 1 (zstr m)
  rw [zstr_size] at hf
  have hc : strCells (zstr 0) = [] := by rw [zstr_cells]; rfl
  by_cases h0 : m = 0
  · subst h0
    have hw0 : IntKind.i64.wrap 0 = 0 := by decide
    rw [hc] at hf
    by_cases hroom : sLen ≤ sCap
    · simp [Builtin.append_, run_underlying ht, run_underlying hu, run_underlying hk, sizeOf, typeInfo, hi, hsize, hby, Builtin.lenOf, hroom, hf, zstr_size, asInt, asIntOf, hw0]
    · have h48 := growslice_fits (need := sLen) (old := sCap) (bytes := 1) (by omega) (by omega)
      have h48' : ¬ (281474976710656 < Builtin.nextslicecap sLen sCap) := by omega
      have h63' : ¬ (9223372036854775807 < (sLen : Int)) := by omega
      simp [Builtin.append_, run_underlying ht, run_underlying hu, run_underlying hk, sizeOf, typeInfo, zeroValue, hi, hz, hsize, hby, Builtin.lenOf, hroom, hf, zstr_size, asInt, asIntOf, hw0, h48', h63', Question.forced]
  · have hm0 : ¬ ((m : Int) ≤ 0) := by omega
    by_cases hroom : sLen + m ≤ sCap
    · simp [Builtin.append_, run_underlying ht, run_underlying hu, run_underlying hk, sizeOf, typeInfo, zeroValue, hi, hz, hsize, hby, Builtin.lenOf, hroom, hf, zstr_size, asInt, asIntOf, hw, hn0, hn1, h0, Value.cells, zero_cells]
    · have h48 := growslice_fits (need := sLen + m) (old := sCap) (bytes := 1) (by omega) (by omega)
      have h48' : ¬ (281474976710656 < Builtin.nextslicecap (sLen + m) sCap) := by omega
      have h63' : ¬ (9223372036854775807 < ((sLen : Int) + (m : Int))) := by omega
      simp [Builtin.append_, run_underlying ht, run_underlying hu, run_underlying hk, sizeOf, typeInfo, zeroValue, hi, hz, hsize, hby, Builtin.lenOf, hroom, hf, zstr_size, asInt, asIntOf, hw, hn0, hn1, h0, h48', h63', Question.forced, Value.cells, zero_cells]
theorem wpList_append_two_make {P : Program} (w : World) {ops : Array Oper} {rest : List Oper} {o : Oper} {a : Act} {Q : Exit → Act → World → Prop} (hgd : o.guard = none) (sl x : Operand) (t u k : TypeId)
    (ho : o.op = .call { callee := .builtin .append, args := #[sl, x], argTypes := #[t, k] })
    (base : Nat) (e : TypeId) (i : TypeInfo) (ht : P.underlying t = some (.slice e)) (hu : P.underlying u = some .string) (hk : P.underlying k = some (.int .i64)) (hi : P.info? e = some i) (hz : i.zero = some (.int .u8 0))
    (hsize : i.size = 1) (hby : i.bytes = 1) (v : Value) (n : Nat) (xs : List Value) (hs : a.eval sl = v) (hown : w.ownsRow base e 1 v n xs)
    (m : Nat) (hx : a.eval x = .int .i64 (m : Int)) (hm : m ≤ 2097152) (hbytes : n + m ≤ 140737488355328) (hbase : base ≤ w.heap.size)
    (h : ∀ ao cap w', w'.ownsRow base e 1 (.slice ao (n + m) cap) (n + m) (xs ++ (List.replicate m 0).map bv) → w.grownBy w' v.ownBlock → Fresh w v (.slice ao (n + m) cap) → wpList P ops Q rest (a.put o.dst (.slice ao (n + m) cap)) w') : wpList P ops Q (o :: rest) a w := by
  obtain ⟨v', w', hr, h2, h3, h4⟩ := run_append_two_string (P := P) w base t u o.type e i ht hu hi hz hsize hby v n xs hown (zstr m) (by rw [zstr_size]; exact hbytes) hbase
  obtain ⟨ao0, cap0, rfl⟩ := owns_form hown
  rw [← append_make_eq w t u k o.type e i ht hu hk hi hz hsize hby ao0 n cap0 m hm hbytes] at hr
  rw [zstr_cells, zstr_size] at h2
  obtain ⟨ao, cap, rfl⟩ := owns_form h2
  refine wpList_plain hgd fun K hK => ?_
  unfold Oper.wp execOp
  simp only [ho, resolve, invoke, builtin, Sem.run_bind, Sem.run_pure, Result.andThen_ok, List.map_toArray, List.map_cons, List.map_nil, hs, hx, hr]
  exact hK _ _ (h ao cap w' h2 h3 h4)

theorem zeros_lt (n : Nat) : ∀ x ∈ List.replicate n 0, x < 256 := fun x hx => by rw [(List.mem_replicate.1 hx).2]; decide
set_option maxHeartbeats 400000 in
theorem copy_none (w : World) :
    Calls Try.prog 67 #[.slice none 0 0] w fun e w' => e = .returned (.slice none 0 0) ∧ w' = w := by
  obtain ⟨i0, hi, hz0, hz1, hz2⟩ := info_parts Try.info5
  go_enter Try.func67, Try.ntmps67
  go_wp2_with (at_builtin; refine wpList_append_own_none rfl _ _ 22 rfl w.heap.size 5 i0 1 Try.underlying22 hi _ 0 [] rfl (World.ownsRow_nil _ _ _ _) rfl ?_)
  go_ret
  exact ⟨rfl, rfl⟩

set_option maxHeartbeats 400000 in
theorem copy_some (ad : Addr) (cap : Nat) (l : List Nat) (w : World) (h : BRow w (some ad) cap l) :
    Calls Try.prog 67 #[.slice (some ad) l.length cap] w fun e w' => ∃ v, e = .returned v ∧ w'.ownsRow w.heap.size 5 1 v l.length (l.map bv) ∧ Below w.heap.size w w' := by
  obtain ⟨i0, hi, hz0, hz1, hz2⟩ := info_parts Try.info5
  have HN : Hid (∀ j u, (l.map bv)[j]? = some u → w.cell? (ad.add j) = some u) := by
    intro j u hu
    rw [List.getElem?_map] at hu
    by_cases hj : j < l.length
    · rw [List.getElem?_eq_getElem hj] at hu
      obtain ⟨b, off, e, hc⟩ := h.at_ (by rintro rfl; simp at hj)
      cases e
      simp only [Option.map_some, Option.some.injEq] at hu
      subst hu
      rw [add_plain]; exact hc j hj
    · rw [List.getElem?_eq_none (by omega)] at hu; simp at hu
  have hlen := h.len
  have H1 : Hid (∀ u ∈ l.map bv, u.oneCell' = true) := by
    intro u hu
    obtain ⟨x, _, rfl⟩ := List.mem_map.1 hu
    rfl
  clear h
  go_enter Try.func67, Try.ntmps67
  go_wp2_with (at_builtin; refine wpList_append_own _ rfl _ _ 22 rfl w.heap.size 5 i0 (.int .u8 0) 1 1 Try.underlying22 hi hz0 hz1 hz2 rfl (by decide) _ 0 [] rfl (World.ownsRow_nil _ _ _ _) ad l.length cap (l.map bv) rfl (by simp) HN.out H1.out (by unfold maxLen; omega) (by omega) (Nat.le_refl _) ?_)
  intro v' w1 hown hgrow _
  have hb : Below w.heap.size w w1 := (Below.refl _ _).grown hgrow (Nat.le_refl _) (by simp [Value.ownBlock])
  clear hgrow
  go_wp2
  go_ret
  exact ⟨_, rfl, hown, hb⟩
set_option maxHeartbeats 1000000 in
theorem value_some (g off cap n : Nat) (m : List Nat) (w : World) (hn : n ≤ 8) (HM : Hid (m.length = n)) (H256 : Hid (∀ x ∈ m, x < 256)) (HC : Hid (∀ k, k < n → w.cell? ⟨g, off + k, none⟩ = some (.int .u8 ((m[k]?.getD 0 : Nat) : Int)))) :
    Calls Try.prog 114 #[.slice (some ⟨g, off, none⟩) n cap] w fun e w' => e = .returned (.int .u64 (valB m : Nat)) ∧ ∃ q, w' = w.drewN q := by
  go_enter Try.func114, Try.ntmps114
  go_wp2
  go_loopw [3, 4] (fun v i wr => ∃ k q : Nat, k ≤ n ∧ i = .int .i64 k ∧ v = .int .u64 (valB (m.take k) : Nat) ∧ wr = w.drewN q) (fun _ i _ => n - (intOf i).toNat)
  case atStart => exact ⟨0, 0, Nat.zero_le _, rfl, rfl, rfl⟩
  case round =>
    obtain ⟨k, q, hk, rfl, rfl, rfl⟩ := hrel
    by_cases hlt : k < n
    · have hc := HC.out k hlt
      have hx : m[k]?.getD 0 < 256 := getD_lt m H256.out _
      have hv : valB (m.take k) < 256 ^ k := by
        have := valB_lt (m.take k) (fun x hx => H256.out x (List.mem_of_mem_take hx))
        have hln := HM.out
        rwa [List.length_take, Nat.min_eq_left (by omega)] at this
      have hv7 : valB (m.take k) < 72057594037927936 := Nat.lt_of_lt_of_le hv (Nat.pow_le_pow_right (n := 256) (by decide) (by omega : k ≤ 7))
      have HS : Hid (valB (m.take (k + 1)) = valB (m.take k) * 256 + m[k]?.getD 0) := by
        have hln := HM.out
        show valB (m.take (k + 1)) = _
        rw [List.take_succ_eq_append_getElem (by omega), valB_snoc]
        simp [show k < m.length by omega]
      generalize valB (m.take k) = v at *
      generalize m[k]?.getD 0 = x at *
      have hor := or_join v x hv7 hx
      clear hv
      go_wp2
      go_roundw
      case rel => exact ⟨k + 1, q, by omega, by go_num, congrArg (Value.int .u64) (by rw [HS.out]; omega), rfl⟩
      case measure => simp [intOf]; omega
    · have ek : n = k := by omega
      subst ek
      have HE : Hid (m.take n = m) := by
        have := HM.out
        show m.take n = m
        exact List.take_of_length_le (by omega)
      go_wp2
      go_ret
      exact ⟨by rw [HE.out]; rfl, q, rfl⟩
/-- what bytes of a number say -/
theorem valB_bigTo (x size k : Nat) (hk : k ≤ size) (hx : x < 256 ^ size) : valB (bigTo x size k) = x / 2 ^ (8 * (size - k)) := by
  induction k with
  | zero =>
    rw [show bigTo x size 0 = [] from rfl, show valB [] = 0 from rfl, Nat.sub_zero]
    have : (2 : Nat) ^ (8 * size) = 256 ^ size := by rw [Nat.pow_mul]
    rw [this, Nat.div_eq_of_lt hx]
  | succ k ih =>
    rw [bigTo_succ, valB_snoc, ih (by omega)]
    have e1 : size - k = (size - 1 - k) + 1 := by omega
    have e2 : size - (k + 1) = size - 1 - k := by omega
    rw [e1, e2]
    have : x / 2 ^ (8 * (size - 1 - k + 1)) = x / 2 ^ (8 * (size - 1 - k)) / 256 := by
      rw [Nat.div_div_eq_div_mul, show 8 * (size - 1 - k + 1) = 8 * (size - 1 - k) + 8 by omega, Nat.pow_add]
    rw [this]; omega
theorem valB_big (x size : Nat) (hx : x < 256 ^ size) : valB (bigTo x size size) = x := by
  rw [valB_bigTo x size size (Nat.le_refl _) hx]; simp
end Go.Proofs.Ytckfmpoddmccfaa
