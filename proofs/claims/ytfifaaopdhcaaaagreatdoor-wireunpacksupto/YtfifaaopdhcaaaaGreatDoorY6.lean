import Derived.Test.YtfifaaopdhcaaaaGreatDoorY3
import Derived.Test.YtfifaaopdhcaaaaGreatDoorRows
import Derived.WalkKit
import Derived.WalkSpells
import Derived.WalkLawsBesides
import Derived.Lib.DecodeNEq
import Derived.Lib.ValidLaws
import Derived.Lib.TrimUEq
import Derived.Lib.Bytealg
import Derived.Shelf.Small.Strs
import Derived.Shelf.Strings.Search1
import Derived.Shelf.Unicode.ValidAny
import Derived.Test.YtfifaaopdhcaaaaGreatDoorProg
import Derived.Ground.NamesProg
namespace Go.Proofs.YtfifaaopdhcaaaaGreatDoor
open Go.RowKit Go.Lib
set_option linter.unusedVariables false
set_option maxRecDepth 100000

theorem made_zeros (n : Nat) : (madeCells (Value.int .u8 0).cells (n * 1)).toList = (List.replicate n 0).map bv := by
  apply List.ext_getElem?
  intro i
  by_cases hi : i < n
  · simp [madeCells, Value.cells, hi, Nat.mod_one, bv]
  · simp [madeCells, Value.cells, hi]
theorem pow_step (v k : Nat) : v / 256 ^ k / 256 = v / 256 ^ (k + 1) := by rw [Nat.div_div_eq_div_mul, Nat.pow_succ]
theorem pow_eight (v k : Nat) : v / 2 ^ (8 * k) = v / 256 ^ k := by rw [Nat.pow_mul]
set_option maxHeartbeats 1000000 in
theorem rbig_any (v n : Nat) (w : World) (hv : v < 18446744073709551616) (hn : n ≤ 8) :
    Calls Tryz.prog 94 #[.int .u64 (v : Int), .int .i64 (n : Int)] w fun e w' => e = .returned (.slice (some ⟨w.heap.size, 0, none⟩) n n) ∧ w'.ownsRow w.heap.size 5 1 (.slice (some ⟨w.heap.size, 0, none⟩) n n) n ((bigTo v n n).map bv) ∧ Below w.heap.size w w' := by
  obtain ⟨i0, hi, hz0, hz1, hz2⟩ := info_parts Tryz.info5
  go_enter Tryz.func94, Tryz.ntmps94
  go_wp2_with (at_make; refine wpList_make_full _ rfl _ _ 22 rfl w.heap.size 5 i0 (.int .u8 0) 1 Tryz.underlying22 hi hz0 hz1 .i64 .i64 _ _ n rfl rfl rfl rfl (by rw [hz2]; omega) (by unfold maxLen; omega) (Nat.le_refl _) ?_; intro w1 hown1 hgrow1)
  have HB1 : Hid (Below w.heap.size w w1) := (Below.refl w.heap.size w).grown hgrow1 (Nat.le_refl _) (by simp)
  have HO1 : Hid (w1.ownsRow w.heap.size 5 1 (.slice (some ⟨w.heap.size, 0, none⟩) n n) n ((List.replicate n 0).map bv)) := by rw [← made_zeros]; exact hown1
  clear hown1 hgrow1
  go_wp2
  go_loopw [0, 6] (fun x i wr => ∃ k : Nat, k ≤ n ∧ i = .int .i64 ((n : Int) - 1 - k) ∧ x = .int .u64 ((v / 256 ^ k : Nat) : Int) ∧ ∃ C : List Nat, C.length = n ∧ wr.ownsRow w.heap.size 5 1 (.slice (some ⟨w.heap.size, 0, none⟩) n n) n (C.map bv) ∧ (∀ j, n - k ≤ j → j < n → C[j]? = some (v / 2 ^ (8 * (n - 1 - j)) % 256)) ∧ Below w.heap.size w wr) (fun _ i _ => ((RowKit.intOf i) + 1).toNat)
  case atStart => exact ⟨0, Nat.zero_le _, by simp, by simp, _, by simp, HO1.out, fun j h1 h2 => by omega, HB1.out⟩
  case round =>
    obtain ⟨k, hk, rfl, rfl, C, hC, ho, hj, hb⟩ := hrel
    by_cases hlt : k < n
    · obtain ⟨d, hd⟩ : ∃ d, n = d + k + 1 := ⟨n - k - 1, by omega⟩
      have ei : (n : Int) - 1 - k = (d : Int) := by omega
      rw [ei]
      have hdn : d < n := by omega
      have hc0 : wr.cell? ⟨w.heap.size, d, none⟩ = some (.int .u8 ((C[d]?.getD 0 : Nat) : Int)) := by
        rw [ho.cellAt d (by omega)]; simp [bv, hC, hdn]
      have hf0 := ho.frozenAt d
      have HX : Hid (v / 256 ^ k / 256 = v / 256 ^ (k + 1)) := pow_step v k
      have hx64 : v / 256 ^ k < 18446744073709551616 := Nat.lt_of_le_of_lt (Nat.div_le_self _ _) hv
      obtain ⟨hs, hgr⟩ := ho.stored d (bv (v / 256 ^ k % 256))
      have HS : Hid (∃ C' : List Nat, C'.length = n ∧ (wr.setCell ⟨w.heap.size, d, none⟩ (bv (v / 256 ^ k % 256))).ownsRow w.heap.size 5 1 (.slice (some ⟨w.heap.size, 0, none⟩) n n) n (C'.map bv) ∧ (∀ j, n - (k + 1) ≤ j → j < n → C'[j]? = some (v / 2 ^ (8 * (n - 1 - j)) % 256)) ∧ Below w.heap.size w (wr.setCell ⟨w.heap.size, d, none⟩ (bv (v / 256 ^ k % 256)))) := by
        refine ⟨C.set d (v / 256 ^ k % 256), by simp [hC], by rw [List.map_set]; exact hs, fun j h1 h2 => ?_, hb.grown hgr hb.size (fun g hg => by simp at hg; omega)⟩
        by_cases e : j = d
        · subst e
          rw [List.getElem?_set_self (by omega), show n - 1 - j = k by omega, pow_eight]
        · rw [List.getElem?_set_ne (by omega)]
          exact hj j (by omega) h2
      clear ho hs hgr hj hb hC
      generalize v / 256 ^ k = x at *
      generalize C[d]?.getD 0 = y at *
      go_wp2
      go_roundw
      case rel => exact ⟨k + 1, by omega, by go_num, congrArg (Value.int .u64) (by rw [← HX.out]; omega), HS.out⟩
      case measure => simp [RowKit.intOf]
    · obtain rfl : k = n := by omega
      have ei : (k : Int) - 1 - k = -1 := by omega
      rw [ei]
      have HE : Hid (C = bigTo v k k) := by
        show C = bigTo v k k
        apply List.ext_getElem?
        intro j
        by_cases hjk : j < k
        · rw [hj j (by omega) hjk]; simp [bigTo, hjk]
        · simp [bigTo, hjk, hC]
      have HO : Hid (wr.ownsRow w.heap.size 5 1 (.slice (some ⟨w.heap.size, 0, none⟩) k k) k (C.map bv)) := ho
      have HB : Hid (Below w.heap.size w wr) := hb
      clear ho hb hj hC
      go_wp2
      go_ret
      exact ⟨rfl, by rw [← HE.out]; exact HO.out, HB.out⟩


def zstr (m : Nat) : ByteArray := ⟨(List.replicate m 0).toArray⟩
theorem zstr_size (m : Nat) : (zstr m).size = m := by show (List.replicate m (0 : UInt8)).toArray.size = m; simp
theorem zstr_cells (m : Nat) : strCells (zstr m) = (List.replicate m 0).map bv := by unfold strCells zstr; simp [bv]
theorem zero_cells (m : Nat) : Builtin.zeroCells #[Value.int .u8 0] m = (strCells (zstr m)).toArray := by
  rw [zstr_cells]
  apply Array.ext
  · simp [Builtin.zeroCells]
  · intro i h1 h2
    simp [Builtin.zeroCells, Nat.mod_one, bv]
/-- an append of a make is an append of as many zero bytes -/
theorem append_make_eq {P : Program} (w : World) (t u k ty e : TypeId) (i : TypeInfo) (ht : P.underlying t = some (.slice e)) (hu : P.underlying u = some .string) (hk : P.underlying k = some (.int .i64)) (hi : P.info? e = some i) (hz : i.zero = some (.int .u8 0))
    (hsize : i.size = 1) (hby : i.bytes = 1) (b : Option Addr) (sLen sCap m : Nat) (hm : m ≤ 2097152) (hl : sLen + m ≤ 140737488355328) :
    (Builtin.append_ #[t, k] ty #[.slice b sLen sCap, .int .i64 (m : Int)]).run P w = (Builtin.append_ #[t, u] ty #[.slice b sLen sCap, .string (zstr m)]).run P w := by
  have hw : IntKind.i64.wrap (m : Int) = (m : Int) := by rw [IntKind.wrap_i64]; omega
  have hn0 : ¬ ((m : Int) < 0) := by omega
  have hn1 : ¬ ((281474976710656 : Int) < (m : Int)) := by omega
  have hf := fun W => run_firstCells_string (P := P) W 1 (zstr m)
  rw [zstr_size] at hf
  have hc : strCells (zstr 0) = [] := by rw [zstr_cells]; rfl
  by_cases h0 : m = 0
  · subst h0
    have hw0 : IntKind.i64.wrap 0 = 0 := by decide
    rw [hc] at hf
    by_cases hroom : sLen ≤ sCap
    · simp [Builtin.append_, run_underlying ht, run_underlying hu, run_underlying hk, sizeOf, typeInfo, hi, hsize, hby, Builtin.lenOf, hroom, hf, zstr_size, asInt, asIntOf, hw0]
    · have h48 := growslice_fits (need := sLen) (old := sCap) (bytes := 1) (by omega) (by omega)
      have h48' : ¬ (281474976710656 < Builtin.nextslicecap sLen sCap) := by omega
      have h63' : ¬ (9223372036854775807 < (sLen : Int)) := by omega
      simp [Builtin.append_, run_underlying ht, run_underlying hu, run_underlying hk, sizeOf, typeInfo, zeroValue, hi, hz, hsize, hby, Builtin.lenOf, hroom, hf, zstr_size, asInt, asIntOf, hw0, h48', h63', Question.forced]
  · have hm0 : ¬ ((m : Int) ≤ 0) := by omega
    by_cases hroom : sLen + m ≤ sCap
    · simp [Builtin.append_, run_underlying ht, run_underlying hu, run_underlying hk, sizeOf, typeInfo, zeroValue, hi, hz, hsize, hby, Builtin.lenOf, hroom, hf, zstr_size, asInt, asIntOf, hw, hn0, hn1, h0, Value.cells, zero_cells]
    · have h48 := growslice_fits (need := sLen + m) (old := sCap) (bytes := 1) (by omega) (by omega)
      have h48' : ¬ (281474976710656 < Builtin.nextslicecap (sLen + m) sCap) := by omega
      have h63' : ¬ (9223372036854775807 < ((sLen : Int) + (m : Int))) := by omega
      simp [Builtin.append_, run_underlying ht, run_underlying hu, run_underlying hk, sizeOf, typeInfo, zeroValue, hi, hz, hsize, hby, Builtin.lenOf, hroom, hf, zstr_size, asInt, asIntOf, hw, hn0, hn1, h0, h48', h63', Question.forced, Value.cells, zero_cells]
theorem wpList_append_two_make {P : Program} (w : World) {ops : Array Oper} {rest : List Oper} {o : Oper} {a : Act} {Q : Exit → Act → World → Prop} (hgd : o.guard = none) (sl x : Operand) (t u k : TypeId)
    (ho : o.op = .call { callee := .builtin .append, args := #[sl, x], argTypes := #[t, k] })
    (base : Nat) (e : TypeId) (i : TypeInfo) (ht : P.underlying t = some (.slice e)) (hu : P.underlying u = some .string) (hk : P.underlying k = some (.int .i64)) (hi : P.info? e = some i) (hz : i.zero = some (.int .u8 0))
    (hsize : i.size = 1) (hby : i.bytes = 1) (v : Value) (n : Nat) (xs : List Value) (hs : a.eval sl = v) (hown : w.ownsRow base e 1 v n xs)
    (m : Nat) (hx : a.eval x = .int .i64 (m : Int)) (hm : m ≤ 2097152) (hbytes : n + m ≤ 140737488355328) (hbase : base ≤ w.heap.size)
    (h : ∀ ao cap w', w'.ownsRow base e 1 (.slice ao (n + m) cap) (n + m) (xs ++ (List.replicate m 0).map bv) → w.grownBy w' v.ownBlock → Fresh w v (.slice ao (n + m) cap) → wpList P ops Q rest (a.put o.dst (.slice ao (n + m) cap)) w') : wpList P ops Q (o :: rest) a w := by
  obtain ⟨v', w', hr, h2, h3, h4⟩ := run_append_two_string (P := P) w base t u o.type e i ht hu hi hz hsize hby v n xs hown (zstr m) (by rw [zstr_size]; exact hbytes) hbase
  obtain ⟨ao0, cap0, rfl⟩ := owns_form hown
  rw [← append_make_eq w t u k o.type e i ht hu hk hi hz hsize hby ao0 n cap0 m hm hbytes] at hr
  rw [zstr_cells, zstr_size] at h2
  obtain ⟨ao, cap, rfl⟩ := owns_form h2
  refine wpList_plain hgd fun K hK => ?_
  unfold Oper.wp execOp
  simp only [ho, resolve, invoke, builtin, Sem.run_bind, Sem.run_pure, Result.andThen_ok, List.map_toArray, List.map_cons, List.map_nil, hs, hx, hr]
  exact hK _ _ (h ao cap w' h2 h3 h4)

theorem zeros_lt (n : Nat) : ∀ x ∈ List.replicate n 0, x < 256 := fun x hx => by rw [(List.mem_replicate.1 hx).2]; decide
set_option maxHeartbeats 400000 in
theorem copy_none (w : World) :
    Calls Tryz.prog 40 #[.slice none 0 0] w fun e w' => e = .returned (.slice none 0 0) ∧ w' = w := by
  obtain ⟨i0, hi, hz0, hz1, hz2⟩ := info_parts Tryz.info5
  go_enter Tryz.func40, Tryz.ntmps40
  go_wp2_with (at_builtin; refine wpList_append_own_none rfl _ _ 22 rfl w.heap.size 5 i0 1 Tryz.underlying22 hi _ 0 [] rfl (World.ownsRow_nil _ _ _ _) rfl ?_)
  go_ret
  exact ⟨rfl, rfl⟩

set_option maxHeartbeats 400000 in
theorem copy_some (ad : Addr) (cap : Nat) (l : List Nat) (w : World) (h : BRow w (some ad) cap l) :
    Calls Tryz.prog 40 #[.slice (some ad) l.length cap] w fun e w' => ∃ v, e = .returned v ∧ w'.ownsRow w.heap.size 5 1 v l.length (l.map bv) ∧ Below w.heap.size w w' := by
  obtain ⟨i0, hi, hz0, hz1, hz2⟩ := info_parts Tryz.info5
  have HN : Hid (∀ j u, (l.map bv)[j]? = some u → w.cell? (ad.add j) = some u) := by
    intro j u hu
    rw [List.getElem?_map] at hu
    by_cases hj : j < l.length
    · rw [List.getElem?_eq_getElem hj] at hu
      obtain ⟨b, off, e, hc⟩ := h.at_ (by rintro rfl; simp at hj)
      cases e
      simp only [Option.map_some, Option.some.injEq] at hu
      subst hu
      rw [add_plain]; exact hc j hj
    · rw [List.getElem?_eq_none (by omega)] at hu; simp at hu
  have hlen := h.len
  have H1 : Hid (∀ u ∈ l.map bv, u.oneCell' = true) := by
    intro u hu
    obtain ⟨x, _, rfl⟩ := List.mem_map.1 hu
    rfl
  clear h
  go_enter Tryz.func40, Tryz.ntmps40
  go_wp2_with (at_builtin; refine wpList_append_own _ rfl _ _ 22 rfl w.heap.size 5 i0 (.int .u8 0) 1 1 Tryz.underlying22 hi hz0 hz1 hz2 rfl (by decide) _ 0 [] rfl (World.ownsRow_nil _ _ _ _) ad l.length cap (l.map bv) rfl (by simp) HN.out H1.out (by unfold maxLen; omega) (by omega) (Nat.le_refl _) ?_)
  intro v' w1 hown hgrow _
  have hb : Below w.heap.size w w1 := (Below.refl _ _).grown hgrow (Nat.le_refl _) (by simp [Value.ownBlock])
  clear hgrow
  go_wp2
  go_ret
  exact ⟨_, rfl, hown, hb⟩
set_option maxHeartbeats 1000000 in
theorem value_some (g off cap n : Nat) (m : List Nat) (w : World) (hn : n ≤ 8) (HM : Hid (m.length = n)) (H256 : Hid (∀ x ∈ m, x < 256)) (HC : Hid (∀ k, k < n → w.cell? ⟨g, off + k, none⟩ = some (.int .u8 ((m[k]?.getD 0 : Nat) : Int)))) :
    Calls Tryz.prog 70 #[.slice (some ⟨g, off, none⟩) n cap] w fun e w' => e = .returned (.int .u64 (valB m : Nat)) ∧ ∃ q, w' = w.drewN q := by
  go_enter Tryz.func70, Tryz.ntmps70
  go_wp2
  go_loopw [3, 4] (fun v i wr => ∃ k q : Nat, k ≤ n ∧ i = .int .i64 k ∧ v = .int .u64 (valB (m.take k) : Nat) ∧ wr = w.drewN q) (fun _ i _ => n - (RowKit.intOf i).toNat)
  case atStart => exact ⟨0, 0, Nat.zero_le _, rfl, rfl, rfl⟩
  case round =>
    obtain ⟨k, q, hk, rfl, rfl, rfl⟩ := hrel
    by_cases hlt : k < n
    · have hc := HC.out k hlt
      have hx : m[k]?.getD 0 < 256 := getD_lt m H256.out _
      have hv : valB (m.take k) < 256 ^ k := by
        have := valB_lt (m.take k) (fun x hx => H256.out x (List.mem_of_mem_take hx))
        have hln := HM.out
        rwa [List.length_take, Nat.min_eq_left (by omega)] at this
      have hv7 : valB (m.take k) < 72057594037927936 := Nat.lt_of_lt_of_le hv (Nat.pow_le_pow_right (n := 256) (by decide) (by omega : k ≤ 7))
      have HS : Hid (valB (m.take (k + 1)) = valB (m.take k) * 256 + m[k]?.getD 0) := by
        have hln := HM.out
        show valB (m.take (k + 1)) = _
        rw [List.take_succ_eq_append_getElem (by omega), valB_snoc]
        simp [show k < m.length by omega]
      generalize valB (m.take k) = v at *
      generalize m[k]?.getD 0 = x at *
      have hor := or_join v x hv7 hx
      clear hv
      go_wp2
      go_roundw
      case rel => exact ⟨k + 1, q, by omega, by go_num, congrArg (Value.int .u64) (by rw [HS.out]; omega), rfl⟩
      case measure => simp [RowKit.intOf]; omega
    · have ek : n = k := by omega
      subst ek
      have HE : Hid (m.take n = m) := by
        have := HM.out
        show m.take n = m
        exact List.take_of_length_le (by omega)
      go_wp2
      go_ret
      exact ⟨by rw [HE.out]; rfl, q, rfl⟩
/-- what bytes of a number say -/
theorem valB_bigTo (x size k : Nat) (hk : k ≤ size) (hx : x < 256 ^ size) : valB (bigTo x size k) = x / 2 ^ (8 * (size - k)) := by
  induction k with
  | zero =>
    rw [show bigTo x size 0 = [] from rfl, show valB [] = 0 from rfl, Nat.sub_zero]
    have : (2 : Nat) ^ (8 * size) = 256 ^ size := by rw [Nat.pow_mul]
    rw [this, Nat.div_eq_of_lt hx]
  | succ k ih =>
    rw [bigTo_succ, valB_snoc, ih (by omega)]
    have e1 : size - k = (size - 1 - k) + 1 := by omega
    have e2 : size - (k + 1) = size - 1 - k := by omega
    rw [e1, e2]
    have : x / 2 ^ (8 * (size - 1 - k + 1)) = x / 2 ^ (8 * (size - 1 - k)) / 256 := by
      rw [Nat.div_div_eq_div_mul, show 8 * (size - 1 - k + 1) = 8 * (size - 1 - k) + 8 by omega, Nat.pow_add]
    rw [this]; omega
theorem valB_big (x size : Nat) (hx : x < 256 ^ size) : valB (bigTo x size size) = x := by
  rw [valB_bigTo x size size (Nat.le_refl _) hx]; simp
end Go.Proofs.YtfifaaopdhcaaaaGreatDoor

namespace Go.Proofs.YtfifaaopdhcaaaaGreatDoor
open Go.RowKit
set_option linter.unusedVariables false

/-- a lead byte's class: how many bytes, and the bounds of the second -/
def cls (c : Nat) : Nat × Nat × Nat :=
  if c < 194 then (0, 128, 191) else if c < 224 then (2, 128, 191) else if c = 224 then (3, 160, 191) else if c = 237 then (3, 128, 159)
  else if c < 240 then (3, 128, 191) else if c = 240 then (4, 144, 191) else if c < 244 then (4, 128, 191) else if c = 244 then (4, 128, 143) else (0, 128, 191)
/-- the k bytes behind the first are as they must be -/
def contOk (lo hi : Nat) (B : Nat → Nat) : Nat → Bool
  | 0 => true
  | 1 => decide (lo ≤ B 1) && decide (B 1 ≤ hi)
  | k + 2 => contOk lo hi B (k + 1) && (decide (128 ≤ B (k + 2)) && decide (B (k + 2) ≤ 191))
/-- how many bytes the valid rune has; 0: none -/
def runeF (n : Nat) (B : Nat → Nat) : Nat :=
  if B 0 < 128 then 1 else if (cls (B 0)).1 = 0 ∨ n < (cls (B 0)).1 then 0 else if contOk (cls (B 0)).2.1 (cls (B 0)).2.2 B ((cls (B 0)).1 - 1) = true then (cls (B 0)).1 else 0
def byt (s : ByteArray) (i k : Nat) : Nat := (s.get! (i + k)).toNat

theorem byt_at (s : ByteArray) (i k : Nat) (h : i + k < s.size) : byt s i k = (s[i + k]).toNat := by
  unfold byt
  have : s.get! (i + k) = s[i + k] := by
    show s.data[i + k]! = s.data[i + k]
    exact getElem!_pos s.data (i + k) h
  rw [this]
theorem contOk_le (lo hi : Nat) (B : Nat → Nat) (j m : Nat) (hm : j ≤ m) (h : contOk lo hi B m = true) : contOk lo hi B j = true := by
  induction m with
  | zero => rw [show j = 0 by omega]; exact h
  | succ m ih =>
    by_cases e : j = m + 1
    · rw [e]; exact h
    · cases m with
      | zero => rw [show j = 0 by omega]; rfl
      | succ m => exact ih (by omega) (by rw [contOk, Bool.and_eq_true] at h; exact h.1)
theorem runeF_one (n : Nat) (B : Nat → Nat) (h : B 0 < 128) : runeF n B = 1 := by unfold runeF; rw [if_pos h]
theorem runeF_none (n : Nat) (B : Nat → Nat) (h : 128 ≤ B 0) (hc : (cls (B 0)).1 = 0) : runeF n B = 0 := by unfold runeF; rw [if_neg (by omega), if_pos (.inl hc)]
theorem runeF_short (n : Nat) (B : Nat → Nat) (h : 128 ≤ B 0) (hc : n < (cls (B 0)).1) : runeF n B = 0 := by unfold runeF; rw [if_neg (by omega), if_pos (.inr hc)]
theorem runeF_ok (n sz lo hi : Nat) (B : Nat → Nat) (h : 128 ≤ B 0) (hc : cls (B 0) = (sz, lo, hi)) (h0 : sz ≠ 0) (hn : sz ≤ n) (hk : contOk lo hi B (sz - 1) = true) : runeF n B = sz := by
  unfold runeF; rw [hc]; rw [if_neg (by omega), if_neg (by simp; omega), if_pos hk]
theorem runeF_bad (n sz lo hi j : Nat) (B : Nat → Nat) (h : 128 ≤ B 0) (hc : cls (B 0) = (sz, lo, hi)) (hj : j ≤ sz - 1) (hk : contOk lo hi B j = false) : runeF n B = 0 := by
  unfold runeF; rw [hc]; rw [if_neg (by omega)]
  split
  · rfl
  · rw [if_neg]
    intro h'
    rw [contOk_le lo hi B j (sz - 1) hj h'] at hk
    exact absurd hk (by decide)
theorem ret_i64R {a b : Int} (h : a = b) : Ending.returned (.int .i64 a) = .returned (.int .i64 b) := by rw [h]
theorem cont_one (lo hi : Nat) (B : Nat → Nat) : contOk lo hi B 1 = (decide (lo ≤ B 1) && decide (B 1 ≤ hi)) := rfl
theorem cont_more (lo hi k : Nat) (B : Nat → Nat) : contOk lo hi B (k + 2) = (contOk lo hi B (k + 1) && (decide (128 ≤ B (k + 2)) && decide (B (k + 2) ≤ 191))) := rfl

set_option maxRecDepth 100000 in
set_option maxHeartbeats 1000000 in
theorem rune_ascii (s : ByteArray) (i : Nat) (w : World) (hi : i < s.size) (hs : s.size ≤ 9223372036854775807) (h : (s[i]).toNat < 128) :
    Calls Tryz.prog 95 #[.string s, .int .i64 i] w fun e w' => e = .returned (.int .i64 (runeF (s.size - i) (byt s i) : Nat)) ∧ w' = w := by
  have h1 : decide ((i : Int) < 0) = false := by simp
  have h2 : decide ((s.size : Int) ≤ (i : Int)) = false := by simp; omega
  have h2n : decide (s.size ≤ i) = false := by simp; omega
  have HB : Hid (byt s i 0 = (s[i]).toNat) := byt_at s i 0 hi
  have lt128 : decide (((s[i]).toNat : Int) < 128) = true := by simp; omega
  have g194 : decide ((194 : Int) ≤ ((s[i]).toNat : Int)) = false := by simp; omega
  have l223 : decide (((s[i]).toNat : Int) ≤ 223) = true := by simp; omega
  have g224 : decide ((224 : Int) ≤ ((s[i]).toNat : Int)) = false := by simp; omega
  have l239 : decide (((s[i]).toNat : Int) ≤ 239) = true := by simp; omega
  have g240 : decide ((240 : Int) ≤ ((s[i]).toNat : Int)) = false := by simp; omega
  have l244 : decide (((s[i]).toNat : Int) ≤ 244) = true := by simp; omega
  have e224 : (((s[i]).toNat : Int) == 224) = false := by rw [beq_eq_false_iff_ne]; omega
  have e237 : (((s[i]).toNat : Int) == 237) = false := by rw [beq_eq_false_iff_ne]; omega
  have e240 : (((s[i]).toNat : Int) == 240) = false := by rw [beq_eq_false_iff_ne]; omega
  have e244 : (((s[i]).toNat : Int) == 244) = false := by rw [beq_eq_false_iff_ne]; omega
  have HR : Hid (runeF (s.size - i) (byt s i) = 1) := runeF_one _ _ (by rw [HB.out]; omega)
  clear h
  go_enter Tryz.func95, Tryz.ntmps95
  go_wp2
  go_ret
  exact ⟨ret_i64R (by rw [HR.out]; rfl), rfl⟩

set_option maxRecDepth 100000 in
set_option maxHeartbeats 1000000 in
theorem rune_lowbad (s : ByteArray) (i : Nat) (w : World) (hi : i < s.size) (hs : s.size ≤ 9223372036854775807) (h : 128 ≤ (s[i]).toNat ∧ (s[i]).toNat < 194) :
    Calls Tryz.prog 95 #[.string s, .int .i64 i] w fun e w' => e = .returned (.int .i64 (runeF (s.size - i) (byt s i) : Nat)) ∧ w' = w := by
  have h1 : decide ((i : Int) < 0) = false := by simp
  have h2 : decide ((s.size : Int) ≤ (i : Int)) = false := by simp; omega
  have h2n : decide (s.size ≤ i) = false := by simp; omega
  have HB : Hid (byt s i 0 = (s[i]).toNat) := byt_at s i 0 hi
  have lt128 : decide (((s[i]).toNat : Int) < 128) = false := by simp; omega
  have g194 : decide ((194 : Int) ≤ ((s[i]).toNat : Int)) = false := by simp; omega
  have l223 : decide (((s[i]).toNat : Int) ≤ 223) = true := by simp; omega
  have g224 : decide ((224 : Int) ≤ ((s[i]).toNat : Int)) = false := by simp; omega
  have l239 : decide (((s[i]).toNat : Int) ≤ 239) = true := by simp; omega
  have g240 : decide ((240 : Int) ≤ ((s[i]).toNat : Int)) = false := by simp; omega
  have l244 : decide (((s[i]).toNat : Int) ≤ 244) = true := by simp; omega
  have e224 : (((s[i]).toNat : Int) == 224) = false := by rw [beq_eq_false_iff_ne]; omega
  have e237 : (((s[i]).toNat : Int) == 237) = false := by rw [beq_eq_false_iff_ne]; omega
  have e240 : (((s[i]).toNat : Int) == 240) = false := by rw [beq_eq_false_iff_ne]; omega
  have e244 : (((s[i]).toNat : Int) == 244) = false := by rw [beq_eq_false_iff_ne]; omega
  have HCl : Hid (cls (byt s i 0) = (0, 128, 191)) := by
    show cls (byt s i 0) = _
    rw [HB.out]; unfold cls; repeat (first | rw [if_pos (by omega)] | rw [if_neg (by omega)])
  have H128 : Hid (128 ≤ byt s i 0) := by show 128 ≤ byt s i 0; rw [HB.out]; omega
  have HR : Hid (runeF (s.size - i) (byt s i) = 0) := runeF_none _ _ H128.out (by rw [HCl.out])
  clear h
  go_enter Tryz.func95, Tryz.ntmps95
  go_wp2
  go_ret
  exact ⟨ret_i64R (by rw [HR.out]; rfl), rfl⟩

set_option maxRecDepth 100000 in
set_option maxHeartbeats 1000000 in
theorem rune_highbad (s : ByteArray) (i : Nat) (w : World) (hi : i < s.size) (hs : s.size ≤ 9223372036854775807) (h : 245 ≤ (s[i]).toNat ∧ (s[i]).toNat < 256) :
    Calls Tryz.prog 95 #[.string s, .int .i64 i] w fun e w' => e = .returned (.int .i64 (runeF (s.size - i) (byt s i) : Nat)) ∧ w' = w := by
  have h1 : decide ((i : Int) < 0) = false := by simp
  have h2 : decide ((s.size : Int) ≤ (i : Int)) = false := by simp; omega
  have h2n : decide (s.size ≤ i) = false := by simp; omega
  have HB : Hid (byt s i 0 = (s[i]).toNat) := byt_at s i 0 hi
  have lt128 : decide (((s[i]).toNat : Int) < 128) = false := by simp; omega
  have g194 : decide ((194 : Int) ≤ ((s[i]).toNat : Int)) = true := by simp; omega
  have l223 : decide (((s[i]).toNat : Int) ≤ 223) = false := by simp; omega
  have g224 : decide ((224 : Int) ≤ ((s[i]).toNat : Int)) = true := by simp; omega
  have l239 : decide (((s[i]).toNat : Int) ≤ 239) = false := by simp; omega
  have g240 : decide ((240 : Int) ≤ ((s[i]).toNat : Int)) = true := by simp; omega
  have l244 : decide (((s[i]).toNat : Int) ≤ 244) = false := by simp; omega
  have e224 : (((s[i]).toNat : Int) == 224) = false := by rw [beq_eq_false_iff_ne]; omega
  have e237 : (((s[i]).toNat : Int) == 237) = false := by rw [beq_eq_false_iff_ne]; omega
  have e240 : (((s[i]).toNat : Int) == 240) = false := by rw [beq_eq_false_iff_ne]; omega
  have e244 : (((s[i]).toNat : Int) == 244) = false := by rw [beq_eq_false_iff_ne]; omega
  have HCl : Hid (cls (byt s i 0) = (0, 128, 191)) := by
    show cls (byt s i 0) = _
    rw [HB.out]; unfold cls; repeat (first | rw [if_pos (by omega)] | rw [if_neg (by omega)])
  have H128 : Hid (128 ≤ byt s i 0) := by show 128 ≤ byt s i 0; rw [HB.out]; omega
  have HR : Hid (runeF (s.size - i) (byt s i) = 0) := runeF_none _ _ H128.out (by rw [HCl.out])
  clear h
  go_enter Tryz.func95, Tryz.ntmps95
  go_wp2
  go_ret
  exact ⟨ret_i64R (by rw [HR.out]; rfl), rfl⟩

set_option maxRecDepth 100000 in
set_option maxHeartbeats 1000000 in
theorem rune_two (s : ByteArray) (i : Nat) (w : World) (hi : i < s.size) (hs : s.size ≤ 9223372036854775807) (h : 194 ≤ (s[i]).toNat ∧ (s[i]).toNat < 224) :
    Calls Tryz.prog 95 #[.string s, .int .i64 i] w fun e w' => e = .returned (.int .i64 (runeF (s.size - i) (byt s i) : Nat)) ∧ w' = w := by
  have h1 : decide ((i : Int) < 0) = false := by simp
  have h2 : decide ((s.size : Int) ≤ (i : Int)) = false := by simp; omega
  have h2n : decide (s.size ≤ i) = false := by simp; omega
  have HB : Hid (byt s i 0 = (s[i]).toNat) := byt_at s i 0 hi
  have lt128 : decide (((s[i]).toNat : Int) < 128) = false := by simp; omega
  have g194 : decide ((194 : Int) ≤ ((s[i]).toNat : Int)) = true := by simp; omega
  have l223 : decide (((s[i]).toNat : Int) ≤ 223) = true := by simp; omega
  have g224 : decide ((224 : Int) ≤ ((s[i]).toNat : Int)) = false := by simp; omega
  have l239 : decide (((s[i]).toNat : Int) ≤ 239) = true := by simp; omega
  have g240 : decide ((240 : Int) ≤ ((s[i]).toNat : Int)) = false := by simp; omega
  have l244 : decide (((s[i]).toNat : Int) ≤ 244) = true := by simp; omega
  have e224 : (((s[i]).toNat : Int) == 224) = false := by rw [beq_eq_false_iff_ne]; omega
  have e237 : (((s[i]).toNat : Int) == 237) = false := by rw [beq_eq_false_iff_ne]; omega
  have e240 : (((s[i]).toNat : Int) == 240) = false := by rw [beq_eq_false_iff_ne]; omega
  have e244 : (((s[i]).toNat : Int) == 244) = false := by rw [beq_eq_false_iff_ne]; omega
  have HCl : Hid (cls (byt s i 0) = (2, 128, 191)) := by
    show cls (byt s i 0) = _
    rw [HB.out]; unfold cls; repeat (first | rw [if_pos (by omega)] | rw [if_neg (by omega)])
  have H128 : Hid (128 ≤ byt s i 0) := by show 128 ≤ byt s i 0; rw [HB.out]; omega
  clear h
  by_cases hn : s.size - i < 2
  · have hsz : decide ((s.size : Int) - (i : Int) < 2) = true := by simp; omega
    have HR : Hid (runeF (s.size - i) (byt s i) = 0) := runeF_short _ _ H128.out (by rw [HCl.out]; exact hn)
    go_enter Tryz.func95, Tryz.ntmps95
    go_wp2
    go_ret
    exact ⟨ret_i64R (by rw [HR.out]; rfl), rfl⟩
  · have hsz : decide ((s.size : Int) - (i : Int) < 2) = false := by simp; omega
    go_enter Tryz.func95, Tryz.ntmps95
    go_wp2
    go_loop [7, 8, 9] (fun a b k => ∃ j : Nat, 1 ≤ j ∧ j ≤ 2 ∧ k = .int .i64 j ∧ a = .int .u8 (if j = 1 then 128 else 128) ∧ b = .int .u8 (if j = 1 then 191 else 191) ∧ contOk 128 191 (byt s i) (j - 1) = true) (fun _ _ k => 2 - (intOf k).toNat)
    case atStart => exact ⟨1, by omega, by omega, rfl, rfl, rfl, rfl⟩
    case round =>
      obtain ⟨j, hj1, hj2, rfl, rfl, rfl, hok⟩ := hrel
      have HO : Hid (contOk 128 191 (byt s i) (j - 1) = true) := hok
      clear hok
      rcases (show j = 1 ∨ j = 2 by omega) with rfl | rfl
      · have hb : i + 1 < s.size := by omega
        have HBk : Hid (byt s i 1 = (s[i + 1]).toNat) := byt_at s i 1 hb
        by_cases hbad : 128 ≤ (s[i + 1]).toNat ∧ (s[i + 1]).toNat ≤ 191
        · have t1 : decide (((s[i + 1]).toNat : Int) < 128) = false := by simp; omega
          have t2 : decide ((191 : Int) < ((s[i + 1]).toNat : Int)) = false := by simp; omega
          have HN : Hid (contOk 128 191 (byt s i) 1 = true) := by show contOk 128 191 (byt s i) 1 = true; rw [cont_one, HBk.out]; simp; omega
          clear hbad
          go_wp2
          go_round
          case rel => exact ⟨2, by omega, by omega, by go_num, by simp, by simp, HN.out⟩
          case measure => simp [intOf]
        · have HN : Hid (contOk 128 191 (byt s i) 1 = false) := by
            show contOk 128 191 (byt s i) 1 = false; rw [cont_one, HBk.out, Bool.eq_false_iff]; simp; omega
          have HR : Hid (runeF (s.size - i) (byt s i) = 0) := runeF_bad _ 2 128 191 1 _ H128.out HCl.out (by omega) HN.out
          by_cases hlo : (s[i + 1]).toNat < 128
          · have t1 : decide (((s[i + 1]).toNat : Int) < 128) = true := by simp; omega
            clear hbad
            go_wp2
            go_ret
            exact ⟨ret_i64R (by rw [HR.out]; rfl), rfl⟩
          · have t1 : decide (((s[i + 1]).toNat : Int) < 128) = false := by simp; omega
            have t2 : decide ((191 : Int) < ((s[i + 1]).toNat : Int)) = true := by simp; omega
            clear hbad
            go_wp2
            go_ret
            exact ⟨ret_i64R (by rw [HR.out]; rfl), rfl⟩
      · have HR : Hid (runeF (s.size - i) (byt s i) = 2) := runeF_ok _ 2 128 191 _ H128.out HCl.out (by decide) (by omega) HO.out
        go_wp2
        go_ret
        exact ⟨ret_i64R (by rw [HR.out]; rfl), rfl⟩

set_option maxRecDepth 100000 in
set_option maxHeartbeats 1000000 in
theorem rune_e0 (s : ByteArray) (i : Nat) (w : World) (hi : i < s.size) (hs : s.size ≤ 9223372036854775807) (h : (s[i]).toNat = 224) :
    Calls Tryz.prog 95 #[.string s, .int .i64 i] w fun e w' => e = .returned (.int .i64 (runeF (s.size - i) (byt s i) : Nat)) ∧ w' = w := by
  have h1 : decide ((i : Int) < 0) = false := by simp
  have h2 : decide ((s.size : Int) ≤ (i : Int)) = false := by simp; omega
  have h2n : decide (s.size ≤ i) = false := by simp; omega
  have HB : Hid (byt s i 0 = (s[i]).toNat) := byt_at s i 0 hi
  have lt128 : decide (((s[i]).toNat : Int) < 128) = false := by simp; omega
  have g194 : decide ((194 : Int) ≤ ((s[i]).toNat : Int)) = true := by simp; omega
  have l223 : decide (((s[i]).toNat : Int) ≤ 223) = false := by simp; omega
  have g224 : decide ((224 : Int) ≤ ((s[i]).toNat : Int)) = true := by simp; omega
  have l239 : decide (((s[i]).toNat : Int) ≤ 239) = true := by simp; omega
  have g240 : decide ((240 : Int) ≤ ((s[i]).toNat : Int)) = false := by simp; omega
  have l244 : decide (((s[i]).toNat : Int) ≤ 244) = true := by simp; omega
  have e224 : (((s[i]).toNat : Int) == 224) = true := by rw [beq_iff_eq]; omega
  have e237 : (((s[i]).toNat : Int) == 237) = false := by rw [beq_eq_false_iff_ne]; omega
  have e240 : (((s[i]).toNat : Int) == 240) = false := by rw [beq_eq_false_iff_ne]; omega
  have e244 : (((s[i]).toNat : Int) == 244) = false := by rw [beq_eq_false_iff_ne]; omega
  have HCl : Hid (cls (byt s i 0) = (3, 160, 191)) := by
    show cls (byt s i 0) = _
    rw [HB.out]; unfold cls; repeat (first | rw [if_pos (by omega)] | rw [if_neg (by omega)])
  have H128 : Hid (128 ≤ byt s i 0) := by show 128 ≤ byt s i 0; rw [HB.out]; omega
  clear h
  by_cases hn : s.size - i < 3
  · have hsz : decide ((s.size : Int) - (i : Int) < 3) = true := by simp; omega
    have HR : Hid (runeF (s.size - i) (byt s i) = 0) := runeF_short _ _ H128.out (by rw [HCl.out]; exact hn)
    go_enter Tryz.func95, Tryz.ntmps95
    go_wp2
    go_ret
    exact ⟨ret_i64R (by rw [HR.out]; rfl), rfl⟩
  · have hsz : decide ((s.size : Int) - (i : Int) < 3) = false := by simp; omega
    go_enter Tryz.func95, Tryz.ntmps95
    go_wp2
    go_loop [7, 8, 9] (fun a b k => ∃ j : Nat, 1 ≤ j ∧ j ≤ 3 ∧ k = .int .i64 j ∧ a = .int .u8 (if j = 1 then 160 else 128) ∧ b = .int .u8 (if j = 1 then 191 else 191) ∧ contOk 160 191 (byt s i) (j - 1) = true) (fun _ _ k => 3 - (intOf k).toNat)
    case atStart => exact ⟨1, by omega, by omega, rfl, rfl, rfl, rfl⟩
    case round =>
      obtain ⟨j, hj1, hj2, rfl, rfl, rfl, hok⟩ := hrel
      have HO : Hid (contOk 160 191 (byt s i) (j - 1) = true) := hok
      clear hok
      rcases (show j = 1 ∨ j = 2 ∨ j = 3 by omega) with rfl | rfl | rfl
      · have hb : i + 1 < s.size := by omega
        have HBk : Hid (byt s i 1 = (s[i + 1]).toNat) := byt_at s i 1 hb
        by_cases hbad : 160 ≤ (s[i + 1]).toNat ∧ (s[i + 1]).toNat ≤ 191
        · have t1 : decide (((s[i + 1]).toNat : Int) < 160) = false := by simp; omega
          have t2 : decide ((191 : Int) < ((s[i + 1]).toNat : Int)) = false := by simp; omega
          have HN : Hid (contOk 160 191 (byt s i) 1 = true) := by show contOk 160 191 (byt s i) 1 = true; rw [cont_one, HBk.out]; simp; omega
          clear hbad
          go_wp2
          go_round
          case rel => exact ⟨2, by omega, by omega, by go_num, by simp, by simp, HN.out⟩
          case measure => simp [intOf]
        · have HN : Hid (contOk 160 191 (byt s i) 1 = false) := by
            show contOk 160 191 (byt s i) 1 = false; rw [cont_one, HBk.out, Bool.eq_false_iff]; simp; omega
          have HR : Hid (runeF (s.size - i) (byt s i) = 0) := runeF_bad _ 3 160 191 1 _ H128.out HCl.out (by omega) HN.out
          by_cases hlo : (s[i + 1]).toNat < 160
          · have t1 : decide (((s[i + 1]).toNat : Int) < 160) = true := by simp; omega
            clear hbad
            go_wp2
            go_ret
            exact ⟨ret_i64R (by rw [HR.out]; rfl), rfl⟩
          · have t1 : decide (((s[i + 1]).toNat : Int) < 160) = false := by simp; omega
            have t2 : decide ((191 : Int) < ((s[i + 1]).toNat : Int)) = true := by simp; omega
            clear hbad
            go_wp2
            go_ret
            exact ⟨ret_i64R (by rw [HR.out]; rfl), rfl⟩
      · have hb : i + 2 < s.size := by omega
        have HBk : Hid (byt s i 2 = (s[i + 2]).toNat) := byt_at s i 2 hb
        by_cases hbad : 128 ≤ (s[i + 2]).toNat ∧ (s[i + 2]).toNat ≤ 191
        · have t1 : decide (((s[i + 2]).toNat : Int) < 128) = false := by simp; omega
          have t2 : decide ((191 : Int) < ((s[i + 2]).toNat : Int)) = false := by simp; omega
          have HN : Hid (contOk 160 191 (byt s i) 2 = true) := by show contOk 160 191 (byt s i) 2 = true; rw [cont_more, HBk.out]; have := HO.out; simp at this; simp [this]; omega
          clear hbad
          go_wp2
          go_round
          case rel => exact ⟨3, by omega, by omega, by go_num, by simp, by simp, HN.out⟩
          case measure => simp [intOf]
        · have HN : Hid (contOk 160 191 (byt s i) 2 = false) := by
            show contOk 160 191 (byt s i) 2 = false; rw [cont_more, HBk.out, Bool.eq_false_iff]; simp; omega
          have HR : Hid (runeF (s.size - i) (byt s i) = 0) := runeF_bad _ 3 160 191 2 _ H128.out HCl.out (by omega) HN.out
          by_cases hlo : (s[i + 2]).toNat < 128
          · have t1 : decide (((s[i + 2]).toNat : Int) < 128) = true := by simp; omega
            clear hbad
            go_wp2
            go_ret
            exact ⟨ret_i64R (by rw [HR.out]; rfl), rfl⟩
          · have t1 : decide (((s[i + 2]).toNat : Int) < 128) = false := by simp; omega
            have t2 : decide ((191 : Int) < ((s[i + 2]).toNat : Int)) = true := by simp; omega
            clear hbad
            go_wp2
            go_ret
            exact ⟨ret_i64R (by rw [HR.out]; rfl), rfl⟩
      · have HR : Hid (runeF (s.size - i) (byt s i) = 3) := runeF_ok _ 3 160 191 _ H128.out HCl.out (by decide) (by omega) HO.out
        go_wp2
        go_ret
        exact ⟨ret_i64R (by rw [HR.out]; rfl), rfl⟩

set_option maxRecDepth 100000 in
set_option maxHeartbeats 1000000 in
theorem rune_three (s : ByteArray) (i : Nat) (w : World) (hi : i < s.size) (hs : s.size ≤ 9223372036854775807) (h : 224 < (s[i]).toNat ∧ (s[i]).toNat < 240 ∧ (s[i]).toNat ≠ 237) :
    Calls Tryz.prog 95 #[.string s, .int .i64 i] w fun e w' => e = .returned (.int .i64 (runeF (s.size - i) (byt s i) : Nat)) ∧ w' = w := by
  have h1 : decide ((i : Int) < 0) = false := by simp
  have h2 : decide ((s.size : Int) ≤ (i : Int)) = false := by simp; omega
  have h2n : decide (s.size ≤ i) = false := by simp; omega
  have HB : Hid (byt s i 0 = (s[i]).toNat) := byt_at s i 0 hi
  have lt128 : decide (((s[i]).toNat : Int) < 128) = false := by simp; omega
  have g194 : decide ((194 : Int) ≤ ((s[i]).toNat : Int)) = true := by simp; omega
  have l223 : decide (((s[i]).toNat : Int) ≤ 223) = false := by simp; omega
  have g224 : decide ((224 : Int) ≤ ((s[i]).toNat : Int)) = true := by simp; omega
  have l239 : decide (((s[i]).toNat : Int) ≤ 239) = true := by simp; omega
  have g240 : decide ((240 : Int) ≤ ((s[i]).toNat : Int)) = false := by simp; omega
  have l244 : decide (((s[i]).toNat : Int) ≤ 244) = true := by simp; omega
  have e224 : (((s[i]).toNat : Int) == 224) = false := by rw [beq_eq_false_iff_ne]; omega
  have e237 : (((s[i]).toNat : Int) == 237) = false := by rw [beq_eq_false_iff_ne]; omega
  have e240 : (((s[i]).toNat : Int) == 240) = false := by rw [beq_eq_false_iff_ne]; omega
  have e244 : (((s[i]).toNat : Int) == 244) = false := by rw [beq_eq_false_iff_ne]; omega
  have HCl : Hid (cls (byt s i 0) = (3, 128, 191)) := by
    show cls (byt s i 0) = _
    rw [HB.out]; unfold cls; repeat (first | rw [if_pos (by omega)] | rw [if_neg (by omega)])
  have H128 : Hid (128 ≤ byt s i 0) := by show 128 ≤ byt s i 0; rw [HB.out]; omega
  clear h
  by_cases hn : s.size - i < 3
  · have hsz : decide ((s.size : Int) - (i : Int) < 3) = true := by simp; omega
    have HR : Hid (runeF (s.size - i) (byt s i) = 0) := runeF_short _ _ H128.out (by rw [HCl.out]; exact hn)
    go_enter Tryz.func95, Tryz.ntmps95
    go_wp2
    go_ret
    exact ⟨ret_i64R (by rw [HR.out]; rfl), rfl⟩
  · have hsz : decide ((s.size : Int) - (i : Int) < 3) = false := by simp; omega
    go_enter Tryz.func95, Tryz.ntmps95
    go_wp2
    go_loop [7, 8, 9] (fun a b k => ∃ j : Nat, 1 ≤ j ∧ j ≤ 3 ∧ k = .int .i64 j ∧ a = .int .u8 (if j = 1 then 128 else 128) ∧ b = .int .u8 (if j = 1 then 191 else 191) ∧ contOk 128 191 (byt s i) (j - 1) = true) (fun _ _ k => 3 - (intOf k).toNat)
    case atStart => exact ⟨1, by omega, by omega, rfl, rfl, rfl, rfl⟩
    case round =>
      obtain ⟨j, hj1, hj2, rfl, rfl, rfl, hok⟩ := hrel
      have HO : Hid (contOk 128 191 (byt s i) (j - 1) = true) := hok
      clear hok
      rcases (show j = 1 ∨ j = 2 ∨ j = 3 by omega) with rfl | rfl | rfl
      · have hb : i + 1 < s.size := by omega
        have HBk : Hid (byt s i 1 = (s[i + 1]).toNat) := byt_at s i 1 hb
        by_cases hbad : 128 ≤ (s[i + 1]).toNat ∧ (s[i + 1]).toNat ≤ 191
        · have t1 : decide (((s[i + 1]).toNat : Int) < 128) = false := by simp; omega
          have t2 : decide ((191 : Int) < ((s[i + 1]).toNat : Int)) = false := by simp; omega
          have HN : Hid (contOk 128 191 (byt s i) 1 = true) := by show contOk 128 191 (byt s i) 1 = true; rw [cont_one, HBk.out]; simp; omega
          clear hbad
          go_wp2
          go_round
          case rel => exact ⟨2, by omega, by omega, by go_num, by simp, by simp, HN.out⟩
          case measure => simp [intOf]
        · have HN : Hid (contOk 128 191 (byt s i) 1 = false) := by
            show contOk 128 191 (byt s i) 1 = false; rw [cont_one, HBk.out, Bool.eq_false_iff]; simp; omega
          have HR : Hid (runeF (s.size - i) (byt s i) = 0) := runeF_bad _ 3 128 191 1 _ H128.out HCl.out (by omega) HN.out
          by_cases hlo : (s[i + 1]).toNat < 128
          · have t1 : decide (((s[i + 1]).toNat : Int) < 128) = true := by simp; omega
            clear hbad
            go_wp2
            go_ret
            exact ⟨ret_i64R (by rw [HR.out]; rfl), rfl⟩
          · have t1 : decide (((s[i + 1]).toNat : Int) < 128) = false := by simp; omega
            have t2 : decide ((191 : Int) < ((s[i + 1]).toNat : Int)) = true := by simp; omega
            clear hbad
            go_wp2
            go_ret
            exact ⟨ret_i64R (by rw [HR.out]; rfl), rfl⟩
      · have hb : i + 2 < s.size := by omega
        have HBk : Hid (byt s i 2 = (s[i + 2]).toNat) := byt_at s i 2 hb
        by_cases hbad : 128 ≤ (s[i + 2]).toNat ∧ (s[i + 2]).toNat ≤ 191
        · have t1 : decide (((s[i + 2]).toNat : Int) < 128) = false := by simp; omega
          have t2 : decide ((191 : Int) < ((s[i + 2]).toNat : Int)) = false := by simp; omega
          have HN : Hid (contOk 128 191 (byt s i) 2 = true) := by show contOk 128 191 (byt s i) 2 = true; rw [cont_more, HBk.out]; have := HO.out; simp at this; simp [this]; omega
          clear hbad
          go_wp2
          go_round
          case rel => exact ⟨3, by omega, by omega, by go_num, by simp, by simp, HN.out⟩
          case measure => simp [intOf]
        · have HN : Hid (contOk 128 191 (byt s i) 2 = false) := by
            show contOk 128 191 (byt s i) 2 = false; rw [cont_more, HBk.out, Bool.eq_false_iff]; simp; omega
          have HR : Hid (runeF (s.size - i) (byt s i) = 0) := runeF_bad _ 3 128 191 2 _ H128.out HCl.out (by omega) HN.out
          by_cases hlo : (s[i + 2]).toNat < 128
          · have t1 : decide (((s[i + 2]).toNat : Int) < 128) = true := by simp; omega
            clear hbad
            go_wp2
            go_ret
            exact ⟨ret_i64R (by rw [HR.out]; rfl), rfl⟩
          · have t1 : decide (((s[i + 2]).toNat : Int) < 128) = false := by simp; omega
            have t2 : decide ((191 : Int) < ((s[i + 2]).toNat : Int)) = true := by simp; omega
            clear hbad
            go_wp2
            go_ret
            exact ⟨ret_i64R (by rw [HR.out]; rfl), rfl⟩
      · have HR : Hid (runeF (s.size - i) (byt s i) = 3) := runeF_ok _ 3 128 191 _ H128.out HCl.out (by decide) (by omega) HO.out
        go_wp2
        go_ret
        exact ⟨ret_i64R (by rw [HR.out]; rfl), rfl⟩

set_option maxRecDepth 100000 in
set_option maxHeartbeats 1000000 in
theorem rune_ed (s : ByteArray) (i : Nat) (w : World) (hi : i < s.size) (hs : s.size ≤ 9223372036854775807) (h : (s[i]).toNat = 237) :
    Calls Tryz.prog 95 #[.string s, .int .i64 i] w fun e w' => e = .returned (.int .i64 (runeF (s.size - i) (byt s i) : Nat)) ∧ w' = w := by
  have h1 : decide ((i : Int) < 0) = false := by simp
  have h2 : decide ((s.size : Int) ≤ (i : Int)) = false := by simp; omega
  have h2n : decide (s.size ≤ i) = false := by simp; omega
  have HB : Hid (byt s i 0 = (s[i]).toNat) := byt_at s i 0 hi
  have lt128 : decide (((s[i]).toNat : Int) < 128) = false := by simp; omega
  have g194 : decide ((194 : Int) ≤ ((s[i]).toNat : Int)) = true := by simp; omega
  have l223 : decide (((s[i]).toNat : Int) ≤ 223) = false := by simp; omega
  have g224 : decide ((224 : Int) ≤ ((s[i]).toNat : Int)) = true := by simp; omega
  have l239 : decide (((s[i]).toNat : Int) ≤ 239) = true := by simp; omega
  have g240 : decide ((240 : Int) ≤ ((s[i]).toNat : Int)) = false := by simp; omega
  have l244 : decide (((s[i]).toNat : Int) ≤ 244) = true := by simp; omega
  have e224 : (((s[i]).toNat : Int) == 224) = false := by rw [beq_eq_false_iff_ne]; omega
  have e237 : (((s[i]).toNat : Int) == 237) = true := by rw [beq_iff_eq]; omega
  have e240 : (((s[i]).toNat : Int) == 240) = false := by rw [beq_eq_false_iff_ne]; omega
  have e244 : (((s[i]).toNat : Int) == 244) = false := by rw [beq_eq_false_iff_ne]; omega
  have HCl : Hid (cls (byt s i 0) = (3, 128, 159)) := by
    show cls (byt s i 0) = _
    rw [HB.out]; unfold cls; repeat (first | rw [if_pos (by omega)] | rw [if_neg (by omega)])
  have H128 : Hid (128 ≤ byt s i 0) := by show 128 ≤ byt s i 0; rw [HB.out]; omega
  clear h
  by_cases hn : s.size - i < 3
  · have hsz : decide ((s.size : Int) - (i : Int) < 3) = true := by simp; omega
    have HR : Hid (runeF (s.size - i) (byt s i) = 0) := runeF_short _ _ H128.out (by rw [HCl.out]; exact hn)
    go_enter Tryz.func95, Tryz.ntmps95
    go_wp2
    go_ret
    exact ⟨ret_i64R (by rw [HR.out]; rfl), rfl⟩
  · have hsz : decide ((s.size : Int) - (i : Int) < 3) = false := by simp; omega
    go_enter Tryz.func95, Tryz.ntmps95
    go_wp2
    go_loop [7, 8, 9] (fun a b k => ∃ j : Nat, 1 ≤ j ∧ j ≤ 3 ∧ k = .int .i64 j ∧ a = .int .u8 (if j = 1 then 128 else 128) ∧ b = .int .u8 (if j = 1 then 159 else 191) ∧ contOk 128 159 (byt s i) (j - 1) = true) (fun _ _ k => 3 - (intOf k).toNat)
    case atStart => exact ⟨1, by omega, by omega, rfl, rfl, rfl, rfl⟩
    case round =>
      obtain ⟨j, hj1, hj2, rfl, rfl, rfl, hok⟩ := hrel
      have HO : Hid (contOk 128 159 (byt s i) (j - 1) = true) := hok
      clear hok
      rcases (show j = 1 ∨ j = 2 ∨ j = 3 by omega) with rfl | rfl | rfl
      · have hb : i + 1 < s.size := by omega
        have HBk : Hid (byt s i 1 = (s[i + 1]).toNat) := byt_at s i 1 hb
        by_cases hbad : 128 ≤ (s[i + 1]).toNat ∧ (s[i + 1]).toNat ≤ 159
        · have t1 : decide (((s[i + 1]).toNat : Int) < 128) = false := by simp; omega
          have t2 : decide ((159 : Int) < ((s[i + 1]).toNat : Int)) = false := by simp; omega
          have HN : Hid (contOk 128 159 (byt s i) 1 = true) := by show contOk 128 159 (byt s i) 1 = true; rw [cont_one, HBk.out]; simp; omega
          clear hbad
          go_wp2
          go_round
          case rel => exact ⟨2, by omega, by omega, by go_num, by simp, by simp, HN.out⟩
          case measure => simp [intOf]
        · have HN : Hid (contOk 128 159 (byt s i) 1 = false) := by
            show contOk 128 159 (byt s i) 1 = false; rw [cont_one, HBk.out, Bool.eq_false_iff]; simp; omega
          have HR : Hid (runeF (s.size - i) (byt s i) = 0) := runeF_bad _ 3 128 159 1 _ H128.out HCl.out (by omega) HN.out
          by_cases hlo : (s[i + 1]).toNat < 128
          · have t1 : decide (((s[i + 1]).toNat : Int) < 128) = true := by simp; omega
            clear hbad
            go_wp2
            go_ret
            exact ⟨ret_i64R (by rw [HR.out]; rfl), rfl⟩
          · have t1 : decide (((s[i + 1]).toNat : Int) < 128) = false := by simp; omega
            have t2 : decide ((159 : Int) < ((s[i + 1]).toNat : Int)) = true := by simp; omega
            clear hbad
            go_wp2
            go_ret
            exact ⟨ret_i64R (by rw [HR.out]; rfl), rfl⟩
      · have hb : i + 2 < s.size := by omega
        have HBk : Hid (byt s i 2 = (s[i + 2]).toNat) := byt_at s i 2 hb
        by_cases hbad : 128 ≤ (s[i + 2]).toNat ∧ (s[i + 2]).toNat ≤ 191
        · have t1 : decide (((s[i + 2]).toNat : Int) < 128) = false := by simp; omega
          have t2 : decide ((191 : Int) < ((s[i + 2]).toNat : Int)) = false := by simp; omega
          have HN : Hid (contOk 128 159 (byt s i) 2 = true) := by show contOk 128 159 (byt s i) 2 = true; rw [cont_more, HBk.out]; have := HO.out; simp at this; simp [this]; omega
          clear hbad
          go_wp2
          go_round
          case rel => exact ⟨3, by omega, by omega, by go_num, by simp, by simp, HN.out⟩
          case measure => simp [intOf]
        · have HN : Hid (contOk 128 159 (byt s i) 2 = false) := by
            show contOk 128 159 (byt s i) 2 = false; rw [cont_more, HBk.out, Bool.eq_false_iff]; simp; omega
          have HR : Hid (runeF (s.size - i) (byt s i) = 0) := runeF_bad _ 3 128 159 2 _ H128.out HCl.out (by omega) HN.out
          by_cases hlo : (s[i + 2]).toNat < 128
          · have t1 : decide (((s[i + 2]).toNat : Int) < 128) = true := by simp; omega
            clear hbad
            go_wp2
            go_ret
            exact ⟨ret_i64R (by rw [HR.out]; rfl), rfl⟩
          · have t1 : decide (((s[i + 2]).toNat : Int) < 128) = false := by simp; omega
            have t2 : decide ((191 : Int) < ((s[i + 2]).toNat : Int)) = true := by simp; omega
            clear hbad
            go_wp2
            go_ret
            exact ⟨ret_i64R (by rw [HR.out]; rfl), rfl⟩
      · have HR : Hid (runeF (s.size - i) (byt s i) = 3) := runeF_ok _ 3 128 159 _ H128.out HCl.out (by decide) (by omega) HO.out
        go_wp2
        go_ret
        exact ⟨ret_i64R (by rw [HR.out]; rfl), rfl⟩

set_option maxRecDepth 100000 in
set_option maxHeartbeats 1000000 in
theorem rune_f0 (s : ByteArray) (i : Nat) (w : World) (hi : i < s.size) (hs : s.size ≤ 9223372036854775807) (h : (s[i]).toNat = 240) :
    Calls Tryz.prog 95 #[.string s, .int .i64 i] w fun e w' => e = .returned (.int .i64 (runeF (s.size - i) (byt s i) : Nat)) ∧ w' = w := by
  have h1 : decide ((i : Int) < 0) = false := by simp
  have h2 : decide ((s.size : Int) ≤ (i : Int)) = false := by simp; omega
  have h2n : decide (s.size ≤ i) = false := by simp; omega
  have HB : Hid (byt s i 0 = (s[i]).toNat) := byt_at s i 0 hi
  have lt128 : decide (((s[i]).toNat : Int) < 128) = false := by simp; omega
  have g194 : decide ((194 : Int) ≤ ((s[i]).toNat : Int)) = true := by simp; omega
  have l223 : decide (((s[i]).toNat : Int) ≤ 223) = false := by simp; omega
  have g224 : decide ((224 : Int) ≤ ((s[i]).toNat : Int)) = true := by simp; omega
  have l239 : decide (((s[i]).toNat : Int) ≤ 239) = false := by simp; omega
  have g240 : decide ((240 : Int) ≤ ((s[i]).toNat : Int)) = true := by simp; omega
  have l244 : decide (((s[i]).toNat : Int) ≤ 244) = true := by simp; omega
  have e224 : (((s[i]).toNat : Int) == 224) = false := by rw [beq_eq_false_iff_ne]; omega
  have e237 : (((s[i]).toNat : Int) == 237) = false := by rw [beq_eq_false_iff_ne]; omega
  have e240 : (((s[i]).toNat : Int) == 240) = true := by rw [beq_iff_eq]; omega
  have e244 : (((s[i]).toNat : Int) == 244) = false := by rw [beq_eq_false_iff_ne]; omega
  have HCl : Hid (cls (byt s i 0) = (4, 144, 191)) := by
    show cls (byt s i 0) = _
    rw [HB.out]; unfold cls; repeat (first | rw [if_pos (by omega)] | rw [if_neg (by omega)])
  have H128 : Hid (128 ≤ byt s i 0) := by show 128 ≤ byt s i 0; rw [HB.out]; omega
  clear h
  by_cases hn : s.size - i < 4
  · have hsz : decide ((s.size : Int) - (i : Int) < 4) = true := by simp; omega
    have HR : Hid (runeF (s.size - i) (byt s i) = 0) := runeF_short _ _ H128.out (by rw [HCl.out]; exact hn)
    go_enter Tryz.func95, Tryz.ntmps95
    go_wp2
    go_ret
    exact ⟨ret_i64R (by rw [HR.out]; rfl), rfl⟩
  · have hsz : decide ((s.size : Int) - (i : Int) < 4) = false := by simp; omega
    go_enter Tryz.func95, Tryz.ntmps95
    go_wp2
    go_loop [7, 8, 9] (fun a b k => ∃ j : Nat, 1 ≤ j ∧ j ≤ 4 ∧ k = .int .i64 j ∧ a = .int .u8 (if j = 1 then 144 else 128) ∧ b = .int .u8 (if j = 1 then 191 else 191) ∧ contOk 144 191 (byt s i) (j - 1) = true) (fun _ _ k => 4 - (intOf k).toNat)
    case atStart => exact ⟨1, by omega, by omega, rfl, rfl, rfl, rfl⟩
    case round =>
      obtain ⟨j, hj1, hj2, rfl, rfl, rfl, hok⟩ := hrel
      have HO : Hid (contOk 144 191 (byt s i) (j - 1) = true) := hok
      clear hok
      rcases (show j = 1 ∨ j = 2 ∨ j = 3 ∨ j = 4 by omega) with rfl | rfl | rfl | rfl
      · have hb : i + 1 < s.size := by omega
        have HBk : Hid (byt s i 1 = (s[i + 1]).toNat) := byt_at s i 1 hb
        by_cases hbad : 144 ≤ (s[i + 1]).toNat ∧ (s[i + 1]).toNat ≤ 191
        · have t1 : decide (((s[i + 1]).toNat : Int) < 144) = false := by simp; omega
          have t2 : decide ((191 : Int) < ((s[i + 1]).toNat : Int)) = false := by simp; omega
          have HN : Hid (contOk 144 191 (byt s i) 1 = true) := by show contOk 144 191 (byt s i) 1 = true; rw [cont_one, HBk.out]; simp; omega
          clear hbad
          go_wp2
          go_round
          case rel => exact ⟨2, by omega, by omega, by go_num, by simp, by simp, HN.out⟩
          case measure => simp [intOf]
        · have HN : Hid (contOk 144 191 (byt s i) 1 = false) := by
            show contOk 144 191 (byt s i) 1 = false; rw [cont_one, HBk.out, Bool.eq_false_iff]; simp; omega
          have HR : Hid (runeF (s.size - i) (byt s i) = 0) := runeF_bad _ 4 144 191 1 _ H128.out HCl.out (by omega) HN.out
          by_cases hlo : (s[i + 1]).toNat < 144
          · have t1 : decide (((s[i + 1]).toNat : Int) < 144) = true := by simp; omega
            clear hbad
            go_wp2
            go_ret
            exact ⟨ret_i64R (by rw [HR.out]; rfl), rfl⟩
          · have t1 : decide (((s[i + 1]).toNat : Int) < 144) = false := by simp; omega
            have t2 : decide ((191 : Int) < ((s[i + 1]).toNat : Int)) = true := by simp; omega
            clear hbad
            go_wp2
            go_ret
            exact ⟨ret_i64R (by rw [HR.out]; rfl), rfl⟩
      · have hb : i + 2 < s.size := by omega
        have HBk : Hid (byt s i 2 = (s[i + 2]).toNat) := byt_at s i 2 hb
        by_cases hbad : 128 ≤ (s[i + 2]).toNat ∧ (s[i + 2]).toNat ≤ 191
        · have t1 : decide (((s[i + 2]).toNat : Int) < 128) = false := by simp; omega
          have t2 : decide ((191 : Int) < ((s[i + 2]).toNat : Int)) = false := by simp; omega
          have HN : Hid (contOk 144 191 (byt s i) 2 = true) := by show contOk 144 191 (byt s i) 2 = true; rw [cont_more, HBk.out]; have := HO.out; simp at this; simp [this]; omega
          clear hbad
          go_wp2
          go_round
          case rel => exact ⟨3, by omega, by omega, by go_num, by simp, by simp, HN.out⟩
          case measure => simp [intOf]
        · have HN : Hid (contOk 144 191 (byt s i) 2 = false) := by
            show contOk 144 191 (byt s i) 2 = false; rw [cont_more, HBk.out, Bool.eq_false_iff]; simp; omega
          have HR : Hid (runeF (s.size - i) (byt s i) = 0) := runeF_bad _ 4 144 191 2 _ H128.out HCl.out (by omega) HN.out
          by_cases hlo : (s[i + 2]).toNat < 128
          · have t1 : decide (((s[i + 2]).toNat : Int) < 128) = true := by simp; omega
            clear hbad
            go_wp2
            go_ret
            exact ⟨ret_i64R (by rw [HR.out]; rfl), rfl⟩
          · have t1 : decide (((s[i + 2]).toNat : Int) < 128) = false := by simp; omega
            have t2 : decide ((191 : Int) < ((s[i + 2]).toNat : Int)) = true := by simp; omega
            clear hbad
            go_wp2
            go_ret
            exact ⟨ret_i64R (by rw [HR.out]; rfl), rfl⟩
      · have hb : i + 3 < s.size := by omega
        have HBk : Hid (byt s i 3 = (s[i + 3]).toNat) := byt_at s i 3 hb
        by_cases hbad : 128 ≤ (s[i + 3]).toNat ∧ (s[i + 3]).toNat ≤ 191
        · have t1 : decide (((s[i + 3]).toNat : Int) < 128) = false := by simp; omega
          have t2 : decide ((191 : Int) < ((s[i + 3]).toNat : Int)) = false := by simp; omega
          have HN : Hid (contOk 144 191 (byt s i) 3 = true) := by show contOk 144 191 (byt s i) 3 = true; rw [cont_more, HBk.out]; have := HO.out; simp at this; simp [this]; omega
          clear hbad
          go_wp2
          go_round
          case rel => exact ⟨4, by omega, by omega, by go_num, by simp, by simp, HN.out⟩
          case measure => simp [intOf]
        · have HN : Hid (contOk 144 191 (byt s i) 3 = false) := by
            show contOk 144 191 (byt s i) 3 = false; rw [cont_more, HBk.out, Bool.eq_false_iff]; simp; omega
          have HR : Hid (runeF (s.size - i) (byt s i) = 0) := runeF_bad _ 4 144 191 3 _ H128.out HCl.out (by omega) HN.out
          by_cases hlo : (s[i + 3]).toNat < 128
          · have t1 : decide (((s[i + 3]).toNat : Int) < 128) = true := by simp; omega
            clear hbad
            go_wp2
            go_ret
            exact ⟨ret_i64R (by rw [HR.out]; rfl), rfl⟩
          · have t1 : decide (((s[i + 3]).toNat : Int) < 128) = false := by simp; omega
            have t2 : decide ((191 : Int) < ((s[i + 3]).toNat : Int)) = true := by simp; omega
            clear hbad
            go_wp2
            go_ret
            exact ⟨ret_i64R (by rw [HR.out]; rfl), rfl⟩
      · have HR : Hid (runeF (s.size - i) (byt s i) = 4) := runeF_ok _ 4 144 191 _ H128.out HCl.out (by decide) (by omega) HO.out
        go_wp2
        go_ret
        exact ⟨ret_i64R (by rw [HR.out]; rfl), rfl⟩

set_option maxRecDepth 100000 in
set_option maxHeartbeats 1000000 in
theorem rune_four (s : ByteArray) (i : Nat) (w : World) (hi : i < s.size) (hs : s.size ≤ 9223372036854775807) (h : 240 < (s[i]).toNat ∧ (s[i]).toNat < 244) :
    Calls Tryz.prog 95 #[.string s, .int .i64 i] w fun e w' => e = .returned (.int .i64 (runeF (s.size - i) (byt s i) : Nat)) ∧ w' = w := by
  have h1 : decide ((i : Int) < 0) = false := by simp
  have h2 : decide ((s.size : Int) ≤ (i : Int)) = false := by simp; omega
  have h2n : decide (s.size ≤ i) = false := by simp; omega
  have HB : Hid (byt s i 0 = (s[i]).toNat) := byt_at s i 0 hi
  have lt128 : decide (((s[i]).toNat : Int) < 128) = false := by simp; omega
  have g194 : decide ((194 : Int) ≤ ((s[i]).toNat : Int)) = true := by simp; omega
  have l223 : decide (((s[i]).toNat : Int) ≤ 223) = false := by simp; omega
  have g224 : decide ((224 : Int) ≤ ((s[i]).toNat : Int)) = true := by simp; omega
  have l239 : decide (((s[i]).toNat : Int) ≤ 239) = false := by simp; omega
  have g240 : decide ((240 : Int) ≤ ((s[i]).toNat : Int)) = true := by simp; omega
  have l244 : decide (((s[i]).toNat : Int) ≤ 244) = true := by simp; omega
  have e224 : (((s[i]).toNat : Int) == 224) = false := by rw [beq_eq_false_iff_ne]; omega
  have e237 : (((s[i]).toNat : Int) == 237) = false := by rw [beq_eq_false_iff_ne]; omega
  have e240 : (((s[i]).toNat : Int) == 240) = false := by rw [beq_eq_false_iff_ne]; omega
  have e244 : (((s[i]).toNat : Int) == 244) = false := by rw [beq_eq_false_iff_ne]; omega
  have HCl : Hid (cls (byt s i 0) = (4, 128, 191)) := by
    show cls (byt s i 0) = _
    rw [HB.out]; unfold cls; repeat (first | rw [if_pos (by omega)] | rw [if_neg (by omega)])
  have H128 : Hid (128 ≤ byt s i 0) := by show 128 ≤ byt s i 0; rw [HB.out]; omega
  clear h
  by_cases hn : s.size - i < 4
  · have hsz : decide ((s.size : Int) - (i : Int) < 4) = true := by simp; omega
    have HR : Hid (runeF (s.size - i) (byt s i) = 0) := runeF_short _ _ H128.out (by rw [HCl.out]; exact hn)
    go_enter Tryz.func95, Tryz.ntmps95
    go_wp2
    go_ret
    exact ⟨ret_i64R (by rw [HR.out]; rfl), rfl⟩
  · have hsz : decide ((s.size : Int) - (i : Int) < 4) = false := by simp; omega
    go_enter Tryz.func95, Tryz.ntmps95
    go_wp2
    go_loop [7, 8, 9] (fun a b k => ∃ j : Nat, 1 ≤ j ∧ j ≤ 4 ∧ k = .int .i64 j ∧ a = .int .u8 (if j = 1 then 128 else 128) ∧ b = .int .u8 (if j = 1 then 191 else 191) ∧ contOk 128 191 (byt s i) (j - 1) = true) (fun _ _ k => 4 - (intOf k).toNat)
    case atStart => exact ⟨1, by omega, by omega, rfl, rfl, rfl, rfl⟩
    case round =>
      obtain ⟨j, hj1, hj2, rfl, rfl, rfl, hok⟩ := hrel
      have HO : Hid (contOk 128 191 (byt s i) (j - 1) = true) := hok
      clear hok
      rcases (show j = 1 ∨ j = 2 ∨ j = 3 ∨ j = 4 by omega) with rfl | rfl | rfl | rfl
      · have hb : i + 1 < s.size := by omega
        have HBk : Hid (byt s i 1 = (s[i + 1]).toNat) := byt_at s i 1 hb
        by_cases hbad : 128 ≤ (s[i + 1]).toNat ∧ (s[i + 1]).toNat ≤ 191
        · have t1 : decide (((s[i + 1]).toNat : Int) < 128) = false := by simp; omega
          have t2 : decide ((191 : Int) < ((s[i + 1]).toNat : Int)) = false := by simp; omega
          have HN : Hid (contOk 128 191 (byt s i) 1 = true) := by show contOk 128 191 (byt s i) 1 = true; rw [cont_one, HBk.out]; simp; omega
          clear hbad
          go_wp2
          go_round
          case rel => exact ⟨2, by omega, by omega, by go_num, by simp, by simp, HN.out⟩
          case measure => simp [intOf]
        · have HN : Hid (contOk 128 191 (byt s i) 1 = false) := by
            show contOk 128 191 (byt s i) 1 = false; rw [cont_one, HBk.out, Bool.eq_false_iff]; simp; omega
          have HR : Hid (runeF (s.size - i) (byt s i) = 0) := runeF_bad _ 4 128 191 1 _ H128.out HCl.out (by omega) HN.out
          by_cases hlo : (s[i + 1]).toNat < 128
          · have t1 : decide (((s[i + 1]).toNat : Int) < 128) = true := by simp; omega
            clear hbad
            go_wp2
            go_ret
            exact ⟨ret_i64R (by rw [HR.out]; rfl), rfl⟩
          · have t1 : decide (((s[i + 1]).toNat : Int) < 128) = false := by simp; omega
            have t2 : decide ((191 : Int) < ((s[i + 1]).toNat : Int)) = true := by simp; omega
            clear hbad
            go_wp2
            go_ret
            exact ⟨ret_i64R (by rw [HR.out]; rfl), rfl⟩
      · have hb : i + 2 < s.size := by omega
        have HBk : Hid (byt s i 2 = (s[i + 2]).toNat) := byt_at s i 2 hb
        by_cases hbad : 128 ≤ (s[i + 2]).toNat ∧ (s[i + 2]).toNat ≤ 191
        · have t1 : decide (((s[i + 2]).toNat : Int) < 128) = false := by simp; omega
          have t2 : decide ((191 : Int) < ((s[i + 2]).toNat : Int)) = false := by simp; omega
          have HN : Hid (contOk 128 191 (byt s i) 2 = true) := by show contOk 128 191 (byt s i) 2 = true; rw [cont_more, HBk.out]; have := HO.out; simp at this; simp [this]; omega
          clear hbad
          go_wp2
          go_round
          case rel => exact ⟨3, by omega, by omega, by go_num, by simp, by simp, HN.out⟩
          case measure => simp [intOf]
        · have HN : Hid (contOk 128 191 (byt s i) 2 = false) := by
            show contOk 128 191 (byt s i) 2 = false; rw [cont_more, HBk.out, Bool.eq_false_iff]; simp; omega
          have HR : Hid (runeF (s.size - i) (byt s i) = 0) := runeF_bad _ 4 128 191 2 _ H128.out HCl.out (by omega) HN.out
          by_cases hlo : (s[i + 2]).toNat < 128
          · have t1 : decide (((s[i + 2]).toNat : Int) < 128) = true := by simp; omega
            clear hbad
            go_wp2
            go_ret
            exact ⟨ret_i64R (by rw [HR.out]; rfl), rfl⟩
          · have t1 : decide (((s[i + 2]).toNat : Int) < 128) = false := by simp; omega
            have t2 : decide ((191 : Int) < ((s[i + 2]).toNat : Int)) = true := by simp; omega
            clear hbad
            go_wp2
            go_ret
            exact ⟨ret_i64R (by rw [HR.out]; rfl), rfl⟩
      · have hb : i + 3 < s.size := by omega
        have HBk : Hid (byt s i 3 = (s[i + 3]).toNat) := byt_at s i 3 hb
        by_cases hbad : 128 ≤ (s[i + 3]).toNat ∧ (s[i + 3]).toNat ≤ 191
        · have t1 : decide (((s[i + 3]).toNat : Int) < 128) = false := by simp; omega
          have t2 : decide ((191 : Int) < ((s[i + 3]).toNat : Int)) = false := by simp; omega
          have HN : Hid (contOk 128 191 (byt s i) 3 = true) := by show contOk 128 191 (byt s i) 3 = true; rw [cont_more, HBk.out]; have := HO.out; simp at this; simp [this]; omega
          clear hbad
          go_wp2
          go_round
          case rel => exact ⟨4, by omega, by omega, by go_num, by simp, by simp, HN.out⟩
          case measure => simp [intOf]
        · have HN : Hid (contOk 128 191 (byt s i) 3 = false) := by
            show contOk 128 191 (byt s i) 3 = false; rw [cont_more, HBk.out, Bool.eq_false_iff]; simp; omega
          have HR : Hid (runeF (s.size - i) (byt s i) = 0) := runeF_bad _ 4 128 191 3 _ H128.out HCl.out (by omega) HN.out
          by_cases hlo : (s[i + 3]).toNat < 128
          · have t1 : decide (((s[i + 3]).toNat : Int) < 128) = true := by simp; omega
            clear hbad
            go_wp2
            go_ret
            exact ⟨ret_i64R (by rw [HR.out]; rfl), rfl⟩
          · have t1 : decide (((s[i + 3]).toNat : Int) < 128) = false := by simp; omega
            have t2 : decide ((191 : Int) < ((s[i + 3]).toNat : Int)) = true := by simp; omega
            clear hbad
            go_wp2
            go_ret
            exact ⟨ret_i64R (by rw [HR.out]; rfl), rfl⟩
      · have HR : Hid (runeF (s.size - i) (byt s i) = 4) := runeF_ok _ 4 128 191 _ H128.out HCl.out (by decide) (by omega) HO.out
        go_wp2
        go_ret
        exact ⟨ret_i64R (by rw [HR.out]; rfl), rfl⟩

set_option maxRecDepth 100000 in
set_option maxHeartbeats 1000000 in
theorem rune_f4 (s : ByteArray) (i : Nat) (w : World) (hi : i < s.size) (hs : s.size ≤ 9223372036854775807) (h : (s[i]).toNat = 244) :
    Calls Tryz.prog 95 #[.string s, .int .i64 i] w fun e w' => e = .returned (.int .i64 (runeF (s.size - i) (byt s i) : Nat)) ∧ w' = w := by
  have h1 : decide ((i : Int) < 0) = false := by simp
  have h2 : decide ((s.size : Int) ≤ (i : Int)) = false := by simp; omega
  have h2n : decide (s.size ≤ i) = false := by simp; omega
  have HB : Hid (byt s i 0 = (s[i]).toNat) := byt_at s i 0 hi
  have lt128 : decide (((s[i]).toNat : Int) < 128) = false := by simp; omega
  have g194 : decide ((194 : Int) ≤ ((s[i]).toNat : Int)) = true := by simp; omega
  have l223 : decide (((s[i]).toNat : Int) ≤ 223) = false := by simp; omega
  have g224 : decide ((224 : Int) ≤ ((s[i]).toNat : Int)) = true := by simp; omega
  have l239 : decide (((s[i]).toNat : Int) ≤ 239) = false := by simp; omega
  have g240 : decide ((240 : Int) ≤ ((s[i]).toNat : Int)) = true := by simp; omega
  have l244 : decide (((s[i]).toNat : Int) ≤ 244) = true := by simp; omega
  have e224 : (((s[i]).toNat : Int) == 224) = false := by rw [beq_eq_false_iff_ne]; omega
  have e237 : (((s[i]).toNat : Int) == 237) = false := by rw [beq_eq_false_iff_ne]; omega
  have e240 : (((s[i]).toNat : Int) == 240) = false := by rw [beq_eq_false_iff_ne]; omega
  have e244 : (((s[i]).toNat : Int) == 244) = true := by rw [beq_iff_eq]; omega
  have HCl : Hid (cls (byt s i 0) = (4, 128, 143)) := by
    show cls (byt s i 0) = _
    rw [HB.out]; unfold cls; repeat (first | rw [if_pos (by omega)] | rw [if_neg (by omega)])
  have H128 : Hid (128 ≤ byt s i 0) := by show 128 ≤ byt s i 0; rw [HB.out]; omega
  clear h
  by_cases hn : s.size - i < 4
  · have hsz : decide ((s.size : Int) - (i : Int) < 4) = true := by simp; omega
    have HR : Hid (runeF (s.size - i) (byt s i) = 0) := runeF_short _ _ H128.out (by rw [HCl.out]; exact hn)
    go_enter Tryz.func95, Tryz.ntmps95
    go_wp2
    go_ret
    exact ⟨ret_i64R (by rw [HR.out]; rfl), rfl⟩
  · have hsz : decide ((s.size : Int) - (i : Int) < 4) = false := by simp; omega
    go_enter Tryz.func95, Tryz.ntmps95
    go_wp2
    go_loop [7, 8, 9] (fun a b k => ∃ j : Nat, 1 ≤ j ∧ j ≤ 4 ∧ k = .int .i64 j ∧ a = .int .u8 (if j = 1 then 128 else 128) ∧ b = .int .u8 (if j = 1 then 143 else 191) ∧ contOk 128 143 (byt s i) (j - 1) = true) (fun _ _ k => 4 - (intOf k).toNat)
    case atStart => exact ⟨1, by omega, by omega, rfl, rfl, rfl, rfl⟩
    case round =>
      obtain ⟨j, hj1, hj2, rfl, rfl, rfl, hok⟩ := hrel
      have HO : Hid (contOk 128 143 (byt s i) (j - 1) = true) := hok
      clear hok
      rcases (show j = 1 ∨ j = 2 ∨ j = 3 ∨ j = 4 by omega) with rfl | rfl | rfl | rfl
      · have hb : i + 1 < s.size := by omega
        have HBk : Hid (byt s i 1 = (s[i + 1]).toNat) := byt_at s i 1 hb
        by_cases hbad : 128 ≤ (s[i + 1]).toNat ∧ (s[i + 1]).toNat ≤ 143
        · have t1 : decide (((s[i + 1]).toNat : Int) < 128) = false := by simp; omega
          have t2 : decide ((143 : Int) < ((s[i + 1]).toNat : Int)) = false := by simp; omega
          have HN : Hid (contOk 128 143 (byt s i) 1 = true) := by show contOk 128 143 (byt s i) 1 = true; rw [cont_one, HBk.out]; simp; omega
          clear hbad
          go_wp2
          go_round
          case rel => exact ⟨2, by omega, by omega, by go_num, by simp, by simp, HN.out⟩
          case measure => simp [intOf]
        · have HN : Hid (contOk 128 143 (byt s i) 1 = false) := by
            show contOk 128 143 (byt s i) 1 = false; rw [cont_one, HBk.out, Bool.eq_false_iff]; simp; omega
          have HR : Hid (runeF (s.size - i) (byt s i) = 0) := runeF_bad _ 4 128 143 1 _ H128.out HCl.out (by omega) HN.out
          by_cases hlo : (s[i + 1]).toNat < 128
          · have t1 : decide (((s[i + 1]).toNat : Int) < 128) = true := by simp; omega
            clear hbad
            go_wp2
            go_ret
            exact ⟨ret_i64R (by rw [HR.out]; rfl), rfl⟩
          · have t1 : decide (((s[i + 1]).toNat : Int) < 128) = false := by simp; omega
            have t2 : decide ((143 : Int) < ((s[i + 1]).toNat : Int)) = true := by simp; omega
            clear hbad
            go_wp2
            go_ret
            exact ⟨ret_i64R (by rw [HR.out]; rfl), rfl⟩
      · have hb : i + 2 < s.size := by omega
        have HBk : Hid (byt s i 2 = (s[i + 2]).toNat) := byt_at s i 2 hb
        by_cases hbad : 128 ≤ (s[i + 2]).toNat ∧ (s[i + 2]).toNat ≤ 191
        · have t1 : decide (((s[i + 2]).toNat : Int) < 128) = false := by simp; omega
          have t2 : decide ((191 : Int) < ((s[i + 2]).toNat : Int)) = false := by simp; omega
          have HN : Hid (contOk 128 143 (byt s i) 2 = true) := by show contOk 128 143 (byt s i) 2 = true; rw [cont_more, HBk.out]; have := HO.out; simp at this; simp [this]; omega
          clear hbad
          go_wp2
          go_round
          case rel => exact ⟨3, by omega, by omega, by go_num, by simp, by simp, HN.out⟩
          case measure => simp [intOf]
        · have HN : Hid (contOk 128 143 (byt s i) 2 = false) := by
            show contOk 128 143 (byt s i) 2 = false; rw [cont_more, HBk.out, Bool.eq_false_iff]; simp; omega
          have HR : Hid (runeF (s.size - i) (byt s i) = 0) := runeF_bad _ 4 128 143 2 _ H128.out HCl.out (by omega) HN.out
          by_cases hlo : (s[i + 2]).toNat < 128
          · have t1 : decide (((s[i + 2]).toNat : Int) < 128) = true := by simp; omega
            clear hbad
            go_wp2
            go_ret
            exact ⟨ret_i64R (by rw [HR.out]; rfl), rfl⟩
          · have t1 : decide (((s[i + 2]).toNat : Int) < 128) = false := by simp; omega
            have t2 : decide ((191 : Int) < ((s[i + 2]).toNat : Int)) = true := by simp; omega
            clear hbad
            go_wp2
            go_ret
            exact ⟨ret_i64R (by rw [HR.out]; rfl), rfl⟩
      · have hb : i + 3 < s.size := by omega
        have HBk : Hid (byt s i 3 = (s[i + 3]).toNat) := byt_at s i 3 hb
        by_cases hbad : 128 ≤ (s[i + 3]).toNat ∧ (s[i + 3]).toNat ≤ 191
        · have t1 : decide (((s[i + 3]).toNat : Int) < 128) = false := by simp; omega
          have t2 : decide ((191 : Int) < ((s[i + 3]).toNat : Int)) = false := by simp; omega
          have HN : Hid (contOk 128 143 (byt s i) 3 = true) := by show contOk 128 143 (byt s i) 3 = true; rw [cont_more, HBk.out]; have := HO.out; simp at this; simp [this]; omega
          clear hbad
          go_wp2
          go_round
          case rel => exact ⟨4, by omega, by omega, by go_num, by simp, by simp, HN.out⟩
          case measure => simp [intOf]
        · have HN : Hid (contOk 128 143 (byt s i) 3 = false) := by
            show contOk 128 143 (byt s i) 3 = false; rw [cont_more, HBk.out, Bool.eq_false_iff]; simp; omega
          have HR : Hid (runeF (s.size - i) (byt s i) = 0) := runeF_bad _ 4 128 143 3 _ H128.out HCl.out (by omega) HN.out
          by_cases hlo : (s[i + 3]).toNat < 128
          · have t1 : decide (((s[i + 3]).toNat : Int) < 128) = true := by simp; omega
            clear hbad
            go_wp2
            go_ret
            exact ⟨ret_i64R (by rw [HR.out]; rfl), rfl⟩
          · have t1 : decide (((s[i + 3]).toNat : Int) < 128) = false := by simp; omega
            have t2 : decide ((191 : Int) < ((s[i + 3]).toNat : Int)) = true := by simp; omega
            clear hbad
            go_wp2
            go_ret
            exact ⟨ret_i64R (by rw [HR.out]; rfl), rfl⟩
      · have HR : Hid (runeF (s.size - i) (byt s i) = 4) := runeF_ok _ 4 128 143 _ H128.out HCl.out (by decide) (by omega) HO.out
        go_wp2
        go_ret
        exact ⟨ret_i64R (by rw [HR.out]; rfl), rfl⟩

theorem rune_any (s : ByteArray) (i : Nat) (w : World) (hi : i < s.size) (hs : s.size ≤ 9223372036854775807) :
    Calls Tryz.prog 95 #[.string s, .int .i64 i] w fun e w' => e = .returned (.int .i64 (runeF (s.size - i) (byt s i) : Nat)) ∧ w' = w := by
  have hlt : (s[i]).toNat < 256 := UInt8.toNat_lt _
  rcases (show (s[i]).toNat < 128 ∨ (128 ≤ (s[i]).toNat ∧ (s[i]).toNat < 194) ∨ (245 ≤ (s[i]).toNat ∧ (s[i]).toNat < 256) ∨ (194 ≤ (s[i]).toNat ∧ (s[i]).toNat < 224) ∨ (s[i]).toNat = 224 ∨
      (224 < (s[i]).toNat ∧ (s[i]).toNat < 240 ∧ (s[i]).toNat ≠ 237) ∨ (s[i]).toNat = 237 ∨ (s[i]).toNat = 240 ∨ (240 < (s[i]).toNat ∧ (s[i]).toNat < 244) ∨ (s[i]).toNat = 244 by omega) with h | h | h | h | h | h | h | h | h | h
  · exact rune_ascii s i w hi hs h
  · exact rune_lowbad s i w hi hs h
  · exact rune_highbad s i w hi hs h
  · exact rune_two s i w hi hs h
  · exact rune_e0 s i w hi hs h
  · exact rune_three s i w hi hs h
  · exact rune_ed s i w hi hs h
  · exact rune_f0 s i w hi hs h
  · exact rune_four s i w hi hs h
  · exact rune_f4 s i w hi hs h
end Go.Proofs.YtfifaaopdhcaaaaGreatDoor

namespace Go.Proofs.YtfifaaopdhcaaaaGreatDoor
open Go.RowKit
set_option linter.unusedVariables false

theorem contOk_two (lo hi : Nat) (B : Nat → Nat) : contOk lo hi B 2 = true ↔ (lo ≤ B 1 ∧ B 1 ≤ hi) ∧ 128 ≤ B 2 ∧ B 2 ≤ 191 := by
  rw [cont_more lo hi 0 B, cont_one]; simp
theorem contOk_three (lo hi : Nat) (B : Nat → Nat) : contOk lo hi B 3 = true ↔ ((lo ≤ B 1 ∧ B 1 ≤ hi) ∧ 128 ≤ B 2 ∧ B 2 ≤ 191) ∧ 128 ≤ B 3 ∧ B 3 ≤ 191 := by
  rw [cont_more lo hi 1 B, Bool.and_eq_true, contOk_two]; simp
theorem contOk_one (lo hi : Nat) (B : Nat → Nat) : contOk lo hi B 1 = true ↔ lo ≤ B 1 ∧ B 1 ≤ hi := by
  rw [cont_one]; simp
/-- the decoder's step, by the class of the lead byte -/
theorem slow_class (n sz lo hi : Nat) (B : Nat → Nat) (hsz : sz = 2 ∨ sz = 3 ∨ sz = 4) :
    ((Lib.slowN n (B 0) (B 1) (B 2) (B 3) sz lo hi).1 = 65533 ∧ (Lib.slowN n (B 0) (B 1) (B 2) (B 3) sz lo hi).2 = 1 ↔ (n < sz ∨ contOk lo hi B (sz - 1) ≠ true)) ∧
    (¬ (n < sz ∨ contOk lo hi B (sz - 1) ≠ true) → (Lib.slowN n (B 0) (B 1) (B 2) (B 3) sz lo hi).2 = sz) := by
  unfold Lib.slowN
  rcases hsz with rfl | rfl | rfl
  · rw [show 2 - 1 = 1 from rfl, ne_eq, contOk_one]
    repeat' split
    all_goals simp
    all_goals omega
  · rw [show 3 - 1 = 2 from rfl, ne_eq, contOk_two]
    repeat' split
    all_goals simp
    all_goals omega
  · rw [show 4 - 1 = 3 from rfl, ne_eq, contOk_three]
    repeat' split
    all_goals simp
    all_goals omega
/-- the document's rune and the decoder's step -/
theorem rune_decode (n : Nat) (B : Nat → Nat) (hn : 1 ≤ n) (h0 : B 0 < 256) (h1 : B 1 < 256) (h2 : B 2 < 256) (h3 : B 3 < 256) :
    ((Lib.decodeN n (B 0) (B 1) (B 2) (B 3)).1 = 65533 ∧ (Lib.decodeN n (B 0) (B 1) (B 2) (B 3)).2 = 1 ↔ runeF n B = 0) ∧
    (runeF n B ≠ 0 → (Lib.decodeN n (B 0) (B 1) (B 2) (B 3)).2 = runeF n B) := by
  have key : ∀ sz lo hi, (sz = 2 ∨ sz = 3 ∨ sz = 4) → 128 ≤ B 0 → cls (B 0) = (sz, lo, hi) → Lib.slowN n (B 0) (B 1) (B 2) (B 3) sz lo hi = Lib.decodeN n (B 0) (B 1) (B 2) (B 3) →
      ((Lib.decodeN n (B 0) (B 1) (B 2) (B 3)).1 = 65533 ∧ (Lib.decodeN n (B 0) (B 1) (B 2) (B 3)).2 = 1 ↔ runeF n B = 0) ∧
      (runeF n B ≠ 0 → (Lib.decodeN n (B 0) (B 1) (B 2) (B 3)).2 = runeF n B) := by
    intro sz lo hi hsz h128 hc he
    obtain ⟨k1, k2⟩ := slow_class n sz lo hi B hsz
    rw [he] at k1 k2
    have hr : runeF n B = if n < sz ∨ contOk lo hi B (sz - 1) ≠ true then 0 else sz := by
      unfold runeF
      rw [if_neg (by omega), hc]
      simp only
      by_cases ha : n < sz
      · rw [if_pos (.inr ha), if_pos (.inl ha)]
      · rw [if_neg (by omega)]
        by_cases hb : contOk lo hi B (sz - 1) = true
        · rw [if_pos hb, if_neg (by simp [ha, hb])]
        · rw [if_neg hb, if_pos (.inr hb)]
    rw [hr]
    by_cases hbad : n < sz ∨ contOk lo hi B (sz - 1) ≠ true
    · rw [if_pos hbad]; exact ⟨⟨fun _ => rfl, fun _ => k1.2 hbad⟩, fun h => absurd rfl h⟩
    · rw [if_neg hbad]
      exact ⟨⟨fun h => absurd (k1.1 h) hbad, fun h => by omega⟩, fun _ => k2 hbad⟩
  rcases (show B 0 < 128 ∨ (128 ≤ B 0 ∧ B 0 < 194) ∨ (245 ≤ B 0 ∧ B 0 < 256) ∨ (194 ≤ B 0 ∧ B 0 < 224) ∨ B 0 = 224 ∨
      ((225 ≤ B 0 ∧ B 0 < 237) ∨ (238 ≤ B 0 ∧ B 0 < 240)) ∨ B 0 = 237 ∨ B 0 = 240 ∨ (241 ≤ B 0 ∧ B 0 < 244) ∨ B 0 = 244 by omega) with h | h | h | h | h | h | h | h | h | h
  · rw [runeF_one n B h]; unfold Lib.decodeN; rw [if_pos h]; exact ⟨⟨fun hh => by simp only at hh; omega, fun hh => by omega⟩, fun _ => rfl⟩
  · rw [runeF_none n B h.1 (by unfold cls; rw [if_pos h.2])]
    refine ⟨⟨fun _ => rfl, fun _ => ?_⟩, fun hh => absurd rfl hh⟩
    unfold Lib.decodeN
    repeat' split
    all_goals first | exact ⟨rfl, rfl⟩ | (exfalso; omega)
  · rw [runeF_none n B (by omega) (by unfold cls; repeat (first | rw [if_pos (by omega)] | rw [if_neg (by omega)]))]
    refine ⟨⟨fun _ => rfl, fun _ => ?_⟩, fun hh => absurd rfl hh⟩
    unfold Lib.decodeN
    repeat' split
    all_goals first | exact ⟨rfl, rfl⟩ | (exfalso; omega)
  · exact key 2 128 191 (by omega) (by omega) (by unfold cls; repeat (first | rw [if_pos (by omega)] | rw [if_neg (by omega)])) (Lib.slow_C2 _ _ _ _ _ hn h1 h2 h3 h)
  · exact key 3 160 191 (by omega) (by omega) (by unfold cls; repeat (first | rw [if_pos (by omega)] | rw [if_neg (by omega)])) (Lib.slow_E0 _ _ _ _ _ hn h1 h2 h3 h)
  · exact key 3 128 191 (by omega) (by omega) (by unfold cls; repeat (first | rw [if_pos (by omega)] | rw [if_neg (by omega)])) (Lib.slow_E1 _ _ _ _ _ hn h1 h2 h3 h)
  · exact key 3 128 159 (by omega) (by omega) (by unfold cls; repeat (first | rw [if_pos (by omega)] | rw [if_neg (by omega)])) (Lib.slow_ED _ _ _ _ _ hn h1 h2 h3 h)
  · exact key 4 144 191 (by omega) (by omega) (by unfold cls; repeat (first | rw [if_pos (by omega)] | rw [if_neg (by omega)])) (Lib.slow_F0 _ _ _ _ _ hn h1 h2 h3 h)
  · exact key 4 128 191 (by omega) (by omega) (by unfold cls; repeat (first | rw [if_pos (by omega)] | rw [if_neg (by omega)])) (Lib.slow_F1 _ _ _ _ _ hn h1 h2 h3 h)
  · exact key 4 128 143 (by omega) (by omega) (by unfold cls; repeat (first | rw [if_pos (by omega)] | rw [if_neg (by omega)])) (Lib.slow_F4 _ _ _ _ _ hn h1 h2 h3 h)

/-- a text: valid, and no byte 0 -/
def plainB (l : List UInt8) : Bool := Lib.validD l && decide (Lib.indexByte l 0 < 0)

theorem byt_lt (s : ByteArray) (i k : Nat) : byt s i k < 256 := UInt8.toNat_lt _
theorem step_at (s : ByteArray) (i : Nat) (hi : i < s.size) :
    ((Lib.decodeL (s.data.toList.drop i)).1 = 65533 ∧ (Lib.decodeL (s.data.toList.drop i)).2 = 1 ↔ runeF (s.size - i) (byt s i) = 0) ∧
    (runeF (s.size - i) (byt s i) ≠ 0 → (Lib.decodeL (s.data.toList.drop i)).2 = runeF (s.size - i) (byt s i)) := by
  rw [Lib.decodeL_drop, Lib.decode_at]
  exact rune_decode (s.size - i) (byt s i) (by omega) (byt_lt s i 0) (byt_lt s i 1) (byt_lt s i 2) (byt_lt s i 3)
end Go.Proofs.YtfifaaopdhcaaaaGreatDoor

namespace Go.Proofs
open Go.Shelf
def Tryz.lays137_ren : Go.Shelf.Ren := ⟨fun | 137 => 100 | 217 => 102 | 266 => 103 | n => n, fun | 9 => 9 | 5 => 5 | 3 => 3 | n => n, fun | n => n⟩
theorem Tryz.lays137 : Go.Proofs.Lays.n137 Tryz.prog Tryz.lays137_ren := {
  mixed := by kernel_rfl
  f137 := Tryz.func100.trans (congrArg some (by kernel_rfl))
  f217 := Tryz.func102.trans (congrArg some (by kernel_rfl))
  f266 := Tryz.func103.trans (congrArg some (by kernel_rfl))
  t3 := Tryz.underlying3
  a3 := Tryz.isAgg3
  z3 := Tryz.sizeOf3
  v3 := Tryz.zeroValue3
  t5 := Tryz.underlying5
  a5 := Tryz.isAgg5
  z5 := Tryz.sizeOf5
  v5 := Tryz.zeroValue5
  t9 := Tryz.underlying9
  a9 := Tryz.isAgg9
  z9 := Tryz.sizeOf9
  v9 := Tryz.zeroValue9 }
open Go.RowKit in
theorem Tryz.strings_IndexByte (s : ByteArray) (c : Int) (w : World) :
    Calls Tryz.prog 100 #[.string s, .int .u8 c] w fun e w' => e = .returned (.int .i64 (Lib.indexByte s.data.toList c.toNat.toUInt8)) ∧ w' = w := Any.strings_IndexByte Tryz.lays137 s c w
def Tryz.laysValid_ren : Go.Shelf.Ren := ⟨fun | 196 => 99 | 259 => 101 | n => n, fun | 9 => 9 | 4 => 4 | 3 => 3 | 5 => 5 | 12 => 12 | 119 => 183 | 0 => 0 | 46 => 172 | 139 => 186 | 138 => 185 | 53 => 25 | n => n, fun | 3 => 2 | 4 => 3 | n => n⟩
theorem Tryz.laysValid : Go.Proofs.Lays.n196 Tryz.prog Tryz.laysValid_ren := {
  mixed := by kernel_rfl
  f196 := Tryz.func99.trans (congrArg some (by kernel_rfl))
  f259 := Tryz.func101.trans (congrArg some (by kernel_rfl))
  t0 := Tryz.underlying0
  a0 := Tryz.isAgg0
  z0 := Tryz.sizeOf0
  v0 := Tryz.zeroValue0
  t3 := Tryz.underlying3
  a3 := Tryz.isAgg3
  z3 := Tryz.sizeOf3
  v3 := Tryz.zeroValue3
  t4 := Tryz.underlying4
  a4 := Tryz.isAgg4
  z4 := Tryz.sizeOf4
  v4 := Tryz.zeroValue4
  t5 := Tryz.underlying5
  a5 := Tryz.isAgg5
  z5 := Tryz.sizeOf5
  v5 := Tryz.zeroValue5
  t9 := Tryz.underlying9
  a9 := Tryz.isAgg9
  z9 := Tryz.sizeOf9
  v9 := Tryz.zeroValue9
  t12 := Tryz.underlying12
  a12 := Tryz.isAgg12
  z12 := Tryz.sizeOf12
  v12 := Tryz.zeroValue12
  t46 := Tryz.underlying172
  a46 := Tryz.isAgg172
  z46 := Tryz.sizeOf172
  v46 := Tryz.zeroValue172
  t53 := Tryz.underlying25
  a53 := Tryz.isAgg25
  z53 := Tryz.sizeOf25
  v53 := Tryz.zeroValue25
  t119 := Tryz.underlying183
  a119 := Tryz.isAgg183
  z119 := Tryz.sizeOf183
  t138 := Tryz.underlying185
  a138 := Tryz.isAgg185
  z138 := Tryz.sizeOf185
  v138 := Tryz.zeroValue185
  t139 := Tryz.underlying186
  a139 := Tryz.isAgg186
  z139 := Tryz.sizeOf186
  v139 := Tryz.zeroValue186
  g3 := by kernel_rfl
  g4 := by kernel_rfl }
end Go.Proofs
