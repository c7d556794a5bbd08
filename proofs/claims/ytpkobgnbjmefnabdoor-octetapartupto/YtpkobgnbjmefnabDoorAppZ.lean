import Derived.Test.YtpkobgnbjmefnabDoorWriterX
namespace Go.Proofs.YtpkobgnbjmefnabDoor
open Go.RowKit
open Lib (strCells strCells_length run_firstCells_string)
set_option linter.unusedVariables false
set_option maxRecDepth 100000

def zstr (m : Nat) : ByteArray := ⟨(List.replicate m 0).toArray⟩
theorem zstr_size (m : Nat) : (zstr m).size = m := by show (List.replicate m (0 : UInt8)).toArray.size = m; simp
theorem zstr_cells (m : Nat) : strCells (zstr m) = (List.replicate m 0).map bv := by unfold strCells zstr; simp [bv]
theorem zero_cells (m : Nat) : Builtin.zeroCells #[Value.int .u8 0] m = (strCells (zstr m)).toArray := by
  rw [zstr_cells]
  apply Array.ext
  · simp [Builtin.zeroCells]
  · intro i h1 h2
    simp [Builtin.zeroCells, Nat.mod_one, bv]
/-- an append of a make is an append of as many zero bytes -/
theorem append_make_eq {P : Program} (w : World) (t u k ty e : TypeId) (i : TypeInfo) (ht : P.underlying t = some (.slice e)) (hu : P.underlying u = some .string) (hk : P.underlying k = some (.int .i64)) (hi : P.info? e = some i) (hz : i.zero = some (.int .u8 0))
    (hsize : i.size = 1) (hby : i.bytes = 1) (b : Option Addr) (sLen sCap m : Nat) (hm : m ≤ 2097152) (hl : sLen + m ≤ 140737488355328) :
    (Builtin.append_ #[t, k] ty #[.slice b sLen sCap, .int .i64 (m : Int)]).run P w = (Builtin.append_ #[t, u] ty #[.slice b sLen sCap, .string (zstr m)]).run P w := by
  have hw : IntKind.i64.wrap (m : Int) = (m : Int) := by rw [IntKind.wrap_i64]; omega
  have hn0 : ¬ ((m : Int) < 0) := by omega
  have hn1 : ¬ ((281474976710656 : Int) < (m : Int)) := by omega
  have hf := fun W => run_firstCells_string (P := P) W 1 (zstr m)
  rw [zstr_size] at hf
  have hc : strCells (zstr 0) = [] := by rw [zstr_cells]; rfl
  by_cases h0 : m = 0
  · subst h0
    have hw0 : IntKind.i64.wrap 0 = 0 := by decide
    rw [hc] at hf
    by_cases hroom : sLen ≤ sCap
    · simp [Builtin.append_, run_underlying ht, run_underlying hu, run_underlying hk, sizeOf, typeInfo, hi, hsize, hby, Builtin.lenOf, hroom, hf, zstr_size, asInt, asIntOf, hw0]
    · have h48 := growslice_fits (need := sLen) (old := sCap) (bytes := 1) (by omega) (by omega)
      have h48' : ¬ (281474976710656 < Builtin.nextslicecap sLen sCap) := by omega
      have h63' : ¬ (9223372036854775807 < (sLen : Int)) := by omega
      simp [Builtin.append_, run_underlying ht, run_underlying hu, run_underlying hk, sizeOf, typeInfo, zeroValue, hi, hz, hsize, hby, Builtin.lenOf, hroom, hf, zstr_size, asInt, asIntOf, hw0, h48', h63', Question.forced]
  · have hm0 : ¬ ((m : Int) ≤ 0) := by omega
    by_cases hroom : sLen + m ≤ sCap
    · simp [Builtin.append_, run_underlying ht, run_underlying hu, run_underlying hk, sizeOf, typeInfo, zeroValue, hi, hz, hsize, hby, Builtin.lenOf, hroom, hf, zstr_size, asInt, asIntOf, hw, hn0, hn1, h0, Value.cells, zero_cells]
    · have h48 := growslice_fits (need := sLen + m) (old := sCap) (bytes := 1) (by omega) (by omega)
      have h48' : ¬ (281474976710656 < Builtin.nextslicecap (sLen + m) sCap) := by omega
      have h63' : ¬ (9223372036854775807 < ((sLen : Int) + (m : Int))) := by omega
      simp [Builtin.append_, run_underlying ht, run_underlying hu, run_underlying hk, sizeOf, typeInfo, zeroValue, hi, hz, hsize, hby, Builtin.lenOf, hroom, hf, zstr_size, asInt, asIntOf, hw, hn0, hn1, h0, h48', h63', Question.forced, Value.cells, zero_cells]
theorem wpList_append_two_make {P : Program} (w : World) {ops : Array Oper} {rest : List Oper} {o : Oper} {a : Act} {Q : Exit → Act → World → Prop} (hgd : o.guard = none) (sl x : Operand) (t u k : TypeId)
    (ho : o.op = .call { callee := .builtin .append, args := #[sl, x], argTypes := #[t, k] })
    (base : Nat) (e : TypeId) (i : TypeInfo) (ht : P.underlying t = some (.slice e)) (hu : P.underlying u = some .string) (hk : P.underlying k = some (.int .i64)) (hi : P.info? e = some i) (hz : i.zero = some (.int .u8 0))
    (hsize : i.size = 1) (hby : i.bytes = 1) (v : Value) (n : Nat) (xs : List Value) (hs : a.eval sl = v) (hown : w.ownsRow base e 1 v n xs)
    (m : Nat) (hx : a.eval x = .int .i64 (m : Int)) (hm : m ≤ 2097152) (hbytes : n + m ≤ 140737488355328) (hbase : base ≤ w.heap.size)
    (h : ∀ ao cap w', w'.ownsRow base e 1 (.slice ao (n + m) cap) (n + m) (xs ++ (List.replicate m 0).map bv) → w.grownBy w' v.ownBlock → Fresh w v (.slice ao (n + m) cap) → wpList P ops Q rest (a.put o.dst (.slice ao (n + m) cap)) w') : wpList P ops Q (o :: rest) a w := by
  obtain ⟨v', w', hr, h2, h3, h4⟩ := run_append_two_string (P := P) w base t u o.type e i ht hu hi hz hsize hby v n xs hown (zstr m) (by rw [zstr_size]; exact hbytes) hbase
  obtain ⟨ao0, cap0, rfl⟩ := owns_form hown
  rw [← append_make_eq w t u k o.type e i ht hu hk hi hz hsize hby ao0 n cap0 m hm hbytes] at hr
  rw [zstr_cells, zstr_size] at h2
  obtain ⟨ao, cap, rfl⟩ := owns_form h2
  refine wpList_plain hgd fun K hK => ?_
  unfold Oper.wp execOp
  simp only [ho, resolve, invoke, builtin, Sem.run_bind, Sem.run_pure, Result.andThen_ok, List.map_toArray, List.map_cons, List.map_nil, hs, hx, hr]
  exact hK _ _ (h ao cap w' h2 h3 h4)
end Go.Proofs.YtpkobgnbjmefnabDoor
