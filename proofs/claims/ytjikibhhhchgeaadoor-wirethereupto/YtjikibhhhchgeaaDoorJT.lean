import Derived.Test.YtjikibhhhchgeaaDoorJA
import Derived.Test.YtjikibhhhchgeaaDoorJC
import Derived.RangeFuncNested
import Derived.RangeFuncBound
import Derived.RangeFuncCalls
import Derived.RangeFuncLeaves
import Derived.Shelf.Abstract
import Derived.Shelf.RegionOpen
import Derived.OwnWalkIn
import Derived.TacticsInMore
import Derived.LoopNIn
import Derived.LoopIn
import Derived.Maps.OwnIn
namespace Go.Proofs.YtjikibhhhchgeaaDoor
open Go.RowKit Go.Maps Go.Shelf
attribute [local go_sem] Oper.semAt_some
set_option linter.unusedVariables false
set_option linter.unusedSimpArgs false
set_option maxRecDepth 100000

/-- a row of the tables -/
structure Rw where
  t : Nat
  n : Nat
  s : List Nat
abbrev Rw.cells (x : Rw) : List Value := [.int .i64 (x.t : Int), .int .u32 (x.n : Int), .string (bstr x.s)]
def flat (l : List Rw) : List Value := l.flatMap Rw.cells
def hagL : List Rw := [⟨1, 1, [101, 120, 112, 111, 114, 116, 45, 110, 97, 109, 101]⟩, ⟨1, 2, [97, 98, 111, 114, 116]⟩, ⟨1, 3, [108, 105, 115, 116]⟩, ⟨1, 5, [115, 116, 97, 114, 116, 116, 108, 115]⟩, ⟨1, 6, [105, 110, 102, 111]⟩, ⟨1, 7, [103, 111]⟩, ⟨1, 8, [115, 116, 114, 117, 99, 116, 117, 114, 101, 100, 45, 114, 101, 112, 108, 121]⟩, ⟨1, 9, [108, 105, 115, 116, 45, 109, 101, 116, 97, 45, 99, 111, 110, 116, 101, 120, 116]⟩, ⟨1, 10, [115, 101, 116, 45, 109, 101, 116, 97, 45, 99, 111, 110, 116, 101, 120, 116]⟩, ⟨1, 11, [101, 120, 116, 101, 110, 100, 101, 100, 45, 104, 101, 97, 100, 101, 114, 115]⟩, ⟨2, 1, [97, 99, 107]⟩, ⟨2, 2, [115, 101, 114, 118, 101, 114]⟩, ⟨2, 3, [105, 110, 102, 111]⟩, ⟨2, 4, [109, 101, 116, 97, 45, 99, 111, 110, 116, 101, 120, 116]⟩, ⟨2, 2147483649, [117, 110, 115, 117, 112]⟩, ⟨2, 2147483650, [112, 111, 108, 105, 99, 121]⟩, ⟨2, 2147483651, [105, 110, 118, 97, 108, 105, 100]⟩, ⟨2, 2147483652, [112, 108, 97, 116, 102, 111, 114, 109]⟩, ⟨2, 2147483653, [116, 108, 115, 45, 114, 101, 113, 100]⟩, ⟨2, 2147483654, [117, 110, 107, 110, 111, 119, 110]⟩, ⟨2, 2147483655, [115, 104, 117, 116, 100, 111, 119, 110]⟩, ⟨2, 2147483656, [98, 108, 111, 99, 107, 45, 115, 105, 122, 101, 45, 114, 101, 113, 100]⟩, ⟨2, 2147483657, [116, 111, 111, 45, 98, 105, 103]⟩, ⟨2, 2147483658, [101, 120, 116, 45, 104, 101, 97, 100, 101, 114, 45, 114, 101, 113, 100]⟩, ⟨3, 0, [101, 120, 112, 111, 114, 116]⟩, ⟨3, 1, [110, 97, 109, 101]⟩, ⟨3, 2, [100, 101, 115, 99, 114, 105, 112, 116, 105, 111, 110]⟩, ⟨3, 3, [98, 108, 111, 99, 107, 45, 115, 105, 122, 101]⟩]
def traL : List Rw := [⟨4, 0, [114, 101, 97, 100]⟩, ⟨4, 1, [119, 114, 105, 116, 101]⟩, ⟨4, 2, [100, 105, 115, 99]⟩, ⟨4, 3, [102, 108, 117, 115, 104]⟩, ⟨4, 4, [116, 114, 105, 109]⟩, ⟨4, 5, [99, 97, 99, 104, 101]⟩, ⟨4, 6, [119, 114, 105, 116, 101, 45, 122, 101, 114, 111, 101, 115]⟩, ⟨4, 7, [98, 108, 111, 99, 107, 45, 115, 116, 97, 116, 117, 115]⟩, ⟨5, 0, [110, 111, 110, 101]⟩, ⟨5, 1, [100, 97, 116, 97]⟩, ⟨5, 2, [104, 111, 108, 101]⟩, ⟨5, 5, [115, 116, 97, 116, 117, 115]⟩, ⟨5, 6, [115, 116, 97, 116, 117, 115, 45, 54, 52]⟩, ⟨5, 32769, [101, 114, 114, 111, 114]⟩, ⟨5, 32770, [101, 114, 114, 111, 114, 45, 97, 116]⟩, ⟨6, 0, [111, 107]⟩, ⟨6, 1, [101, 112, 101, 114, 109]⟩, ⟨6, 5, [101, 105, 111]⟩, ⟨6, 12, [101, 110, 111, 109, 101, 109]⟩, ⟨6, 22, [101, 105, 110, 118, 97, 108]⟩, ⟨6, 28, [101, 110, 111, 115, 112, 99]⟩, ⟨6, 75, [101, 111, 118, 101, 114, 102, 108, 111, 119]⟩, ⟨6, 95, [101, 110, 111, 116, 115, 117, 112]⟩, ⟨6, 108, [101, 115, 104, 117, 116, 100, 111, 119, 110]⟩, ⟨7, 1, [98, 97, 115, 101, 58, 97, 108, 108, 111, 99, 97, 116, 105, 111, 110]⟩, ⟨7, 2, [115, 112, 105, 110, 100, 108, 101, 58, 117, 110, 115, 97, 118, 101, 100]⟩, ⟨7, 3, [115, 112, 105, 110, 100, 108, 101, 58, 100, 105, 114, 116, 121]⟩]
def allL : List Rw := hagL ++ traL
theorem flat_take : ∀ (l : List Rw) (k : Nat) (x : Rw), l[k]? = some x → ((flat l).drop (3 * k)).take 3 = x.cells
  | [], k, x, h => by simp at h
  | y :: l, 0, x, h => by simp at h; subst h; rfl
  | y :: l, k + 1, x, h => by
    have := flat_take l k x (by simpa using h)
    have e : (flat (y :: l)).drop (3 * (k + 1)) = (flat l).drop (3 * k) := by
      rw [show 3 * (k + 1) = 3 * k + 1 + 1 + 1 by omega]; rfl
    rw [e]; exact this
abbrev TRow : TypeId := 173
abbrev Rw.val (x : Rw) : Value := .agg #[.int .i64 (x.t : Int), .int .u32 (x.n : Int), .string (bstr x.s)]
theorem infoRow : (Tryd.prog.info? TRow).map (·.size) = some 3 := by kernel_rfl
theorem run_index_row {t : TypeId} {m : Nat} (ht : Tryd.prog.underlying t = some (.array m TRow)) (l : List Rw) (k : Nat) (x : Rw) (hx : l[k]? = some x) (hm : l.length = m) (w : World) :
    (Instr.index t (.agg (flat l).toArray) (.int .i64 (k : Int))).run Tryd.prog w = .ok x.val w := by
  have hk : k < m := by rw [← hm]; exact (List.getElem?_eq_some_iff.1 hx).1
  have h1 : (0 : Int) ≤ (k : Int) ∧ (k : Int) < (m : Int) := by omega
  have h2 := flat_take l k x hx
  cases hq : Tryd.prog.info? TRow with
  | none => have := infoRow; rw [hq] at this; simp at this
  | some i =>
    have hs : i.size = 3 := by have := infoRow; rw [hq] at this; simpa using this
    have hagg : (isAgg TRow).run Tryd.prog w = .ok true w := by
      unfold isAgg
      rw [Sem.run_bind, run_underlying Tryd.underlying173 w]
      rfl
    simp [Instr.index, run_underlying ht, asIntOf, h1.1, hk, part, hagg, sizeOf, typeInfo, hq, hs, Sem.run_bind]
    rw [Nat.mul_comm]; exact h2
/-- the two tables lie in memory -/
structure Tb (w : World) : Prop where
  h : ∃ t fr, w.heap[0]? = some (.cells (flat hagL).toArray t fr)
  t : ∃ t fr, w.heap[1]? = some (.cells (flat traL).toArray t fr)
theorem Tb.lt0 {w : World} (h : Tb w) : 0 < w.heap.size := by obtain ⟨t, fr, h⟩ := h.h; exact (Array.getElem?_eq_some_iff.1 h).1
theorem Tb.lt1 {w : World} (h : Tb w) : 1 < w.heap.size := by obtain ⟨t, fr, h⟩ := h.t; exact (Array.getElem?_eq_some_iff.1 h).1
theorem Tb.later {w w' : World} (h : Tb w) (hb : Below w.heap.size w w') : Tb w' := by
  have h0 := h.lt0
  have h1 := h.lt1
  obtain ⟨⟨t, fr, ha⟩, ⟨t', fr', hb'⟩⟩ := h
  exact ⟨⟨t, fr, (hb.block _ h0).trans ha⟩, ⟨t', fr', (hb.block _ h1).trans hb'⟩⟩
/-- what the ranging's body must leave: the second table -/
def KpT (W W' : World) : Prop := W'.heap[1]? = W.heap[1]?
theorem kpT_t {A B C : World} (h : KpT A B) (k : KpT B C) : KpT A C := Eq.trans k h
theorem hagL_len : hagL.length = 28 := rfl
theorem traL_len : traL.length = 27 := rfl
theorem infoHag : (Tryd.prog.info? 194).map (·.size) = some (flat hagL).toArray.size := by kernel_rfl
theorem infoTra : (Tryd.prog.info? 195).map (·.size) = some (flat traL).toArray.size := by kernel_rfl
theorem wpListIn_load_row {F : Fence} {nF : Nat} {P : Program} {ops : Array Oper} {rest : List Oper} {o : Oper} {a : Act} {w : World} {Q : Exit → Act → World → Prop} (hgd : o.guard = none) (ty : TypeId) (x : Operand) (ho : o.op = .load ty x)
    (g : Nat) (hx : a.eval x = .pointer (some ⟨g, 0, none⟩)) (t : TypeId) (cs : Array Value) (fr : Nat × Nat) (d : TypeDesc) (hg : w.heap[g]? = some (.cells cs t fr))
    (hu : P.underlying ty = some d) (hd : (match d with | .struct _ | .array _ _ => true | _ => false) = true) (hi : (P.info? ty).map (·.size) = some cs.size)
    (h : wpListIn F nF P ops Q rest (a.put o.dst (.agg cs)) w) : wpListIn F nF P ops Q (o :: rest) a w := by
  refine wpListIn_plain hgd fun K hK => ?_
  unfold Oper.wpIn
  refine ⟨by simp [Oper.about, ho], ?_⟩
  rw [Oper.semAt_plain F _ _ (by rw [ho]; intro c hc'; cases hc')]
  simp only [execOp, ho, hx, Instr.loadAt, Instr.sureAddr, Sem.run_bind, Sem.run_pure, Result.andThen_ok, run_loadVar_row w g t ty cs fr d hg hu hd hi]
  exact hK _ _ h
set_option maxHeartbeats 8000000 in
/-- what a ranging over the rows gives -/
theorem rows_seq (n : Nat) (hn : 2 ≤ n) {w : World} (hT : Tb w) :
    SeqStopsK Fence.wide n Tryd.prog 101 #[] (fun x : Rw => #[x.val]) KpT (fun xs => xs = allL) (fun pre => ∃ rest, allL = pre ++ rest) allL.length w := by
  intro l J Jx W hW hJ hJx hY h0
  obtain ⟨⟨th, frh, hh⟩, ⟨tt, frt, ht⟩⟩ := hT.later hW
  obtain ⟨CH, hCH⟩ : ∃ C, C = (flat hagL).toArray := ⟨_, rfl⟩
  obtain ⟨CT, hCT⟩ : ∃ C, C = (flat traL).toArray := ⟨_, rfl⟩
  have IH : Hid (∀ (k : Nat) (x : Rw), hagL[k]? = some x → ∀ w, (Instr.index 194 (.agg CH) (.int .i64 (k : Int))).run Tryd.prog w = .ok x.val w) := fun k x hx w => by rw [hCH]; exact run_index_row Tryd.underlying194 hagL k x hx rfl w
  have IT : Hid (∀ (k : Nat) (x : Rw), traL[k]? = some x → ∀ w, (Instr.index 195 (.agg CT) (.int .i64 (k : Int))).run Tryd.prog w = .ok x.val w) := fun k x hx w => by rw [hCT]; exact run_index_row Tryd.underlying195 traL k x hx rfl w
  have ZH : Hid ((Tryd.prog.info? 194).map (·.size) = some CH.size) := by rw [hCH]; exact infoHag
  have ZT : Hid ((Tryd.prog.info? 195).map (·.size) = some CT.size) := by rw [hCT]; exact infoTra
  rw [← hCH] at hh
  rw [← hCT] at ht
  have HH : Hid (W.heap[0]? = some (.cells CH th frh)) := hh
  have HT : Hid (W.heap[1]? = some (.cells CT tt frt)) := ht
  have HJ0 : Hid (J [] W) := h0
  have HJ : Hid (AbidesFrom W.heap.size J) := hJ
  have HYY : Hid _ := hY
  have hT1 : 1 < W.heap.size := (Array.getElem?_eq_some_iff.1 ht).1
  clear hh ht hCH hCT h0 hJ hT hJx hY
  have hf : Fence.wide.fn 101 := trivial
  refine callsIn_of_wp Tryd.func101 rfl hf ?_ rfl
  simp only [Tryd.ntmps101, List.size_toArray, List.length_cons, List.length_nil, Nat.reduceAdd, Nat.reduceSub, Array.replicate_succ, Array.replicate_zero, List.push_toArray, List.append_toArray, List.nil_append, List.cons_append, List.append_nil]
  have h1 : 1 ≤ n := by omega
  have h1' : 1 ≤ n - 1 := by omega
  gi_wp2_with (refine wpListIn_load_row rfl 194 _ rfl 0 rfl th CH frh _ HH.out Tryd.underlying194 rfl ZH.out ?_)
  gi_loopw [7] (fun i wr => ∃ (k : Nat), i = .int .i64 k ∧ k ≤ 28 ∧ Hid (wr.heap[1]? = some (.cells CT tt frt)) ∧ Hid (J (hagL.take k) wr)) (fun i _ => 28 - (intOf i).toNat)
  case atStart => exact ⟨0, rfl, Nat.zero_le _, HT, HJ0⟩
  case round =>
    obtain ⟨k, rfl, hk, HTk, HJk⟩ := hrel
    by_cases hlt : k < 28
    · obtain ⟨x, hx⟩ : ∃ x, hagL[k]? = some x := ⟨_, List.getElem?_eq_getElem (by rw [hagL_len]; omega)⟩
      have ix := IH.out k x hx
      have hkz : (k : Int) < 28 := by omega
      have HJ2 : J (hagL.take k) (wr.alloc (.cells #[.int .i64 (x.t : Int), .int .u32 (x.n : Int), .string (bstr x.s)] TRow)) := HJ.out (hagL.take k) wr _ none HJk.out ⟨rfl, rfl, rfl, by simp, fun g hg _ => Below.heap_alloc _ _ _ hg⟩ (fun r e => by cases e)
      have hlen : (hagL.take k).length < allL.length := by rw [List.length_take, hagL_len]; unfold allL; rw [List.length_append, hagL_len]; omega
      obtain ⟨fn, tmps, assign, body, hy, hR⟩ := HYY.out (hagL.take k) x _ HJ2 hlen
      have HE : Hid ((hagL.take k) ++ [x] = hagL.take (k + 1)) := by
        show _ = _
        rw [List.take_add_one, hx]; rfl
      rw [HE.out] at hR
      have HT2 : Hid ((wr.alloc (.cells #[.int .i64 (x.t : Int), .int .u32 (x.n : Int), .string (bstr x.s)] TRow)).heap[1]? = some (.cells CT tt frt)) := (Below.heap_alloc _ _ _ ((Array.getElem?_eq_some_iff.1 HTk.out).1)).trans HTk.out
      clear hx hlen HJ2
      gi_wp2
      refine hR.mono ?_
      rintro e W3 (⟨rfl, hJ3, hk3⟩ | ⟨rfl, hJx3⟩)
      · have HB3 : Hid (W3.heap[1]? = some (.cells CT tt frt)) := hk3.trans HT2.out
        have HJ3 : Hid _ := hJ3
        clear hJ3 hk3
        gi_wp2
        go_roundw
        case rel => exact ⟨k + 1, by go_num, by omega, HB3, HJ3⟩
        case measure => simp [intOf]; omega
      · have HX3 : Hid _ := hJx3
        clear hJx3
        gi_wp2
        refine bodyPost_ret (results_none rfl _ _ _) rfl ?_
        exact ⟨⟨_, rfl⟩, .inr ⟨_, ⟨hagL.drop (k + 1) ++ traL, by unfold allL; rw [← List.append_assoc, List.take_append_drop]⟩, HX3.out⟩⟩
    · obtain rfl : k = 28 := by omega
      have HE : Hid (hagL.take 28 = hagL) := rfl
      have HJh : Hid (J hagL wr) := by have := HJk.out; rw [HE.out] at this; exact this
      clear HJk HE
      gi_wp2_with (refine wpListIn_load_row rfl 195 _ rfl 1 rfl tt CT frt _ HTk.out Tryd.underlying195 rfl ZT.out ?_)
      gi_loopw [16] (fun i wr => ∃ (k : Nat), i = .int .i64 k ∧ k ≤ 27 ∧ Hid (wr.heap[1]? = some (.cells CT tt frt)) ∧ Hid (J (hagL ++ traL.take k) wr)) (fun i _ => 27 - (intOf i).toNat)
      case atStart => exact ⟨0, rfl, Nat.zero_le _, HTk, by simpa using HJh⟩
      case round =>
        clear HTk HJh
        obtain ⟨k, rfl, hk, HTk, HJk⟩ := hrel
        by_cases hlt : k < 27
        · obtain ⟨x, hx⟩ : ∃ x, traL[k]? = some x := ⟨_, List.getElem?_eq_getElem (by rw [traL_len]; omega)⟩
          have ix := IT.out k x hx
          have hkz : (k : Int) < 27 := by omega
          have HJ2 : J (hagL ++ traL.take k) (wr.alloc (.cells #[.int .i64 (x.t : Int), .int .u32 (x.n : Int), .string (bstr x.s)] TRow)) := HJ.out (hagL ++ traL.take k) wr _ none HJk.out ⟨rfl, rfl, rfl, by simp, fun g hg _ => Below.heap_alloc _ _ _ hg⟩ (fun r e => by cases e)
          have hlen : (hagL ++ traL.take k).length < allL.length := by unfold allL; rw [List.length_append, List.length_append, List.length_take, traL_len]; omega
          obtain ⟨fn, tmps, assign, body, hy, hR⟩ := HYY.out (hagL ++ traL.take k) x _ HJ2 hlen
          have HE : Hid ((hagL ++ traL.take k) ++ [x] = hagL ++ traL.take (k + 1)) := by
            show _ = _
            rw [List.append_assoc, List.take_add_one, hx]; rfl
          rw [HE.out] at hR
          have HT2 : Hid ((wr.alloc (.cells #[.int .i64 (x.t : Int), .int .u32 (x.n : Int), .string (bstr x.s)] TRow)).heap[1]? = some (.cells CT tt frt)) := (Below.heap_alloc _ _ _ ((Array.getElem?_eq_some_iff.1 HTk.out).1)).trans HTk.out
          clear hx hlen HJ2
          gi_wp2
          refine hR.mono ?_
          rintro e W3 (⟨rfl, hJ3, hk3⟩ | ⟨rfl, hJx3⟩)
          · have HB3 : Hid (W3.heap[1]? = some (.cells CT tt frt)) := hk3.trans HT2.out
            have HJ3 : Hid _ := hJ3
            clear hJ3 hk3
            gi_wp2
            go_roundw
            case rel => exact ⟨k + 1, by go_num, by omega, HB3, HJ3⟩
            case measure => simp [intOf]; omega
          · have HX3 : Hid _ := hJx3
            clear hJx3
            gi_wp2
            refine bodyPost_ret (results_none rfl _ _ _) rfl ?_
            exact ⟨⟨_, rfl⟩, .inr ⟨_, ⟨traL.drop (k + 1), by unfold allL; rw [List.append_assoc, List.take_append_drop]⟩, HX3.out⟩⟩
        · obtain rfl : k = 27 := by omega
          have HE : Hid (hagL ++ traL.take 27 = allL) := rfl
          have HJh : Hid (J allL wr) := by have := HJk.out; rw [HE.out] at this; exact this
          clear HJk HE
          gi_wp2
          go_end0
          exact ⟨⟨_, rfl⟩, .inl ⟨_, rfl, HJh.out⟩⟩
end Go.Proofs.YtjikibhhhchgeaaDoor
