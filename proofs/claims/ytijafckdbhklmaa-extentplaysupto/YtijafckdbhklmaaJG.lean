import Derived.Test.YtijafckdbhklmaaXRm
import Derived.Deep.RegionWith
import Derived.Sort.QuietIn
namespace Go.Proofs.Ytijafckdbhklmaa.I
open Go.RowKit Go.Sort Go.Lib Go.Shelf
attribute [local go_sem] Oper.semAt_some
set_option linter.unusedVariables false
set_option linter.unusedSimpArgs false
set_option maxRecDepth 100000

theorem part_empty {w : World} {B bm : Nat} {v : Value} {rs : List (Rn Int)} (h : MO w B bm v 0 rs) :
    Calls Try.prog 37 #[.pointer (some ⟨bm, 0, none⟩), .int .i64 0, .int .i64 0] w fun e w' => e = .returned (.slice none 0 0) ∧ Below w.heap.size w w' := by
  have c0 : w.cell? ⟨bm, 0, none⟩ = some (.bool true) := h.c 0
  have c1 : w.cell? ⟨bm, 1, none⟩ = some (.int .i64 0) := h.c 1
  clear h
  go_enter Try.func37, Try.ntmps37
  go_wp2_with (go_at_call 33; refine (usable_at bm true _ c0).mono ?_; rintro e w9 ⟨rfl, hw9⟩; rw [hw9]; clear hw9)
  go_region
  have b1 : max (0 : Int) 0 = 0 := by decide
  have b2 : min (0 : Int) 0 = 0 := by decide
  go_wp2
  go_ret
  exact ⟨rfl, below_drew (Below.refl _ _)⟩

set_option maxHeartbeats 4000000 in
theorem runs1_empty (n : Nat) (hn : 2 ≤ n) {w : World} {b0 b1 b2 B bm : Nat} {v : Value} {rs : List (Rn Int)} (Sp : List (Rn Int) → Prop) (h : MO w B bm v 0 rs)
    (c0 : w.cell? ⟨b0, 0, none⟩ = some (.pointer (some ⟨bm, 0, none⟩))) (c1 : w.cell? ⟨b1, 0, none⟩ = some (.int .i64 0)) (c2 : w.cell? ⟨b2, 0, none⟩ = some (.int .i64 0)) :
    SeqStopsK Fence.wide n Try.prog 36 #[.pointer (some ⟨b0, 0, none⟩), .pointer (some ⟨b1, 0, none⟩), .pointer (some ⟨b2, 0, none⟩)] encR KeepR (fun xs => xs = []) Sp 0 w := by
  intro l J Jx W hW hJ hJx hY h0
  have HP := part_empty (h.later hW)
  have d0 := cell_later hW c0
  have d1 := cell_later hW c1
  have d2 := cell_later hW c2
  have hf : Fence.wide.fn 36 := trivial
  have hf2 : Fence.wide.fn 37 := trivial
  have h1 : 1 ≤ n := by omega
  have h1' : 1 ≤ n - 1 := by omega
  have HJ0 : Hid (J [] W) := h0
  clear hY h c0 c1 c2 h0
  refine callsIn_of_wp Try.func36 rfl hf ?_ rfl
  simp only [Try.ntmps36, List.size_toArray, List.length_cons, List.length_nil, Nat.reduceAdd, Nat.reduceSub, Array.replicate_succ, Array.replicate_zero, List.push_toArray, List.append_toArray, List.nil_append, List.cons_append]
  gi_wp2_with (gi_at_call 37; refine (callsIn_wide.2 HP).mono ?_; rintro e w9 ⟨rfl, hb⟩)
  have HJ1 : Hid (J [] w9) := hJ [] W w9 none HJ0.out ⟨hb.os, hb.tape, hb.output, hb.size, fun k hk _ => hb.block k hk⟩ (fun r e => by cases e)
  gi_loopw [12] (fun i wr => i = .int .i64 0 ∧ Hid (J [] wr)) (fun i _ => 0)
  case atStart => exact ⟨rfl, HJ1⟩
  case round =>
    obtain ⟨rfl, HJr⟩ := hrel
    gi_wp2
    go_end0
    exact ⟨⟨_, rfl⟩, .inl ⟨[], rfl, HJr.out⟩⟩
/-- all runs of a map -/
theorem runs1_map (n : Nat) (hn : 2 ≤ n) {w : World} {b0 b1 b2 B bm : Nat} {v : Value} {size : Int} {rs : List (Rn Int)} (h : MO w B bm v size rs)
    (c0 : w.cell? ⟨b0, 0, none⟩ = some (.pointer (some ⟨bm, 0, none⟩))) (c1 : w.cell? ⟨b1, 0, none⟩ = some (.int .i64 0)) (c2 : w.cell? ⟨b2, 0, none⟩ = some (.int .i64 size)) :
    SeqStopsK Fence.wide n Try.prog 36 #[.pointer (some ⟨b0, 0, none⟩), .pointer (some ⟨b1, 0, none⟩), .pointer (some ⟨b2, 0, none⟩)] encR KeepR (fun xs => xs = rs) (fun pre => ∃ rest, rs = pre ++ rest) rs.length w := by
  by_cases hp : 0 < size
  · obtain ⟨g, cap, rfl, hg1, hg2, hcap, hrm⟩ := h.rm hp
    have := runs1_stops n hn hrm h.le 0 size 0 size (by omega) (by omega) hp c0 c1 c2
    rwa [cut_full hrm.tiles hp] at this
  · have hz : size = 0 := by have := h.pos; omega
    subst hz
    obtain rfl := h.tiles.empty
    exact runs1_empty n hn _ h c0 c1 c2

def atOf (pre : List (Rn Int)) : Int := (pre.getLast?.map (·.hi)).getD 0
def befOf (pre : List (Rn Int)) : Int := (pre.getLast?.map (·.v)).getD 0
theorem atOf_snoc (pre : List (Rn Int)) (x : Rn Int) : atOf (pre ++ [x]) = x.hi := by simp [atOf]
theorem befOf_snoc (pre : List (Rn Int)) (x : Rn Int) : befOf (pre ++ [x]) = x.v := by simp [befOf]
theorem atOf_tiles {lo hi : Int} {pre rest : List (Rn Int)} {x : Rn Int} (h : Tiles 0 hi (pre ++ x :: rest)) : x.lo = atOf pre ∧ x.lo < x.hi ∧ x.hi ≤ hi ∧ 0 ≤ x.lo := by
  obtain ⟨m, h1, h2⟩ := tiles_append.1 h
  simp only [Tiles] at h2
  obtain ⟨e, h3, h4⟩ := h2
  have h5 := h4.le
  have h6 := h1.le
  refine ⟨?_, by omega, h5, by omega⟩
  rcases List.eq_nil_or_concat pre with rfl | ⟨p, y, rfl⟩
  · simp only [Tiles] at h1
    simp [atOf]; omega
  · rw [List.concat_eq_append] at h1 ⊢
    rw [atOf_snoc]
    have := (tiles_snoc.1 h1).2.2
    omega
/-- what the ranging's body looks at -/
def Pass (size first : Int) (l : List Put) (p : List (Rn Int)) (x : Rn Int) : Prop := x.lo = atOf p ∧ ¬ x.hi ≤ x.lo ∧ ¬ (0 < p.length ∧ x.v = befOf p) ∧ x.v = lastV size first l x.lo ∧ x.v = lastV size first l ((x.hi - 1 + 9223372036854775808) % 18446744073709551616 - 9223372036854775808)
theorem pass_all {size first : Int} {l : List Put} (h0 : 0 ≤ size) (h1 : size ≤ 1099511627776) {p rest : List (Rn Int)} {x : Rn Int} (e : runsL size first l = p ++ x :: rest) : Pass size first l p x := by
  obtain ⟨ht, ha, hh⟩ := runsL_spec size first h0 l
  rw [e] at ht ha hh
  obtain ⟨a1, a2, a3, a4⟩ := atOf_tiles (lo := 0) ht
  have key : ∀ i, x.lo ≤ i → i < x.hi → x.v = lastV size first l i := fun i hi1 hi2 => (((hh i x.v).1 (has_append.2 (.inr (has_cons.2 (.inl ⟨hi1, hi2, rfl⟩))))).2.2).symm
  refine ⟨a1, by omega, ?_, key _ (by omega) a2, key _ (by omega) (by omega)⟩
  rintro ⟨hp, hv⟩
  rcases List.eq_nil_or_concat p with rfl | ⟨q, y, rfl⟩
  · simp at hp
  · rw [List.concat_eq_append] at ha hv
    rw [befOf_snoc] at hv
    exact ha.meet y x (by simp) (by simp) hv.symm
theorem atOf_end {size first : Int} {l : List Put} (h0 : 0 ≤ size) : atOf (runsL size first l) = size := by
  obtain ⟨ht, ha, hh⟩ := runsL_spec size first h0 l
  rcases List.eq_nil_or_concat (runsL size first l) with e | ⟨q, y, e⟩
  · rw [e] at ht ⊢
    simp only [Tiles] at ht
    simp [atOf]; omega
  · rw [e, List.concat_eq_append] at ht ⊢
    rw [atOf_snoc]
    exact (tiles_snoc.1 ht).2.2

theorem keepI_setBox {W : World} {B t : Nat} {v u : Value} (hb : Boxed W B t v) (ht : t ≠ TRun) : KeepR W (W.setCell ⟨B, 0, none⟩ u) := fun i cur fr hi => by
  refine (Below.heap_setCell _ _ _ _ (fun e => ?_)).trans hi
  have e' : i = B := e
  subst e'
  have := hi.symm.trans hb
  simp at this
  exact ht this.2.1.symm
theorem cells_ownI (Bx : Nat) (cs : Array Value) (t : TypeId) (B : Nat) : OwnFrom B (fun (_ : Unit) (W : World) => W.heap[Bx]? = some (.cells cs t (0, 0))) := fun s X Y row hs hg hrow => by
  refine (hg.block Bx (Array.getElem?_eq_some_iff.1 hs).1 (fun e => ?_)).trans hs
  obtain ⟨_, o, ho, hc⟩ := hrow Bx e.symm
  rw [hs] at ho; cases ho; simp [Obj.isCells] at hc
theorem boxed_later {W W' : World} {k t : Nat} {v : Value} (h : Boxed W k t v) (hb : Below W.heap.size W W') : Boxed W' k t v := (hb.block k h.lt).trans h
theorem res_bool {tmps : Array Value} {w : World} {g : Nat} {b : Bool} (hp : tmps.getD 8 undef = .pointer (some ⟨g, 0, none⟩)) (hb : Boxed w g 4 (.bool b)) : (results Try.f4 tmps).run Try.prog w = .ok (.bool b) w := by
  have h : Try.f4.results = #[.cell 8 4] := rfl
  have hp' : tmps[8]?.getD undef = .pointer (some ⟨g, 0, none⟩) := by simpa using hp
  have hc := hb.cell
  have ha := Try.isAgg4
  simp [results, h, hp', asAddr]
  go_simp
/-- the four boxes at the head -/
theorem boxes4 (w : World) (size first : Int) (sl : Value) : let W := (((w.alloc (.cells #[.int .i64 size] 2)).alloc (.cells #[.int .i64 first] 3)).alloc (.cells #[sl] 51)).alloc (.cells #[.bool false] 4)
    Boxed W w.heap.size 2 (.int .i64 size) ∧ Boxed W (w.heap.size + 1) 3 (.int .i64 first) ∧ Boxed W (w.heap.size + 1 + 1) 51 sl ∧ Boxed W (w.heap.size + 1 + 1 + 1) 4 (.bool false) ∧ Below w.heap.size w W ∧ W.heap.size = w.heap.size + 1 + 1 + 1 + 1 := by
  intro W
  have a0 := Boxed.new w 2 (.int .i64 size)
  have a1 := Boxed.new (w.alloc (.cells #[.int .i64 size] 2)) 3 (.int .i64 first)
  have a2 := Boxed.new ((w.alloc (.cells #[.int .i64 size] 2)).alloc (.cells #[.int .i64 first] 3)) 51 sl
  have a3 := Boxed.new (((w.alloc (.cells #[.int .i64 size] 2)).alloc (.cells #[.int .i64 first] 3)).alloc (.cells #[sl] 51)) 4 (.bool false)
  simp only [World.size_alloc] at a1 a2 a3
  refine ⟨((a0.alloc _).alloc _).alloc _, (a1.alloc _).alloc _, a2.alloc _, a3, ?_, by simp [W]⟩
  exact ((((Below.refl _ w).alloc (Nat.le_refl _) _).alloc (by simp) _).alloc (by simp; omega) _).alloc (by simp; omega) _
end Go.Proofs.Ytijafckdbhklmaa.I

namespace Go.Proofs.Ytijafckdbhklmaa
variable {F : Fence} {n : Nat} {P : Program} {C : World → Prop} {ops : Array Oper}
/-- no operation defers -/
def NoDefer (ops : Array Oper) : Bool := ops.all fun o => match o.op with | .defer _ => false | _ => true
theorem noDefer_at {ops : Array Oper} (h : NoDefer ops = true) {i : Nat} {o : Oper} (ho : ops[i]? = some o) : ∀ c, o.op ≠ .defer c := by
  intro c hc
  unfold NoDefer at h
  rw [Array.all_eq_true] at h
  obtain ⟨hi, rfl⟩ := Array.getElem?_eq_some_iff.1 ho
  have := h i hi
  rw [hc] at this
  cases this
theorem semAt_any (ro : Option Nat) (ρ : Operand → Value) (o : Oper) (h : ∀ c, o.op ≠ .defer c) : Oper.semAt ro ρ o = execOp ρ o := by
  cases ro with
  | none => exact Oper.semAt_none _ _
  | some l => exact Oper.semAt_some l ρ o h
theorem oper_quiet {o : Oper} {a : Act} {K : Act → Prop} {K' : Act → World → Prop} {Q' : Exit → Act → World → Prop} {w : World} (hnd : ∀ c, o.op ≠ .defer c) (hw : C w) (h : ∀ a w', C w' → K a → K' a w')
    (ha : o.askedIn F P a C) (hh : o.quietIn F n P a C K) : o.wpIn F n P a w K' Q' := by
  obtain ⟨v, h1, h2⟩ := hh
  have h3 := h1 w hw
  unfold Oper.quietAtIn at h3
  unfold Oper.wpIn
  refine ⟨ha w hw, ?_⟩
  rw [semAt_any F.round a.eval o hnd]
  generalize (execOp a.eval o).run P w = r at *
  cases r with
  | ok x w' =>
    cases x <;> simp only [Oper.quietUponIn] at h3 <;> simp only [Oper.uponIn]
    case value u =>
      obtain ⟨e1, e2⟩ := h3
      rw [e1, e2]
      exact h _ _ hw h2
    case skip =>
      obtain ⟨e1, e2⟩ := h3
      rw [e1, ← e2]
      exact h _ _ hw h2
    case enter f args =>
      obtain ⟨e1, hd, hc⟩ := h3
      rw [e1]
      exact ⟨hd, hc.mono fun e w'' ⟨he, hw''⟩ => by subst he; exact h _ _ hw'' h2⟩
  | halt x w' => simp only [Oper.quietUponIn] at h3
theorem op_quiet (hnd : NoDefer ops = true) {i : Nat} {a : Act} {K : Act → Prop} {K' : Act → World → Prop} {Q' : Exit → Act → World → Prop} {w : World} (hC : C w) (h : ∀ a w', C w' → K a → K' a w')
    (hh : qOpIn F n P ops C i K a) : wpOpIn F n P ops Q' i K' a w := by
  unfold qOpIn at hh
  unfold wpOpIn
  split
  · rename_i ho; simp only [ho] at hh; exact h _ _ hC hh
  · rename_i o ho
    simp only [ho] at hh
    obtain ⟨ha, hh⟩ := hh
    split
    · rename_i hw; simp only [hw, if_true] at hh; exact oper_quiet (noDefer_at hnd ho) hC h ha hh
    · rename_i hw; simp only [hw] at hh; exact ⟨ha w hC, h _ _ hC hh⟩
theorem any_quiet {md : Region.Mode} (hnd : NoDefer ops = true) {Q : Act → Prop} {Q' : Exit → Act → World → Prop} (hQ : ∀ a w, C w → Q a → Q' .normal a w) : ∀ (fuel : Nat) (listed : Array Bool) (a : Act) (w : World), C w →
    wpAnyQIn F n P md ops C Q fuel listed a → wpAnyIn F n P md ops Q' fuel listed a w
  | 0, _, _, _, hw, h => ⟨h.1, hQ _ _ hw h.2⟩
  | fuel + 1, _, _, _, hw, h => ⟨fun h0 => hQ _ _ hw (h.1 h0), fun i hi => op_quiet hnd hw (fun a' w' hw' => any_quiet hnd hQ fuel _ a' w' hw') (h.2 i hi)⟩
/-- a quiet region, in a round too -/
theorem region_quiet {id : Nat} {Q : Exit → Act → World → Prop} {a : Act} {w : World} {l : List Oper} (hnd : NoDefer l.toArray = true) (hm : P.follows .mixedOrders = true) (hB : Region.lexB .any l.toArray = true)
    (h : wpQuietIn F n P l.toArray (fun w' => ∃ n, w' = w.drewN n) (fun a' => ∀ w', (∃ n, w' = w.drewN n) → Q .normal a' w') l a) : (Code.region id l.toArray true).wpIn F n P Q a w := by
  simp only [Region.lexB, Bool.and_eq_true] at hB
  refine wpIn_region_any hm (any_quiet (C := fun w' => ∃ n, w' = w.drewN n) (Q := fun a' => ∀ w', (∃ n, w' = w.drewN n) → Q .normal a' w') hnd (fun _ w' hw' h => h w' hw') _ _ _ _ ⟨1, rfl⟩ ?_)
  have := wpAnyQIn_lex (F := F) (n := n) (C := fun w' => ∃ n, w' = w.drewN n) (md := .any) hB.1 l 0 (Array.replicate l.length false) a (by simp) (by simpa using hB.2) h
  simpa using this
end Go.Proofs.Ytijafckdbhklmaa
