import Derived.Test.YtbamjfnjenmdaaaGreatG26
import Derived.Maps.OwnIn
import Derived.Test.YtbamjfnjenmdaaaGreatProg
import Derived.Sort.QuietIn
import Derived.Test.YtbamjfnjenmdaaaGreatG25
import Derived.Laws.ResultCell
namespace Go.Proofs.YtbamjfnjenmdaaaGreat.I.A
open Go.RowKit Go.Maps Go.Shelf Go.Proofs.YtbamjfnjenmdaaaGreat.I
attribute [local go_sem] Oper.semAt_some
set_option linter.unusedVariables false
set_option linter.unusedSimpArgs false
set_option maxRecDepth 100000

abbrev TPo : TypeId := 87
abbrev TPf : TypeId := 169
theorem func_any (w : World) (m : Option Addr) : Calls Tryz.prog 63 #[.pointer m] w fun e w' =>
    e = .returned (.func (.func 116) #[] #[.pointer (some ⟨w.heap.size, 0, none⟩), .pointer (some ⟨w.heap.size + 1, 0, none⟩)]) ∧ w' = (w.alloc (.cells #[.pointer m] TPo)).alloc (.cells #[.func (.func 93) #[] #[]] TPf) := by
  have hmf : ∀ (fn : Fn) (first cap : Array Value) (w : World), (Instr.makeFunc fn first cap).run Tryz.prog w = .ok (.func fn first cap) w := fun _ _ _ _ => rfl
  have ht : ∀ (w : World) (fn : Fn) (fa fb : Array Value), Calls Tryz.prog 92 #[.pointer m, .func fn fa fb] w fun e w' =>
    e = .returned (.func (.func 116) #[] #[.pointer (some ⟨w.heap.size, 0, none⟩), .pointer (some ⟨w.heap.size + 1, 0, none⟩)]) ∧ w' = (w.alloc (.cells #[.pointer m] TPo)).alloc (.cells #[.func fn fa fb] TPf) := by
    intro w fn fa fb
    go_enter Tryz.func92, Tryz.ntmps92
    go_wp2
    go_ret
    exact ⟨rfl, rfl⟩
  go_enter Tryz.func63, Tryz.ntmps63
  go_wp2_with (go_at_call 92; refine (ht _ _ _ _).mono ?_; rintro e w9 ⟨rfl, hw9⟩; rw [hw9]; clear hw9)
  go_ret
  exact ⟨rfl, rfl⟩

/-- no row of the list that the body gathers -/
def FineL (Bl k : Nat) (W : World) : Prop := ∃ v, Boxed W Bl TKeys v ∧ v.ownBlock ≠ some k
def KpL (Bl : Nat) (W W' : World) : Prop := ∀ (k : Nat) (cur : Array Value) (fr : Nat × Nat), FineL Bl k W → W.heap[k]? = some (.cells cur TKey fr) → W'.heap[k]? = some (.cells cur TKey fr) ∧ FineL Bl k W'
theorem kpL_row (Bl : Nat) : KeepsRow (KpL Bl) (FineL Bl) := ⟨fun h hf hc => h _ _ _ hf hc⟩
theorem kpL_refl (Bl : Nat) (W : World) : KpL Bl W W := fun _ _ _ hf hc => ⟨hc, hf⟩
theorem kpL_t {Bl : Nat} {A B C : World} (h : KpL Bl A B) (k : KpL Bl B C) : KpL Bl A C := fun i cur fr hf hi => k i cur fr (h i cur fr hf hi).2 (h i cur fr hf hi).1
theorem kpL_b {w : World} {Bl : Nat} (W : World) (l : Nat) (o o' : Obj) (_ : w.heap.size ≤ l) (h : W.heap[l]? = some o) (hc : o.isCells = false) (_ : o.isWalk = false) : KpL Bl W (W.putObj l o') := fun i cur fr hf hi => by
  have hne : ∀ {i : Nat} {cur : Array Value} {T : TypeId} {fr : Nat × Nat}, W.heap[i]? = some (.cells cur T fr) → i ≠ l := by
    rintro i cur T fr hi rfl
    rw [h] at hi
    cases hi
    simp [Obj.isCells] at hc
  obtain ⟨v, hb, hv⟩ := hf
  exact ⟨(World.putObj_heap_other (hne hi)).trans hi, v, (World.putObj_heap_other (hne hb)).trans hb, hv⟩
theorem kpL_below {Bl : Nat} {W W' : World} (h : Below W.heap.size W W') : KpL Bl W W' := fun i cur fr hf hi => by
  obtain ⟨v, hb, hv⟩ := hf
  exact ⟨(h.block i (Array.getElem?_eq_some_iff.1 hi).1).trans hi, v, (h.block Bl hb.lt).trans hb, hv⟩
/-- what 'l = append(l, k)' leaves -/
theorem kpL_app {Bl : Nat} {W w1 : World} {v v' : Value} {tmp : Obj} (hbx : Boxed W Bl TKeys v) (hg : (W.alloc tmp).grownBy w1 v.ownBlock) (hb1 : Boxed w1 Bl TKeys v) (hv' : ∀ k, v'.ownBlock = some k → v.ownBlock = some k ∨ W.heap.size ≤ k) : KpL Bl W (w1.setCell ⟨Bl, 0, none⟩ v') := fun i cur fr hf hi => by
  obtain ⟨u, hb, hv⟩ := hf
  have eu : u = v := by
    have := (show W.heap[Bl]? = _ from hb).symm.trans hbx
    simp at this; exact this
  subst eu
  have hlt := (Array.getElem?_eq_some_iff.1 hi).1
  have hne : i ≠ Bl := by
    rintro rfl
    have := hi.symm.trans hb
    simp at this
    exact absurd this.2.1 (by decide)
  have h1 : w1.heap[i]? = some (.cells cur TKey fr) := (hg.block i (by rw [World.size_alloc]; omega) (fun e => hv e.symm)).trans ((Below.heap_alloc _ _ _ hlt).trans hi)
  exact ⟨(Below.heap_setCell _ _ _ _ hne).trans h1, v', hb1.set v', fun e => (hv' i e).elim hv (fun h => by omega)⟩
theorem news1 (W : World) (a : Value) : ∀ j u, [a][j]? = some u → (W.alloc (.cells #[a] TKey)).cell? ((⟨W.heap.size, 0, none⟩ : Addr).add j) = some u := World.news_of_block (heap_alloc_new W _)

end Go.Proofs.YtbamjfnjenmdaaaGreat.I.A

namespace Go.Proofs.YtbamjfnjenmdaaaGreat.I.A
open Go.RowKit Go.Maps Go.Shelf Go.Proofs.YtbamjfnjenmdaaaGreat.I
attribute [local go_sem] Oper.semAt_some
set_option linter.unusedVariables false
set_option linter.unusedSimpArgs false
set_option maxRecDepth 100000

set_option maxHeartbeats 4000000 in
/-- what a ranging gives, to elements of any type that stand for the keys -/
theorem seq_gen {α : Type} (T : α → Int) (zs : List α) (n : Nat) (hn : 2 ≤ n) {Kp : World → World → Prop} {Fine : Nat → World → Prop} (HK : KeepsRow Kp Fine) {w : World} {b0 b1 bo bm g : Nat} {L : List Ent} (h : RO w bo bm g L) (hz : picked L = zs.map T)
    (c0 : w.cell? ⟨b0, 0, none⟩ = some (.pointer (some ⟨bo, 0, none⟩))) (c1 : w.cell? ⟨b1, 0, none⟩ = some (.func (.func 93) #[] #[])) (hl1 : b1 < w.heap.size) (hlen : L.length * 8 ≤ 140737488355328)
    (hF : ∀ (W w1 : World) (k : Nat), Below w.heap.size w W → Below W.heap.size W w1 → W.heap.size ≤ k → k < w1.heap.size → Fine k w1) :
    SeqStopsK Fence.wide n Tryz.prog 116 #[.pointer (some ⟨b0, 0, none⟩), .pointer (some ⟨b1, 0, none⟩)] (fun a => #[kv (T a)]) Kp (fun ys => ys = zs) (fun pre => ∃ rest, zs = pre ++ rest) zs.length w := by
  intro l J Jx W hW hJ hJx hY h0
  have HP := gather_any (h.later hW) (cell_later hW c1) (Nat.lt_of_lt_of_le hl1 hW.size) hlen
  have d0 : (W.alloc (.cells #[.slice none 0 0] TKeys)).cell? ⟨b0, 0, none⟩ = some (.pointer (some ⟨bo, 0, none⟩)) := cell_later ((Below.refl _ W).alloc (Nat.le_refl _) _) (cell_later hW c0)
  have hmf : ∀ (fn : Fn) (first cap : Array Value) (w : World), (Instr.makeFunc fn first cap).run Tryz.prog w = .ok (.func fn first cap) w := fun _ _ _ _ => rfl
  obtain ⟨xs, hxs⟩ : ∃ xs, xs = zs.map T := ⟨_, rfl⟩
  have hpl := picked_length L
  rw [hz, ← hxs] at HP hpl
  obtain ⟨m, hm⟩ : ∃ m, m = zs.length := ⟨_, rfl⟩
  have hxl : xs.length = m := by rw [hxs, hm, List.length_map]
  rw [hxl] at hpl
  rw [← hm] at hY
  have HM : Hid (m = xs.length) := hxl.symm
  have HMz : Hid (m = zs.length) := hm
  have HXZ : Hid (xs = zs.map T) := hxs
  have hml : m ≤ 17592186044416 := by omega
  have HP2 : Hid (Calls Tryz.prog 117 #[.pointer (some ⟨bo, 0, none⟩), .func (.func 118) #[] #[.pointer (some ⟨b1, 0, none⟩), .pointer (some ⟨W.heap.size, 0, none⟩)]] (W.alloc (.cells #[.slice none 0 0] TKeys)) fun r w' => r = .returned (.tuple #[]) ∧ Gath W.heap.size W.heap.size W w' xs) := HP
  have HF : Hid (∀ (W w1 : World) (k : Nat), Below w.heap.size w W → Below W.heap.size W w1 → W.heap.size ≤ k → k < w1.heap.size → Fine k w1) := hF
  have HW : Hid (Below w.heap.size w W) := hW
  have HJ0 : Hid (J [] W) := h0
  clear hm hxs hxl hz h c0 c1 hpl hlen HP hF hl1 hW h0
  have hf : Fence.wide.fn 116 := trivial
  have hf2 : Fence.wide.fn 117 := trivial
  refine callsIn_of_wp Tryz.func116 rfl hf ?_ rfl
  simp only [Tryz.ntmps116, List.size_toArray, List.length_cons, List.length_nil, Nat.reduceAdd, Nat.reduceSub, Array.replicate_succ, Array.replicate_zero, List.push_toArray, List.append_toArray, List.nil_append, List.cons_append]
  have h1 : 1 ≤ n := by omega
  have h1' : 1 ≤ n - 1 := by omega
  gi_wp2_with (gi_at_call 117; refine (callsIn_wide.2 HP2.out).mono ?_; rintro e w1 ⟨rfl, hb, v, hbox, hown⟩; obtain ⟨ao, cap, rfl, hcap, hrf⟩ := row_form hown; have hcv := hbox.cell; rw [← HM.out] at hcv hcap hrf)
  have HFg : Hid (∀ k, W.heap.size ≤ k → k < w1.heap.size → Fine k w1) := fun k hk hk2 => HF.out W w1 k HW.out hb hk hk2
  have HJ1 : Hid (J [] w1) := hJ [] W w1 none HJ0.out ⟨hb.os, hb.tape, hb.output, hb.size, fun k hk _ => hb.block k hk⟩ (fun r e => by cases e)
  have hcap' : (m : Int) ≤ (cap : Int) := by omega
  by_cases hm0 : m = 0
  · have HE : Hid (zs = []) := by have := HMz.out; exact List.length_eq_zero_iff.1 (by omega)
    subst hm0
    clear hcv hrf hbox hown hb HP2 d0 hcap'
    gi_loopw [12] (fun i wr => i = .int .i64 0 ∧ Hid (J [] wr)) (fun i _ => 0)
    case atStart => exact ⟨rfl, HJ1⟩
    case round =>
      obtain ⟨rfl, HJr⟩ := hrel
      gi_wp2
      go_end0
      exact ⟨⟨_, rfl⟩, .inl ⟨[], HE.out.symm, HJr.out⟩⟩
  · obtain ⟨gv, cur, rfl, hgv, hblk, hcells⟩ := hrf (by omega)
    have HB : Hid (w1.heap[gv]? = some (.cells cur TKey (0, 0)) ∧ Fine gv w1) := ⟨hblk, HFg.out gv hgv (Array.getElem?_eq_some_iff.1 hblk).1⟩
    have HC : Hid (∀ (k : Nat) (x : Int), xs[k]? = some x → cur[k]? = some (kv x)) := hcells
    clear hcv hrf hbox hown hb HP2 d0 hblk hcells HFg HF hgv
    gi_loopw [12] (fun i wr => ∃ (k : Nat), i = .int .i64 k ∧ k ≤ m ∧ Hid (wr.heap[gv]? = some (.cells cur TKey (0, 0)) ∧ Fine gv wr) ∧ Hid (J (zs.take k) wr)) (fun i _ => m - (intOf i).toNat)
    case atStart => exact ⟨0, rfl, Nat.zero_le _, HB, HJ1⟩
    case round =>
      obtain ⟨k, rfl, hk, HBk, HJk⟩ := hrel
      by_cases hlt2 : k < m
      · obtain ⟨x, hx⟩ : ∃ x, zs[k]? = some x := ⟨_, List.getElem?_eq_getElem (by have := HMz.out; omega)⟩
        have z0 : wr.cell? ⟨gv, k, none⟩ = some (kv (T x)) := by unfold World.cell?; simp only [HBk.out.1]; simpa using HC.out k (T x) (by rw [HXZ.out, List.getElem?_map, hx]; rfl)
        have hkz : (k : Int) < (m : Int) := by omega
        have HT : Hid (zs.take k ++ [x] = zs.take (k + 1)) := by
          show _ = _
          rw [List.take_add_one, hx]; rfl
        have hlen : (zs.take k).length < m := by rw [List.length_take]; have := HMz.out; omega
        obtain ⟨fn, tmps, assign, body, hy, hR⟩ := hY (zs.take k) x _ HJk.out hlen
        rw [HT.out] at hR
        clear hx hlen hY
        gi_wp2
        refine hR.mono ?_
        rintro e W3 (⟨rfl, hJ3, hk3⟩ | ⟨rfl, hJx3⟩)
        · have HB3 : Hid (W3.heap[gv]? = some (.cells cur TKey (0, 0)) ∧ Fine gv W3) := HK.k hk3 HBk.out.2 HBk.out.1
          gi_wp2
          go_roundw
          case rel => exact ⟨k + 1, by go_num, by omega, HB3, hJ3⟩
          case measure => simp [intOf]; omega
        · gi_wp2
          refine bodyPost_ret (results_none rfl _ _ _) rfl ?_
          exact ⟨⟨_, rfl⟩, .inr ⟨zs.take (k + 1), ⟨zs.drop (k + 1), (List.take_append_drop _ _).symm⟩, hJx3⟩⟩
      · have e : k = m := by omega
        subst e
        have HE : Hid (zs.take k = zs) := by rw [HMz.out]; exact List.take_length
        rw [HE.out] at HJk
        gi_wp2
        go_end0
        exact ⟨⟨_, rfl⟩, .inl ⟨zs, rfl, HJk.out⟩⟩
end Go.Proofs.YtbamjfnjenmdaaaGreat.I.A

namespace Go.Proofs.YtbamjfnjenmdaaaGreat
variable {F : Fence} {n : Nat} {P : Program} {C : World → Prop} {ops : Array Oper}
/-- no operation defers -/
def NoDefer (ops : Array Oper) : Bool := ops.all fun o => match o.op with | .defer _ => false | _ => true
theorem noDefer_at {ops : Array Oper} (h : NoDefer ops = true) {i : Nat} {o : Oper} (ho : ops[i]? = some o) : ∀ c, o.op ≠ .defer c := by
  intro c hc
  unfold NoDefer at h
  rw [Array.all_eq_true] at h
  obtain ⟨hi, rfl⟩ := Array.getElem?_eq_some_iff.1 ho
  have := h i hi
  rw [hc] at this
  cases this
theorem semAt_any (ro : Option Nat) (ρ : Operand → Value) (o : Oper) (h : ∀ c, o.op ≠ .defer c) : Oper.semAt ro ρ o = execOp ρ o := by
  cases ro with
  | none => exact Oper.semAt_none _ _
  | some l => exact Oper.semAt_some l ρ o h
theorem oper_quiet {o : Oper} {a : Act} {K : Act → Prop} {K' : Act → World → Prop} {Q' : Exit → Act → World → Prop} {w : World} (hnd : ∀ c, o.op ≠ .defer c) (hw : C w) (h : ∀ a w', C w' → K a → K' a w')
    (ha : o.askedIn F P a C) (hh : o.quietIn F n P a C K) : o.wpIn F n P a w K' Q' := by
  obtain ⟨v, h1, h2⟩ := hh
  have h3 := h1 w hw
  unfold Oper.quietAtIn at h3
  unfold Oper.wpIn
  refine ⟨ha w hw, ?_⟩
  rw [semAt_any F.round a.eval o hnd]
  generalize (execOp a.eval o).run P w = r at *
  cases r with
  | ok x w' =>
    cases x <;> simp only [Oper.quietUponIn] at h3 <;> simp only [Oper.uponIn]
    case value u =>
      obtain ⟨e1, e2⟩ := h3
      rw [e1, e2]
      exact h _ _ hw h2
    case skip =>
      obtain ⟨e1, e2⟩ := h3
      rw [e1, ← e2]
      exact h _ _ hw h2
    case enter f args =>
      obtain ⟨e1, hd, hc⟩ := h3
      rw [e1]
      exact ⟨hd, hc.mono fun e w'' ⟨he, hw''⟩ => by subst he; exact h _ _ hw'' h2⟩
  | halt x w' => simp only [Oper.quietUponIn] at h3
theorem op_quiet (hnd : NoDefer ops = true) {i : Nat} {a : Act} {K : Act → Prop} {K' : Act → World → Prop} {Q' : Exit → Act → World → Prop} {w : World} (hC : C w) (h : ∀ a w', C w' → K a → K' a w')
    (hh : qOpIn F n P ops C i K a) : wpOpIn F n P ops Q' i K' a w := by
  unfold qOpIn at hh
  unfold wpOpIn
  split
  · rename_i ho; simp only [ho] at hh; exact h _ _ hC hh
  · rename_i o ho
    simp only [ho] at hh
    obtain ⟨ha, hh⟩ := hh
    split
    · rename_i hw; simp only [hw, if_true] at hh; exact oper_quiet (noDefer_at hnd ho) hC h ha hh
    · rename_i hw; simp only [hw] at hh; exact ⟨ha w hC, h _ _ hC hh⟩
theorem any_quiet {md : Region.Mode} (hnd : NoDefer ops = true) {Q : Act → Prop} {Q' : Exit → Act → World → Prop} (hQ : ∀ a w, C w → Q a → Q' .normal a w) : ∀ (fuel : Nat) (listed : Array Bool) (a : Act) (w : World), C w →
    wpAnyQIn F n P md ops C Q fuel listed a → wpAnyIn F n P md ops Q' fuel listed a w
  | 0, _, _, _, hw, h => ⟨h.1, hQ _ _ hw h.2⟩
  | fuel + 1, _, _, _, hw, h => ⟨fun h0 => hQ _ _ hw (h.1 h0), fun i hi => op_quiet hnd hw (fun a' w' hw' => any_quiet hnd hQ fuel _ a' w' hw') (h.2 i hi)⟩
/-- a quiet region, in a round too -/
theorem region_quiet {id : Nat} {Q : Exit → Act → World → Prop} {a : Act} {w : World} {l : List Oper} (hnd : NoDefer l.toArray = true) (hm : P.follows .mixedOrders = true) (hB : Region.lexB .any l.toArray = true)
    (h : wpQuietIn F n P l.toArray (fun w' => ∃ n, w' = w.drewN n) (fun a' => ∀ w', (∃ n, w' = w.drewN n) → Q .normal a' w') l a) : (Code.region id l.toArray true).wpIn F n P Q a w := by
  simp only [Region.lexB, Bool.and_eq_true] at hB
  refine wpIn_region_any hm (any_quiet (C := fun w' => ∃ n, w' = w.drewN n) (Q := fun a' => ∀ w', (∃ n, w' = w.drewN n) → Q .normal a' w') hnd (fun _ w' hw' h => h w' hw') _ _ _ _ ⟨1, rfl⟩ ?_)
  have := wpAnyQIn_lex (F := F) (n := n) (C := fun w' => ∃ n, w' = w.drewN n) (md := .any) hB.1 l 0 (Array.replicate l.length false) a (by simp) (by simpa using hB.2) h
  simpa using this
/-- a class of worlds, as a type -/
structure CW (C : World → Prop) where
  x : World
  h : C x
/-- a region whose calls lead from a class of worlds into it -/
theorem region_quietC {id : Nat} {D : World → Prop} {Q : Exit → Act → World → Prop} {a : Act} {w : World} {l : List Oper} (hnd : NoDefer l.toArray = true) (hm : P.follows .mixedOrders = true) (hB : Region.lexB .any l.toArray = true) (h0 : D w.drew)
    (h : wpQuietIn F n P l.toArray (fun w' => ∃ p : CW D, w' = p.x) (fun a' => ∀ w', (∃ p : CW D, w' = p.x) → Q .normal a' w') l a) : (Code.region id l.toArray true).wpIn F n P Q a w := by
  simp only [Region.lexB, Bool.and_eq_true] at hB
  refine wpIn_region_any hm (any_quiet (C := fun w' => ∃ p : CW D, w' = p.x) (Q := fun a' => ∀ w', (∃ p : CW D, w' = p.x) → Q .normal a' w') hnd (fun _ w' hw' h => h w' hw') _ _ _ _ ⟨⟨_, h0⟩, rfl⟩ ?_)
  have := wpAnyQIn_lex (F := F) (n := n) (C := fun w' => ∃ p : CW D, w' = p.x) (md := .any) hB.1 l 0 (Array.replicate l.length false) a (by simp) (by simpa using hB.2) h
  simpa using this
theorem mixed : Tryz.prog.follows .mixedOrders = true := by kernel_rfl
end Go.Proofs.YtbamjfnjenmdaaaGreat

namespace Go.Proofs.YtbamjfnjenmdaaaGreat.C
open Go.RowKit Go.Maps Go.Shelf Go.Proofs.YtbamjfnjenmdaaaGreat
attribute [local go_sem] Oper.semAt_some
set_option linter.unusedVariables false
set_option linter.unusedSimpArgs false
set_option maxRecDepth 100000

/-- a question of a line -/
def Pk (f : Nat) (p : Ln → Bool) : Prop := ∀ (W : World) (l : Ln), W.heap[l.blk]? = some (.cells (lcells l) TLn (0, 0)) → K.OkB l.dat → Calls Tryz.prog f #[.pointer (some ⟨l.blk, 0, none⟩)] W fun r w' => r = .returned (.bool (p l)) ∧ w' = W
def mayGo (l : Ln) : Bool := !l.dirty || !l.note
def isData (l : Ln) : Bool := !l.note
def isNoted (l : Ln) : Bool := l.note
def dirtyData (l : Ln) : Bool := l.dirty && !l.note
theorem pk_may : Pk 53 mayGo := fun W l hl hok => by
  have c1 : W.cell? ⟨l.blk, 512, none⟩ = some (.bool l.dirty) := (K.cell_of hl).trans (lcells_dirty hok)
  have c2 : W.cell? ⟨l.blk, 513, none⟩ = some (.bool l.note) := (K.cell_of hl).trans (lcells_note hok)
  unfold mayGo
  generalize l.dirty = d at *
  generalize l.note = n at *
  clear hl hok
  cases d
  · go_enter Tryz.func53, Tryz.ntmps53
    go_wp2
    go_ret
    exact ⟨rfl, rfl⟩
  · go_enter Tryz.func53, Tryz.ntmps53
    go_wp2
    go_ret
    exact ⟨by simp, rfl⟩
theorem pk_data : Pk 35 isData := fun W l hl hok => by
  have c2 : W.cell? ⟨l.blk, 513, none⟩ = some (.bool l.note) := (K.cell_of hl).trans (lcells_note hok)
  unfold isData
  clear hl hok
  go_enter Tryz.func35, Tryz.ntmps35
  go_wp2
  go_ret
  exact ⟨rfl, rfl⟩
theorem pk_note : Pk 37 isNoted := fun W l hl hok => by
  have c2 : W.cell? ⟨l.blk, 513, none⟩ = some (.bool l.note) := (K.cell_of hl).trans (lcells_note hok)
  unfold isNoted
  clear hl hok
  go_enter Tryz.func37, Tryz.ntmps37
  go_wp2
  go_ret
  exact ⟨rfl, rfl⟩
theorem pk_back : Pk 42 dirtyData := fun W l hl hok => by
  have c1 : W.cell? ⟨l.blk, 512, none⟩ = some (.bool l.dirty) := (K.cell_of hl).trans (lcells_dirty hok)
  have c2 : W.cell? ⟨l.blk, 513, none⟩ = some (.bool l.note) := (K.cell_of hl).trans (lcells_note hok)
  unfold dirtyData
  generalize l.dirty = d at *
  generalize l.note = n at *
  clear hl hok
  cases d
  · go_enter Tryz.func42, Tryz.ntmps42
    go_wp2
    go_ret
    exact ⟨rfl, rfl⟩
  · go_enter Tryz.func42, Tryz.ntmps42
    go_wp2
    go_ret
    exact ⟨by simp, rfl⟩
def secOf : Option Ln → Int
  | none => 0
  | some l => l.sec
/-- rows of keys are kept -/
def KpN (W W' : World) : Prop := ∀ (k : Nat) (cur : Array Value) (fr : Nat × Nat), W.heap[k]? = some (.cells cur I.TKey fr) → W'.heap[k]? = some (.cells cur I.TKey fr)
theorem kpN_row : I.A.KeepsRow KpN (fun _ _ => True) := ⟨fun h _ hc => ⟨h _ _ _ hc, trivial⟩⟩
theorem kpN_t {A B C : World} (h : KpN A B) (k : KpN B C) : KpN A C := fun i cur fr hi => k i cur fr (h i cur fr hi)
theorem kpN_b {w : World} (W : World) (l : Nat) (o o' : Obj) (_ : w.heap.size ≤ l) (h : W.heap[l]? = some o) (hc : o.isCells = false) (_ : o.isWalk = false) : KpN W (W.putObj l o') := fun i cur fr hi => by
  have hne : i ≠ l := by
    rintro rfl
    rw [h] at hi
    cases hi
    simp [Obj.isCells] at hc
  exact (World.putObj_heap_other hne).trans hi
theorem pickedA (E : List I.Ent) : I.A.picked E = E.map (·.key) := by
  show (E.filter fun _ => true).map _ = _
  rw [List.filter_eq_self.2 (fun _ _ => rfl)]
theorem attach_secs (L : List Ln) : L.attach.map (fun x => (x.1.sec : Int)) = L.map (fun l => (l.sec : Int)) := by
  have h : L.attach.map (fun x => (x.1.sec : Int)) = (L.attach.map Subtype.val).map (fun l => (l.sec : Int)) := by rw [List.map_map]; rfl
  rw [h, List.attach_map_subtype_val]
theorem find_at {L L1 L2 : List Ln} {l : Ln} {p : Ln → Bool} (h : L = L1 ++ l :: L2) (h1 : ∀ x ∈ L1, p x = false) (h2 : p l = true) : L.find? p = some l := by
  rw [h, List.find?_append, List.find?_eq_none.2 (fun x hx => by simp [h1 x hx])]
  simp [h2]
abbrev TPc : TypeId := 29
abbrev TFn : TypeId := 94
abbrev TBo : TypeId := 4
theorem results_cell2 {fn : Func} {p q : Tmp} {tp tq : TypeId} (h : fn.results = #[.cell p tp, .cell q tq]) (tmps : Array Value) (P : Program) (w : World) :
    (results fn tmps).run P w = ((asAddr (tmps.getD p undef)).run P w).andThen fun a w₁ => ((loadVar tp a).run P w₁).andThen fun v w₂ => ((asAddr (tmps.getD q undef)).run P w₂).andThen fun b w₃ => ((loadVar tq b).run P w₃).andThen fun u w₄ => .ok (.tuple #[v, u]) w₄ := by
  simp only [results, h]
  simp [Sem.run_bind, Result.andThen]
theorem load_int {w : World} {a : Addr} {x : Int} (h : w.cell? a = some (.int .i64 x)) : (loadVar TIn a).run Tryz.prog w = .ok (.int .i64 x) w := by
  simp [loadVar, go_sem, h]
theorem load_bool {w : World} {a : Addr} {x : Bool} (h : w.cell? a = some (.bool x)) : (loadVar TBo a).run Tryz.prog w = .ok (.bool x) w := by
  simp [loadVar, go_sem, h]
theorem load_two {w : World} {a b : Addr} {x : Int} {y : Bool} (h : w.cell? a = some (.int .i64 x)) (h' : w.cell? b = some (.bool y)) :
    (((asAddr (.pointer (some a))).run Tryz.prog w).andThen fun a w₁ => ((loadVar TIn a).run Tryz.prog w₁).andThen fun v w₂ => ((asAddr (.pointer (some b))).run Tryz.prog w₂).andThen fun b w₃ => ((loadVar TBo b).run Tryz.prog w₃).andThen fun u w₄ => Result.ok (Value.tuple #[v, u]) w₄) = Result.ok (Value.tuple #[.int .i64 x, .bool y]) w := by
  have e : ∀ (a : Addr) (w : World), (asAddr (.pointer (some a))).run Tryz.prog w = .ok a w := fun _ _ => rfl
  rw [e]
  simp only [Result.andThen]
  rw [load_int h]
  simp only
  rw [e]
  simp only
  rw [load_bool h']
end Go.Proofs.YtbamjfnjenmdaaaGreat.C
