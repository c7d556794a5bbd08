import Derived.Test.YtijimcjmpeakpaaGreatProg
import Derived.Sort.QuietIn
import Derived.Test.YtijimcjmpeakpaaGreatG32
import Derived.Test.YtijimcjmpeakpaaGreatG35
import Derived.Laws.ResultCell
namespace Go.Proofs.YtijimcjmpeakpaaGreat
variable {F : Fence} {n : Nat} {P : Program} {C : World → Prop} {ops : Array Oper}
/-- no operation defers -/
def NoDefer (ops : Array Oper) : Bool := ops.all fun o => match o.op with | .defer _ => false | _ => true
theorem noDefer_at {ops : Array Oper} (h : NoDefer ops = true) {i : Nat} {o : Oper} (ho : ops[i]? = some o) : ∀ c, o.op ≠ .defer c := by
  intro c hc
  unfold NoDefer at h
  rw [Array.all_eq_true] at h
  obtain ⟨hi, rfl⟩ := Array.getElem?_eq_some_iff.1 ho
  have := h i hi
  rw [hc] at this
  cases this
theorem semAt_any (ro : Option Nat) (ρ : Operand → Value) (o : Oper) (h : ∀ c, o.op ≠ .defer c) : Oper.semAt ro ρ o = execOp ρ o := by
  cases ro with
  | none => exact Oper.semAt_none _ _
  | some l => exact Oper.semAt_some l ρ o h
theorem oper_quiet {o : Oper} {a : Act} {K : Act → Prop} {K' : Act → World → Prop} {Q' : Exit → Act → World → Prop} {w : World} (hnd : ∀ c, o.op ≠ .defer c) (hw : C w) (h : ∀ a w', C w' → K a → K' a w')
    (ha : o.askedIn F P a C) (hh : o.quietIn F n P a C K) : o.wpIn F n P a w K' Q' := by
  obtain ⟨v, h1, h2⟩ := hh
  have h3 := h1 w hw
  unfold Oper.quietAtIn at h3
  unfold Oper.wpIn
  refine ⟨ha w hw, ?_⟩
  rw [semAt_any F.round a.eval o hnd]
  generalize (execOp a.eval o).run P w = r at *
  cases r with
  | ok x w' =>
    cases x <;> simp only [Oper.quietUponIn] at h3 <;> simp only [Oper.uponIn]
    case value u =>
      obtain ⟨e1, e2⟩ := h3
      rw [e1, e2]
      exact h _ _ hw h2
    case skip =>
      obtain ⟨e1, e2⟩ := h3
      rw [e1, ← e2]
      exact h _ _ hw h2
    case enter f args =>
      obtain ⟨e1, hd, hc⟩ := h3
      rw [e1]
      exact ⟨hd, hc.mono fun e w'' ⟨he, hw''⟩ => by subst he; exact h _ _ hw'' h2⟩
  | halt x w' => simp only [Oper.quietUponIn] at h3
theorem op_quiet (hnd : NoDefer ops = true) {i : Nat} {a : Act} {K : Act → Prop} {K' : Act → World → Prop} {Q' : Exit → Act → World → Prop} {w : World} (hC : C w) (h : ∀ a w', C w' → K a → K' a w')
    (hh : qOpIn F n P ops C i K a) : wpOpIn F n P ops Q' i K' a w := by
  unfold qOpIn at hh
  unfold wpOpIn
  split
  · rename_i ho; simp only [ho] at hh; exact h _ _ hC hh
  · rename_i o ho
    simp only [ho] at hh
    obtain ⟨ha, hh⟩ := hh
    split
    · rename_i hw; simp only [hw, if_true] at hh; exact oper_quiet (noDefer_at hnd ho) hC h ha hh
    · rename_i hw; simp only [hw] at hh; exact ⟨ha w hC, h _ _ hC hh⟩
theorem any_quiet {md : Region.Mode} (hnd : NoDefer ops = true) {Q : Act → Prop} {Q' : Exit → Act → World → Prop} (hQ : ∀ a w, C w → Q a → Q' .normal a w) : ∀ (fuel : Nat) (listed : Array Bool) (a : Act) (w : World), C w →
    wpAnyQIn F n P md ops C Q fuel listed a → wpAnyIn F n P md ops Q' fuel listed a w
  | 0, _, _, _, hw, h => ⟨h.1, hQ _ _ hw h.2⟩
  | fuel + 1, _, _, _, hw, h => ⟨fun h0 => hQ _ _ hw (h.1 h0), fun i hi => op_quiet hnd hw (fun a' w' hw' => any_quiet hnd hQ fuel _ a' w' hw') (h.2 i hi)⟩
/-- a quiet region, in a round too -/
theorem region_quiet {id : Nat} {Q : Exit → Act → World → Prop} {a : Act} {w : World} {l : List Oper} (hnd : NoDefer l.toArray = true) (hm : P.follows .mixedOrders = true) (hB : Region.lexB .any l.toArray = true)
    (h : wpQuietIn F n P l.toArray (fun w' => ∃ n, w' = w.drewN n) (fun a' => ∀ w', (∃ n, w' = w.drewN n) → Q .normal a' w') l a) : (Code.region id l.toArray true).wpIn F n P Q a w := by
  simp only [Region.lexB, Bool.and_eq_true] at hB
  refine wpIn_region_any hm (any_quiet (C := fun w' => ∃ n, w' = w.drewN n) (Q := fun a' => ∀ w', (∃ n, w' = w.drewN n) → Q .normal a' w') hnd (fun _ w' hw' h => h w' hw') _ _ _ _ ⟨1, rfl⟩ ?_)
  have := wpAnyQIn_lex (F := F) (n := n) (C := fun w' => ∃ n, w' = w.drewN n) (md := .any) hB.1 l 0 (Array.replicate l.length false) a (by simp) (by simpa using hB.2) h
  simpa using this
/-- a class of worlds, as a type -/
structure CW (C : World → Prop) where
  x : World
  h : C x
/-- a region whose calls lead from a class of worlds into it -/
theorem region_quietC {id : Nat} {D : World → Prop} {Q : Exit → Act → World → Prop} {a : Act} {w : World} {l : List Oper} (hnd : NoDefer l.toArray = true) (hm : P.follows .mixedOrders = true) (hB : Region.lexB .any l.toArray = true) (h0 : D w.drew)
    (h : wpQuietIn F n P l.toArray (fun w' => ∃ p : CW D, w' = p.x) (fun a' => ∀ w', (∃ p : CW D, w' = p.x) → Q .normal a' w') l a) : (Code.region id l.toArray true).wpIn F n P Q a w := by
  simp only [Region.lexB, Bool.and_eq_true] at hB
  refine wpIn_region_any hm (any_quiet (C := fun w' => ∃ p : CW D, w' = p.x) (Q := fun a' => ∀ w', (∃ p : CW D, w' = p.x) → Q .normal a' w') hnd (fun _ w' hw' h => h w' hw') _ _ _ _ ⟨⟨_, h0⟩, rfl⟩ ?_)
  have := wpAnyQIn_lex (F := F) (n := n) (C := fun w' => ∃ p : CW D, w' = p.x) (md := .any) hB.1 l 0 (Array.replicate l.length false) a (by simp) (by simpa using hB.2) h
  simpa using this
theorem mixed : Tryz.prog.follows .mixedOrders = true := by kernel_rfl
end Go.Proofs.YtijimcjmpeakpaaGreat

namespace Go.Proofs.YtijimcjmpeakpaaGreat.C
open Go.RowKit Go.Maps Go.Shelf Go.Proofs.YtijimcjmpeakpaaGreat
attribute [local go_sem] Oper.semAt_some
set_option linter.unusedVariables false
set_option linter.unusedSimpArgs false
set_option maxRecDepth 100000

/-- a question of a line -/
def Pk (f : Nat) (p : Ln → Bool) : Prop := ∀ (W : World) (l : Ln), W.heap[l.blk]? = some (.cells (lcells l) TLn (0, 0)) → K.OkB l.dat → Calls Tryz.prog f #[.pointer (some ⟨l.blk, 0, none⟩)] W fun r w' => r = .returned (.bool (p l)) ∧ w' = W
def mayGo (l : Ln) : Bool := !l.dirty || !l.note
def isData (l : Ln) : Bool := !l.note
def isNoted (l : Ln) : Bool := l.note
def dirtyData (l : Ln) : Bool := l.dirty && !l.note
theorem pk_may : Pk 75 mayGo := fun W l hl hok => by
  have c1 : W.cell? ⟨l.blk, 512, none⟩ = some (.bool l.dirty) := (K.cell_of hl).trans (lcells_dirty hok)
  have c2 : W.cell? ⟨l.blk, 513, none⟩ = some (.bool l.note) := (K.cell_of hl).trans (lcells_note hok)
  unfold mayGo
  generalize l.dirty = d at *
  generalize l.note = n at *
  clear hl hok
  cases d
  · go_enter Tryz.func75, Tryz.ntmps75
    go_wp2
    go_ret
    exact ⟨rfl, rfl⟩
  · go_enter Tryz.func75, Tryz.ntmps75
    go_wp2
    go_ret
    exact ⟨by simp, rfl⟩
theorem pk_data : Pk 51 isData := fun W l hl hok => by
  have c2 : W.cell? ⟨l.blk, 513, none⟩ = some (.bool l.note) := (K.cell_of hl).trans (lcells_note hok)
  unfold isData
  clear hl hok
  go_enter Tryz.func51, Tryz.ntmps51
  go_wp2
  go_ret
  exact ⟨rfl, rfl⟩
theorem pk_note : Pk 53 isNoted := fun W l hl hok => by
  have c2 : W.cell? ⟨l.blk, 513, none⟩ = some (.bool l.note) := (K.cell_of hl).trans (lcells_note hok)
  unfold isNoted
  clear hl hok
  go_enter Tryz.func53, Tryz.ntmps53
  go_wp2
  go_ret
  exact ⟨rfl, rfl⟩
theorem pk_back : Pk 58 dirtyData := fun W l hl hok => by
  have c1 : W.cell? ⟨l.blk, 512, none⟩ = some (.bool l.dirty) := (K.cell_of hl).trans (lcells_dirty hok)
  have c2 : W.cell? ⟨l.blk, 513, none⟩ = some (.bool l.note) := (K.cell_of hl).trans (lcells_note hok)
  unfold dirtyData
  generalize l.dirty = d at *
  generalize l.note = n at *
  clear hl hok
  cases d
  · go_enter Tryz.func58, Tryz.ntmps58
    go_wp2
    go_ret
    exact ⟨rfl, rfl⟩
  · go_enter Tryz.func58, Tryz.ntmps58
    go_wp2
    go_ret
    exact ⟨by simp, rfl⟩
def secOf : Option Ln → Int
  | none => 0
  | some l => l.sec
/-- rows of keys are kept -/
def KpN (W W' : World) : Prop := ∀ (k : Nat) (cur : Array Value) (fr : Nat × Nat), W.heap[k]? = some (.cells cur I.TKey fr) → W'.heap[k]? = some (.cells cur I.TKey fr)
theorem kpN_row : I.A.KeepsRow KpN (fun _ _ => True) := ⟨fun h _ hc => ⟨h _ _ _ hc, trivial⟩⟩
theorem kpN_t {A B C : World} (h : KpN A B) (k : KpN B C) : KpN A C := fun i cur fr hi => k i cur fr (h i cur fr hi)
theorem kpN_b {w : World} (W : World) (l : Nat) (o o' : Obj) (_ : w.heap.size ≤ l) (h : W.heap[l]? = some o) (hc : o.isCells = false) (_ : o.isWalk = false) : KpN W (W.putObj l o') := fun i cur fr hi => by
  have hne : i ≠ l := by
    rintro rfl
    rw [h] at hi
    cases hi
    simp [Obj.isCells] at hc
  exact (World.putObj_heap_other hne).trans hi
theorem pickedA (E : List I.Ent) : I.A.picked E = E.map (·.key) := by
  show (E.filter fun _ => true).map _ = _
  rw [List.filter_eq_self.2 (fun _ _ => rfl)]
theorem attach_secs (L : List Ln) : L.attach.map (fun x => (x.1.sec : Int)) = L.map (fun l => (l.sec : Int)) := by
  have h : L.attach.map (fun x => (x.1.sec : Int)) = (L.attach.map Subtype.val).map (fun l => (l.sec : Int)) := by rw [List.map_map]; rfl
  rw [h, List.attach_map_subtype_val]
theorem find_at {L L1 L2 : List Ln} {l : Ln} {p : Ln → Bool} (h : L = L1 ++ l :: L2) (h1 : ∀ x ∈ L1, p x = false) (h2 : p l = true) : L.find? p = some l := by
  rw [h, List.find?_append, List.find?_eq_none.2 (fun x hx => by simp [h1 x hx])]
  simp [h2]
abbrev TPc : TypeId := 28
abbrev TFn : TypeId := 125
abbrev TBo : TypeId := 4
theorem results_cell2 {fn : Func} {p q : Tmp} {tp tq : TypeId} (h : fn.results = #[.cell p tp, .cell q tq]) (tmps : Array Value) (P : Program) (w : World) :
    (results fn tmps).run P w = ((asAddr (tmps.getD p undef)).run P w).andThen fun a w₁ => ((loadVar tp a).run P w₁).andThen fun v w₂ => ((asAddr (tmps.getD q undef)).run P w₂).andThen fun b w₃ => ((loadVar tq b).run P w₃).andThen fun u w₄ => .ok (.tuple #[v, u]) w₄ := by
  simp only [results, h]
  simp [Sem.run_bind, Result.andThen]
theorem load_int {w : World} {a : Addr} {x : Int} (h : w.cell? a = some (.int .i64 x)) : (loadVar TIn a).run Tryz.prog w = .ok (.int .i64 x) w := by
  simp [loadVar, go_sem, h]
theorem load_bool {w : World} {a : Addr} {x : Bool} (h : w.cell? a = some (.bool x)) : (loadVar TBo a).run Tryz.prog w = .ok (.bool x) w := by
  simp [loadVar, go_sem, h]
theorem load_two {w : World} {a b : Addr} {x : Int} {y : Bool} (h : w.cell? a = some (.int .i64 x)) (h' : w.cell? b = some (.bool y)) :
    (((asAddr (.pointer (some a))).run Tryz.prog w).andThen fun a w₁ => ((loadVar TIn a).run Tryz.prog w₁).andThen fun v w₂ => ((asAddr (.pointer (some b))).run Tryz.prog w₂).andThen fun b w₃ => ((loadVar TBo b).run Tryz.prog w₃).andThen fun u w₄ => Result.ok (Value.tuple #[v, u]) w₄) = Result.ok (Value.tuple #[.int .i64 x, .bool y]) w := by
  have e : ∀ (a : Addr) (w : World), (asAddr (.pointer (some a))).run Tryz.prog w = .ok a w := fun _ _ => rfl
  rw [e]
  simp only [Result.andThen]
  rw [load_int h]
  simp only
  rw [e]
  simp only
  rw [load_bool h']
end Go.Proofs.YtijimcjmpeakpaaGreat.C
