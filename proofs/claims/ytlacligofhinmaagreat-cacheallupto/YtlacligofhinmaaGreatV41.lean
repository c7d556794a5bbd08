import Derived.Test.YtlacligofhinmaaGreatV40
import Derived.Test.YtlacligofhinmaaGreatV27
import Derived.Test.YtlacligofhinmaaGreatV8
namespace Go.Proofs.YtlacligofhinmaaGreat.C
open Go.RowKit Go.Maps Go.Shelf Go.Proofs.YtlacligofhinmaaGreat
attribute [local go_sem] Oper.semAt_some
set_option linter.unusedVariables false
set_option linter.unusedSimpArgs false
set_option maxRecDepth 100000

theorem getD_tt {l : Array Bool} {j : Nat} (h : l.getD j false = true) : l.getD j true = true := by
  rw [Array.getD_eq_getD_getElem?] at h ⊢
  cases hj : l[j]? with
  | none => rfl
  | some b => rw [hj] at h; exact h
theorem wpOpIn_want {F : Fence} {n : Nat} {P : Program} {ops : Array Oper} {Q : Exit → Act → World → Prop} {i : Nat} {o : Oper} {K : Act → World → Prop} {a : Act} {w : World} (ho : ops[i]? = some o) (hg : o.guard = none) (h : ∀ K' : Act → World → Prop, (∀ a w, K a w → K' a w) → o.wpIn F n P a w K' Q) : wpOpIn F n P ops Q i K a w := by
  unfold wpOpIn
  simp only [ho]
  rw [if_pos (by simp [Region.wanted, hg])]
  exact h K (fun _ _ h => h)
/-- append, by what it gives -/
theorem wpIn_append {F : Fence} {n : Nat} {P : Program} {Q : Exit → Act → World → Prop} {o : Oper} {K : Act → World → Prop} {a : Act} {w w' : World} (hfn : ∀ f, F.fn f) (s x : Operand) (t : TypeId) (ho : o.op = .call { callee := .builtin .append, args := #[s, x], argTypes := #[t, t] }) {v u r : Value} (hs : a.eval s = v) (hx : a.eval x = u) (hr : (Builtin.append_ #[t, t] o.type #[v, u]).run P w = .ok r w') (h : K (a.put o.dst r) w') : o.wpIn F n P a w K Q := by
  unfold Oper.wpIn
  refine ⟨fun f _ => hfn f, ?_⟩
  rw [semAt_any F.round a.eval o (fun c hc => by rw [ho] at hc; cases hc)]
  unfold execOp
  simp only [ho, resolve, invoke, builtin, Sem.run_bind, Sem.run_pure, Result.andThen_ok, List.map_toArray, List.map_cons, List.map_nil, hs, hx, hr]
  exact h
/-- each operation comes behind those that it leans on -/
def topo (ops : Array Oper) : Bool := (List.range ops.size).all fun j => match ops[j]? with
  | some o => o.after.all fun e => decide (e.on < j)
  | none => true
theorem ready_all {md : Region.Mode} {ops : Array Oper} {l : Array Bool} (ht : topo ops = true) (hs : l.size = ops.size) (h : Region.ready md ops l = []) : ∀ j, l.getD j true = true := by
  intro j
  induction j using Nat.strongRecOn with
  | _ j ih =>
    cases hb : l.getD j true with
    | true => rfl
    | false =>
      have hj : j < ops.size := by
        rcases Nat.lt_or_ge j ops.size with h1 | h1
        · exact h1
        · rw [Array.getD_eq_getD_getElem?, Array.getElem?_eq_none (by omega)] at hb; cases hb
      have ho : ops[j]? = some ops[j] := Array.getElem?_eq_getElem hj
      have ht1 := List.all_eq_true.1 ht j (List.mem_range.2 hj)
      rw [ho] at ht1
      simp only [Array.all_eq_true'] at ht1
      have hm : j ∈ Region.ready md ops l := mem_ready.2 ⟨hb, _, ho, fun e he _ => by
        have hlt : e.on < j := by simpa using ht1 e he
        have h1 := ih e.on hlt
        rw [Array.getD_eq_getD_getElem?, Array.getElem?_eq_getElem (by omega)] at h1 ⊢
        exact h1⟩
      rw [h] at hm
      cases hm
/-- the frame of told's body -/
abbrev tact (bc bo bl blk H : Nat) (sec : Int) (x0 x1 x2 x3 x4 x5 x6 x7 x8 x9 x10 x11 x12 : Value) : Act := { tmps := #[.pointer (some ⟨bc, 0, none⟩), .pointer (some ⟨H, 0, none⟩), .slice none 0 0, .pointer (some ⟨H + 1, 0, none⟩), .int .i64 sec, .pointer (some ⟨blk, 0, none⟩), .pointer (some ⟨bc, 0, none⟩), .bool true, .bool false, .pointer (some ⟨bc, 0, none⟩), .pointer (some ⟨bc, 0, none⟩), .pointer (some ⟨bc, 4, none⟩), .pointer (some ⟨bo, 0, none⟩), .func (.func 157) #[] #[.pointer (some ⟨H + 1 + 1, 0, none⟩), .pointer (some ⟨H + 1 + 1 + 1, 0, none⟩)], .int .i64 sec, .pointer (some ⟨bc, 0, none⟩), .pointer (some ⟨bc, 0, none⟩), .pointer (some ⟨bc, 3, none⟩), .map (some bl), .int .i64 sec, .pointer (some ⟨blk, 0, none⟩), x0, x1, x2, x3, x4, x5, x6, x7, x8, x9, x10, x11, x12, undef], defers := [] }
structure TI (bc bo bl blk H : Nat) (sec : Int) (dy nt : Bool) (tv av : Value) (W D1 D2 D3 : World) (l : Array Bool) (x0 x1 x2 x3 x4 x5 x6 x7 x8 x9 x10 x11 x12 : Value) (w : World) : Prop where
  sz : l.size = 14
  h0 : l.getD 0 true = true → x0 = tv
  h1 : l.getD 1 true = true → x1 = .int .i64 sec
  h2 : l.getD 2 true = true → x2 = .pointer (some ⟨blk, 0, none⟩)
  h3 : l.getD 3 true = true → x3 = .pointer (some ⟨blk, 0, none⟩)
  h4 : l.getD 4 true = true → x4 = .pointer (some ⟨blk, 512, none⟩)
  h5 : l.getD 5 true = true → x5 = .bool dy
  h6 : l.getD 6 true = true → x6 = .pointer (some ⟨blk, 0, none⟩)
  h7 : l.getD 7 true = true → x7 = .pointer (some ⟨blk, 0, none⟩)
  h8 : l.getD 8 true = true → x8 = .pointer (some ⟨blk, 513, none⟩)
  h9 : l.getD 9 true = true → x9 = .bool nt
  h10 : l.getD 10 true = true → x10 = .agg #[.int .i64 sec, .bool dy, .bool nt]
  h11 : l.getD 11 true = true → x11 = .slice (some ⟨W.heap.size, 0, none⟩) 1 1
  h12 : l.getD 12 true = true → x12 = av
  w0 : l.getD 11 true = false → w = W.drew
  w1 : l.getD 11 true = true → l.getD 12 true = false → w = D1
  w2 : l.getD 12 true = true → l.getD 13 true = false → w = D2
  w3 : l.getD 13 true = true → w = D3
  o1 : l.getD 12 true = true → l.getD 11 true = true
  o2 : l.getD 13 true = true → l.getD 12 true = true
  o3 : l.getD 12 true = true → l.getD 0 true = true
  o4 : l.getD 11 true = true → l.getD 10 true = true
  o5 : l.getD 10 true = true → l.getD 5 true = true
  o6 : l.getD 10 true = true → l.getD 9 true = true
/-- one of the quiet operations is listed -/
theorem TI.s0 {bc bo bl blk H : Nat} {sec : Int} {dy nt : Bool} {tv av : Value} {W D1 D2 D3 : World} {l : Array Bool} {x0 x1 x2 x3 x4 x5 x6 x7 x8 x9 x10 x11 x12 : Value} {w : World} (h : TI bc bo bl blk H sec dy nt tv av W D1 D2 D3 l x0 x1 x2 x3 x4 x5 x6 x7 x8 x9 x10 x11 x12 w) (hk : l.getD 0 true = false) : TI bc bo bl blk H sec dy nt tv av W D1 D2 D3 (l.setIfInBounds 0 true) (tv) x1 x2 x3 x4 x5 x6 x7 x8 x9 x10 x11 x12 w := by
  refine ⟨by rw [Array.size_setIfInBounds]; exact h.sz, fun _ => rfl, fun e => h.h1 (by rw [getD_set] at e; simpa using e), fun e => h.h2 (by rw [getD_set] at e; simpa using e), fun e => h.h3 (by rw [getD_set] at e; simpa using e), fun e => h.h4 (by rw [getD_set] at e; simpa using e), fun e => h.h5 (by rw [getD_set] at e; simpa using e), fun e => h.h6 (by rw [getD_set] at e; simpa using e), fun e => h.h7 (by rw [getD_set] at e; simpa using e), fun e => h.h8 (by rw [getD_set] at e; simpa using e), fun e => h.h9 (by rw [getD_set] at e; simpa using e), fun e => h.h10 (by rw [getD_set] at e; simpa using e), fun e => h.h11 (by rw [getD_set] at e; simpa using e), fun e => h.h12 (by rw [getD_set] at e; simpa using e), ?_, ?_, ?_, ?_, ?_, ?_, ?_, ?_, ?_, ?_⟩
  · simpa [getD_set] using h.w0
  · simpa [getD_set] using h.w1
  · simpa [getD_set] using h.w2
  · simpa [getD_set] using h.w3
  · simpa [getD_set] using h.o1
  · simpa [getD_set] using h.o2
  · intro _; rw [getD_set]; simp
  · intro e; rw [getD_set] at e ⊢; have e2 : l.getD 11 true = true := (by simpa using e)
    have := h.o4 e2; simp [this]
  · intro e; rw [getD_set] at e ⊢; have e2 : l.getD 10 true = true := (by simpa using e)
    have := h.o5 e2; simp [this]
  · intro e; rw [getD_set] at e ⊢; have e2 : l.getD 10 true = true := (by simpa using e)
    have := h.o6 e2; simp [this]
theorem TI.s1 {bc bo bl blk H : Nat} {sec : Int} {dy nt : Bool} {tv av : Value} {W D1 D2 D3 : World} {l : Array Bool} {x0 x1 x2 x3 x4 x5 x6 x7 x8 x9 x10 x11 x12 : Value} {w : World} (h : TI bc bo bl blk H sec dy nt tv av W D1 D2 D3 l x0 x1 x2 x3 x4 x5 x6 x7 x8 x9 x10 x11 x12 w) (hk : l.getD 1 true = false) : TI bc bo bl blk H sec dy nt tv av W D1 D2 D3 (l.setIfInBounds 1 true) x0 (.int .i64 sec) x2 x3 x4 x5 x6 x7 x8 x9 x10 x11 x12 w := by
  refine ⟨by rw [Array.size_setIfInBounds]; exact h.sz, fun e => h.h0 (by rw [getD_set] at e; simpa using e), fun _ => rfl, fun e => h.h2 (by rw [getD_set] at e; simpa using e), fun e => h.h3 (by rw [getD_set] at e; simpa using e), fun e => h.h4 (by rw [getD_set] at e; simpa using e), fun e => h.h5 (by rw [getD_set] at e; simpa using e), fun e => h.h6 (by rw [getD_set] at e; simpa using e), fun e => h.h7 (by rw [getD_set] at e; simpa using e), fun e => h.h8 (by rw [getD_set] at e; simpa using e), fun e => h.h9 (by rw [getD_set] at e; simpa using e), fun e => h.h10 (by rw [getD_set] at e; simpa using e), fun e => h.h11 (by rw [getD_set] at e; simpa using e), fun e => h.h12 (by rw [getD_set] at e; simpa using e), ?_, ?_, ?_, ?_, ?_, ?_, ?_, ?_, ?_, ?_⟩
  · simpa [getD_set] using h.w0
  · simpa [getD_set] using h.w1
  · simpa [getD_set] using h.w2
  · simpa [getD_set] using h.w3
  · simpa [getD_set] using h.o1
  · simpa [getD_set] using h.o2
  · intro e; rw [getD_set] at e ⊢; have e2 : l.getD 12 true = true := (by simpa using e)
    have := h.o3 e2; simp [this]
  · intro e; rw [getD_set] at e ⊢; have e2 : l.getD 11 true = true := (by simpa using e)
    have := h.o4 e2; simp [this]
  · intro e; rw [getD_set] at e ⊢; have e2 : l.getD 10 true = true := (by simpa using e)
    have := h.o5 e2; simp [this]
  · intro e; rw [getD_set] at e ⊢; have e2 : l.getD 10 true = true := (by simpa using e)
    have := h.o6 e2; simp [this]
theorem TI.s2 {bc bo bl blk H : Nat} {sec : Int} {dy nt : Bool} {tv av : Value} {W D1 D2 D3 : World} {l : Array Bool} {x0 x1 x2 x3 x4 x5 x6 x7 x8 x9 x10 x11 x12 : Value} {w : World} (h : TI bc bo bl blk H sec dy nt tv av W D1 D2 D3 l x0 x1 x2 x3 x4 x5 x6 x7 x8 x9 x10 x11 x12 w) (hk : l.getD 2 true = false) : TI bc bo bl blk H sec dy nt tv av W D1 D2 D3 (l.setIfInBounds 2 true) x0 x1 (.pointer (some ⟨blk, 0, none⟩)) x3 x4 x5 x6 x7 x8 x9 x10 x11 x12 w := by
  refine ⟨by rw [Array.size_setIfInBounds]; exact h.sz, fun e => h.h0 (by rw [getD_set] at e; simpa using e), fun e => h.h1 (by rw [getD_set] at e; simpa using e), fun _ => rfl, fun e => h.h3 (by rw [getD_set] at e; simpa using e), fun e => h.h4 (by rw [getD_set] at e; simpa using e), fun e => h.h5 (by rw [getD_set] at e; simpa using e), fun e => h.h6 (by rw [getD_set] at e; simpa using e), fun e => h.h7 (by rw [getD_set] at e; simpa using e), fun e => h.h8 (by rw [getD_set] at e; simpa using e), fun e => h.h9 (by rw [getD_set] at e; simpa using e), fun e => h.h10 (by rw [getD_set] at e; simpa using e), fun e => h.h11 (by rw [getD_set] at e; simpa using e), fun e => h.h12 (by rw [getD_set] at e; simpa using e), ?_, ?_, ?_, ?_, ?_, ?_, ?_, ?_, ?_, ?_⟩
  · simpa [getD_set] using h.w0
  · simpa [getD_set] using h.w1
  · simpa [getD_set] using h.w2
  · simpa [getD_set] using h.w3
  · simpa [getD_set] using h.o1
  · simpa [getD_set] using h.o2
  · intro e; rw [getD_set] at e ⊢; have e2 : l.getD 12 true = true := (by simpa using e)
    have := h.o3 e2; simp [this]
  · intro e; rw [getD_set] at e ⊢; have e2 : l.getD 11 true = true := (by simpa using e)
    have := h.o4 e2; simp [this]
  · intro e; rw [getD_set] at e ⊢; have e2 : l.getD 10 true = true := (by simpa using e)
    have := h.o5 e2; simp [this]
  · intro e; rw [getD_set] at e ⊢; have e2 : l.getD 10 true = true := (by simpa using e)
    have := h.o6 e2; simp [this]
theorem TI.s3 {bc bo bl blk H : Nat} {sec : Int} {dy nt : Bool} {tv av : Value} {W D1 D2 D3 : World} {l : Array Bool} {x0 x1 x2 x3 x4 x5 x6 x7 x8 x9 x10 x11 x12 : Value} {w : World} (h : TI bc bo bl blk H sec dy nt tv av W D1 D2 D3 l x0 x1 x2 x3 x4 x5 x6 x7 x8 x9 x10 x11 x12 w) (hk : l.getD 3 true = false) : TI bc bo bl blk H sec dy nt tv av W D1 D2 D3 (l.setIfInBounds 3 true) x0 x1 x2 (.pointer (some ⟨blk, 0, none⟩)) x4 x5 x6 x7 x8 x9 x10 x11 x12 w := by
  refine ⟨by rw [Array.size_setIfInBounds]; exact h.sz, fun e => h.h0 (by rw [getD_set] at e; simpa using e), fun e => h.h1 (by rw [getD_set] at e; simpa using e), fun e => h.h2 (by rw [getD_set] at e; simpa using e), fun _ => rfl, fun e => h.h4 (by rw [getD_set] at e; simpa using e), fun e => h.h5 (by rw [getD_set] at e; simpa using e), fun e => h.h6 (by rw [getD_set] at e; simpa using e), fun e => h.h7 (by rw [getD_set] at e; simpa using e), fun e => h.h8 (by rw [getD_set] at e; simpa using e), fun e => h.h9 (by rw [getD_set] at e; simpa using e), fun e => h.h10 (by rw [getD_set] at e; simpa using e), fun e => h.h11 (by rw [getD_set] at e; simpa using e), fun e => h.h12 (by rw [getD_set] at e; simpa using e), ?_, ?_, ?_, ?_, ?_, ?_, ?_, ?_, ?_, ?_⟩
  · simpa [getD_set] using h.w0
  · simpa [getD_set] using h.w1
  · simpa [getD_set] using h.w2
  · simpa [getD_set] using h.w3
  · simpa [getD_set] using h.o1
  · simpa [getD_set] using h.o2
  · intro e; rw [getD_set] at e ⊢; have e2 : l.getD 12 true = true := (by simpa using e)
    have := h.o3 e2; simp [this]
  · intro e; rw [getD_set] at e ⊢; have e2 : l.getD 11 true = true := (by simpa using e)
    have := h.o4 e2; simp [this]
  · intro e; rw [getD_set] at e ⊢; have e2 : l.getD 10 true = true := (by simpa using e)
    have := h.o5 e2; simp [this]
  · intro e; rw [getD_set] at e ⊢; have e2 : l.getD 10 true = true := (by simpa using e)
    have := h.o6 e2; simp [this]
theorem TI.s4 {bc bo bl blk H : Nat} {sec : Int} {dy nt : Bool} {tv av : Value} {W D1 D2 D3 : World} {l : Array Bool} {x0 x1 x2 x3 x4 x5 x6 x7 x8 x9 x10 x11 x12 : Value} {w : World} (h : TI bc bo bl blk H sec dy nt tv av W D1 D2 D3 l x0 x1 x2 x3 x4 x5 x6 x7 x8 x9 x10 x11 x12 w) (hk : l.getD 4 true = false) : TI bc bo bl blk H sec dy nt tv av W D1 D2 D3 (l.setIfInBounds 4 true) x0 x1 x2 x3 (.pointer (some ⟨blk, 512, none⟩)) x5 x6 x7 x8 x9 x10 x11 x12 w := by
  refine ⟨by rw [Array.size_setIfInBounds]; exact h.sz, fun e => h.h0 (by rw [getD_set] at e; simpa using e), fun e => h.h1 (by rw [getD_set] at e; simpa using e), fun e => h.h2 (by rw [getD_set] at e; simpa using e), fun e => h.h3 (by rw [getD_set] at e; simpa using e), fun _ => rfl, fun e => h.h5 (by rw [getD_set] at e; simpa using e), fun e => h.h6 (by rw [getD_set] at e; simpa using e), fun e => h.h7 (by rw [getD_set] at e; simpa using e), fun e => h.h8 (by rw [getD_set] at e; simpa using e), fun e => h.h9 (by rw [getD_set] at e; simpa using e), fun e => h.h10 (by rw [getD_set] at e; simpa using e), fun e => h.h11 (by rw [getD_set] at e; simpa using e), fun e => h.h12 (by rw [getD_set] at e; simpa using e), ?_, ?_, ?_, ?_, ?_, ?_, ?_, ?_, ?_, ?_⟩
  · simpa [getD_set] using h.w0
  · simpa [getD_set] using h.w1
  · simpa [getD_set] using h.w2
  · simpa [getD_set] using h.w3
  · simpa [getD_set] using h.o1
  · simpa [getD_set] using h.o2
  · intro e; rw [getD_set] at e ⊢; have e2 : l.getD 12 true = true := (by simpa using e)
    have := h.o3 e2; simp [this]
  · intro e; rw [getD_set] at e ⊢; have e2 : l.getD 11 true = true := (by simpa using e)
    have := h.o4 e2; simp [this]
  · intro e; rw [getD_set] at e ⊢; have e2 : l.getD 10 true = true := (by simpa using e)
    have := h.o5 e2; simp [this]
  · intro e; rw [getD_set] at e ⊢; have e2 : l.getD 10 true = true := (by simpa using e)
    have := h.o6 e2; simp [this]
theorem TI.s5 {bc bo bl blk H : Nat} {sec : Int} {dy nt : Bool} {tv av : Value} {W D1 D2 D3 : World} {l : Array Bool} {x0 x1 x2 x3 x4 x5 x6 x7 x8 x9 x10 x11 x12 : Value} {w : World} (h : TI bc bo bl blk H sec dy nt tv av W D1 D2 D3 l x0 x1 x2 x3 x4 x5 x6 x7 x8 x9 x10 x11 x12 w) (hk : l.getD 5 true = false) : TI bc bo bl blk H sec dy nt tv av W D1 D2 D3 (l.setIfInBounds 5 true) x0 x1 x2 x3 x4 (.bool dy) x6 x7 x8 x9 x10 x11 x12 w := by
  refine ⟨by rw [Array.size_setIfInBounds]; exact h.sz, fun e => h.h0 (by rw [getD_set] at e; simpa using e), fun e => h.h1 (by rw [getD_set] at e; simpa using e), fun e => h.h2 (by rw [getD_set] at e; simpa using e), fun e => h.h3 (by rw [getD_set] at e; simpa using e), fun e => h.h4 (by rw [getD_set] at e; simpa using e), fun _ => rfl, fun e => h.h6 (by rw [getD_set] at e; simpa using e), fun e => h.h7 (by rw [getD_set] at e; simpa using e), fun e => h.h8 (by rw [getD_set] at e; simpa using e), fun e => h.h9 (by rw [getD_set] at e; simpa using e), fun e => h.h10 (by rw [getD_set] at e; simpa using e), fun e => h.h11 (by rw [getD_set] at e; simpa using e), fun e => h.h12 (by rw [getD_set] at e; simpa using e), ?_, ?_, ?_, ?_, ?_, ?_, ?_, ?_, ?_, ?_⟩
  · simpa [getD_set] using h.w0
  · simpa [getD_set] using h.w1
  · simpa [getD_set] using h.w2
  · simpa [getD_set] using h.w3
  · simpa [getD_set] using h.o1
  · simpa [getD_set] using h.o2
  · intro e; rw [getD_set] at e ⊢; have e2 : l.getD 12 true = true := (by simpa using e)
    have := h.o3 e2; simp [this]
  · intro e; rw [getD_set] at e ⊢; have e2 : l.getD 11 true = true := (by simpa using e)
    have := h.o4 e2; simp [this]
  · intro _; rw [getD_set]; simp
  · intro e; rw [getD_set] at e ⊢; have e2 : l.getD 10 true = true := (by simpa using e)
    have := h.o6 e2; simp [this]
theorem TI.s6 {bc bo bl blk H : Nat} {sec : Int} {dy nt : Bool} {tv av : Value} {W D1 D2 D3 : World} {l : Array Bool} {x0 x1 x2 x3 x4 x5 x6 x7 x8 x9 x10 x11 x12 : Value} {w : World} (h : TI bc bo bl blk H sec dy nt tv av W D1 D2 D3 l x0 x1 x2 x3 x4 x5 x6 x7 x8 x9 x10 x11 x12 w) (hk : l.getD 6 true = false) : TI bc bo bl blk H sec dy nt tv av W D1 D2 D3 (l.setIfInBounds 6 true) x0 x1 x2 x3 x4 x5 (.pointer (some ⟨blk, 0, none⟩)) x7 x8 x9 x10 x11 x12 w := by
  refine ⟨by rw [Array.size_setIfInBounds]; exact h.sz, fun e => h.h0 (by rw [getD_set] at e; simpa using e), fun e => h.h1 (by rw [getD_set] at e; simpa using e), fun e => h.h2 (by rw [getD_set] at e; simpa using e), fun e => h.h3 (by rw [getD_set] at e; simpa using e), fun e => h.h4 (by rw [getD_set] at e; simpa using e), fun e => h.h5 (by rw [getD_set] at e; simpa using e), fun _ => rfl, fun e => h.h7 (by rw [getD_set] at e; simpa using e), fun e => h.h8 (by rw [getD_set] at e; simpa using e), fun e => h.h9 (by rw [getD_set] at e; simpa using e), fun e => h.h10 (by rw [getD_set] at e; simpa using e), fun e => h.h11 (by rw [getD_set] at e; simpa using e), fun e => h.h12 (by rw [getD_set] at e; simpa using e), ?_, ?_, ?_, ?_, ?_, ?_, ?_, ?_, ?_, ?_⟩
  · simpa [getD_set] using h.w0
  · simpa [getD_set] using h.w1
  · simpa [getD_set] using h.w2
  · simpa [getD_set] using h.w3
  · simpa [getD_set] using h.o1
  · simpa [getD_set] using h.o2
  · intro e; rw [getD_set] at e ⊢; have e2 : l.getD 12 true = true := (by simpa using e)
    have := h.o3 e2; simp [this]
  · intro e; rw [getD_set] at e ⊢; have e2 : l.getD 11 true = true := (by simpa using e)
    have := h.o4 e2; simp [this]
  · intro e; rw [getD_set] at e ⊢; have e2 : l.getD 10 true = true := (by simpa using e)
    have := h.o5 e2; simp [this]
  · intro e; rw [getD_set] at e ⊢; have e2 : l.getD 10 true = true := (by simpa using e)
    have := h.o6 e2; simp [this]
theorem TI.s7 {bc bo bl blk H : Nat} {sec : Int} {dy nt : Bool} {tv av : Value} {W D1 D2 D3 : World} {l : Array Bool} {x0 x1 x2 x3 x4 x5 x6 x7 x8 x9 x10 x11 x12 : Value} {w : World} (h : TI bc bo bl blk H sec dy nt tv av W D1 D2 D3 l x0 x1 x2 x3 x4 x5 x6 x7 x8 x9 x10 x11 x12 w) (hk : l.getD 7 true = false) : TI bc bo bl blk H sec dy nt tv av W D1 D2 D3 (l.setIfInBounds 7 true) x0 x1 x2 x3 x4 x5 x6 (.pointer (some ⟨blk, 0, none⟩)) x8 x9 x10 x11 x12 w := by
  refine ⟨by rw [Array.size_setIfInBounds]; exact h.sz, fun e => h.h0 (by rw [getD_set] at e; simpa using e), fun e => h.h1 (by rw [getD_set] at e; simpa using e), fun e => h.h2 (by rw [getD_set] at e; simpa using e), fun e => h.h3 (by rw [getD_set] at e; simpa using e), fun e => h.h4 (by rw [getD_set] at e; simpa using e), fun e => h.h5 (by rw [getD_set] at e; simpa using e), fun e => h.h6 (by rw [getD_set] at e; simpa using e), fun _ => rfl, fun e => h.h8 (by rw [getD_set] at e; simpa using e), fun e => h.h9 (by rw [getD_set] at e; simpa using e), fun e => h.h10 (by rw [getD_set] at e; simpa using e), fun e => h.h11 (by rw [getD_set] at e; simpa using e), fun e => h.h12 (by rw [getD_set] at e; simpa using e), ?_, ?_, ?_, ?_, ?_, ?_, ?_, ?_, ?_, ?_⟩
  · simpa [getD_set] using h.w0
  · simpa [getD_set] using h.w1
  · simpa [getD_set] using h.w2
  · simpa [getD_set] using h.w3
  · simpa [getD_set] using h.o1
  · simpa [getD_set] using h.o2
  · intro e; rw [getD_set] at e ⊢; have e2 : l.getD 12 true = true := (by simpa using e)
    have := h.o3 e2; simp [this]
  · intro e; rw [getD_set] at e ⊢; have e2 : l.getD 11 true = true := (by simpa using e)
    have := h.o4 e2; simp [this]
  · intro e; rw [getD_set] at e ⊢; have e2 : l.getD 10 true = true := (by simpa using e)
    have := h.o5 e2; simp [this]
  · intro e; rw [getD_set] at e ⊢; have e2 : l.getD 10 true = true := (by simpa using e)
    have := h.o6 e2; simp [this]
theorem TI.s8 {bc bo bl blk H : Nat} {sec : Int} {dy nt : Bool} {tv av : Value} {W D1 D2 D3 : World} {l : Array Bool} {x0 x1 x2 x3 x4 x5 x6 x7 x8 x9 x10 x11 x12 : Value} {w : World} (h : TI bc bo bl blk H sec dy nt tv av W D1 D2 D3 l x0 x1 x2 x3 x4 x5 x6 x7 x8 x9 x10 x11 x12 w) (hk : l.getD 8 true = false) : TI bc bo bl blk H sec dy nt tv av W D1 D2 D3 (l.setIfInBounds 8 true) x0 x1 x2 x3 x4 x5 x6 x7 (.pointer (some ⟨blk, 513, none⟩)) x9 x10 x11 x12 w := by
  refine ⟨by rw [Array.size_setIfInBounds]; exact h.sz, fun e => h.h0 (by rw [getD_set] at e; simpa using e), fun e => h.h1 (by rw [getD_set] at e; simpa using e), fun e => h.h2 (by rw [getD_set] at e; simpa using e), fun e => h.h3 (by rw [getD_set] at e; simpa using e), fun e => h.h4 (by rw [getD_set] at e; simpa using e), fun e => h.h5 (by rw [getD_set] at e; simpa using e), fun e => h.h6 (by rw [getD_set] at e; simpa using e), fun e => h.h7 (by rw [getD_set] at e; simpa using e), fun _ => rfl, fun e => h.h9 (by rw [getD_set] at e; simpa using e), fun e => h.h10 (by rw [getD_set] at e; simpa using e), fun e => h.h11 (by rw [getD_set] at e; simpa using e), fun e => h.h12 (by rw [getD_set] at e; simpa using e), ?_, ?_, ?_, ?_, ?_, ?_, ?_, ?_, ?_, ?_⟩
  · simpa [getD_set] using h.w0
  · simpa [getD_set] using h.w1
  · simpa [getD_set] using h.w2
  · simpa [getD_set] using h.w3
  · simpa [getD_set] using h.o1
  · simpa [getD_set] using h.o2
  · intro e; rw [getD_set] at e ⊢; have e2 : l.getD 12 true = true := (by simpa using e)
    have := h.o3 e2; simp [this]
  · intro e; rw [getD_set] at e ⊢; have e2 : l.getD 11 true = true := (by simpa using e)
    have := h.o4 e2; simp [this]
  · intro e; rw [getD_set] at e ⊢; have e2 : l.getD 10 true = true := (by simpa using e)
    have := h.o5 e2; simp [this]
  · intro e; rw [getD_set] at e ⊢; have e2 : l.getD 10 true = true := (by simpa using e)
    have := h.o6 e2; simp [this]
theorem TI.s9 {bc bo bl blk H : Nat} {sec : Int} {dy nt : Bool} {tv av : Value} {W D1 D2 D3 : World} {l : Array Bool} {x0 x1 x2 x3 x4 x5 x6 x7 x8 x9 x10 x11 x12 : Value} {w : World} (h : TI bc bo bl blk H sec dy nt tv av W D1 D2 D3 l x0 x1 x2 x3 x4 x5 x6 x7 x8 x9 x10 x11 x12 w) (hk : l.getD 9 true = false) : TI bc bo bl blk H sec dy nt tv av W D1 D2 D3 (l.setIfInBounds 9 true) x0 x1 x2 x3 x4 x5 x6 x7 x8 (.bool nt) x10 x11 x12 w := by
  refine ⟨by rw [Array.size_setIfInBounds]; exact h.sz, fun e => h.h0 (by rw [getD_set] at e; simpa using e), fun e => h.h1 (by rw [getD_set] at e; simpa using e), fun e => h.h2 (by rw [getD_set] at e; simpa using e), fun e => h.h3 (by rw [getD_set] at e; simpa using e), fun e => h.h4 (by rw [getD_set] at e; simpa using e), fun e => h.h5 (by rw [getD_set] at e; simpa using e), fun e => h.h6 (by rw [getD_set] at e; simpa using e), fun e => h.h7 (by rw [getD_set] at e; simpa using e), fun e => h.h8 (by rw [getD_set] at e; simpa using e), fun _ => rfl, fun e => h.h10 (by rw [getD_set] at e; simpa using e), fun e => h.h11 (by rw [getD_set] at e; simpa using e), fun e => h.h12 (by rw [getD_set] at e; simpa using e), ?_, ?_, ?_, ?_, ?_, ?_, ?_, ?_, ?_, ?_⟩
  · simpa [getD_set] using h.w0
  · simpa [getD_set] using h.w1
  · simpa [getD_set] using h.w2
  · simpa [getD_set] using h.w3
  · simpa [getD_set] using h.o1
  · simpa [getD_set] using h.o2
  · intro e; rw [getD_set] at e ⊢; have e2 : l.getD 12 true = true := (by simpa using e)
    have := h.o3 e2; simp [this]
  · intro e; rw [getD_set] at e ⊢; have e2 : l.getD 11 true = true := (by simpa using e)
    have := h.o4 e2; simp [this]
  · intro e; rw [getD_set] at e ⊢; have e2 : l.getD 10 true = true := (by simpa using e)
    have := h.o5 e2; simp [this]
  · intro _; rw [getD_set]; simp
theorem TI.s10 {bc bo bl blk H : Nat} {sec : Int} {dy nt : Bool} {tv av : Value} {W D1 D2 D3 : World} {l : Array Bool} {x0 x1 x2 x3 x4 x5 x6 x7 x8 x9 x10 x11 x12 : Value} {w : World} (h : TI bc bo bl blk H sec dy nt tv av W D1 D2 D3 l x0 x1 x2 x3 x4 x5 x6 x7 x8 x9 x10 x11 x12 w) (hk : l.getD 10 true = false) (hd5 : l.getD 5 true = true) (hd9 : l.getD 9 true = true) : TI bc bo bl blk H sec dy nt tv av W D1 D2 D3 (l.setIfInBounds 10 true) x0 x1 x2 x3 x4 x5 x6 x7 x8 x9 (.agg #[.int .i64 sec, .bool dy, .bool nt]) x11 x12 w := by
  refine ⟨by rw [Array.size_setIfInBounds]; exact h.sz, fun e => h.h0 (by rw [getD_set] at e; simpa using e), fun e => h.h1 (by rw [getD_set] at e; simpa using e), fun e => h.h2 (by rw [getD_set] at e; simpa using e), fun e => h.h3 (by rw [getD_set] at e; simpa using e), fun e => h.h4 (by rw [getD_set] at e; simpa using e), fun e => h.h5 (by rw [getD_set] at e; simpa using e), fun e => h.h6 (by rw [getD_set] at e; simpa using e), fun e => h.h7 (by rw [getD_set] at e; simpa using e), fun e => h.h8 (by rw [getD_set] at e; simpa using e), fun e => h.h9 (by rw [getD_set] at e; simpa using e), fun _ => rfl, fun e => h.h11 (by rw [getD_set] at e; simpa using e), fun e => h.h12 (by rw [getD_set] at e; simpa using e), ?_, ?_, ?_, ?_, ?_, ?_, ?_, ?_, ?_, ?_⟩
  · simpa [getD_set] using h.w0
  · simpa [getD_set] using h.w1
  · simpa [getD_set] using h.w2
  · simpa [getD_set] using h.w3
  · simpa [getD_set] using h.o1
  · simpa [getD_set] using h.o2
  · intro e; rw [getD_set] at e ⊢; have e2 : l.getD 12 true = true := (by simpa using e)
    have := h.o3 e2; simp [this]
  · intro _; rw [getD_set]; simp
  · intro _; rw [getD_set]; simp [hd5]
  · intro _; rw [getD_set]; simp [hd9]
theorem TI.s11 {bc bo bl blk H : Nat} {sec : Int} {dy nt : Bool} {tv av : Value} {W D1 D2 D3 : World} {l : Array Bool} {x0 x1 x2 x3 x4 x5 x6 x7 x8 x9 x10 x11 x12 : Value} {w : World} (h : TI bc bo bl blk H sec dy nt tv av W D1 D2 D3 l x0 x1 x2 x3 x4 x5 x6 x7 x8 x9 x10 x11 x12 w) (hk : l.getD 11 true = false) (hd10 : l.getD 10 true = true) : TI bc bo bl blk H sec dy nt tv av W D1 D2 D3 (l.setIfInBounds 11 true) x0 x1 x2 x3 x4 x5 x6 x7 x8 x9 x10 (.slice (some ⟨W.heap.size, 0, none⟩) 1 1) x12 D1 := by
  refine ⟨by rw [Array.size_setIfInBounds]; exact h.sz, fun e => h.h0 (by rw [getD_set] at e; simpa using e), fun e => h.h1 (by rw [getD_set] at e; simpa using e), fun e => h.h2 (by rw [getD_set] at e; simpa using e), fun e => h.h3 (by rw [getD_set] at e; simpa using e), fun e => h.h4 (by rw [getD_set] at e; simpa using e), fun e => h.h5 (by rw [getD_set] at e; simpa using e), fun e => h.h6 (by rw [getD_set] at e; simpa using e), fun e => h.h7 (by rw [getD_set] at e; simpa using e), fun e => h.h8 (by rw [getD_set] at e; simpa using e), fun e => h.h9 (by rw [getD_set] at e; simpa using e), fun e => h.h10 (by rw [getD_set] at e; simpa using e), fun _ => rfl, fun e => h.h12 (by rw [getD_set] at e; simpa using e), ?_, ?_, ?_, ?_, ?_, ?_, ?_, ?_, ?_, ?_⟩
  · intro e; rw [getD_set] at e; simp at e
  · intro _ _; rfl
  · intro e _; rw [getD_set] at e; have e' : l.getD 12 true = true := by simpa using e
    have := h.o1 e'; rw [this] at hk; cases hk
  · intro e; rw [getD_set] at e; have e' : l.getD 13 true = true := by simpa using e
    have := h.o1 (h.o2 e'); rw [this] at hk; cases hk
  · intro _; rw [getD_set]; simp
  · intro e; rw [getD_set] at e ⊢; have e' : l.getD 13 true = true := by simpa using e
    have := h.o2 e'; simp [this]
  · intro e; rw [getD_set] at e ⊢; have e2 : l.getD 12 true = true := (by simpa using e)
    have := h.o3 e2; simp [this]
  · intro _; rw [getD_set]; simp [hd10]
  · intro e; rw [getD_set] at e ⊢; have e2 : l.getD 10 true = true := (by simpa using e)
    have := h.o5 e2; simp [this]
  · intro e; rw [getD_set] at e ⊢; have e2 : l.getD 10 true = true := (by simpa using e)
    have := h.o6 e2; simp [this]
theorem TI.s12 {bc bo bl blk H : Nat} {sec : Int} {dy nt : Bool} {tv av : Value} {W D1 D2 D3 : World} {l : Array Bool} {x0 x1 x2 x3 x4 x5 x6 x7 x8 x9 x10 x11 x12 : Value} {w : World} (h : TI bc bo bl blk H sec dy nt tv av W D1 D2 D3 l x0 x1 x2 x3 x4 x5 x6 x7 x8 x9 x10 x11 x12 w) (hk : l.getD 12 true = false) (hd : l.getD 11 true = true) (hd0 : l.getD 0 true = true) : TI bc bo bl blk H sec dy nt tv av W D1 D2 D3 (l.setIfInBounds 12 true) x0 x1 x2 x3 x4 x5 x6 x7 x8 x9 x10 x11 (av) D2 := by
  refine ⟨by rw [Array.size_setIfInBounds]; exact h.sz, fun e => h.h0 (by rw [getD_set] at e; simpa using e), fun e => h.h1 (by rw [getD_set] at e; simpa using e), fun e => h.h2 (by rw [getD_set] at e; simpa using e), fun e => h.h3 (by rw [getD_set] at e; simpa using e), fun e => h.h4 (by rw [getD_set] at e; simpa using e), fun e => h.h5 (by rw [getD_set] at e; simpa using e), fun e => h.h6 (by rw [getD_set] at e; simpa using e), fun e => h.h7 (by rw [getD_set] at e; simpa using e), fun e => h.h8 (by rw [getD_set] at e; simpa using e), fun e => h.h9 (by rw [getD_set] at e; simpa using e), fun e => h.h10 (by rw [getD_set] at e; simpa using e), fun e => h.h11 (by rw [getD_set] at e; simpa using e), fun _ => rfl, ?_, ?_, ?_, ?_, ?_, ?_, ?_, ?_, ?_, ?_⟩
  · intro e; rw [getD_set] at e; have e' : l.getD 11 true = false := by simpa using e
    rw [hd] at e'; cases e'
  · intro _ e; rw [getD_set] at e; simp at e
  · intro _ _; rfl
  · intro e; rw [getD_set] at e; have e' : l.getD 13 true = true := by simpa using e
    have := h.o2 e'; rw [this] at hk; cases hk
  · intro _; rw [getD_set]; simp [hd]
  · intro _; rw [getD_set]; simp
  · intro _; rw [getD_set]; simp [hd0]
  · intro e; rw [getD_set] at e ⊢; have e2 : l.getD 11 true = true := (by simpa using e)
    have := h.o4 e2; simp [this]
  · intro e; rw [getD_set] at e ⊢; have e2 : l.getD 10 true = true := (by simpa using e)
    have := h.o5 e2; simp [this]
  · intro e; rw [getD_set] at e ⊢; have e2 : l.getD 10 true = true := (by simpa using e)
    have := h.o6 e2; simp [this]
theorem TI.s13 {bc bo bl blk H : Nat} {sec : Int} {dy nt : Bool} {tv av : Value} {W D1 D2 D3 : World} {l : Array Bool} {x0 x1 x2 x3 x4 x5 x6 x7 x8 x9 x10 x11 x12 : Value} {w : World} (h : TI bc bo bl blk H sec dy nt tv av W D1 D2 D3 l x0 x1 x2 x3 x4 x5 x6 x7 x8 x9 x10 x11 x12 w) (hk : l.getD 13 true = false) (hd : l.getD 12 true = true) : TI bc bo bl blk H sec dy nt tv av W D1 D2 D3 (l.setIfInBounds 13 true) x0 x1 x2 x3 x4 x5 x6 x7 x8 x9 x10 x11 x12 D3 := by
  refine ⟨by rw [Array.size_setIfInBounds]; exact h.sz, fun e => h.h0 (by rw [getD_set] at e; simpa using e), fun e => h.h1 (by rw [getD_set] at e; simpa using e), fun e => h.h2 (by rw [getD_set] at e; simpa using e), fun e => h.h3 (by rw [getD_set] at e; simpa using e), fun e => h.h4 (by rw [getD_set] at e; simpa using e), fun e => h.h5 (by rw [getD_set] at e; simpa using e), fun e => h.h6 (by rw [getD_set] at e; simpa using e), fun e => h.h7 (by rw [getD_set] at e; simpa using e), fun e => h.h8 (by rw [getD_set] at e; simpa using e), fun e => h.h9 (by rw [getD_set] at e; simpa using e), fun e => h.h10 (by rw [getD_set] at e; simpa using e), fun e => h.h11 (by rw [getD_set] at e; simpa using e), fun e => h.h12 (by rw [getD_set] at e; simpa using e), ?_, ?_, ?_, ?_, ?_, ?_, ?_, ?_, ?_, ?_⟩
  · intro e; rw [getD_set] at e; have e' : l.getD 11 true = false := by simpa using e
    rw [h.o1 hd] at e'; cases e'
  · intro _ e; rw [getD_set] at e; have e' : l.getD 12 true = false := by simpa using e
    rw [hd] at e'; cases e'
  · intro _ e; rw [getD_set] at e; simp at e
  · intro _; rfl
  · intro _; rw [getD_set]; have := h.o1 hd; simp [this]
  · intro _; rw [getD_set]; simp [hd]
  · intro e; rw [getD_set] at e ⊢; have e2 : l.getD 12 true = true := (by simpa using e)
    have := h.o3 e2; simp [this]
  · intro e; rw [getD_set] at e ⊢; have e2 : l.getD 11 true = true := (by simpa using e)
    have := h.o4 e2; simp [this]
  · intro e; rw [getD_set] at e ⊢; have e2 : l.getD 10 true = true := (by simpa using e)
    have := h.o5 e2; simp [this]
  · intro e; rw [getD_set] at e ⊢; have e2 : l.getD 10 true = true := (by simpa using e)
    have := h.o6 e2; simp [this]
theorem TI.cast {bc bo bl blk H : Nat} {sec : Int} {dy nt : Bool} {tv av : Value} {W D1 D2 D3 : World} {l : Array Bool} {x0 x1 x2 x3 x4 x5 x6 x7 x8 x9 x10 x11 x12 : Value} {w w' : World} (h : TI bc bo bl blk H sec dy nt tv av W D1 D2 D3 l x0 x1 x2 x3 x4 x5 x6 x7 x8 x9 x10 x11 x12 w) (e : w = w') : TI bc bo bl blk H sec dy nt tv av W D1 D2 D3 l x0 x1 x2 x3 x4 x5 x6 x7 x8 x9 x10 x11 x12 w' := by rw [← e]; exact h
theorem TI.old0 {bc bo bl blk H : Nat} {sec : Int} {dy nt : Bool} {tv av : Value} {W D1 D2 D3 : World} {l : Array Bool} {x0 x1 x2 x3 x4 x5 x6 x7 x8 x9 x10 x11 x12 : Value} {w : World} (h : TI bc bo bl blk H sec dy nt tv av W D1 D2 D3 l x0 x1 x2 x3 x4 x5 x6 x7 x8 x9 x10 x11 x12 w) (hk : l.getD 12 true = false) : w = W.drew ∨ w = D1 := by
  cases e : l.getD 11 true with
  | false => exact .inl (h.w0 e)
  | true => exact .inr (h.w1 e hk)
theorem TI.no12 {bc bo bl blk H : Nat} {sec : Int} {dy nt : Bool} {tv av : Value} {W D1 D2 D3 : World} {l : Array Bool} {x0 x1 x2 x3 x4 x5 x6 x7 x8 x9 x10 x11 x12 : Value} {w : World} (h : TI bc bo bl blk H sec dy nt tv av W D1 D2 D3 l x0 x1 x2 x3 x4 x5 x6 x7 x8 x9 x10 x11 x12 w) (hk : l.getD 0 true = false ∨ l.getD 5 true = false ∨ l.getD 9 true = false) : l.getD 12 true = false := by
  cases e : l.getD 12 true with
  | false => rfl
  | true =>
    have e0 := h.o3 e
    have e10 := h.o4 (h.o1 e)
    have e5 := h.o5 e10
    have e9 := h.o6 e10
    rcases hk with hk | hk | hk
    · rw [e0] at hk; cases hk
    · rw [e5] at hk; cases hk
    · rw [e9] at hk; cases hk
set_option maxHeartbeats 8000000 in
/-- what a cache tells of its lines -/
theorem told_any {w : World} {P : Loc} {S : K.Dk} {C : Ch} (h : RC w P S C) :
    Calls Tryz.prog 40 #[.pointer (some ⟨P.bc, 0, none⟩)] w fun r w' => ∃ v, r = .returned v ∧ w'.ownsRow w.heap.size TLq 3 v C.L.length (lcellsT C.L) ∧ Below w.heap.size w w' := by
  refine (callsIn_wide (n := 4)).1 ?_
  have f0 : Fence.wide.fn 40 := trivial
  have f3 : Fence.wide.fn 63 := trivial
  have f1 : Fence.wide.fn 92 := trivial
  have f2 : Fence.wide.fn 157 := trivial
  have hBa : Below w.heap.size w (w.alloc (.cells #[.pointer (some ⟨P.bc, 0, none⟩)] 33)) := (Below.refl _ w).alloc (Nat.le_refl _) _
  have hus := usable_c (h.later hBa)
  obtain ⟨w1, hw1⟩ : ∃ w1, w1 = (w.alloc (.cells #[.pointer (some ⟨P.bc, 0, none⟩)] 33)).alloc (.cells #[.slice none 0 0] TLqs) := ⟨_, rfl⟩
  have hB1 : Below w.heap.size w w1 := by rw [hw1]; exact hBa.alloc (by simp) _
  have hs1 : w1.heap.size = w.heap.size + 2 := by rw [hw1]; simp
  have h1 := h.later hB1
  have c4 : w1.cell? ⟨P.bc, 4, none⟩ = some (.pointer (some ⟨P.bo, 0, none⟩)) := h1.c 4
  have x0 : Boxed w1 w.heap.size 33 (.pointer (some ⟨P.bc, 0, none⟩)) := by rw [hw1]; exact (Boxed.new w _ _).alloc _
  have x1 : Boxed w1 (w.heap.size + 1) TLqs (.slice none 0 0) := by
    have := Boxed.new (w.alloc (.cells #[.pointer (some ⟨P.bc, 0, none⟩)] 33)) TLqs (.slice none 0 0)
    rw [World.size_alloc] at this
    rw [hw1]; exact this
  refine callsIn_of_wp_marks Tryz.func40 rfl f0 ?_ rfl
  simp only [Tryz.ntmps40, List.size_toArray, List.length_cons, List.length_nil, Nat.reduceAdd, Nat.reduceSub, Array.replicate_succ, Array.replicate_zero, List.push_toArray, List.append_toArray, List.nil_append, List.cons_append]
  have c4' := c4
  rw [hw1] at c4'
  gi_wp2_with (first | (gi_at_call 63; refine (callsIn_wide.2 hus).mono ?_; rintro e w9 ⟨rfl, hw9⟩; rw [hw9]; clear hw9 hus) | (gi_at_call 92; refine (callsIn_wide.2 (I.A.func_any _ _)).mono ?_; rintro e w' ⟨rfl, rfl⟩))
  obtain ⟨W0, hW0⟩ : ∃ W0, W0 = (w1.alloc (.cells #[.pointer (some ⟨P.bo, 0, none⟩)] I.A.TPo)).alloc (.cells #[.func (.func 120) #[] #[]] I.A.TPf) := ⟨_, rfl⟩
  rw [← hw1, ← hW0]
  have hB10 : Below w1.heap.size w1 W0 := by rw [hW0]; exact ((Below.refl _ w1).alloc (Nat.le_refl _) _).alloc (by simp) _
  have hB0 : Below w.heap.size w W0 := hB1.trans (hB10.mono hB1.size)
  have hs0 : W0.heap.size = w.heap.size + 4 := by rw [hW0]; simp [hs1]
  have bx1 : W0.cell? ⟨w.heap.size + 1 + 1, 0, none⟩ = some (.pointer (some ⟨P.bo, 0, none⟩)) := by
    have := Boxed.new w1 I.A.TPo (.pointer (some ⟨P.bo, 0, none⟩))
    rw [hs1] at this
    rw [hW0]; exact (this.alloc _).cell
  have bx2 : W0.cell? ⟨w.heap.size + 1 + 1 + 1, 0, none⟩ = some (.func (.func 120) #[] #[]) := by
    have := Boxed.new (w1.alloc (.cells #[.pointer (some ⟨P.bo, 0, none⟩)] I.A.TPo)) I.A.TPf (.func (.func 120) #[] #[])
    rw [World.size_alloc, hs1] at this
    rw [hW0]; exact this.cell
  have hlim := h.lim
  have hlen : P.E.length * 8 ≤ 140737488355328 := by rw [h.lenE]; omega
  have bO : Boxed W0 (w.heap.size + 1) TLqs (.slice none 0 0) := (hB10.block _ (by omega)).trans x1
  have hseq := I.A.seq_gen (fun x : { l // l ∈ C.L } => (x.1.sec : Int)) C.L.attach 3 (by omega) kpN_row (h.later hB0).ro (by rw [pickedA, h.eq, attach_secs]) bx1 bx2 (by omega) hlen (fun _ _ _ _ _ _ _ => trivial)
  have HX : Hid (∀ W, Below w1.heap.size w1 W → True) := fun _ _ => trivial
  have HRC : Hid (∀ W, Below w.heap.size w W → RC W P S C) := fun W hb => h.later hb
  have y0 : Boxed W0 w.heap.size 33 (.pointer (some ⟨P.bc, 0, none⟩)) := (hB10.block _ (by omega)).trans x0
  obtain ⟨i0, hi0, hz0, hz1, hz2⟩ := info_parts infoLq
  clear bx1 bx2 c4 c4' x0 x1 h1 hw1 hW0 h hlen hBa
  refine wpIn_rangeFunc_ownH rfl (by omega) (gf := 157) (lb := #[.pointer (some ⟨w.heap.size + 1 + 1, 0, none⟩), .pointer (some ⟨w.heap.size + 1 + 1 + 1, 0, none⟩)]) rfl f2 (enters_of Tryz.func157 (by kernel_rfl) rfl)
    hseq kpN_t (kpN_b (w := W0)) (Below.refl _ _) (fun _ => rfl)
    (fun pre W => Boxed W w.heap.size 33 (.pointer (some ⟨P.bc, 0, none⟩)) ∧ (∃ v, Boxed W (w.heap.size + 1) TLqs v ∧ W.ownsRow W0.heap.size TLq 3 v pre.length (lcellsT (pre.map (·.1)))) ∧ Below w.heap.size w W)
    (fun _ _ _ => False)
    (fun pre X Y row hI hg hr => by
      obtain ⟨e1, ⟨v, e2, e3⟩, e4⟩ := hI
      refine ⟨boxed_own _ _ (fun _ : Unit => _) () X Y row e1 hg (fun r e => (hr r e).2), ⟨v, boxed_own _ _ (fun _ : Unit => v) () X Y row e2 hg (fun r e => (hr r e).2), K.ownsRow_block e3 (fun g e => ?_)⟩, ownFrom_below (β := Unit) (Nat.le_refl _) (by omega) () X Y row e4 hg hr⟩
      obtain ⟨hgl, cs, hgc⟩ := K.row_lt e3 g e
      refine hg.block g hgl (fun e' => ?_)
      obtain ⟨_, o, ho, hc⟩ := hr g e'.symm
      rw [hgc] at ho
      cases ho
      simp [Obj.isCells] at hc)
    (fun _ _ _ _ _ hs _ _ => hs)
    ⟨y0, ⟨_, bO, World.ownsRow_nil _ _ _ _⟩, hB0⟩
    (fun x a' W => a' = { tmps := #[.pointer (some ⟨P.bc, 0, none⟩), .pointer (some ⟨w.heap.size, 0, none⟩), .slice none 0 0, .pointer (some ⟨w.heap.size + 1, 0, none⟩), .int .i64 x.1.sec, undef, .pointer (some ⟨P.bc, 0, none⟩), .bool true, .bool false, .pointer (some ⟨P.bc, 0, none⟩), .pointer (some ⟨P.bc, 0, none⟩), .pointer (some ⟨P.bc, 4, none⟩), .pointer (some ⟨P.bo, 0, none⟩), .func (.func 157) #[] #[.pointer (some ⟨w.heap.size + 1 + 1, 0, none⟩), .pointer (some ⟨w.heap.size + 1 + 1 + 1, 0, none⟩)], .int .i64 x.1.sec, undef, undef, undef, undef, undef, undef, undef, undef, undef, undef, undef, undef, undef, undef, undef, undef, undef, undef, undef, undef], defers := [] })
    (fun x a' s X Y row hs hg hrow => hs)
    ?assign ?body ?done ?stop
  case assign =>
    rintro l pre x W K hI hK
    gi_wp2
    exact hK _ _ (KeepsFrom.refl _ _) (fun _ _ _ h => h) hI rfl
  case body =>
    rintro l pre x a' W hl ⟨r, hr⟩ ⟨y0, ⟨tv, y1, yr⟩, hbw⟩ rfl hlt
    have hrc := HRC.out W hbw
    have d0 := y0.cell
    have d1 := y1.cell
    have g1 := y1.frozen
    have c3 : W.cell? ⟨P.bc, 3, none⟩ = some (.map (some P.bl)) := hrc.c 3
    have hlk := hrc.look (hrc.wf x.2)
    rw [hrc.atLine x.2] at hlk
    simp only [linePtr] at hlk
    have cd : W.cell? ⟨x.1.blk, 512, none⟩ = some (.bool x.1.dirty) := (hrc.lcell x.2 512).trans (lcells_dirty (hrc.ok x.1 x.2).2)
    have cn : W.cell? ⟨x.1.blk, 513, none⟩ = some (.bool x.1.note) := (hrc.lcell x.2 513).trans (lcells_note (hrc.ok x.1 x.2).2)
    obtain ⟨to, tc, rfl⟩ := K.own_slice yr
    have hpl : pre.length ≤ 1024 := by
      have h1 := hrc.lim
      have h2 : C.L.attach.length = C.L.length := List.length_attach
      omega
    gi_wp2
    obtain ⟨D1, hD1⟩ : ∃ D1, D1 = W.drew.alloc (.cells #[.int .i64 x.1.sec, .bool x.1.dirty, .bool x.1.note] TLq) := ⟨_, rfl⟩
    have hbD1 : Below W.heap.size W D1 := by rw [hD1]; exact (K.below_drew W).alloc (Nat.le_refl _) _
    have hyr : D1.ownsRow W0.heap.size TLq 3 (.slice to pre.length tc) pre.length (lcellsT (pre.map (·.1))) := K.ownsRow_block yr (fun g e => hbD1.block g (K.row_lt yr g e).1)
    have hsD1 : D1.heap.size = W.heap.size + 1 := by rw [hD1, World.size_alloc]; rfl
    have hnw : ∀ j u, (lcell x.1)[j]? = some u → D1.cell? ((⟨W.heap.size, 0, none⟩ : Addr).add j) = some u := by rw [hD1]; exact World.news_of_block (heap_alloc_new W.drew _)
    have hszW : W0.heap.size ≤ W.heap.size := by
      have h1 := hbw.size
      have h2 : l < W.heap.size := (Array.getElem?_eq_some_iff.1 hr).1
      omega
    obtain ⟨g', cap', D2, hrun, hown', hgrow, hat, hlt'⟩ := run_append_lies (P := Tryz.prog) D1 TLqs TLqs W0.heap.size TLq i0 _ 3 16 Tryz.underlying45 hi0 hz0 hz1 hz2 rfl (by decide) (.slice to pre.length tc) pre.length _ hyr ⟨W.heap.size, 0, none⟩ 1 1 (lcell x.1) rfl hnw (fun u hu => by simp [lcell] at hu; rcases hu with rfl | rfl | rfl <;> rfl) (by decide) (by unfold maxLen; omega) (by omega) (by omega) _ rfl
    obtain ⟨D3, hD3⟩ : ∃ D3, D3 = D2.setCell ⟨w.heap.size + 1, 0, none⟩ (.slice (some ⟨g', 0, none⟩) (pre.length + 1) cap') := ⟨_, rfl⟩
    have hBl : w.heap.size + 1 < W.heap.size := (Array.getElem?_eq_some_iff.1 y1).1
    have hBg : ∀ g, (Value.slice to pre.length tc).ownBlock = some g → g ≠ w.heap.size + 1 ∧ g ≠ w.heap.size ∧ W0.heap.size ≤ g := fun g e => by
      refine ⟨fun e2 => ?_, fun e2 => ?_, row_base yr e⟩
      · have := row_base yr e; omega
      · have := row_base yr e; omega
    have hB2 : D2.heap[w.heap.size + 1]? = W.heap[w.heap.size + 1]? := (hgrow.block _ (by omega) (fun e => (hBg _ e.symm).1 rfl)).trans (hbD1.block _ hBl)
    have HBox : Hid (D2.cell? ⟨w.heap.size + 1, 0, none⟩ = some (.slice to pre.length tc) ∧ D2.frozen? ⟨w.heap.size + 1, 0, none⟩ = false) := ⟨(World.cell?_of_block (a := ⟨w.heap.size + 1, 0, none⟩) hB2).trans d1, (World.frozen?_of_block (a := ⟨w.heap.size + 1, 0, none⟩) hB2).trans g1⟩
    have HOne : Hid ((Instr.buildSlice TLqs 1 #[(0, .agg #[.int .i64 x.1.sec, .bool x.1.dirty, .bool x.1.note])]).run Tryz.prog W.drew = .ok (.slice (some ⟨W.heap.size, 0, none⟩) 1 1) D1) := by show _ = _; rw [hD1]; exact run_oneq W.drew x.1.sec x.1.dirty x.1.note
    have HRun : Hid ((Builtin.append_ #[TLqs, TLqs] TLqs #[.slice to pre.length tc, .slice (some ⟨W.heap.size, 0, none⟩) 1 1]).run Tryz.prog D1 = .ok (.slice (some ⟨g', 0, none⟩) (pre.length + 1) cap') D2) := hrun
    have HCells : Hid (∀ X, X = W.drew ∨ X = D1 → X.cell? ⟨w.heap.size + 1, 0, none⟩ = some (.slice to pre.length tc) ∧ X.cell? ⟨x.1.blk, 512, none⟩ = some (.bool x.1.dirty) ∧ X.cell? ⟨x.1.blk, 513, none⟩ = some (.bool x.1.note)) := fun X hX => by
      rcases hX with rfl | rfl
      · exact ⟨d1, cd, cn⟩
      · exact ⟨cell_later hbD1 d1, cell_later hbD1 cd, cell_later hbD1 cn⟩
    have HD1 : Hid (D1 = (W.alloc (.cells #[.int .i64 x.1.sec, .bool x.1.dirty, .bool x.1.note] TLq)).drew) := hD1
    have HD3 : Hid (D3 = D2.setCell ⟨w.heap.size + 1, 0, none⟩ (.slice (some ⟨g', 0, none⟩) (pre.length + 1) cap')) := hD3
    have HFin : Hid (KeepsFrom W0.heap.size W D3 ∧ KpN W D3 ∧ Boxed D3 w.heap.size 33 (.pointer (some ⟨P.bc, 0, none⟩)) ∧ (∃ v, Boxed D3 (w.heap.size + 1) TLqs v ∧ D3.ownsRow W0.heap.size TLq 3 v (pre ++ [x]).length (lcellsT ((pre ++ [x]).map (·.1)))) ∧ Below w.heap.size w D3) := by
      have hb3 : ∀ j, j < W.heap.size → j ≠ w.heap.size + 1 → (Value.slice to pre.length tc).ownBlock ≠ some j → D3.heap[j]? = W.heap[j]? := fun j h1 h2 h3 => by
        rw [hD3]
        exact (Below.heap_setCell _ _ _ _ h2).trans ((hgrow.block j (by omega) (fun e => h3 e.symm)).trans (hbD1.block j h1))
      have hs3 : W.heap.size ≤ D3.heap.size := by
        rw [hD3]
        have := hgrow.size
        simp
        omega
      refine ⟨⟨hs3, fun k o hk ho hc => ?_⟩, fun k cur fr hk => ?_, ?_, ⟨.slice (some ⟨g', 0, none⟩) (pre.length + 1) cap', ?_, ?_⟩, ?_⟩
      · have hkl := (Array.getElem?_eq_some_iff.1 ho).1
        refine (hb3 k hkl (fun e => ?_) (fun e => ?_)).trans ho
        · rw [e, show W.heap[w.heap.size + 1]? = _ from y1] at ho; cases ho; cases hc
        · obtain ⟨_, cs, h1⟩ := K.row_lt yr k e
          rw [h1] at ho; cases ho; cases hc
      · have hkl := (Array.getElem?_eq_some_iff.1 hk).1
        refine (hb3 k hkl (fun e => ?_) (fun e => ?_)).trans hk
        · rw [e, show W.heap[w.heap.size + 1]? = _ from y1] at hk; simp at hk; exact absurd hk.2.1 (by decide)
        · obtain ⟨_, cs, h1⟩ := K.row_lt yr k e
          rw [h1] at hk; simp at hk; exact absurd hk.2.1 (by decide)
      · exact (hb3 w.heap.size (by omega) (by omega) (fun e => (hBg _ e).2.1 rfl)).trans y0
      · show D3.heap[_]? = _
        rw [hD3]
        exact K.blk_set (hB2.trans y1) 0 _
      · have h1 : D3.ownsRow W0.heap.size TLq 3 (.slice (some ⟨g', 0, none⟩) (pre.length + 1) cap') (pre.length + 1) (lcellsT (pre.map (·.1)) ++ lcell x.1) := K.ownsRow_block hown' (fun g e => by
          rw [hD3]
          refine Below.heap_setCell _ _ _ _ (fun e2 => ?_)
          have e3 : g' = w.heap.size + 1 := by simp [Value.ownBlock] at e; rw [e]; exact e2
          rcases hat with h2 | h2
          · exact (hBg _ h2).1 e3
          · omega)
        simpa [lcellsT, List.flatMap_append] using h1
      · rw [hD3]
        refine ((hbw.trans (hbD1.mono hbw.size)).grown hgrow (by have := hbw.size; omega) (fun k e => by have := (hBg k e).2.2; omega)).setCell (p := ⟨w.heap.size + 1, 0, none⟩) (by show w.heap.size ≤ w.heap.size + 1; omega) _
    clear hD1 hbD1 hyr hsD1 hnw hrun hown' hgrow hat hlt' hD3 hBl hBg hB2 hszW y0 y1 yr d0 d1 g1 c3 hlk cd cn hrc hlt hbw hpl
    refine wpIn_region_any (by kernel_rfl) ?_
    refine wpAnyIn_by (fun l' a' w' => ∃ x0 x1 x2 x3 x4 x5 x6 x7 x8 x9 x10 x11 x12, a' = tact P.bc P.bo P.bl x.1.blk w.heap.size x.1.sec x0 x1 x2 x3 x4 x5 x6 x7 x8 x9 x10 x11 x12 ∧ TI P.bc P.bo P.bl x.1.blk w.heap.size x.1.sec x.1.dirty x.1.note (.slice to pre.length tc) (.slice (some ⟨g', 0, none⟩) (pre.length + 1) cap') W D1 D2 D3 l' x0 x1 x2 x3 x4 x5 x6 x7 x8 x9 x10 x11 x12 w') ?_ ?_ _ _ _ _ ?_ ?_
    · rintro l' a' wv ⟨x0, x1, x2, x3, x4, x5, x6, x7, x8, x9, x10, x11, x12, rfl, hT⟩ hre
      have hall := ready_all (by kernel_rfl) hT.sz hre
      have e3 := hT.w3 (hall 13)
      subst e3
      exact HFin.out
    · rintro l' a' wv i ⟨x0, x1, x2, x3, x4, x5, x6, x7, x8, x9, x10, x11, x12, rfl, hT⟩ hm
      obtain ⟨hun, o, ho0, hall⟩ := mem_ready.1 hm
      have ho := ho0
      have hi14 : i < 14 := (Array.getElem?_eq_some_iff.1 ho).1
      have hcase : i = 0 ∨ i = 1 ∨ i = 2 ∨ i = 3 ∨ i = 4 ∨ i = 5 ∨ i = 6 ∨ i = 7 ∨ i = 8 ∨ i = 9 ∨ i = 10 ∨ i = 11 ∨ i = 12 ∨ i = 13 := by omega
      clear hi14 hm
      rcases hcase with rfl | rfl | rfl | rfl | rfl | rfl | rfl | rfl | rfl | rfl | rfl | rfl | rfl | rfl
      · simp only [List.getElem?_toArray, List.getElem?_cons_succ, List.getElem?_cons_zero, Option.some.injEq] at ho
        subst ho
        have hs := hT.s0 hun
        obtain ⟨q0, q5, q9⟩ := HCells.out wv (hT.old0 (hT.no12 (by simp [hun])))
        refine wpOpIn_want ho0 rfl (fun K hK => ?_)
        dsimp only [tact]
        first | gi_big_move | gi_big_op
        exact hK _ _ ⟨_, _, _, _, _, _, _, _, _, _, _, _, _, rfl, hs⟩
      · simp only [List.getElem?_toArray, List.getElem?_cons_succ, List.getElem?_cons_zero, Option.some.injEq] at ho
        subst ho
        have hs := hT.s1 hun
        refine wpOpIn_want ho0 rfl (fun K hK => ?_)
        dsimp only [tact]
        first | gi_big_move | gi_big_op
        exact hK _ _ ⟨_, _, _, _, _, _, _, _, _, _, _, _, _, rfl, hs⟩
      · simp only [List.getElem?_toArray, List.getElem?_cons_succ, List.getElem?_cons_zero, Option.some.injEq] at ho
        subst ho
        have hs := hT.s2 hun
        refine wpOpIn_want ho0 rfl (fun K hK => ?_)
        dsimp only [tact]
        first | gi_big_move | gi_big_op
        exact hK _ _ ⟨_, _, _, _, _, _, _, _, _, _, _, _, _, rfl, hs⟩
      · simp only [List.getElem?_toArray, List.getElem?_cons_succ, List.getElem?_cons_zero, Option.some.injEq] at ho
        subst ho
        have e2 := getD_tt (hall ⟨2, .data⟩ (by simp) (by rfl))
        have r2 := hT.h2 e2
        subst r2
        have hs := hT.s3 hun
        refine wpOpIn_want ho0 rfl (fun K hK => ?_)
        dsimp only [tact]
        first | gi_big_move | gi_big_op
        exact hK _ _ ⟨_, _, _, _, _, _, _, _, _, _, _, _, _, rfl, hs⟩
      · simp only [List.getElem?_toArray, List.getElem?_cons_succ, List.getElem?_cons_zero, Option.some.injEq] at ho
        subst ho
        have e3 := getD_tt (hall ⟨3, .data⟩ (by simp) (by rfl))
        have r3 := hT.h3 e3
        subst r3
        have hs := hT.s4 hun
        refine wpOpIn_want ho0 rfl (fun K hK => ?_)
        dsimp only [tact]
        first | gi_big_move | gi_big_op
        exact hK _ _ ⟨_, _, _, _, _, _, _, _, _, _, _, _, _, rfl, hs⟩
      · simp only [List.getElem?_toArray, List.getElem?_cons_succ, List.getElem?_cons_zero, Option.some.injEq] at ho
        subst ho
        have e4 := getD_tt (hall ⟨4, .data⟩ (by simp) (by rfl))
        have r4 := hT.h4 e4
        subst r4
        have hs := hT.s5 hun
        obtain ⟨q0, q5, q9⟩ := HCells.out wv (hT.old0 (hT.no12 (by simp [hun])))
        refine wpOpIn_want ho0 rfl (fun K hK => ?_)
        dsimp only [tact]
        first | gi_big_move | gi_big_op
        exact hK _ _ ⟨_, _, _, _, _, _, _, _, _, _, _, _, _, rfl, hs⟩
      · simp only [List.getElem?_toArray, List.getElem?_cons_succ, List.getElem?_cons_zero, Option.some.injEq] at ho
        subst ho
        have hs := hT.s6 hun
        refine wpOpIn_want ho0 rfl (fun K hK => ?_)
        dsimp only [tact]
        first | gi_big_move | gi_big_op
        exact hK _ _ ⟨_, _, _, _, _, _, _, _, _, _, _, _, _, rfl, hs⟩
      · simp only [List.getElem?_toArray, List.getElem?_cons_succ, List.getElem?_cons_zero, Option.some.injEq] at ho
        subst ho
        have e6 := getD_tt (hall ⟨6, .data⟩ (by simp) (by rfl))
        have r6 := hT.h6 e6
        subst r6
        have hs := hT.s7 hun
        refine wpOpIn_want ho0 rfl (fun K hK => ?_)
        dsimp only [tact]
        first | gi_big_move | gi_big_op
        exact hK _ _ ⟨_, _, _, _, _, _, _, _, _, _, _, _, _, rfl, hs⟩
      · simp only [List.getElem?_toArray, List.getElem?_cons_succ, List.getElem?_cons_zero, Option.some.injEq] at ho
        subst ho
        have e7 := getD_tt (hall ⟨7, .data⟩ (by simp) (by rfl))
        have r7 := hT.h7 e7
        subst r7
        have hs := hT.s8 hun
        refine wpOpIn_want ho0 rfl (fun K hK => ?_)
        dsimp only [tact]
        first | gi_big_move | gi_big_op
        exact hK _ _ ⟨_, _, _, _, _, _, _, _, _, _, _, _, _, rfl, hs⟩
      · simp only [List.getElem?_toArray, List.getElem?_cons_succ, List.getElem?_cons_zero, Option.some.injEq] at ho
        subst ho
        have e8 := getD_tt (hall ⟨8, .data⟩ (by simp) (by rfl))
        have r8 := hT.h8 e8
        subst r8
        have hs := hT.s9 hun
        obtain ⟨q0, q5, q9⟩ := HCells.out wv (hT.old0 (hT.no12 (by simp [hun])))
        refine wpOpIn_want ho0 rfl (fun K hK => ?_)
        dsimp only [tact]
        first | gi_big_move | gi_big_op
        exact hK _ _ ⟨_, _, _, _, _, _, _, _, _, _, _, _, _, rfl, hs⟩
      · simp only [List.getElem?_toArray, List.getElem?_cons_succ, List.getElem?_cons_zero, Option.some.injEq] at ho
        subst ho
        have e1 := getD_tt (hall ⟨1, .data⟩ (by simp) (by rfl))
        have r1 := hT.h1 e1
        have e5 := getD_tt (hall ⟨5, .data⟩ (by simp) (by rfl))
        have r5 := hT.h5 e5
        have e9 := getD_tt (hall ⟨9, .data⟩ (by simp) (by rfl))
        have r9 := hT.h9 e9
        subst r1
        subst r5
        subst r9
        have hs := hT.s10 hun e5 e9
        refine wpOpIn_want ho0 rfl (fun K hK => ?_)
        dsimp only [tact]
        first | gi_big_move | gi_big_op
        exact hK _ _ ⟨_, _, _, _, _, _, _, _, _, _, _, _, _, rfl, hs⟩
      · simp only [List.getElem?_toArray, List.getElem?_cons_succ, List.getElem?_cons_zero, Option.some.injEq] at ho
        subst ho
        have e10 := getD_tt (hall ⟨10, .data⟩ (by simp) (by rfl))
        have r10 := hT.h10 e10
        subst r10
        have hw0 : l'.getD 11 true = false := hun
        have rw0 := hT.w0 hw0
        subst rw0
        have hs := hT.s11 hun e10
        have hone := HOne.out
        refine wpOpIn_want ho0 rfl (fun K hK => ?_)
        dsimp only [tact]
        first | gi_big_op
        exact hK _ _ ⟨_, _, _, _, _, _, _, _, _, _, _, _, _, rfl, hs.cast HD1.out⟩
      · simp only [List.getElem?_toArray, List.getElem?_cons_succ, List.getElem?_cons_zero, Option.some.injEq] at ho
        subst ho
        have e0 := getD_tt (hall ⟨0, .data⟩ (by simp) (by rfl))
        have r0 := hT.h0 e0
        have e11 := getD_tt (hall ⟨11, .data⟩ (by simp) (by rfl))
        have r11 := hT.h11 e11
        subst r0
        subst r11
        have rw1 := hT.w1 e11 hun
        subst rw1
        have hs := hT.s12 hun e11 e0
        refine wpOpIn_want ho0 rfl (fun K hK => ?_)
        dsimp only [tact]
        refine wpIn_append (fun _ => trivial) (.tmp 21) (.tmp 32) TLqs rfl rfl rfl HRun.out ?_
        exact hK _ _ ⟨_, _, _, _, _, _, _, _, _, _, _, _, _, rfl, hs⟩
      · simp only [List.getElem?_toArray, List.getElem?_cons_succ, List.getElem?_cons_zero, Option.some.injEq] at ho
        subst ho
        have e12 := getD_tt (hall ⟨12, .data⟩ (by simp) (by rfl))
        have r12 := hT.h12 e12
        subst r12
        have rw2 := hT.w2 e12 hun
        subst rw2
        have hs := hT.s13 hun e12
        obtain ⟨b2, f2⟩ := HBox.out
        refine wpOpIn_want ho0 rfl (fun K hK => ?_)
        dsimp only [tact]
        first | gi_big_op
        exact hK _ _ ⟨_, _, _, _, _, _, _, _, _, _, _, _, _, rfl, hs.cast HD3.out⟩
    · decide
    · exact ⟨_, _, _, _, _, _, _, _, _, _, _, _, _, rfl, ⟨rfl, (fun e => absurd (show false = true from e) (by decide)), (fun e => absurd (show false = true from e) (by decide)), (fun e => absurd (show false = true from e) (by decide)), (fun e => absurd (show false = true from e) (by decide)), (fun e => absurd (show false = true from e) (by decide)), (fun e => absurd (show false = true from e) (by decide)), (fun e => absurd (show false = true from e) (by decide)), (fun e => absurd (show false = true from e) (by decide)), (fun e => absurd (show false = true from e) (by decide)), (fun e => absurd (show false = true from e) (by decide)), (fun e => absurd (show false = true from e) (by decide)), (fun e => absurd (show false = true from e) (by decide)), (fun e => absurd (show false = true from e) (by decide)), (fun _ => rfl), (fun e => absurd (show false = true from e) (by decide)), (fun e => absurd (show false = true from e) (by decide)), (fun e => absurd (show false = true from e) (by decide)), (fun e => absurd (show false = true from e) (by decide)), (fun e => absurd (show false = true from e) (by decide)), (fun e => absurd (show false = true from e) (by decide)), (fun e => absurd (show false = true from e) (by decide)), (fun e => absurd (show false = true from e) (by decide)), (fun e => absurd (show false = true from e) (by decide))⟩⟩
  case done =>
    rintro D ys W hD rfl ⟨_, ⟨v, hv, hrow⟩, hB⟩ hK
    have hc := hv.cell
    gi_wp2
    refine ⟨by simp, .inl ⟨_, _, rfl, run_takeDeferred hK, ?_⟩⟩
    have hat : (C.L.attach).map (·.1) = C.L := List.attach_map_subtype_val C.L
    have hal : C.L.attach.length = C.L.length := List.length_attach
    rw [hat, hal] at hrow
    have hKd : (W.putObj D (.deferred none)).heap.size = W.heap.size := by simp
    refine ⟨_, results_tmp rfl _ _ _, _, rfl, ?_, hB.trans (belowK_b (w := w) (Nat.le_refl _) W D _ _ (by omega) hK rfl rfl)⟩
    refine owns_mono (K.ownsRow_block hrow (fun g e => ?_)) (by omega)
    refine World.putObj_heap_other (fun e2 => ?_)
    obtain ⟨_, cs, h1⟩ := K.row_lt hrow g e
    rw [e2, hK] at h1
    cases h1
  case stop =>
    rintro D c pre W _ _ h _
    exact h.elim
end Go.Proofs.YtlacligofhinmaaGreat.C
