import Derived.Test.YtckfmpoddmccfaaV51
import Derived.Test.YtckfmpoddmccfaaV50
import Derived.Test.YtckfmpoddmccfaaV52
namespace Go.Proofs.Ytckfmpoddmccfaa
open Go.RowKit
set_option linter.unusedVariables false
set_option linter.unusedSimpArgs false
set_option maxRecDepth 100000
/-- a call of the law's script, as numbers -/
structure OpF where
  kd : Int
  bo : Option Addr
  bn : Nat
  bc : Nat
  m : Nat
  z : Bool
  x : Bool
  a : Int
def OpF.cells (o : OpF) : Array Value := #[.int .i64 o.kd, .slice o.bo o.bn o.bc, .int .u32 (o.m : Int), .bool o.z, .bool o.x, .int .i64 o.a]
/-- a script in memory -/
structure SRow (w : World) (so : Option Addr) (sc : Nat) (ops : List OpF) : Prop where
  ok : ∀ o ∈ ops, o.m < 4294967296
  len : ops.length ≤ 1048576
  at_ : ops ≠ [] → ∃ b off, so = some ⟨b, off, none⟩ ∧ ∀ k (hk : k < ops.length) j (hj : j < 6), w.cell? ⟨b, off + k * 6 + j, none⟩ = (ops[k].cells)[j]?
  nil : ops = [] → True
theorem SRow.later {w w' : World} {so : Option Addr} {sc : Nat} {ops : List OpF} (h : SRow w so sc ops) (hb : Below w.heap.size w w') : SRow w' so sc ops := by
  refine ⟨h.ok, h.len, fun hne => ?_, fun _ => trivial⟩
  obtain ⟨b, off, e, hc⟩ := h.at_ hne
  refine ⟨b, off, e, fun k hk j hj => ?_⟩
  have h1 := hc k hk j hj
  have hs : (ops[k].cells).size = 6 := rfl
  obtain ⟨u, hu⟩ : ∃ u, (ops[k].cells)[j]? = some u := ⟨(ops[k].cells)[j]'(by omega), Array.getElem?_eq_getElem (show j < ops[k].cells.size by omega)⟩
  rw [hu] at h1 ⊢
  exact cell_later hb h1
set_option maxHeartbeats 4000000 in
/-- bytes that no inbox has room for -/
theorem framePieces_big (ao : Option Addr) (cap n : Nat) (p q : Value) (w : World) (hn : 2097152 ≤ n) (hn2 : n ≤ 140737488351232) :
    Calls Try.prog 5 #[.slice ao n cap, p, q] w fun e w' => e = .returned (.bool true) ∧ Below w.heap.size w w' := by
  have HH : Hid (Calls Try.prog 10 #[] w fun e w' => e = .returned (.bool true) ∧ Below w.heap.size w w') := heads_any w
  have t0 : IntKind.i64.wrap ((n : Int) + 1) = (n : Int) + 1 := by simp [IntKind.wrap, IntKind.bits, IntKind.signed]; omega
  have t1 : decide ((2097152 : Int) < (n : Int) + 1) = true := by simp; omega
  have t2 : (2097152 : Int) < (n : Int) + 1 := by omega
  go_enter Try.func5, Try.ntmps5
  go_wp2_with fail
  refine HH.out.mono ?_
  rintro e W1 ⟨rfl, hb⟩
  have HB : Hid _ := hb
  clear HH hb
  go_wp2
  go_ret
  exact ⟨rfl, HB.out⟩
end Go.Proofs.Ytckfmpoddmccfaa

namespace Go.Proofs.Ytckfmpoddmccfaa
open Go.RowKit
set_option linter.unusedVariables false
set_option linter.unusedSimpArgs false
set_option maxRecDepth 100000
/-- what a cut told, as numbers -/
structure Cg where
  c : Nat
  k0 : Nat
  k1 : Nat
  k2 : Nat
  k3 : Nat
  k4 : Nat
  k5 : Nat
  k6 : Nat
  k7 : Nat
  g : List Nat
abbrev Cg.arr (q : Cg) (ao : Option Addr) (cap : Nat) : Array Value := #[.int .i64 (q.c : Int), .int .u64 (q.k0 : Int), .int .u64 (q.k1 : Int), .int .u64 (q.k2 : Int), .int .u64 (q.k3 : Int), .int .u64 (q.k4 : Int), .int .u64 (q.k5 : Int), .int .u64 (q.k6 : Int), .int .u64 (q.k7 : Int), .slice ao q.g.length cap]
abbrev Cg.tup (q : Cg) : Nat × Nat × Nat × Nat × Nat × Nat × Nat × Nat × Nat × List Nat := (q.c, q.k0, q.k1, q.k2, q.k3, q.k4, q.k5, q.k6, q.k7, q.g)
theorem cutsQ {w : World} {B b : Nat} {v : Value} {rm ov : Nat} {l : List Nat} (h : Inb w B b v rm ov l) (bo : Option Addr) (bn bc m : Nat) (z x : Bool) (a : Int) (kd : Int) (hm : m < 4294967296) :
    Calls Try.prog 14 #[.pointer (some ⟨b, 0, none⟩), .agg #[.int .i64 kd, .slice bo bn bc, .int .u32 (m : Int), .bool z, .bool x, .int .i64 a]] w fun e w' => ∃ (q : Cg) (ov' : Nat) (l' : List Nat) (v' : Value) (ao2 : Option Addr) (cap2 : Nat), e = .returned (.agg #[.int .i64 (q.c : Int), .int .u64 (q.k0 : Int), .int .u64 (q.k1 : Int), .int .u64 (q.k2 : Int), .int .u64 (q.k3 : Int), .int .u64 (q.k4 : Int), .int .u64 (q.k5 : Int), .int .u64 (q.k6 : Int), .int .u64 (q.k7 : Int), .slice ao2 q.g.length cap2]) ∧ cgD kd m z x a ov l = (q.tup, ov', l') ∧ Inb w' B b v' rm ov' l' ∧ IAct w w' b v v' ∧ w'.ownsRow w.heap.size 5 1 (.slice ao2 q.g.length cap2) q.g.length (q.g.map bv) ∧ ∀ g, (Value.slice ao2 q.g.length cap2).ownBlock = some g → v'.ownBlock ≠ some g := by
  refine (cutsI_any h bo bn bc m z x a kd hm).mono ?_
  rintro e w' ⟨cu, n0, n1, n2, n3, n4, n5, n6, n7, d, ov', l', v', ao2, cap2, he, hx, hI, hA, hr, hn⟩
  exact ⟨⟨cu, n0, n1, n2, n3, n4, n5, n6, n7, d⟩, ov', l', v', ao2, cap2, he, hx, hI, hA, hr, hn⟩
theorem Py.put {w W : World} {b1 b2 : Nat} {v1 v2 : Value} {rm ov1 ov2 : Nat} {l1 l2 : List Nat} {rs : List (Value × List Nat)} {pre post : List (Nat × Array Value × TypeId)} {g : Nat} {cs : Array Value} {t : TypeId} (h : Py w W b1 v1 rm ov1 l1 b2 v2 ov2 l2 (pre ++ (g, cs, t) :: post) rs) (j : Nat) (u : Value) {cs' : Array Value} (hcs : cs.setIfInBounds j u = cs') : Py w (W.setCell ⟨g, j, none⟩ u) b1 v1 rm ov1 l1 b2 v2 ov2 l2 (pre ++ (g, cs', t) :: post) rs := by
  have hg : (g, cs, t) ∈ pre ++ (g, cs, t) :: post := by simp
  obtain ⟨h1, h2, h3, h4⟩ := h.box _ hg
  have nx := h.x.notbox h1 h3 h4
  have ny := h.y.notbox h1 h3 h4
  have hk : KeptIn (fun k => k = g) W (W.setCell ⟨g, j, none⟩ u) := ⟨rfl, rfl, rfl, by simp [World.setCell], fun k _ hn => Below.heap_setCell _ _ _ _ hn⟩
  have hnd := h.nd
  rw [List.map_append, List.map_cons, List.nodup_append, List.nodup_cons] at hnd
  obtain ⟨hn1, ⟨hn2, hn3⟩, hn4⟩ := hnd
  have hoth : ∀ x, x ∈ pre ∨ x ∈ post → x.1 ≠ g := by
    rintro x (hx | hx) e
    · exact hn4 x.1 (List.mem_map_of_mem hx) g (by simp) e
    · exact hn2 (List.mem_map.2 ⟨x, hx, e⟩)
  refine ⟨h.x.keep hk (fun k hf e => nx (by subst e; exact hf)), h.y.keep hk (fun k hf e => ny (by subst e; exact hf)), h.ap, h.bel.setCell h2 _, fun x hx => ?_, by simpa using h.nd, fun e he => ⟨owns_same (h.row e he).1 fun k hk2 => Below.heap_setCell _ _ _ _ (fun ek => ?_), (h.row e he).2⟩⟩
  · have key : ∀ x, x ∈ pre ∨ x ∈ post → (W.setCell ⟨g, j, none⟩ u).heap[x.1]? = some (.cells x.2.1 x.2.2 (0, 0)) ∧ w.heap.size ≤ x.1 ∧ x.2.2 ≠ 5 ∧ x.2.2 ≠ TIn := fun x hx' => by
      obtain ⟨k1, k2⟩ := h.box x (by rcases hx' with e | e <;> simp [e])
      exact ⟨(Below.heap_setCell _ _ _ _ (hoth x hx')).trans k1, k2⟩
    rcases List.mem_append.1 hx with hx' | hx'
    · exact key x (.inl hx')
    · rcases List.mem_cons.1 hx' with rfl | hx'
      · refine ⟨?_, h2, h3, h4⟩
        have := heap_setCell_same W g j cs t u h1
        rw [this, hcs]
      · exact key x (.inr hx')
  · have ek' : k = g := ek
    subst ek'
    obtain ⟨cur, hc⟩ := owns_type (h.row e he).1 _ hk2
    have := h1.symm.trans hc
    simp at this
    exact h3 this.2
theorem Py.brow {w W : World} {b1 b2 : Nat} {v1 v2 : Value} {rm ov1 ov2 : Nat} {l1 l2 : List Nat} {bs : List (Nat × Array Value × TypeId)} {rs : List (Value × List Nat)} (h : Py w W b1 v1 rm ov1 l1 b2 v2 ov2 l2 bs rs) {ao : Option Addr} {cap : Nat} {d : List Nat} (hm : (Value.slice ao d.length cap, d) ∈ rs) (hd : ∀ y ∈ d, y < 256) (hl : d.length ≤ 140737488351232) : BRow W ao cap d := by
  obtain ⟨q1, q2, e, hb⟩ := BRow.own (h.row _ hm).1 hd hl
  simp only [Value.slice.injEq] at e
  obtain ⟨rfl, _, rfl⟩ := e
  exact hb
abbrev TOp : TypeId := 38
abbrev TCu : TypeId := 41
/-- what stands at a round of the inner loop -/
structure Lp (w wq : World) (b1 b2 ob wb gb n : Nat) (O : OpF) (p : Cg) (ao2 : Option Addr) (cap2 : Nat) (vx : Value) (ovx : Nat) (lx : List Nat) (ov1 : Nat) (l1 l : List Nat) (at2 : Nat) (q : Cg) (ao3 : Option Addr) (cap3 : Nat) (vy : Value) (ovy : Nat) (ly : List Nat) (ovp : Nat) (lp : List Nat) : Prop where
  py : Py w wq b1 vx (n + 1) ovx lx b2 vy ovy ly [(gb, q.arr ao3 cap3, TCu), (wb, p.arr ao2 cap2, TCu), (ob, O.cells, TOp)] [(.slice ao3 q.g.length cap3, q.g), (.slice ao2 p.g.length cap2, p.g)]
  cg : cgD O.kd O.m O.z O.x O.a ovp lp = (q.tup, ovy, ly)
  rel : Rel (l.drop at2) ov1 l1 ovp lp
/-- .. behind a piece that was fed -/
structure Fd (w wq : World) (b1 b2 ob wb gb n : Nat) (O : OpF) (p : Cg) (ao2 : Option Addr) (cap2 : Nat) (vx : Value) (ovx : Nat) (lx : List Nat) (ov1 : Nat) (l1 l : List Nat) (at2 : Nat) (q : Cg) (ao3 : Option Addr) (cap3 : Nat) (vy : Value) (ovy : Nat) (ly : List Nat) : Prop where
  py : Py w wq b1 vx (n + 1) ovx lx b2 vy ovy ly [(gb, q.arr ao3 cap3, TCu), (wb, p.arr ao2 cap2, TCu), (ob, O.cells, TOp)] [(.slice ao2 p.g.length cap2, p.g)]
  rel : Rel (l.drop at2) ov1 l1 ovy ly
section
variable {w wq : World} {b1 b2 ob wb gb n : Nat} {O : OpF} {p : Cg} {ao2 : Option Addr} {cap2 : Nat} {vx : Value} {ovx : Nat} {lx : List Nat} {ov1 : Nat} {l1 l : List Nat} {at2 : Nat} {q : Cg} {ao3 : Option Addr} {cap3 : Nat} {vy : Value} {ovy : Nat} {ly : List Nat} {ovp : Nat} {lp : List Nat}
theorem Lp.exit (h : Lp w wq b1 b2 ob wb gb n O p ao2 cap2 vx ovx lx ov1 l1 l at2 q ao3 cap3 vy ovy ly ovp lp) (hG : cgD O.kd O.m O.z O.x O.a ov1 l1 = (p.tup, ovx, lx)) (hk : 2 ≤ O.kd ∧ O.kd ≤ 9) (hL : l.length = n) (hex : q.c ≠ 0 ∨ n ≤ at2) (hlb : ∀ y ∈ l1, y < 256) (hln : l1.length ≤ 140737488351232) :
    q = p ∧ BRow wq ao3 cap3 p.g ∧ BRow wq ao2 cap2 p.g ∧ Rel (l.drop at2) ovx lx ovy ly := by
  have key := cgD_rel O.kd hk O.m O.z O.x O.a h.rel
  have hex' : (cgD O.kd O.m O.z O.x O.a ovp lp).1.1 ≠ 0 ∨ l.drop at2 = [] := by
    rw [h.cg]
    rcases hex with e | e
    · exact .inl e
    · exact .inr (List.drop_eq_nil_of_le (by omega))
  obtain ⟨keq, krel⟩ := key.2 hex'
  rw [h.cg, hG] at keq krel
  have e : q = p := by
    simp only [Cg.tup, Prod.mk.injEq] at keq
    obtain ⟨e0, e1, e2, e3, e4, e5, e6, e7, e8, e9⟩ := keq
    cases q; cases p
    simp_all
  subst e
  have hsub := cgD_sub O.kd O.m O.z O.x O.a ov1 l1
  rw [hG] at hsub
  have hd : ∀ y ∈ q.g, y < 256 := fun y hy => hlb y (hsub.subset hy)
  have hdl : q.g.length ≤ 140737488351232 := Nat.le_trans hsub.length_le hln
  exact ⟨rfl, h.py.brow (.head _) hd hdl, h.py.brow (.tail _ (.head _)) hd hdl, krel⟩
theorem Lp.feed (h : Lp w wq b1 b2 ob wb gb n O p ao2 cap2 vx ovx lx ov1 l1 l at2 q ao3 cap3 vy ovy ly ovp lp) (hk : 2 ≤ O.kd ∧ O.kd ≤ 9) (hL : l.length = n) (hc : q.c = 0) (hl1 : l1.length ≤ n + 1) (n1 : Nat) (h1 : 1 ≤ n1) (h2 : at2 + n1 ≤ n) :
    min (n1 - min n1 ovy) (n + 1 - ly.length) = n1 - min n1 ovy ∧ ∀ W' v', Inb W' w.heap.size b2 v' (n + 1) (ovy - min n1 ovy) (ly ++ (((l.drop at2).take n1).drop (min n1 ovy)).take (n1 - min n1 ovy)) → IAct wq W' b2 vy v' →
      Fd w W' b1 b2 ob wb gb n O p ao2 cap2 vx ovx lx ov1 l1 l (at2 + n1) q ao3 cap3 v' (ovy - min n1 ovy) (ly ++ (((l.drop at2).take n1).drop (min n1 ovy)).take (n1 - min n1 ovy)) := by
  have key := (cgD_rel O.kd hk O.m O.z O.x O.a h.rel).1
  rw [h.cg] at key
  have e := key hc
  simp only [Prod.mk.injEq] at e
  obtain ⟨rfl, rfl⟩ := e
  have hR := h.rel
  have hul : ((l.drop at2).take n1).length = n1 := by rw [List.length_take, List.length_drop]; omega
  have hur : l.drop at2 = (l.drop at2).take n1 ++ l.drop (at2 + n1) := by
    rw [← List.drop_drop, List.take_append_drop]
  have htk : (((l.drop at2).take n1).drop (min n1 ovy)).take (n1 - min n1 ovy) = ((l.drop at2).take n1).drop (min n1 ovy) := List.take_of_length_le (by rw [List.length_drop, hul]; exact Nat.le_refl _)
  refine ⟨?_, fun W' v' hI hA => ?_⟩
  · obtain ⟨q1, q2, q3⟩ := hR
    by_cases h0 : 0 < ovy
    · rw [q1 h0]; simp; omega
    · have e0 : ovy = 0 := by omega
      subst e0
      have : l1.length = ly.length + (n - at2) := by rw [q2]; simp [hL]
      omega
  · rw [htk] at hI ⊢
    have h3 := (h.py.acty hI hA).drop (rs' := [(.slice ao2 p.g.length cap2, p.g)]) (List.Sublist.refl _) (fun e he => .tail _ he)
    refine ⟨h3, ?_⟩
    rw [hur] at hR
    have := feed_rel hR
    rw [hul] at this
    exact this
set_option maxHeartbeats 2000000 in
theorem Fd.cut (h : Fd w wq b1 b2 ob wb gb n O p ao2 cap2 vx ovx lx ov1 l1 l at2 q ao3 cap3 vy ovy ly) {W : World} {r : Cg} {ov' : Nat} {l' : List Nat} {v' : Value} {ao4 : Option Addr} {cap4 : Nat} (hcg : cgD O.kd O.m O.z O.x O.a ovy ly = (r.tup, ov', l')) (hI : Inb W w.heap.size b2 v' (n + 1) ov' l') (hA : IAct wq W b2 vy v') (hr : W.ownsRow wq.heap.size 5 1 (.slice ao4 r.g.length cap4) r.g.length (r.g.map bv)) (hn : ∀ g, (Value.slice ao4 r.g.length cap4).ownBlock = some g → v'.ownBlock ≠ some g) :
    Lp w ((((((((((W.setCell ⟨gb, 0, none⟩ (.int .i64 (r.c : Int))).setCell ⟨gb, 1, none⟩ (.int .u64 (r.k0 : Int))).setCell ⟨gb, 2, none⟩ (.int .u64 (r.k1 : Int))).setCell ⟨gb, 3, none⟩ (.int .u64 (r.k2 : Int))).setCell ⟨gb, 4, none⟩ (.int .u64 (r.k3 : Int))).setCell ⟨gb, 5, none⟩ (.int .u64 (r.k4 : Int))).setCell ⟨gb, 6, none⟩ (.int .u64 (r.k5 : Int))).setCell ⟨gb, 7, none⟩ (.int .u64 (r.k6 : Int))).setCell ⟨gb, 8, none⟩ (.int .u64 (r.k7 : Int))).setCell ⟨gb, 9, none⟩ (.slice ao4 r.g.length cap4)) b1 b2 ob wb gb n O p ao2 cap2 vx ovx lx ov1 l1 l at2 r ao4 cap4 v' ov' l' ovy ly := by
  have h0 := h.py.toldy hI hA hr hn
  refine ⟨?_, hcg, h.rel⟩
  have h1 := Py.put (pre := []) (cs' := #[.int .i64 (r.c : Int), .int .u64 (q.k0 : Int), .int .u64 (q.k1 : Int), .int .u64 (q.k2 : Int), .int .u64 (q.k3 : Int), .int .u64 (q.k4 : Int), .int .u64 (q.k5 : Int), .int .u64 (q.k6 : Int), .int .u64 (q.k7 : Int), .slice ao3 q.g.length cap3]) h0 0 (.int .i64 (r.c : Int)) rfl
  have h2 := Py.put (pre := []) (cs' := #[.int .i64 (r.c : Int), .int .u64 (r.k0 : Int), .int .u64 (q.k1 : Int), .int .u64 (q.k2 : Int), .int .u64 (q.k3 : Int), .int .u64 (q.k4 : Int), .int .u64 (q.k5 : Int), .int .u64 (q.k6 : Int), .int .u64 (q.k7 : Int), .slice ao3 q.g.length cap3]) h1 1 (.int .u64 (r.k0 : Int)) rfl
  have h3 := Py.put (pre := []) (cs' := #[.int .i64 (r.c : Int), .int .u64 (r.k0 : Int), .int .u64 (r.k1 : Int), .int .u64 (q.k2 : Int), .int .u64 (q.k3 : Int), .int .u64 (q.k4 : Int), .int .u64 (q.k5 : Int), .int .u64 (q.k6 : Int), .int .u64 (q.k7 : Int), .slice ao3 q.g.length cap3]) h2 2 (.int .u64 (r.k1 : Int)) rfl
  have h4 := Py.put (pre := []) (cs' := #[.int .i64 (r.c : Int), .int .u64 (r.k0 : Int), .int .u64 (r.k1 : Int), .int .u64 (r.k2 : Int), .int .u64 (q.k3 : Int), .int .u64 (q.k4 : Int), .int .u64 (q.k5 : Int), .int .u64 (q.k6 : Int), .int .u64 (q.k7 : Int), .slice ao3 q.g.length cap3]) h3 3 (.int .u64 (r.k2 : Int)) rfl
  have h5 := Py.put (pre := []) (cs' := #[.int .i64 (r.c : Int), .int .u64 (r.k0 : Int), .int .u64 (r.k1 : Int), .int .u64 (r.k2 : Int), .int .u64 (r.k3 : Int), .int .u64 (q.k4 : Int), .int .u64 (q.k5 : Int), .int .u64 (q.k6 : Int), .int .u64 (q.k7 : Int), .slice ao3 q.g.length cap3]) h4 4 (.int .u64 (r.k3 : Int)) rfl
  have h6 := Py.put (pre := []) (cs' := #[.int .i64 (r.c : Int), .int .u64 (r.k0 : Int), .int .u64 (r.k1 : Int), .int .u64 (r.k2 : Int), .int .u64 (r.k3 : Int), .int .u64 (r.k4 : Int), .int .u64 (q.k5 : Int), .int .u64 (q.k6 : Int), .int .u64 (q.k7 : Int), .slice ao3 q.g.length cap3]) h5 5 (.int .u64 (r.k4 : Int)) rfl
  have h7 := Py.put (pre := []) (cs' := #[.int .i64 (r.c : Int), .int .u64 (r.k0 : Int), .int .u64 (r.k1 : Int), .int .u64 (r.k2 : Int), .int .u64 (r.k3 : Int), .int .u64 (r.k4 : Int), .int .u64 (r.k5 : Int), .int .u64 (q.k6 : Int), .int .u64 (q.k7 : Int), .slice ao3 q.g.length cap3]) h6 6 (.int .u64 (r.k5 : Int)) rfl
  have h8 := Py.put (pre := []) (cs' := #[.int .i64 (r.c : Int), .int .u64 (r.k0 : Int), .int .u64 (r.k1 : Int), .int .u64 (r.k2 : Int), .int .u64 (r.k3 : Int), .int .u64 (r.k4 : Int), .int .u64 (r.k5 : Int), .int .u64 (r.k6 : Int), .int .u64 (q.k7 : Int), .slice ao3 q.g.length cap3]) h7 7 (.int .u64 (r.k6 : Int)) rfl
  have h9 := Py.put (pre := []) (cs' := #[.int .i64 (r.c : Int), .int .u64 (r.k0 : Int), .int .u64 (r.k1 : Int), .int .u64 (r.k2 : Int), .int .u64 (r.k3 : Int), .int .u64 (r.k4 : Int), .int .u64 (r.k5 : Int), .int .u64 (r.k6 : Int), .int .u64 (r.k7 : Int), .slice ao3 q.g.length cap3]) h8 8 (.int .u64 (r.k7 : Int)) rfl
  exact Py.put (pre := []) (cs' := #[.int .i64 (r.c : Int), .int .u64 (r.k0 : Int), .int .u64 (r.k1 : Int), .int .u64 (r.k2 : Int), .int .u64 (r.k3 : Int), .int .u64 (r.k4 : Int), .int .u64 (r.k5 : Int), .int .u64 (r.k6 : Int), .int .u64 (r.k7 : Int), .slice ao4 r.g.length cap4]) h9 9 (.slice ao4 r.g.length cap4) rfl
end
end Go.Proofs.Ytckfmpoddmccfaa
