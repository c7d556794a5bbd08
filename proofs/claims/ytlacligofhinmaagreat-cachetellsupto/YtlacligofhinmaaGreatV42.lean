import Derived.Test.YtlacligofhinmaaGreatV41
import Derived.Maps.OwnIn
namespace Go.Proofs.YtlacligofhinmaaGreat.C
open Go.RowKit Go.Maps Go.Shelf Go.Proofs.YtlacligofhinmaaGreat
attribute [local go_sem] Oper.semAt_some
set_option linter.unusedVariables false
set_option linter.unusedSimpArgs false
set_option maxRecDepth 100000

/-- what a ranging's body leaves of a row of lines that is not its own -/
structure KeepsL (Kp : World → World → Prop) (Fine : Nat → World → Prop) : Prop where
  k : ∀ {W W' : World} {g : Nat} {cur : Array Value}, Kp W W' → Fine g W → W.heap[g]? = some (.cells cur TLq (0, 0)) → W'.heap[g]? = some (.cells cur TLq (0, 0)) ∧ Fine g W'
  a : ∀ {W : World} {g : Nat} (o : Obj), Fine g W → g < W.heap.size → Fine g (W.alloc o)
theorem lines_fnq (w : World) (p : Option Addr) : Calls Tryz.prog 13 #[.pointer p] w fun r w' => r = .returned (.func (.func 39) #[] #[.pointer (some ⟨w.heap.size, 0, none⟩)]) ∧ w' = w.alloc (.cells #[.pointer p] 33) := by
  have hmf : ∀ (fn : Fn) (first cap : Array Value) (w : World), (Instr.makeFunc fn first cap).run Tryz.prog w = .ok (.func fn first cap) w := fun _ _ _ _ => rfl
  go_enter Tryz.func13, Tryz.ntmps13
  go_wp2
  go_ret
  exact ⟨rfl, rfl⟩
theorem row_blk {W : World} {B n : Nat} {v : Value} {L : List Ln} (h : W.ownsRow B TLq 3 v n (lcellsT L)) (hn : n = L.length) (h0 : 0 < n) : ∃ g cap cur, v = .slice (some ⟨g, 0, none⟩) n cap ∧ B ≤ g ∧ W.heap[g]? = some (.cells cur TLq (0, 0)) ∧ ∀ (k : Nat) l, L[k]? = some l → cur[k * 3]? = some (.int .i64 l.sec) ∧ cur[k * 3 + 1]? = some (.bool l.dirty) ∧ cur[k * 3 + 2]? = some (.bool l.note) := by
  rcases h.2 with ⟨_, e⟩ | ⟨g, cap, cur, rfl, hb, hg, _⟩
  · omega
  · refine ⟨g, cap, cur, rfl, hb, hg, fun k l hk => ?_⟩
    have hlt := (List.getElem?_eq_some_iff.1 hk).1
    obtain ⟨h1, h2, h3⟩ := lcellsT_get hk
    have c : ∀ j, j < n * 3 → cur[j]? = (lcellsT L)[j]? := fun j hj => by
      have := h.cellAt j (by omega)
      rw [K.cell_of hg] at this
      exact this
    exact ⟨(c _ (by omega)).trans h1, (c _ (by omega)).trans h2, (c _ (by omega)).trans h3⟩
set_option maxHeartbeats 8000000 in
/-- what a ranging over Lines gives -/
theorem seq_lines (n : Nat) (hn : 2 ≤ n) {Kp : World → World → Prop} {Fine : Nat → World → Prop} (HK : KeepsL Kp Fine) {w : World} {b0 bc : Nat} (L : List Ln)
    (HU : Hid (∀ W, Below w.heap.size w W → Calls Tryz.prog 40 #[.pointer (some ⟨bc, 0, none⟩)] W fun r w' => ∃ v, r = .returned v ∧ w'.ownsRow W.heap.size TLq 3 v L.length (lcellsT L) ∧ Below W.heap.size W w'))
    (c0 : w.cell? ⟨b0, 0, none⟩ = some (.pointer (some ⟨bc, 0, none⟩))) (hl : L.length ≤ 1024)
    (hF : ∀ (W w1 : World) (k : Nat), Below w.heap.size w W → Below W.heap.size W w1 → W.heap.size ≤ k → k < w1.heap.size → Fine k w1) :
    SeqStopsK Fence.wide n Tryz.prog 39 #[.pointer (some ⟨b0, 0, none⟩)] (fun l : Ln => #[.agg #[.int .i64 l.sec, .bool l.dirty, .bool l.note]]) Kp (fun ys => ys = L) (fun pre => ∃ rest, L = pre ++ rest) L.length w := by
  intro l J Jx W hW hJ hJx hY h0
  have HP := HU.out W hW
  have d0 : W.cell? ⟨b0, 0, none⟩ = some (.pointer (some ⟨bc, 0, none⟩)) := cell_later hW c0
  have HJb : Hid (∀ w', Below W.heap.size W w' → J [] w') := fun w' hb => hJ [] W _ none h0 ⟨hb.os, hb.tape, hb.output, hb.size, fun i hi _ => hb.block i hi⟩ (fun r e => by cases e)
  have HJa : Hid (∀ xs X o, J xs X → J xs (X.alloc o)) := fun xs X o hj => hJ xs X _ none hj (World.grownBy_alloc X o none) (fun r e => by cases e)
  have hf : Fence.wide.fn 39 := trivial
  have hf2 : Fence.wide.fn 40 := trivial
  have h1 : 1 ≤ n := by omega
  have h1' : 1 ≤ n - 1 := by omega
  have HF : Hid (∀ (w1 : World) (k : Nat), Below W.heap.size W w1 → W.heap.size ≤ k → k < w1.heap.size → Fine k w1) := fun w1 k hb hk hk2 => hF W w1 k hW hb hk hk2
  obtain ⟨m, hm⟩ : ∃ m, m = L.length := ⟨_, rfl⟩
  rw [← hm] at HP hl hY
  have HM : Hid (m = L.length) := hm
  clear HU c0 h0 hF hW hm hJ
  refine callsIn_of_wp Tryz.func39 rfl hf ?_ rfl
  simp only [Tryz.ntmps39, List.size_toArray, List.length_cons, List.length_nil, Nat.reduceAdd, Nat.reduceSub, Array.replicate_succ, Array.replicate_zero, List.push_toArray, List.append_toArray, List.nil_append, List.cons_append]
  by_cases hm0 : m = 0
  · subst hm0
    have HE : Hid (L = []) := List.length_eq_zero_iff.1 HM.out.symm
    gi_wp2_with (gi_at_call 40; refine (callsIn_wide.2 HP).mono ?_; rintro e w9 ⟨v9, rfl, ho9, hb9⟩; obtain ⟨ao9, c9, rfl⟩ := K.own_slice ho9; have HJ2 : Hid (J [] w9) := HJb.out w9 hb9; clear hb9 ho9)
    gi_loopw [8] (fun i wr => i = .int .i64 0 ∧ Hid (J [] wr)) (fun i _ => 0)
    case atStart => exact ⟨rfl, HJ2⟩
    case round =>
      obtain ⟨rfl, HJr⟩ := hrel
      gi_wp2
      go_end0
      exact ⟨⟨_, rfl⟩, .inl ⟨[], HE.out.symm, HJr.out⟩⟩
  · gi_wp2_with (gi_at_call 40; refine (callsIn_wide.2 HP).mono ?_; rintro e w1 ⟨v9, rfl, ho9, hb9⟩; obtain ⟨gv, cap, cur, rfl, hgv, hblk, hcells⟩ := row_blk ho9 HM.out (by omega); have HJ1 : Hid (J [] w1) := HJb.out w1 hb9; have HB : Hid (w1.heap[gv]? = some (.cells cur TLq (0, 0)) ∧ Fine gv w1) := ⟨hblk, HF.out w1 gv hb9 hgv (Array.getElem?_eq_some_iff.1 hblk).1⟩; have HC : Hid (∀ (k : Nat) l, L[k]? = some l → cur[k * 3]? = some (.int .i64 l.sec) ∧ cur[k * 3 + 1]? = some (.bool l.dirty) ∧ cur[k * 3 + 2]? = some (.bool l.note)) := hcells; clear hb9 ho9 hblk hcells hgv)
    gi_loopw [8] (fun i wr => ∃ (k : Nat), i = .int .i64 k ∧ k ≤ m ∧ Hid (wr.heap[gv]? = some (.cells cur TLq (0, 0)) ∧ Fine gv wr) ∧ Hid (J (L.take k) wr)) (fun i _ => m - (intOf i).toNat)
    case atStart => exact ⟨0, rfl, Nat.zero_le _, HB, HJ1⟩
    case round =>
      obtain ⟨k, rfl, hk, HBk, HJk⟩ := hrel
      by_cases hlt2 : k < m
      · obtain ⟨x, hx⟩ : ∃ x, L[k]? = some x := ⟨_, List.getElem?_eq_getElem (by have := HM.out; omega)⟩
        obtain ⟨e0, e1, e2⟩ := HC.out k x hx
        have z0 : wr.cell? ⟨gv, k * 3, none⟩ = some (.int .i64 x.sec) := (K.cell_of HBk.out.1).trans e0
        have z1 : wr.cell? ⟨gv, k * 3 + 1, none⟩ = some (.bool x.dirty) := (K.cell_of HBk.out.1).trans e1
        have z2 : wr.cell? ⟨gv, k * 3 + 2, none⟩ = some (.bool x.note) := (K.cell_of HBk.out.1).trans e2
        have hkz : (k : Int) < (m : Int) := by omega
        have HT : Hid (L.take k ++ [x] = L.take (k + 1)) := by
          show _ = _
          rw [List.take_add_one, hx]; rfl
        have hlen : (L.take k).length < m := by rw [List.length_take]; have := HM.out; omega
        have hbl := (Array.getElem?_eq_some_iff.1 HBk.out.1).1
        have HBa : Hid ((wr.alloc (.cells #[.int .i64 x.sec, .bool x.dirty, .bool x.note] TLq)).heap[gv]? = some (.cells cur TLq (0, 0)) ∧ Fine gv (wr.alloc (.cells #[.int .i64 x.sec, .bool x.dirty, .bool x.note] TLq))) := ⟨(Below.heap_alloc _ _ _ hbl).trans HBk.out.1, HK.a _ HBk.out.2 hbl⟩
        obtain ⟨fn, tmps, assign, body, hy, hR⟩ := hY (L.take k) x (wr.alloc (.cells #[.int .i64 x.sec, .bool x.dirty, .bool x.note] TLq)) (HJa.out _ _ _ HJk.out) hlen
        rw [HT.out] at hR
        have bx := heap_alloc_new wr (.cells #[.int .i64 x.sec, .bool x.dirty, .bool x.note] TLq)
        have y0 : (wr.alloc (.cells #[.int .i64 x.sec, .bool x.dirty, .bool x.note] TLq)).cell? ⟨wr.heap.size, 0, none⟩ = some (.int .i64 x.sec) := (K.cell_of bx).trans rfl
        have y1 : (wr.alloc (.cells #[.int .i64 x.sec, .bool x.dirty, .bool x.note] TLq)).cell? ⟨wr.heap.size, 1, none⟩ = some (.bool x.dirty) := (K.cell_of bx).trans rfl
        have y2 : (wr.alloc (.cells #[.int .i64 x.sec, .bool x.dirty, .bool x.note] TLq)).cell? ⟨wr.heap.size, 2, none⟩ = some (.bool x.note) := (K.cell_of bx).trans rfl
        clear hx hlen hY bx e0 e1 e2 hbl
        gi_wp2
        refine hR.mono ?_
        rintro e W3 (⟨rfl, hJ3, hk3⟩ | ⟨rfl, hJx3⟩)
        · have HB3 : Hid (W3.heap[gv]? = some (.cells cur TLq (0, 0)) ∧ Fine gv W3) := HK.k hk3 HBa.out.2 HBa.out.1
          gi_wp2
          go_roundw
          case rel => exact ⟨k + 1, by go_num, by omega, HB3, hJ3⟩
          case measure => simp [intOf]; omega
        · gi_wp2
          refine bodyPost_ret (results_none rfl _ _ _) rfl ?_
          exact ⟨⟨_, rfl⟩, .inr ⟨L.take (k + 1), ⟨L.drop (k + 1), (List.take_append_drop _ _).symm⟩, hJx3⟩⟩
      · have e : k = m := by omega
        subst e
        have HE : Hid (L.take k = L) := by rw [HM.out]; exact List.take_length
        rw [HE.out] at HJk
        gi_wp2
        go_end0
        exact ⟨⟨_, rfl⟩, .inl ⟨L, rfl, HJk.out⟩⟩
end Go.Proofs.YtlacligofhinmaaGreat.C
