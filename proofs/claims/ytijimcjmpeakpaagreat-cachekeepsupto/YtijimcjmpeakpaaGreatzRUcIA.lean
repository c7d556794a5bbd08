import Derived.Test.YtijimcjmpeakpaaGreatG33
import Derived.RangeFuncNested
import Derived.RangeFuncBound
import Derived.RangeFuncCalls
import Derived.RangeFuncLeaves
import Derived.Shelf.Abstract
import Derived.Shelf.RegionOpen
import Derived.OwnWalkIn
import Derived.TacticsInMore
import Derived.LoopNIn
import Derived.LoopIn
namespace Go.Proofs.YtijimcjmpeakpaaGreat.I.A
open Go.RowKit Go.Maps Go.Shelf Go.Proofs.YtijimcjmpeakpaaGreat.I
attribute [local go_sem] Oper.semAt_some
set_option linter.unusedVariables false
set_option linter.unusedSimpArgs false
set_option maxRecDepth 100000

/-- a row of keys is kept by what the ranging's body does -/
structure KeepsRow (Kp : World → World → Prop) (Fine : Nat → World → Prop) : Prop where
  k : ∀ {W W' : World} {g : Nat} {cur : Array Value} {fr : Nat × Nat}, Kp W W' → Fine g W → W.heap[g]? = some (.cells cur TKey fr) → W'.heap[g]? = some (.cells cur TKey fr) ∧ Fine g W'
theorem KV_get {ks : List Int} {k : Nat} {x : Int} (h : ks[k]? = some x) : (KV ks)[k]? = some (kv x) := by unfold KV; rw [List.getElem?_map, h]; rfl

theorem row_form {W : World} {B : Nat} {v : Value} {ks : List Int} (h : W.ownsRow B TKey 1 v ks.length (KV ks)) : ∃ ao cap, v = .slice ao ks.length cap ∧ ks.length ≤ cap ∧ (0 < ks.length → ∃ gv cur, ao = some ⟨gv, 0, none⟩ ∧ B ≤ gv ∧ W.heap[gv]? = some (.cells cur TKey (0, 0)) ∧ ∀ (k : Nat) (x : Int), ks[k]? = some x → cur[k]? = some (kv x)) := by
  rcases h.2 with ⟨rfl, h0⟩ | ⟨gv, cap, cur, rfl, hb, hg, hc, _, hsz, ht⟩
  · exact ⟨none, 0, by rw [h0], by omega, fun h => by omega⟩
  · refine ⟨_, cap, rfl, hc, fun _ => ⟨gv, cur, rfl, hb, hg, fun k x hx => ?_⟩⟩
    have hk := (List.getElem?_eq_some_iff.1 hx).1
    have h1 := KV_get hx
    rw [← ht, List.getElem?_take, if_pos (by omega)] at h1
    rw [← h1]; simp

theorem gather_any {W : World} {b1 bo bm g : Nat} {L : List Ent} (h : RO W bo bm g L) (c1 : W.cell? ⟨b1, 0, none⟩ = some (.func (.func 126) #[] #[])) (hl1 : b1 < W.heap.size) (hlen : L.length * 8 ≤ 140737488355328) :
    Calls Tryz.prog 168 #[.pointer (some ⟨bo, 0, none⟩), .func (.func 169) #[] #[.pointer (some ⟨b1, 0, none⟩), .pointer (some ⟨W.heap.size, 0, none⟩)]] (W.alloc (.cells #[.slice none 0 0] TKeys)) fun r w' => r = .returned (.tuple #[]) ∧ Gath W.heap.size W.heap.size W w' (picked L) := by
  have hB0 : Below W.heap.size W (W.alloc (.cells #[.slice none 0 0] TKeys)) := (Below.refl _ W).alloc (Nat.le_refl _) _
  refine (walk_told (h.later hB0) _ _ (fun pre X => Gath W.heap.size W.heap.size W X (picked pre)) (fun _ _ => False) ⟨hB0, _, Boxed.new W TKeys _, World.ownsRow_nil _ _ _ _⟩ (fun pre X hJ => lowerRO h h.lt hJ.1) ?_).mono ?_
  · intro k e X he hJ
    have hk := (List.getElem?_eq_some_iff.1 he).1
    have hpl := picked_length (L.take k)
    rw [List.length_take] at hpl
    refine (cb_any h h.lt c1 hl1 (Nat.le_refl _) (Nat.le_refl _) hJ (List.mem_of_getElem? he) (by omega)).mono ?_
    rintro r X' ⟨rfl, hG⟩
    refine .inl ⟨rfl, ?_⟩
    have e1 : L.take (k + 1) = L.take k ++ [e] := by rw [List.take_add_one, he]; rfl
    rw [e1]
    by_cases hs : sel e = true
    · rw [picked_hit _ _ hs]; simpa [hs] using hG
    · have hs' : sel e = false := by simpa using hs
      rw [picked_miss _ _ hs']; simpa [hs'] using hG
  · rintro r w' ⟨rfl, (hJ | ⟨k, hk, hf⟩)⟩
    · exact ⟨rfl, hJ⟩
    · exact hf.elim

set_option maxHeartbeats 4000000 in
/-- what a ranging gives -/
theorem seq_any (n : Nat) (hn : 2 ≤ n) {Kp : World → World → Prop} {Fine : Nat → World → Prop} (HK : KeepsRow Kp Fine) {w : World} {b0 b1 bo bm g : Nat} {L : List Ent} (h : RO w bo bm g L)
    (c0 : w.cell? ⟨b0, 0, none⟩ = some (.pointer (some ⟨bo, 0, none⟩))) (c1 : w.cell? ⟨b1, 0, none⟩ = some (.func (.func 126) #[] #[])) (hl1 : b1 < w.heap.size) (hlen : L.length * 8 ≤ 140737488355328)
    (hF : ∀ (W w1 : World) (k : Nat), Below w.heap.size w W → Below W.heap.size W w1 → W.heap.size ≤ k → k < w1.heap.size → Fine k w1) :
    SeqStopsK Fence.wide n Tryz.prog 167 #[.pointer (some ⟨b0, 0, none⟩), .pointer (some ⟨b1, 0, none⟩)] (fun k => #[kv k]) Kp (fun xs => xs = picked L) (fun pre => ∃ rest, picked L = pre ++ rest) (picked L).length w := by
  intro l J Jx W hW hJ hJx hY h0
  have HP := gather_any (h.later hW) (cell_later hW c1) (Nat.lt_of_lt_of_le hl1 hW.size) hlen
  have d0 : (W.alloc (.cells #[.slice none 0 0] TKeys)).cell? ⟨b0, 0, none⟩ = some (.pointer (some ⟨bo, 0, none⟩)) := cell_later ((Below.refl _ W).alloc (Nat.le_refl _) _) (cell_later hW c0)
  have hmf : ∀ (fn : Fn) (first cap : Array Value) (w : World), (Instr.makeFunc fn first cap).run Tryz.prog w = .ok (.func fn first cap) w := fun _ _ _ _ => rfl
  obtain ⟨xs, hxs⟩ : ∃ xs, xs = picked L := ⟨_, rfl⟩
  have hpl := picked_length L
  rw [← hxs] at HP hY hpl ⊢
  obtain ⟨m, hm⟩ : ∃ m, m = xs.length := ⟨_, rfl⟩
  rw [← hm] at hY hpl
  have HM : Hid (m = xs.length) := hm
  have hml : m ≤ 17592186044416 := by omega
  have HP2 : Hid (Calls Tryz.prog 168 #[.pointer (some ⟨bo, 0, none⟩), .func (.func 169) #[] #[.pointer (some ⟨b1, 0, none⟩), .pointer (some ⟨W.heap.size, 0, none⟩)]] (W.alloc (.cells #[.slice none 0 0] TKeys)) fun r w' => r = .returned (.tuple #[]) ∧ Gath W.heap.size W.heap.size W w' xs) := HP
  have HF : Hid (∀ (W w1 : World) (k : Nat), Below w.heap.size w W → Below W.heap.size W w1 → W.heap.size ≤ k → k < w1.heap.size → Fine k w1) := hF
  have HW : Hid (Below w.heap.size w W) := hW
  have HJ0 : Hid (J [] W) := h0
  clear hm hxs h c0 c1 hpl hlen HP hF hl1 hW h0
  have hf : Fence.wide.fn 167 := trivial
  have hf2 : Fence.wide.fn 168 := trivial
  refine callsIn_of_wp Tryz.func167 rfl hf ?_ rfl
  simp only [Tryz.ntmps167, List.size_toArray, List.length_cons, List.length_nil, Nat.reduceAdd, Nat.reduceSub, Array.replicate_succ, Array.replicate_zero, List.push_toArray, List.append_toArray, List.nil_append, List.cons_append]
  have h1 : 1 ≤ n := by omega
  have h1' : 1 ≤ n - 1 := by omega
  gi_wp2_with (gi_at_call 168; refine (callsIn_wide.2 HP2.out).mono ?_; rintro e w1 ⟨rfl, hb, v, hbox, hown⟩; obtain ⟨ao, cap, rfl, hcap, hrf⟩ := row_form hown; have hcv := hbox.cell; rw [← HM.out] at hcv hcap hrf)
  have HFg : Hid (∀ k, W.heap.size ≤ k → k < w1.heap.size → Fine k w1) := fun k hk hk2 => HF.out W w1 k HW.out hb hk hk2
  have HJ1 : Hid (J [] w1) := hJ [] W w1 none HJ0.out ⟨hb.os, hb.tape, hb.output, hb.size, fun k hk _ => hb.block k hk⟩ (fun r e => by cases e)
  have hcap' : (m : Int) ≤ (cap : Int) := by omega
  by_cases hm0 : m = 0
  · have HE : Hid (xs = []) := by have := HM.out; exact List.length_eq_zero_iff.1 (by omega)
    subst hm0
    clear hcv hrf hbox hown hb HP2 d0 hcap'
    gi_loopw [12] (fun i wr => i = .int .i64 0 ∧ Hid (J [] wr)) (fun i _ => 0)
    case atStart => exact ⟨rfl, HJ1⟩
    case round =>
      obtain ⟨rfl, HJr⟩ := hrel
      gi_wp2
      go_end0
      exact ⟨⟨_, rfl⟩, .inl ⟨[], HE.out.symm, HJr.out⟩⟩
  · obtain ⟨gv, cur, rfl, hgv, hblk, hcells⟩ := hrf (by omega)
    have HB : Hid (w1.heap[gv]? = some (.cells cur TKey (0, 0)) ∧ Fine gv w1) := ⟨hblk, HFg.out gv hgv (Array.getElem?_eq_some_iff.1 hblk).1⟩
    have HC : Hid (∀ (k : Nat) (x : Int), xs[k]? = some x → cur[k]? = some (kv x)) := hcells
    clear hcv hrf hbox hown hb HP2 d0 hblk hcells HFg HF hgv
    gi_loopw [12] (fun i wr => ∃ (k : Nat), i = .int .i64 k ∧ k ≤ m ∧ Hid (wr.heap[gv]? = some (.cells cur TKey (0, 0)) ∧ Fine gv wr) ∧ Hid (J (xs.take k) wr)) (fun i _ => m - (intOf i).toNat)
    case atStart => exact ⟨0, rfl, Nat.zero_le _, HB, HJ1⟩
    case round =>
      obtain ⟨k, rfl, hk, HBk, HJk⟩ := hrel
      by_cases hlt2 : k < m
      · obtain ⟨x, hx⟩ : ∃ x, xs[k]? = some x := ⟨_, List.getElem?_eq_getElem (by have := HM.out; omega)⟩
        have z0 : wr.cell? ⟨gv, k, none⟩ = some (kv x) := by unfold World.cell?; simp only [HBk.out.1]; simpa using HC.out k x hx
        have hkz : (k : Int) < (m : Int) := by omega
        have HT : Hid (xs.take k ++ [x] = xs.take (k + 1)) := by
          show _ = _
          rw [List.take_add_one, hx]; rfl
        have hlen : (xs.take k).length < m := by rw [List.length_take]; have := HM.out; omega
        obtain ⟨fn, tmps, assign, body, hy, hR⟩ := hY (xs.take k) x _ HJk.out hlen
        rw [HT.out] at hR
        clear hx hlen hY
        gi_wp2
        refine hR.mono ?_
        rintro e W3 (⟨rfl, hJ3, hk3⟩ | ⟨rfl, hJx3⟩)
        · have HB3 : Hid (W3.heap[gv]? = some (.cells cur TKey (0, 0)) ∧ Fine gv W3) := HK.k hk3 HBk.out.2 HBk.out.1
          gi_wp2
          go_roundw
          case rel => exact ⟨k + 1, by go_num, by omega, HB3, hJ3⟩
          case measure => simp [intOf]; omega
        · gi_wp2
          refine bodyPost_ret (results_none rfl _ _ _) rfl ?_
          exact ⟨⟨_, rfl⟩, .inr ⟨xs.take (k + 1), ⟨xs.drop (k + 1), (List.take_append_drop _ _).symm⟩, hJx3⟩⟩
      · have e : k = m := by omega
        subst e
        have HE : Hid (xs.take k = xs) := by rw [HM.out]; exact List.take_length
        rw [HE.out] at HJk
        gi_wp2
        go_end0
        exact ⟨⟨_, rfl⟩, .inl ⟨xs, rfl, HJk.out⟩⟩
end Go.Proofs.YtijimcjmpeakpaaGreat.I.A
