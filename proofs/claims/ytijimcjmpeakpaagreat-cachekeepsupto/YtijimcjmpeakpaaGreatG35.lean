import Derived.Test.YtijimcjmpeakpaaGreatzRUcIA
import Derived.Maps.OwnIn
namespace Go.Proofs.YtijimcjmpeakpaaGreat.I.A
open Go.RowKit Go.Maps Go.Shelf Go.Proofs.YtijimcjmpeakpaaGreat.I
attribute [local go_sem] Oper.semAt_some
set_option linter.unusedVariables false
set_option linter.unusedSimpArgs false
set_option maxRecDepth 100000

abbrev TPo : TypeId := 33
abbrev TPf : TypeId := 198
theorem func_any (w : World) (m : Option Addr) : Calls Tryz.prog 86 #[.pointer m] w fun e w' =>
    e = .returned (.func (.func 167) #[] #[.pointer (some ⟨w.heap.size, 0, none⟩), .pointer (some ⟨w.heap.size + 1, 0, none⟩)]) ∧ w' = (w.alloc (.cells #[.pointer m] TPo)).alloc (.cells #[.func (.func 126) #[] #[]] TPf) := by
  have hmf : ∀ (fn : Fn) (first cap : Array Value) (w : World), (Instr.makeFunc fn first cap).run Tryz.prog w = .ok (.func fn first cap) w := fun _ _ _ _ => rfl
  have ht : ∀ (w : World) (fn : Fn) (fa fb : Array Value), Calls Tryz.prog 125 #[.pointer m, .func fn fa fb] w fun e w' =>
    e = .returned (.func (.func 167) #[] #[.pointer (some ⟨w.heap.size, 0, none⟩), .pointer (some ⟨w.heap.size + 1, 0, none⟩)]) ∧ w' = (w.alloc (.cells #[.pointer m] TPo)).alloc (.cells #[.func fn fa fb] TPf) := by
    intro w fn fa fb
    go_enter Tryz.func125, Tryz.ntmps125
    go_wp2
    go_ret
    exact ⟨rfl, rfl⟩
  go_enter Tryz.func86, Tryz.ntmps86
  go_wp2_with (go_at_call 125; refine (ht _ _ _ _).mono ?_; rintro e w9 ⟨rfl, hw9⟩; rw [hw9]; clear hw9)
  go_ret
  exact ⟨rfl, rfl⟩

/-- no row of the list that the body gathers -/
def FineL (Bl k : Nat) (W : World) : Prop := ∃ v, Boxed W Bl TKeys v ∧ v.ownBlock ≠ some k
def KpL (Bl : Nat) (W W' : World) : Prop := ∀ (k : Nat) (cur : Array Value) (fr : Nat × Nat), FineL Bl k W → W.heap[k]? = some (.cells cur TKey fr) → W'.heap[k]? = some (.cells cur TKey fr) ∧ FineL Bl k W'
theorem kpL_row (Bl : Nat) : KeepsRow (KpL Bl) (FineL Bl) := ⟨fun h hf hc => h _ _ _ hf hc⟩
theorem kpL_refl (Bl : Nat) (W : World) : KpL Bl W W := fun _ _ _ hf hc => ⟨hc, hf⟩
theorem kpL_t {Bl : Nat} {A B C : World} (h : KpL Bl A B) (k : KpL Bl B C) : KpL Bl A C := fun i cur fr hf hi => k i cur fr (h i cur fr hf hi).2 (h i cur fr hf hi).1
theorem kpL_b {w : World} {Bl : Nat} (W : World) (l : Nat) (o o' : Obj) (_ : w.heap.size ≤ l) (h : W.heap[l]? = some o) (hc : o.isCells = false) (_ : o.isWalk = false) : KpL Bl W (W.putObj l o') := fun i cur fr hf hi => by
  have hne : ∀ {i : Nat} {cur : Array Value} {T : TypeId} {fr : Nat × Nat}, W.heap[i]? = some (.cells cur T fr) → i ≠ l := by
    rintro i cur T fr hi rfl
    rw [h] at hi
    cases hi
    simp [Obj.isCells] at hc
  obtain ⟨v, hb, hv⟩ := hf
  exact ⟨(World.putObj_heap_other (hne hi)).trans hi, v, (World.putObj_heap_other (hne hb)).trans hb, hv⟩
theorem kpL_below {Bl : Nat} {W W' : World} (h : Below W.heap.size W W') : KpL Bl W W' := fun i cur fr hf hi => by
  obtain ⟨v, hb, hv⟩ := hf
  exact ⟨(h.block i (Array.getElem?_eq_some_iff.1 hi).1).trans hi, v, (h.block Bl hb.lt).trans hb, hv⟩
/-- what 'l = append(l, k)' leaves -/
theorem kpL_app {Bl : Nat} {W w1 : World} {v v' : Value} {tmp : Obj} (hbx : Boxed W Bl TKeys v) (hg : (W.alloc tmp).grownBy w1 v.ownBlock) (hb1 : Boxed w1 Bl TKeys v) (hv' : ∀ k, v'.ownBlock = some k → v.ownBlock = some k ∨ W.heap.size ≤ k) : KpL Bl W (w1.setCell ⟨Bl, 0, none⟩ v') := fun i cur fr hf hi => by
  obtain ⟨u, hb, hv⟩ := hf
  have eu : u = v := by
    have := (show W.heap[Bl]? = _ from hb).symm.trans hbx
    simp at this; exact this
  subst eu
  have hlt := (Array.getElem?_eq_some_iff.1 hi).1
  have hne : i ≠ Bl := by
    rintro rfl
    have := hi.symm.trans hb
    simp at this
    exact absurd this.2.1 (by decide)
  have h1 : w1.heap[i]? = some (.cells cur TKey fr) := (hg.block i (by rw [World.size_alloc]; omega) (fun e => hv e.symm)).trans ((Below.heap_alloc _ _ _ hlt).trans hi)
  exact ⟨(Below.heap_setCell _ _ _ _ hne).trans h1, v', hb1.set v', fun e => (hv' i e).elim hv (fun h => by omega)⟩
theorem news1 (W : World) (a : Value) : ∀ j u, [a][j]? = some u → (W.alloc (.cells #[a] TKey)).cell? ((⟨W.heap.size, 0, none⟩ : Addr).add j) = some u := World.news_of_block (heap_alloc_new W _)

end Go.Proofs.YtijimcjmpeakpaaGreat.I.A

namespace Go.Proofs.YtijimcjmpeakpaaGreat.I.A
open Go.RowKit Go.Maps Go.Shelf Go.Proofs.YtijimcjmpeakpaaGreat.I
attribute [local go_sem] Oper.semAt_some
set_option linter.unusedVariables false
set_option linter.unusedSimpArgs false
set_option maxRecDepth 100000

set_option maxHeartbeats 4000000 in
/-- what a ranging gives, to elements of any type that stand for the keys -/
theorem seq_gen {α : Type} (T : α → Int) (zs : List α) (n : Nat) (hn : 2 ≤ n) {Kp : World → World → Prop} {Fine : Nat → World → Prop} (HK : KeepsRow Kp Fine) {w : World} {b0 b1 bo bm g : Nat} {L : List Ent} (h : RO w bo bm g L) (hz : picked L = zs.map T)
    (c0 : w.cell? ⟨b0, 0, none⟩ = some (.pointer (some ⟨bo, 0, none⟩))) (c1 : w.cell? ⟨b1, 0, none⟩ = some (.func (.func 126) #[] #[])) (hl1 : b1 < w.heap.size) (hlen : L.length * 8 ≤ 140737488355328)
    (hF : ∀ (W w1 : World) (k : Nat), Below w.heap.size w W → Below W.heap.size W w1 → W.heap.size ≤ k → k < w1.heap.size → Fine k w1) :
    SeqStopsK Fence.wide n Tryz.prog 167 #[.pointer (some ⟨b0, 0, none⟩), .pointer (some ⟨b1, 0, none⟩)] (fun a => #[kv (T a)]) Kp (fun ys => ys = zs) (fun pre => ∃ rest, zs = pre ++ rest) zs.length w := by
  intro l J Jx W hW hJ hJx hY h0
  have HP := gather_any (h.later hW) (cell_later hW c1) (Nat.lt_of_lt_of_le hl1 hW.size) hlen
  have d0 : (W.alloc (.cells #[.slice none 0 0] TKeys)).cell? ⟨b0, 0, none⟩ = some (.pointer (some ⟨bo, 0, none⟩)) := cell_later ((Below.refl _ W).alloc (Nat.le_refl _) _) (cell_later hW c0)
  have hmf : ∀ (fn : Fn) (first cap : Array Value) (w : World), (Instr.makeFunc fn first cap).run Tryz.prog w = .ok (.func fn first cap) w := fun _ _ _ _ => rfl
  obtain ⟨xs, hxs⟩ : ∃ xs, xs = zs.map T := ⟨_, rfl⟩
  have hpl := picked_length L
  rw [hz, ← hxs] at HP hpl
  obtain ⟨m, hm⟩ : ∃ m, m = zs.length := ⟨_, rfl⟩
  have hxl : xs.length = m := by rw [hxs, hm, List.length_map]
  rw [hxl] at hpl
  rw [← hm] at hY
  have HM : Hid (m = xs.length) := hxl.symm
  have HMz : Hid (m = zs.length) := hm
  have HXZ : Hid (xs = zs.map T) := hxs
  have hml : m ≤ 17592186044416 := by omega
  have HP2 : Hid (Calls Tryz.prog 168 #[.pointer (some ⟨bo, 0, none⟩), .func (.func 169) #[] #[.pointer (some ⟨b1, 0, none⟩), .pointer (some ⟨W.heap.size, 0, none⟩)]] (W.alloc (.cells #[.slice none 0 0] TKeys)) fun r w' => r = .returned (.tuple #[]) ∧ Gath W.heap.size W.heap.size W w' xs) := HP
  have HF : Hid (∀ (W w1 : World) (k : Nat), Below w.heap.size w W → Below W.heap.size W w1 → W.heap.size ≤ k → k < w1.heap.size → Fine k w1) := hF
  have HW : Hid (Below w.heap.size w W) := hW
  have HJ0 : Hid (J [] W) := h0
  clear hm hxs hxl hz h c0 c1 hpl hlen HP hF hl1 hW h0
  have hf : Fence.wide.fn 167 := trivial
  have hf2 : Fence.wide.fn 168 := trivial
  refine callsIn_of_wp Tryz.func167 rfl hf ?_ rfl
  simp only [Tryz.ntmps167, List.size_toArray, List.length_cons, List.length_nil, Nat.reduceAdd, Nat.reduceSub, Array.replicate_succ, Array.replicate_zero, List.push_toArray, List.append_toArray, List.nil_append, List.cons_append]
  have h1 : 1 ≤ n := by omega
  have h1' : 1 ≤ n - 1 := by omega
  gi_wp2_with (gi_at_call 168; refine (callsIn_wide.2 HP2.out).mono ?_; rintro e w1 ⟨rfl, hb, v, hbox, hown⟩; obtain ⟨ao, cap, rfl, hcap, hrf⟩ := row_form hown; have hcv := hbox.cell; rw [← HM.out] at hcv hcap hrf)
  have HFg : Hid (∀ k, W.heap.size ≤ k → k < w1.heap.size → Fine k w1) := fun k hk hk2 => HF.out W w1 k HW.out hb hk hk2
  have HJ1 : Hid (J [] w1) := hJ [] W w1 none HJ0.out ⟨hb.os, hb.tape, hb.output, hb.size, fun k hk _ => hb.block k hk⟩ (fun r e => by cases e)
  have hcap' : (m : Int) ≤ (cap : Int) := by omega
  by_cases hm0 : m = 0
  · have HE : Hid (zs = []) := by have := HMz.out; exact List.length_eq_zero_iff.1 (by omega)
    subst hm0
    clear hcv hrf hbox hown hb HP2 d0 hcap'
    gi_loopw [12] (fun i wr => i = .int .i64 0 ∧ Hid (J [] wr)) (fun i _ => 0)
    case atStart => exact ⟨rfl, HJ1⟩
    case round =>
      obtain ⟨rfl, HJr⟩ := hrel
      gi_wp2
      go_end0
      exact ⟨⟨_, rfl⟩, .inl ⟨[], HE.out.symm, HJr.out⟩⟩
  · obtain ⟨gv, cur, rfl, hgv, hblk, hcells⟩ := hrf (by omega)
    have HB : Hid (w1.heap[gv]? = some (.cells cur TKey (0, 0)) ∧ Fine gv w1) := ⟨hblk, HFg.out gv hgv (Array.getElem?_eq_some_iff.1 hblk).1⟩
    have HC : Hid (∀ (k : Nat) (x : Int), xs[k]? = some x → cur[k]? = some (kv x)) := hcells
    clear hcv hrf hbox hown hb HP2 d0 hblk hcells HFg HF hgv
    gi_loopw [12] (fun i wr => ∃ (k : Nat), i = .int .i64 k ∧ k ≤ m ∧ Hid (wr.heap[gv]? = some (.cells cur TKey (0, 0)) ∧ Fine gv wr) ∧ Hid (J (zs.take k) wr)) (fun i _ => m - (intOf i).toNat)
    case atStart => exact ⟨0, rfl, Nat.zero_le _, HB, HJ1⟩
    case round =>
      obtain ⟨k, rfl, hk, HBk, HJk⟩ := hrel
      by_cases hlt2 : k < m
      · obtain ⟨x, hx⟩ : ∃ x, zs[k]? = some x := ⟨_, List.getElem?_eq_getElem (by have := HMz.out; omega)⟩
        have z0 : wr.cell? ⟨gv, k, none⟩ = some (kv (T x)) := by unfold World.cell?; simp only [HBk.out.1]; simpa using HC.out k (T x) (by rw [HXZ.out, List.getElem?_map, hx]; rfl)
        have hkz : (k : Int) < (m : Int) := by omega
        have HT : Hid (zs.take k ++ [x] = zs.take (k + 1)) := by
          show _ = _
          rw [List.take_add_one, hx]; rfl
        have hlen : (zs.take k).length < m := by rw [List.length_take]; have := HMz.out; omega
        obtain ⟨fn, tmps, assign, body, hy, hR⟩ := hY (zs.take k) x _ HJk.out hlen
        rw [HT.out] at hR
        clear hx hlen hY
        gi_wp2
        refine hR.mono ?_
        rintro e W3 (⟨rfl, hJ3, hk3⟩ | ⟨rfl, hJx3⟩)
        · have HB3 : Hid (W3.heap[gv]? = some (.cells cur TKey (0, 0)) ∧ Fine gv W3) := HK.k hk3 HBk.out.2 HBk.out.1
          gi_wp2
          go_roundw
          case rel => exact ⟨k + 1, by go_num, by omega, HB3, hJ3⟩
          case measure => simp [intOf]; omega
        · gi_wp2
          refine bodyPost_ret (results_none rfl _ _ _) rfl ?_
          exact ⟨⟨_, rfl⟩, .inr ⟨zs.take (k + 1), ⟨zs.drop (k + 1), (List.take_append_drop _ _).symm⟩, hJx3⟩⟩
      · have e : k = m := by omega
        subst e
        have HE : Hid (zs.take k = zs) := by rw [HMz.out]; exact List.take_length
        rw [HE.out] at HJk
        gi_wp2
        go_end0
        exact ⟨⟨_, rfl⟩, .inl ⟨zs, rfl, HJk.out⟩⟩
end Go.Proofs.YtijimcjmpeakpaaGreat.I.A
