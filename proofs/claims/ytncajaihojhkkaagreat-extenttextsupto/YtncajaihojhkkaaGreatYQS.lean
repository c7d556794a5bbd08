import Derived.Test.YtncajaihojhkkaaGreatXQS
import Derived.Deep.RegionWith
namespace Go.Proofs.YtncajaihojhkkaaGreat.S
open Go.RowKit Go.Sort Go.Shelf
attribute [local go_sem] Oper.semAt_some
set_option linter.unusedVariables false
set_option linter.unusedSimpArgs false
set_option maxRecDepth 100000

/-- a row of runs is kept by what the ranging's body does -/
structure KeepsRow (Kp : World → World → Prop) (Fine : Nat → World → Prop) : Prop where
  k : ∀ {W W' : World} {g : Nat} {cur : Array Value} {fr : Nat × Nat}, Kp W W' → Fine g W → W.heap[g]? = some (.cells cur TRun fr) → W'.heap[g]? = some (.cells cur TRun fr) ∧ Fine g W'
  a : ∀ {W : World} {g : Nat} (o : Obj), Fine g W → Fine g (W.alloc o)
theorem keepsRow_R : KeepsRow KeepR (fun _ _ => True) := ⟨fun h _ hc => ⟨h _ _ _ hc, trivial⟩, fun _ _ => trivial⟩

theorem part_none {w : World} {bm : Nat} {size : Int} (c0 : w.cell? ⟨bm, 0, none⟩ = some (.bool true)) (c1 : w.cell? ⟨bm, 1, none⟩ = some (.int .i64 size)) (lo hi lo' hi' : Int) (e1 : Hid (lo' = max lo 0)) (e2 : Hid (hi' = min hi size)) (hlt : hi' ≤ lo') :
    Calls Tryz.prog 27 #[.pointer (some ⟨bm, 0, none⟩), .int .i64 lo, .int .i64 hi] w fun e w' => e = .returned (.slice none 0 0) ∧ Below w.heap.size w w' := by
  have b1 : Hid (max lo 0 = lo') := e1.out.symm
  have b2 : Hid (min hi size = hi') := e2.out.symm
  clear e1 e2
  go_enter Tryz.func27, Tryz.ntmps27
  go_wp2_with (go_at_call 22; refine (usable_at bm true _ c0).mono ?_; rintro e w9 ⟨rfl, hw9⟩; rw [hw9]; clear hw9)
  go_region
  rw [b1.out, b2.out]
  go_wp2
  go_ret
  exact ⟨rfl, below_drew (Below.refl _ _)⟩

set_option maxHeartbeats 4000000 in
theorem runs1_none (n : Nat) (hn : 2 ≤ n) {α : Type} (T : α → Rn ByteArray) {Kp : World → World → Prop} {w : World} {b0 b1 b2 bm : Nat} {size : Int} (Sp : List α → Prop) (k0 : w.cell? ⟨bm, 0, none⟩ = some (.bool true)) (k1 : w.cell? ⟨bm, 1, none⟩ = some (.int .i64 size)) (lo hi lo' hi' : Int) (e1 : Hid (lo' = max lo 0)) (e2 : Hid (hi' = min hi size)) (hlt : hi' ≤ lo')
    (c0 : w.cell? ⟨b0, 0, none⟩ = some (.pointer (some ⟨bm, 0, none⟩))) (c1 : w.cell? ⟨b1, 0, none⟩ = some (.int .i64 lo)) (c2 : w.cell? ⟨b2, 0, none⟩ = some (.int .i64 hi)) :
    SeqStopsK Fence.wide n Tryz.prog 26 #[.pointer (some ⟨b0, 0, none⟩), .pointer (some ⟨b1, 0, none⟩), .pointer (some ⟨b2, 0, none⟩)] (fun a => encR (T a)) Kp (fun xs => xs = []) Sp 0 w := by
  intro l J Jx W hW hJ hJx hY h0
  have HP := part_none (cell_later hW k0) (cell_later hW k1) lo hi lo' hi' e1 e2 hlt
  have d0 := cell_later hW c0
  have d1 := cell_later hW c1
  have d2 := cell_later hW c2
  have hf : Fence.wide.fn 26 := trivial
  have hf2 : Fence.wide.fn 27 := trivial
  have h1 : 1 ≤ n := by omega
  have h1' : 1 ≤ n - 1 := by omega
  have HJ0 : Hid (J [] W) := h0
  clear hY k0 k1 c0 c1 c2 h0 e1 e2
  refine callsIn_of_wp Tryz.func26 rfl hf ?_ rfl
  simp only [Tryz.ntmps26, List.size_toArray, List.length_cons, List.length_nil, Nat.reduceAdd, Nat.reduceSub, Array.replicate_succ, Array.replicate_zero, List.push_toArray, List.append_toArray, List.nil_append, List.cons_append]
  gi_wp2_with (gi_at_call 27; refine (callsIn_wide.2 HP).mono ?_; rintro e w9 ⟨rfl, hb⟩)
  have HJ1 : Hid (J [] w9) := hJ [] W w9 none HJ0.out ⟨hb.os, hb.tape, hb.output, hb.size, fun k hk _ => hb.block k hk⟩ (fun r e => by cases e)
  gi_loopw [12] (fun i wr => i = .int .i64 0 ∧ Hid (J [] wr)) (fun i _ => 0)
  case atStart => exact ⟨rfl, HJ1⟩
  case round =>
    obtain ⟨rfl, HJr⟩ := hrel
    gi_wp2
    go_end0
    exact ⟨⟨_, rfl⟩, .inl ⟨[], rfl, HJr.out⟩⟩

set_option maxHeartbeats 4000000 in
/-- what Runs gives to range over -/
theorem runs1_some (n : Nat) (hn : 2 ≤ n) {α : Type} (T : α → Rn ByteArray) {Kp : World → World → Prop} {Fine : Nat → World → Prop} (HK : KeepsRow Kp Fine) {w : World} {b0 b1 b2 bm g cap : Nat} {size : Int} {rs : List (Rn ByteArray)} (h : RM w bm g cap size rs) (hs : size ≤ 1099511627776) (lo hi lo' hi' : Int) (e1 : lo' = max lo 0) (e2 : hi' = min hi size) (hlt : lo' < hi')
    (c0 : w.cell? ⟨b0, 0, none⟩ = some (.pointer (some ⟨bm, 0, none⟩))) (c1 : w.cell? ⟨b1, 0, none⟩ = some (.int .i64 lo)) (c2 : w.cell? ⟨b2, 0, none⟩ = some (.int .i64 hi)) (ys : List α) (hys : ys.map T = cut rs lo' hi') (hF : ∀ (W w1 : World) (k : Nat), Below w.heap.size w W → Below W.heap.size W w1 → W.heap.size ≤ k → k < w1.heap.size → Fine k w1) :
    SeqStopsK Fence.wide n Tryz.prog 26 #[.pointer (some ⟨b0, 0, none⟩), .pointer (some ⟨b1, 0, none⟩), .pointer (some ⟨b2, 0, none⟩)] (fun a => encR (T a)) Kp (fun xs => xs = ys) (fun pre => ∃ rest, ys = pre ++ rest) ys.length w := by
  intro l J Jx W hW hJ hJx hY h0
  have HP := part_any (h.later hW) hs lo hi lo' hi' e1 e2 hlt
  have d0 := cell_later hW c0
  have d1 := cell_later hW c1
  have d2 := cell_later hW c2
  obtain ⟨xs, hxs⟩ : ∃ xs, xs = cut rs lo' hi' := ⟨_, rfl⟩
  rw [← hxs] at HP hys
  have HX : Hid (xs = cut rs lo' hi') := hxs
  obtain ⟨m, hm⟩ : ∃ m, m = xs.length := ⟨_, rfl⟩
  have hml' : ys.length = m := by rw [hm, ← hys, List.length_map]
  have HYS : Hid (ys.map T = xs) := hys
  rw [hml'] at hY
  have HYL : Hid (ys.length = m) := hml'
  rw [← hm] at HP
  have HM : Hid (m = xs.length) := hm
  clear hm hml' hys hxs e1 e2 c0 c1 c2
  have hf : Fence.wide.fn 26 := trivial
  have hf2 : Fence.wide.fn 27 := trivial
  have hml : m ≤ 1099511627776 := by
    have h1 := h.tiles.length
    have h2 : xs.length ≤ rs.length := by
      rw [HX.out]; unfold cut; rw [setHi_length, setLo_length, List.length_take, List.length_drop]; omega
    rw [HM.out]; omega
  clear h
  refine callsIn_of_wp Tryz.func26 rfl hf ?_ rfl
  simp only [Tryz.ntmps26, List.size_toArray, List.length_cons, List.length_nil, Nat.reduceAdd, Nat.reduceSub, Array.replicate_succ, Array.replicate_zero, List.push_toArray, List.append_toArray, List.nil_append, List.cons_append]
  have h1 : 1 ≤ n := by omega
  have h1' : 1 ≤ n - 1 := by omega
  gi_wp2_with (gi_at_call 27; refine (callsIn_wide.2 HP).mono ?_; rintro e w1 ⟨gv, c, rfl, hown, hb⟩)
  have hFg : ∀ k, W.heap.size ≤ k → k < w1.heap.size → Fine k w1 := fun k hk hk2 => hF W w1 k hW hb hk hk2
  have hJ1 : J [] w1 := hJ [] W w1 none h0 ⟨hb.os, hb.tape, hb.output, hb.size, fun k hk _ => hb.block k hk⟩ (fun r e => by cases e)
  obtain ⟨cur, fr, hgv, hblk, hcells⟩ : ∃ cur fr, W.heap.size ≤ gv ∧ w1.heap[gv]? = some (.cells cur TRun fr) ∧ ∀ (k : Nat) (x : Rn ByteArray), xs[k]? = some x → cur[k * 3]? = some (.int .i64 x.lo) ∧ cur[k * 3 + 1]? = some (.int .i64 x.hi) ∧ cur[k * 3 + 2]? = some (.string x.v) := by
    rw [HM.out] at hown
    rcases hown.2 with ⟨h', _⟩ | ⟨g', cap', cur, h', hbg, hg, _, _, _, ht⟩
    · simp at h'
    · simp only [Value.slice.injEq, Option.some.injEq, Addr.mk.injEq, and_true, true_and] at h'
      obtain ⟨rfl, rfl⟩ := h'
      refine ⟨cur, _, hbg, hg, fun k x hx => ?_⟩
      have hk := (List.getElem?_eq_some_iff.1 hx).1
      have key : ∀ j, j < 3 → cur[k * 3 + j]? = (rcell E x)[j]? := fun j hj => by
        have h1 := rcells_get E xs k x hx j hj
        rw [← ht, List.getElem?_take, if_pos (by omega)] at h1
        rw [← h1]; simp
      exact ⟨key 0 (by omega), key 1 (by omega), key 2 (by omega)⟩
  have HB : Hid (w1.heap[gv]? = some (.cells cur TRun fr) ∧ Fine gv w1) := ⟨hblk, hFg gv hgv (Array.getElem?_eq_some_iff.1 hblk).1⟩
  have HC : Hid (∀ (k : Nat) (x : Rn ByteArray), xs[k]? = some x → cur[k * 3]? = some (.int .i64 x.lo) ∧ cur[k * 3 + 1]? = some (.int .i64 x.hi) ∧ cur[k * 3 + 2]? = some (.string x.v)) := hcells
  clear hblk hcells hown HP d0 d1 d2 hFg hF hgv
  gi_wp2
  gi_loopw [12] (fun i wr => ∃ (k : Nat), i = .int .i64 k ∧ k ≤ m ∧ Hid (wr.heap[gv]? = some (.cells cur TRun fr) ∧ Fine gv wr) ∧ Hid (J (ys.take k) wr)) (fun i _ => m - (intOf i).toNat)
  case atStart => exact ⟨0, rfl, Nat.zero_le _, HB, hJ1⟩
  case round =>
    obtain ⟨k, rfl, hk, HBk, HJk⟩ := hrel
    by_cases hlt2 : k < m
    · obtain ⟨y, hy0⟩ : ∃ y, ys[k]? = some y := ⟨_, List.getElem?_eq_getElem (by have := HYL.out; omega)⟩
      obtain ⟨x, hxT⟩ : ∃ x, x = T y := ⟨_, rfl⟩
      have hx : xs[k]? = some x := by rw [← HYS.out, List.getElem?_map, hy0, hxT]; rfl
      obtain ⟨y0, y1, y2⟩ := HC.out k x hx
      have z0 : wr.cell? ⟨gv, k * 3, none⟩ = some (.int .i64 x.lo) := by unfold World.cell?; simp only [HBk.out.1]; simpa using y0
      have z1 : wr.cell? ⟨gv, k * 3 + 1, none⟩ = some (.int .i64 x.hi) := by unfold World.cell?; simp only [HBk.out.1]; simpa using y1
      have z2 : wr.cell? ⟨gv, k * 3 + 2, none⟩ = some (.string x.v) := by unfold World.cell?; simp only [HBk.out.1]; simpa using y2
      have hkz : (k : Int) < (m : Int) := by omega
      have HT : Hid (ys.take k ++ [y] = ys.take (k + 1)) := by
        show _ = _
        rw [List.take_add_one, hy0]; rfl
      have HX2 : Hid (xs[k]? = some x) := hx
      have hJa : J (ys.take k) (wr.alloc (.cells #[.int .i64 x.lo, .int .i64 x.hi, .string x.v] TRun)) := hJ _ wr _ none HJk.out (World.grownBy_alloc wr _ none) (fun r e => by cases e)
      have hlen : (ys.take k).length < m := by rw [List.length_take]; have := HYL.out; omega
      obtain ⟨fn, tmps, assign, body, hy, hR⟩ := hY (ys.take k) y _ hJa hlen
      rw [← hxT] at hy
      have HB2 : Hid ((wr.alloc (.cells #[.int .i64 x.lo, .int .i64 x.hi, .string x.v] TRun)).heap[gv]? = some (.cells cur TRun fr) ∧ Fine gv (wr.alloc (.cells #[.int .i64 x.lo, .int .i64 x.hi, .string x.v] TRun))) := ⟨(Below.heap_alloc wr _ gv (Array.getElem?_eq_some_iff.1 HBk.out.1).1).trans HBk.out.1, HK.a _ HBk.out.2⟩
      rw [HT.out] at hR
      clear hx hy0 hxT hJa hlen hY y0 y1 y2
      gi_wp2
      refine hR.mono ?_
      rintro e W3 (⟨rfl, hJ3, hk3⟩ | ⟨rfl, hJx3⟩)
      · have HB3 : Hid (W3.heap[gv]? = some (.cells cur TRun fr) ∧ Fine gv W3) := HK.k hk3 HB2.out.2 HB2.out.1
        gi_wp2
        go_roundw
        case rel => exact ⟨k + 1, by go_num, by omega, HB3, hJ3⟩
        case measure => simp [intOf]; omega
      · gi_wp2
        refine bodyPost_ret (results_none rfl _ _ _) rfl ?_
        exact ⟨⟨_, rfl⟩, .inr ⟨ys.take (k + 1), ⟨ys.drop (k + 1), (List.take_append_drop _ _).symm⟩, hJx3⟩⟩
    · have e : k = m := by omega
      subst e
      have HE : Hid (ys.take k = ys) := by rw [← HYL.out]; exact List.take_length
      rw [HE.out] at HJk
      gi_wp2
      go_end0
      exact ⟨⟨_, rfl⟩, .inl ⟨ys, rfl, HJk.out⟩⟩
/-- the runs of any part -/
def cutA (rs : List (Rn ByteArray)) (size lo hi : Int) : List (Rn ByteArray) := if max lo 0 < min hi size then cut rs (max lo 0) (min hi size) else []
theorem runs1_gen (n : Nat) (hn : 2 ≤ n) {α : Type} (T : α → Rn ByteArray) {Kp : World → World → Prop} {Fine : Nat → World → Prop} (HK : KeepsRow Kp Fine) {w : World} {b0 b1 b2 B bm : Nat} {v : Value} {size : Int} {rs : List (Rn ByteArray)} (h : MO w B bm v size rs) (lo hi : Int)
    (c0 : w.cell? ⟨b0, 0, none⟩ = some (.pointer (some ⟨bm, 0, none⟩))) (c1 : w.cell? ⟨b1, 0, none⟩ = some (.int .i64 lo)) (c2 : w.cell? ⟨b2, 0, none⟩ = some (.int .i64 hi)) (ys : List α) (hys : ys.map T = cutA rs size lo hi) (hF : ∀ (W w1 : World) (k : Nat), Below w.heap.size w W → Below W.heap.size W w1 → W.heap.size ≤ k → k < w1.heap.size → Fine k w1) :
    SeqStopsK Fence.wide n Tryz.prog 26 #[.pointer (some ⟨b0, 0, none⟩), .pointer (some ⟨b1, 0, none⟩), .pointer (some ⟨b2, 0, none⟩)] (fun a => encR (T a)) Kp (fun xs => xs = ys) (fun pre => ∃ rest, ys = pre ++ rest) ys.length w := by
  unfold cutA at hys
  by_cases hlt : max lo 0 < min hi size
  · rw [if_pos hlt] at hys
    obtain ⟨g, cap, rfl, hg1, hg2, hcap, hrm⟩ := h.rm (by omega)
    exact runs1_some n hn T HK hrm h.le lo hi _ _ rfl rfl hlt c0 c1 c2 ys hys hF
  · rw [if_neg hlt] at hys
    obtain rfl : ys = [] := by simpa using hys
    exact runs1_none n hn T _ (h.c 0) (h.c 1) lo hi _ _ rfl rfl (by omega) c0 c1 c2
end Go.Proofs.YtncajaihojhkkaaGreat.S
