import Derived.Test.YtbamjfnjenmdaaaGreatG25
import Derived.Deep.RegionHeld3
import Derived.Deep.AppendLies
import Derived.RangeFuncBox
import Derived.WalkSpells
import Derived.Deep.RegionLaw
import Derived.Deep.DrawnRows
import Derived.RangeFuncNested
import Derived.RangeFuncBound
import Derived.RangeFuncCalls
import Derived.RangeFuncLeaves
import Derived.Shelf.Abstract
import Derived.Shelf.RegionOpen
import Derived.OwnWalkIn
import Derived.TacticsInMore
import Derived.LoopNIn
import Derived.LoopIn
namespace Go.Proofs.YtbamjfnjenmdaaaGreat.I.A
open Go.RowKit Go.Maps Go.Proofs.YtbamjfnjenmdaaaGreat.I
attribute [local go_sem] Oper.semAt_some
attribute [local go_sem ↓] Go.wp_at_zero Go.wp_at_succ
set_option linter.unusedVariables false
set_option linter.unusedSimpArgs false
set_option maxRecDepth 100000

abbrev TKeys : TypeId := 33
/-- which places are picked -/
def sel (e : Ent) : Bool := true
def KV (l : List Int) : List Value := l.map kv
/-- the keys of those that are picked -/
def picked (L : List Ent) : List Int := (L.filter sel).map (·.key)
theorem picked_hit (pre : List Ent) (e : Ent) (h : sel e = true) : picked (pre ++ [e]) = picked pre ++ [e.key] := by simp [picked, h]
theorem picked_miss (pre : List Ent) (e : Ent) (h : sel e = false) : picked (pre ++ [e]) = picked pre := by simp [picked, h]
theorem picked_length (L : List Ent) : (picked L).length ≤ L.length := by unfold picked; rw [List.length_map]; exact List.length_filter_le _ _
theorem infoKey : (Tryz.prog.info? TKey).map (fun i => (i.zero, i.size, i.bytes)) = some (some (kv 0), 1, 8) := by kernel_rfl

theorem pick_any {W : World} {bo bm g : Nat} {L : List Ent} (h : RO W bo bm g L) {e : Ent} (he : e ∈ L) : Calls Tryz.prog 93 #[.pointer (some ⟨e.blk, 0, none⟩)] W fun r w' => r = .returned (.bool (sel e)) ∧ w' = W := by
  go_enter Tryz.func93, Tryz.ntmps93
  go_wp2
  go_ret
  exact ⟨rfl, rfl⟩
/-- the gathered keys, in memory of one's own -/
def Gath (B kb : Nat) (W0 W : World) (ks : List Int) : Prop := Below B W0 W ∧ ∃ v, Boxed W kb TKeys v ∧ W.ownsRow B TKey 1 v ks.length (KV ks)
theorem lowerRO {w w' : World} {bo bm g B : Nat} {L : List Ent} (h : RO w bo bm g L) (hB : ∀ i ∈ fp bo bm g L, i < B) (hb : Below B w w') : RO w' bo bm g L := h.same fun i hi => hb.block i (hB i hi)

set_option maxHeartbeats 2000000 in
theorem cb_any {B kb b1 : Nat} {W0 W : World} {bo bm g : Nat} {L : List Ent} {ks : List Int} (h : RO W0 bo bm g L) (hB : ∀ i ∈ fp bo bm g L, i < B) (hb1 : W0.cell? ⟨b1, 0, none⟩ = some (.func (.func 93) #[] #[])) (hlt1 : b1 < B) (hkb : B ≤ kb) (hBW : B ≤ W0.heap.size) (G : Gath B kb W0 W ks) {e : Ent} (he : e ∈ L) (hlen : (ks.length + 1) * 8 ≤ 140737488355328) :
    Calls Tryz.prog 118 #[.pointer (some ⟨e.blk, 0, none⟩), .pointer (some ⟨b1, 0, none⟩), .pointer (some ⟨kb, 0, none⟩)] W fun r W' => r = .returned (.bool true) ∧ Gath B kb W0 W' (if sel e then ks ++ [e.key] else ks) := by
  obtain ⟨i0, hi, hz0, hz1, hz2⟩ := info_parts infoKey
  obtain ⟨hb, v, hbox, hrow⟩ := G
  have hro := lowerRO h hB hb
  have hpk := pick_any hro he
  obtain ⟨o, x, hpl⟩ := hro.plcBlk he
  have hk : W.cell? ⟨e.blk, 0, none⟩ = some (kv e.key) := (cell_of hpl).trans rfl
  have hc1 : W.cell? ⟨b1, 0, none⟩ = some (.func (.func 93) #[] #[]) := (World.cell?_of_block (hb.block b1 hlt1)).trans hb1
  have hcv := hbox.cell
  have hcf := hbox.frozen
  have hbs := hb.size
  by_cases hs : sel e = true
  · rw [hs] at hpk
    simp only [hs, if_true]
    have HR : Hid (W.ownsRow B TKey 1 v ks.length (KV ks)) := hrow
    have HX : Hid (Boxed W kb TKeys v) := hbox
    have HB : Hid (Below B W0 W) := hb
    have HK2 : Hid (∀ w1, (W.alloc (.cells #[kv e.key] TKey)).grownBy w1 v.ownBlock → w1.cell? ⟨e.blk, 0, none⟩ = some (kv e.key)) := fun w1 hg => by
      have hlb : e.blk < B := hB e.blk (by simp only [fp, List.mem_cons, List.mem_map]; exact .inr (.inr (.inr ⟨e, he, rfl⟩)))
      have h1 := hg.cell_far ⟨e.blk, 0, none⟩ (by rw [World.size_alloc]; show e.blk < _; omega) (fun e' => by have := (hrow.lt _ e'.symm).1; have : B ≤ e.blk := this; omega)
      rw [h1]
      exact cell_later ((Below.refl _ W).alloc (Nat.le_refl _) _) hk
    have hcva : (W.alloc (.cells #[kv e.key] TKey)).cell? ⟨kb, 0, none⟩ = some v := cell_later ((Below.refl _ W).alloc (Nat.le_refl _) _) hcv
    clear hs h hB hb1 hb hbox hrow hro hpl
    go_enter Tryz.func118, Tryz.ntmps118
    go_wp2_with (go_at_call 93; refine hpk.mono ?_; rintro e w9 ⟨rfl, hw9⟩; rw [hw9]; clear hw9)
    go_region_law (refine step_append_lies _ (by rfl) _ _ TKeys (by rfl) B TKey i0 _ 1 8 Tryz.underlying33 hi hz0 hz1 hz2 rfl (by decide) v ks.length (KV ks) (by rfl) (HR.out.alloc _) ⟨W.heap.size, 0, none⟩ 1 1 [kv e.key] (by rfl) rfl (World.news_of_block (heap_alloc_new W _)) (by simp [Value.oneCell']) (by decide) (by unfold maxLen; omega) hlen (by show B ≤ (W.alloc _).heap.size; rw [World.size_alloc]; omega) (W.heap.size + 1) (by simp) ?_; intro g' cap' w1 hown' hgrow hat hlt; have hgr2 : (W.alloc (.cells #[kv e.key] TKey)).grownBy w1 v.ownBlock := ⟨hgrow.os, hgrow.tape, hgrow.output, hgrow.size, hgrow.block⟩; have hap := HX.out.appended (by decide) HR.out (by omega) hkb hown' hgr2; have hc2 : w1.cell? ⟨kb, 0, none⟩ = some v := hap.1.cell; have hf2 : w1.frozen? ⟨kb, 0, none⟩ = false := hap.1.frozen; have hk2 : w1.cell? ⟨e.blk, 0, none⟩ = some (kv e.key) := HK2.out w1 hgr2; have HA : Hid (Boxed (w1.setCell ⟨kb, 0, none⟩ (.slice (some ⟨g', 0, none⟩) (ks.length + 1) cap')) kb TKeys (.slice (some ⟨g', 0, none⟩) (ks.length + 1) cap') ∧ (w1.setCell ⟨kb, 0, none⟩ (.slice (some ⟨g', 0, none⟩) (ks.length + 1) cap')).ownsRow B TKey 1 (.slice (some ⟨g', 0, none⟩) (ks.length + 1) cap') (ks.length + 1) (KV ks ++ [kv e.key]) ∧ Below B W (w1.setCell ⟨kb, 0, none⟩ (.slice (some ⟨g', 0, none⟩) (ks.length + 1) cap'))) := ⟨hap.2.1, hap.2.2.1, hap.2.2.2.2⟩; clear hown' hgrow hat hlt hgr2 hap)
    all_goals go_wp2
    all_goals go_ret
    all_goals exact ⟨rfl, HB.out.trans HA.out.2.2, _, HA.out.1, by rw [List.length_append, KV, List.map_append]; exact HA.out.2.1⟩
  · have hs' : sel e = false := by simpa using hs
    rw [hs'] at hpk
    simp only [hs, if_false]
    have HG : Hid (Gath B kb W0 W ks) := ⟨hb, v, hbox, hrow⟩
    clear h hB hb1 hb hbox hrow hro hpl hs hs'
    go_enter Tryz.func118, Tryz.ntmps118
    go_wp2_with (go_at_call 93; refine hpk.mono ?_; rintro e w9 ⟨rfl, hw9⟩; rw [hw9]; clear hw9)
    go_ret
    exact ⟨rfl, HG.out⟩
end Go.Proofs.YtbamjfnjenmdaaaGreat.I.A

namespace Go.Proofs.YtbamjfnjenmdaaaGreat.I
open Go.RowKit Go.Maps
attribute [local go_sem] Oper.semAt_some
set_option linter.unusedVariables false
set_option linter.unusedSimpArgs false
set_option maxRecDepth 100000

set_option maxHeartbeats 2000000 in
/-- the walk through the places, by what its callback keeps -/
theorem walk_told {w : World} {bo bm g : Nat} {L : List Ent} (h : RO w bo bm g L) (c1 c2 : Value) (J Jx : List Ent → World → Prop) (h0 : J [] w)
    (hJ : ∀ pre W, J pre W → RO W bo bm g L)
    (hs : ∀ k e W, L[k]? = some e → J (L.take k) W → Calls Tryz.prog 118 #[.pointer (some ⟨e.blk, 0, none⟩), c1, c2] W fun r W' => (r = .returned (.bool true) ∧ J (L.take (k + 1)) W') ∨ (r = .returned (.bool false) ∧ Jx (L.take (k + 1)) W')) :
    Calls Tryz.prog 117 #[.pointer (some ⟨bo, 0, none⟩), .func (.func 118) #[] #[c1, c2]] w fun r w' => r = .returned (.tuple #[]) ∧ (J L w' ∨ ∃ k, k < L.length ∧ Jx (L.take (k + 1)) w') := by
  have hu := usable_any h
  have hgap := h.gap
  have hfst := h.first
  have hnd := h.nd
  have HJ : Hid (∀ pre W, J pre W → RO W bo bm g L) := hJ
  have HS : Hid (∀ k e W, L[k]? = some e → J (L.take k) W → Calls Tryz.prog 118 #[.pointer (some ⟨e.blk, 0, none⟩), c1, c2] W fun r W' => (r = .returned (.bool true) ∧ J (L.take (k + 1)) W') ∨ (r = .returned (.bool false) ∧ Jx (L.take (k + 1)) W')) := hs
  have H0 : Hid (J [] w) := h0
  have HN : Hid ((g :: L.map (·.blk)).Nodup) := hnd
  clear h hJ hs h0 hnd
  go_enter Tryz.func117, Tryz.ntmps117
  go_wp2_with (go_at_call 107; refine hu.mono ?_; rintro e w9 ⟨rfl, hw9⟩; rw [hw9]; clear hw9)
  go_loopw [4] (fun p wr => ∃ k, k ≤ L.length ∧ p = .pointer (some ⟨nthP L g k, 0, none⟩) ∧ Hid (J (L.take k) wr)) (fun p _ => leftP L p)
  case atStart => exact ⟨0, Nat.zero_le _, rfl, H0⟩
  case round =>
    obtain ⟨k, hk, rfl, HK⟩ := hrel
    have hro := HJ.out _ _ HK.out
    have hgr := hro.gap
    have hgb := hro.gapBlk
    by_cases hlt : k < L.length
    · have he : L[k]? = some L[k] := List.getElem?_eq_getElem hlt
      have hb := nthP_lt (g := g) he
      have hng := hro.notGap (List.mem_of_getElem? he)
      have hst := (HS.out k _ wr he HK.out).mono (R' := fun r W' => (r = .returned (.bool true) ∧ J (L.take (k + 1)) W' ∧ W'.cell? ⟨L[k].blk, 3, none⟩ = some (.pointer (some ⟨nthP L g (k + 1), 0, none⟩))) ∨ (r = .returned (.bool false) ∧ Jx (L.take (k + 1)) W')) (fun r W' h => h.imp (fun h => ⟨h.1, h.2, (HJ.out _ _ h.2).next he⟩) id)
      obtain ⟨pa, pb, hpl⟩ := hro.plcBlk (List.mem_of_getElem? he)
      obtain ⟨ga, gb, hgb⟩ := hgb
      have hnq := neq_ptr wr hpl hgb hng
      rw [hb]
      generalize L[k] = e at *
      have HE : Hid (L[k]? = some e) := he
      have HM : Hid (leftP L (.pointer (some ⟨e.blk, 0, none⟩)) = L.length - k) := by rw [← hb]; exact leftP_lt HN.out hk
      clear he hro hb hpl hgb hng
      go_wp2_with (go_at_call 118; refine hst.mono ?_; rintro r w1 (⟨rfl, hj1, hnx⟩ | ⟨rfl, hjx⟩))
      · go_roundw
        case rel => exact ⟨k + 1, by omega, rfl, hj1⟩
        case measure => rw [leftP_lt HN.out (by omega : k + 1 ≤ L.length), HM.out]; omega
      · go_end0
        exact ⟨rfl, .inr ⟨k, hlt, hjx⟩⟩
    · have e : k = L.length := by omega
      subst e
      rw [nthP_end]
      have hnq := neq_ptr_same wr g
      have HE : Hid (J L wr) := by have := HK.out; rw [List.take_length] at this; exact this
      clear hro hgb
      go_wp2
      go_end0
      exact ⟨rfl, .inl HE.out⟩
end Go.Proofs.YtbamjfnjenmdaaaGreat.I

namespace Go.Proofs.YtbamjfnjenmdaaaGreat.I.A
open Go.RowKit Go.Maps Go.Shelf Go.Proofs.YtbamjfnjenmdaaaGreat.I
attribute [local go_sem] Oper.semAt_some
set_option linter.unusedVariables false
set_option linter.unusedSimpArgs false
set_option maxRecDepth 100000

/-- a row of keys is kept by what the ranging's body does -/
structure KeepsRow (Kp : World → World → Prop) (Fine : Nat → World → Prop) : Prop where
  k : ∀ {W W' : World} {g : Nat} {cur : Array Value} {fr : Nat × Nat}, Kp W W' → Fine g W → W.heap[g]? = some (.cells cur TKey fr) → W'.heap[g]? = some (.cells cur TKey fr) ∧ Fine g W'
theorem KV_get {ks : List Int} {k : Nat} {x : Int} (h : ks[k]? = some x) : (KV ks)[k]? = some (kv x) := by unfold KV; rw [List.getElem?_map, h]; rfl

theorem row_form {W : World} {B : Nat} {v : Value} {ks : List Int} (h : W.ownsRow B TKey 1 v ks.length (KV ks)) : ∃ ao cap, v = .slice ao ks.length cap ∧ ks.length ≤ cap ∧ (0 < ks.length → ∃ gv cur, ao = some ⟨gv, 0, none⟩ ∧ B ≤ gv ∧ W.heap[gv]? = some (.cells cur TKey (0, 0)) ∧ ∀ (k : Nat) (x : Int), ks[k]? = some x → cur[k]? = some (kv x)) := by
  rcases h.2 with ⟨rfl, h0⟩ | ⟨gv, cap, cur, rfl, hb, hg, hc, _, hsz, ht⟩
  · exact ⟨none, 0, by rw [h0], by omega, fun h => by omega⟩
  · refine ⟨_, cap, rfl, hc, fun _ => ⟨gv, cur, rfl, hb, hg, fun k x hx => ?_⟩⟩
    have hk := (List.getElem?_eq_some_iff.1 hx).1
    have h1 := KV_get hx
    rw [← ht, List.getElem?_take, if_pos (by omega)] at h1
    rw [← h1]; simp

theorem gather_any {W : World} {b1 bo bm g : Nat} {L : List Ent} (h : RO W bo bm g L) (c1 : W.cell? ⟨b1, 0, none⟩ = some (.func (.func 93) #[] #[])) (hl1 : b1 < W.heap.size) (hlen : L.length * 8 ≤ 140737488355328) :
    Calls Tryz.prog 117 #[.pointer (some ⟨bo, 0, none⟩), .func (.func 118) #[] #[.pointer (some ⟨b1, 0, none⟩), .pointer (some ⟨W.heap.size, 0, none⟩)]] (W.alloc (.cells #[.slice none 0 0] TKeys)) fun r w' => r = .returned (.tuple #[]) ∧ Gath W.heap.size W.heap.size W w' (picked L) := by
  have hB0 : Below W.heap.size W (W.alloc (.cells #[.slice none 0 0] TKeys)) := (Below.refl _ W).alloc (Nat.le_refl _) _
  refine (walk_told (h.later hB0) _ _ (fun pre X => Gath W.heap.size W.heap.size W X (picked pre)) (fun _ _ => False) ⟨hB0, _, Boxed.new W TKeys _, World.ownsRow_nil _ _ _ _⟩ (fun pre X hJ => lowerRO h h.lt hJ.1) ?_).mono ?_
  · intro k e X he hJ
    have hk := (List.getElem?_eq_some_iff.1 he).1
    have hpl := picked_length (L.take k)
    rw [List.length_take] at hpl
    refine (cb_any h h.lt c1 hl1 (Nat.le_refl _) (Nat.le_refl _) hJ (List.mem_of_getElem? he) (by omega)).mono ?_
    rintro r X' ⟨rfl, hG⟩
    refine .inl ⟨rfl, ?_⟩
    have e1 : L.take (k + 1) = L.take k ++ [e] := by rw [List.take_add_one, he]; rfl
    rw [e1]
    by_cases hs : sel e = true
    · rw [picked_hit _ _ hs]; simpa [hs] using hG
    · have hs' : sel e = false := by simpa using hs
      rw [picked_miss _ _ hs']; simpa [hs'] using hG
  · rintro r w' ⟨rfl, (hJ | ⟨k, hk, hf⟩)⟩
    · exact ⟨rfl, hJ⟩
    · exact hf.elim

set_option maxHeartbeats 4000000 in
/-- what a ranging gives -/
theorem seq_any (n : Nat) (hn : 2 ≤ n) {Kp : World → World → Prop} {Fine : Nat → World → Prop} (HK : KeepsRow Kp Fine) {w : World} {b0 b1 bo bm g : Nat} {L : List Ent} (h : RO w bo bm g L)
    (c0 : w.cell? ⟨b0, 0, none⟩ = some (.pointer (some ⟨bo, 0, none⟩))) (c1 : w.cell? ⟨b1, 0, none⟩ = some (.func (.func 93) #[] #[])) (hl1 : b1 < w.heap.size) (hlen : L.length * 8 ≤ 140737488355328)
    (hF : ∀ (W w1 : World) (k : Nat), Below w.heap.size w W → Below W.heap.size W w1 → W.heap.size ≤ k → k < w1.heap.size → Fine k w1) :
    SeqStopsK Fence.wide n Tryz.prog 116 #[.pointer (some ⟨b0, 0, none⟩), .pointer (some ⟨b1, 0, none⟩)] (fun k => #[kv k]) Kp (fun xs => xs = picked L) (fun pre => ∃ rest, picked L = pre ++ rest) (picked L).length w := by
  intro l J Jx W hW hJ hJx hY h0
  have HP := gather_any (h.later hW) (cell_later hW c1) (Nat.lt_of_lt_of_le hl1 hW.size) hlen
  have d0 : (W.alloc (.cells #[.slice none 0 0] TKeys)).cell? ⟨b0, 0, none⟩ = some (.pointer (some ⟨bo, 0, none⟩)) := cell_later ((Below.refl _ W).alloc (Nat.le_refl _) _) (cell_later hW c0)
  have hmf : ∀ (fn : Fn) (first cap : Array Value) (w : World), (Instr.makeFunc fn first cap).run Tryz.prog w = .ok (.func fn first cap) w := fun _ _ _ _ => rfl
  obtain ⟨xs, hxs⟩ : ∃ xs, xs = picked L := ⟨_, rfl⟩
  have hpl := picked_length L
  rw [← hxs] at HP hY hpl ⊢
  obtain ⟨m, hm⟩ : ∃ m, m = xs.length := ⟨_, rfl⟩
  rw [← hm] at hY hpl
  have HM : Hid (m = xs.length) := hm
  have hml : m ≤ 17592186044416 := by omega
  have HP2 : Hid (Calls Tryz.prog 117 #[.pointer (some ⟨bo, 0, none⟩), .func (.func 118) #[] #[.pointer (some ⟨b1, 0, none⟩), .pointer (some ⟨W.heap.size, 0, none⟩)]] (W.alloc (.cells #[.slice none 0 0] TKeys)) fun r w' => r = .returned (.tuple #[]) ∧ Gath W.heap.size W.heap.size W w' xs) := HP
  have HF : Hid (∀ (W w1 : World) (k : Nat), Below w.heap.size w W → Below W.heap.size W w1 → W.heap.size ≤ k → k < w1.heap.size → Fine k w1) := hF
  have HW : Hid (Below w.heap.size w W) := hW
  have HJ0 : Hid (J [] W) := h0
  clear hm hxs h c0 c1 hpl hlen HP hF hl1 hW h0
  have hf : Fence.wide.fn 116 := trivial
  have hf2 : Fence.wide.fn 117 := trivial
  refine callsIn_of_wp Tryz.func116 rfl hf ?_ rfl
  simp only [Tryz.ntmps116, List.size_toArray, List.length_cons, List.length_nil, Nat.reduceAdd, Nat.reduceSub, Array.replicate_succ, Array.replicate_zero, List.push_toArray, List.append_toArray, List.nil_append, List.cons_append]
  have h1 : 1 ≤ n := by omega
  have h1' : 1 ≤ n - 1 := by omega
  gi_wp2_with (gi_at_call 117; refine (callsIn_wide.2 HP2.out).mono ?_; rintro e w1 ⟨rfl, hb, v, hbox, hown⟩; obtain ⟨ao, cap, rfl, hcap, hrf⟩ := row_form hown; have hcv := hbox.cell; rw [← HM.out] at hcv hcap hrf)
  have HFg : Hid (∀ k, W.heap.size ≤ k → k < w1.heap.size → Fine k w1) := fun k hk hk2 => HF.out W w1 k HW.out hb hk hk2
  have HJ1 : Hid (J [] w1) := hJ [] W w1 none HJ0.out ⟨hb.os, hb.tape, hb.output, hb.size, fun k hk _ => hb.block k hk⟩ (fun r e => by cases e)
  have hcap' : (m : Int) ≤ (cap : Int) := by omega
  by_cases hm0 : m = 0
  · have HE : Hid (xs = []) := by have := HM.out; exact List.length_eq_zero_iff.1 (by omega)
    subst hm0
    clear hcv hrf hbox hown hb HP2 d0 hcap'
    gi_loopw [12] (fun i wr => i = .int .i64 0 ∧ Hid (J [] wr)) (fun i _ => 0)
    case atStart => exact ⟨rfl, HJ1⟩
    case round =>
      obtain ⟨rfl, HJr⟩ := hrel
      gi_wp2
      go_end0
      exact ⟨⟨_, rfl⟩, .inl ⟨[], HE.out.symm, HJr.out⟩⟩
  · obtain ⟨gv, cur, rfl, hgv, hblk, hcells⟩ := hrf (by omega)
    have HB : Hid (w1.heap[gv]? = some (.cells cur TKey (0, 0)) ∧ Fine gv w1) := ⟨hblk, HFg.out gv hgv (Array.getElem?_eq_some_iff.1 hblk).1⟩
    have HC : Hid (∀ (k : Nat) (x : Int), xs[k]? = some x → cur[k]? = some (kv x)) := hcells
    clear hcv hrf hbox hown hb HP2 d0 hblk hcells HFg HF hgv
    gi_loopw [12] (fun i wr => ∃ (k : Nat), i = .int .i64 k ∧ k ≤ m ∧ Hid (wr.heap[gv]? = some (.cells cur TKey (0, 0)) ∧ Fine gv wr) ∧ Hid (J (xs.take k) wr)) (fun i _ => m - (intOf i).toNat)
    case atStart => exact ⟨0, rfl, Nat.zero_le _, HB, HJ1⟩
    case round =>
      obtain ⟨k, rfl, hk, HBk, HJk⟩ := hrel
      by_cases hlt2 : k < m
      · obtain ⟨x, hx⟩ : ∃ x, xs[k]? = some x := ⟨_, List.getElem?_eq_getElem (by have := HM.out; omega)⟩
        have z0 : wr.cell? ⟨gv, k, none⟩ = some (kv x) := by unfold World.cell?; simp only [HBk.out.1]; simpa using HC.out k x hx
        have hkz : (k : Int) < (m : Int) := by omega
        have HT : Hid (xs.take k ++ [x] = xs.take (k + 1)) := by
          show _ = _
          rw [List.take_add_one, hx]; rfl
        have hlen : (xs.take k).length < m := by rw [List.length_take]; have := HM.out; omega
        obtain ⟨fn, tmps, assign, body, hy, hR⟩ := hY (xs.take k) x _ HJk.out hlen
        rw [HT.out] at hR
        clear hx hlen hY
        gi_wp2
        refine hR.mono ?_
        rintro e W3 (⟨rfl, hJ3, hk3⟩ | ⟨rfl, hJx3⟩)
        · have HB3 : Hid (W3.heap[gv]? = some (.cells cur TKey (0, 0)) ∧ Fine gv W3) := HK.k hk3 HBk.out.2 HBk.out.1
          gi_wp2
          go_roundw
          case rel => exact ⟨k + 1, by go_num, by omega, HB3, hJ3⟩
          case measure => simp [intOf]; omega
        · gi_wp2
          refine bodyPost_ret (results_none rfl _ _ _) rfl ?_
          exact ⟨⟨_, rfl⟩, .inr ⟨xs.take (k + 1), ⟨xs.drop (k + 1), (List.take_append_drop _ _).symm⟩, hJx3⟩⟩
      · have e : k = m := by omega
        subst e
        have HE : Hid (xs.take k = xs) := by rw [HM.out]; exact List.take_length
        rw [HE.out] at HJk
        gi_wp2
        go_end0
        exact ⟨⟨_, rfl⟩, .inl ⟨xs, rfl, HJk.out⟩⟩
end Go.Proofs.YtbamjfnjenmdaaaGreat.I.A
