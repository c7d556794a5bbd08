import Derived.Test.YtijimcjmpeakpaaGreatG32
import Derived.Deep.RegionHeld3
import Derived.Deep.AppendLies
import Derived.RangeFuncBox
import Derived.WalkSpells
import Derived.Deep.RegionLaw
import Derived.Deep.DrawnRows
namespace Go.Proofs.YtijimcjmpeakpaaGreat.I.A
open Go.RowKit Go.Maps Go.Proofs.YtijimcjmpeakpaaGreat.I
attribute [local go_sem] Oper.semAt_some
attribute [local go_sem ↓] Go.wp_at_zero Go.wp_at_succ
set_option linter.unusedVariables false
set_option linter.unusedSimpArgs false
set_option maxRecDepth 100000

abbrev TKeys : TypeId := 22
/-- which places are picked -/
def sel (e : Ent) : Bool := true
def KV (l : List Int) : List Value := l.map kv
/-- the keys of those that are picked -/
def picked (L : List Ent) : List Int := (L.filter sel).map (·.key)
theorem picked_hit (pre : List Ent) (e : Ent) (h : sel e = true) : picked (pre ++ [e]) = picked pre ++ [e.key] := by simp [picked, h]
theorem picked_miss (pre : List Ent) (e : Ent) (h : sel e = false) : picked (pre ++ [e]) = picked pre := by simp [picked, h]
theorem picked_length (L : List Ent) : (picked L).length ≤ L.length := by unfold picked; rw [List.length_map]; exact List.length_filter_le _ _
theorem infoKey : (Tryz.prog.info? TKey).map (fun i => (i.zero, i.size, i.bytes)) = some (some (kv 0), 1, 8) := by kernel_rfl

theorem pick_any {W : World} {bo bm g : Nat} {L : List Ent} (h : RO W bo bm g L) {e : Ent} (he : e ∈ L) : Calls Tryz.prog 126 #[.pointer (some ⟨e.blk, 0, none⟩)] W fun r w' => r = .returned (.bool (sel e)) ∧ w' = W := by
  go_enter Tryz.func126, Tryz.ntmps126
  go_wp2
  go_ret
  exact ⟨rfl, rfl⟩
/-- the gathered keys, in memory of one's own -/
def Gath (B kb : Nat) (W0 W : World) (ks : List Int) : Prop := Below B W0 W ∧ ∃ v, Boxed W kb TKeys v ∧ W.ownsRow B TKey 1 v ks.length (KV ks)
theorem lowerRO {w w' : World} {bo bm g B : Nat} {L : List Ent} (h : RO w bo bm g L) (hB : ∀ i ∈ fp bo bm g L, i < B) (hb : Below B w w') : RO w' bo bm g L := h.same fun i hi => hb.block i (hB i hi)

set_option maxHeartbeats 2000000 in
theorem cb_any {B kb b1 : Nat} {W0 W : World} {bo bm g : Nat} {L : List Ent} {ks : List Int} (h : RO W0 bo bm g L) (hB : ∀ i ∈ fp bo bm g L, i < B) (hb1 : W0.cell? ⟨b1, 0, none⟩ = some (.func (.func 126) #[] #[])) (hlt1 : b1 < B) (hkb : B ≤ kb) (hBW : B ≤ W0.heap.size) (G : Gath B kb W0 W ks) {e : Ent} (he : e ∈ L) (hlen : (ks.length + 1) * 8 ≤ 140737488355328) :
    Calls Tryz.prog 169 #[.pointer (some ⟨e.blk, 0, none⟩), .pointer (some ⟨b1, 0, none⟩), .pointer (some ⟨kb, 0, none⟩)] W fun r W' => r = .returned (.bool true) ∧ Gath B kb W0 W' (if sel e then ks ++ [e.key] else ks) := by
  obtain ⟨i0, hi, hz0, hz1, hz2⟩ := info_parts infoKey
  obtain ⟨hb, v, hbox, hrow⟩ := G
  have hro := lowerRO h hB hb
  have hpk := pick_any hro he
  obtain ⟨o, x, hpl⟩ := hro.plcBlk he
  have hk : W.cell? ⟨e.blk, 0, none⟩ = some (kv e.key) := (cell_of hpl).trans rfl
  have hc1 : W.cell? ⟨b1, 0, none⟩ = some (.func (.func 126) #[] #[]) := (World.cell?_of_block (hb.block b1 hlt1)).trans hb1
  have hcv := hbox.cell
  have hcf := hbox.frozen
  have hbs := hb.size
  by_cases hs : sel e = true
  · rw [hs] at hpk
    simp only [hs, if_true]
    have HR : Hid (W.ownsRow B TKey 1 v ks.length (KV ks)) := hrow
    have HX : Hid (Boxed W kb TKeys v) := hbox
    have HB : Hid (Below B W0 W) := hb
    have HK2 : Hid (∀ w1, (W.alloc (.cells #[kv e.key] TKey)).grownBy w1 v.ownBlock → w1.cell? ⟨e.blk, 0, none⟩ = some (kv e.key)) := fun w1 hg => by
      have hlb : e.blk < B := hB e.blk (by simp only [fp, List.mem_cons, List.mem_map]; exact .inr (.inr (.inr ⟨e, he, rfl⟩)))
      have h1 := hg.cell_far ⟨e.blk, 0, none⟩ (by rw [World.size_alloc]; show e.blk < _; omega) (fun e' => by have := (hrow.lt _ e'.symm).1; have : B ≤ e.blk := this; omega)
      rw [h1]
      exact cell_later ((Below.refl _ W).alloc (Nat.le_refl _) _) hk
    have hcva : (W.alloc (.cells #[kv e.key] TKey)).cell? ⟨kb, 0, none⟩ = some v := cell_later ((Below.refl _ W).alloc (Nat.le_refl _) _) hcv
    clear hs h hB hb1 hb hbox hrow hro hpl
    go_enter Tryz.func169, Tryz.ntmps169
    go_wp2_with (go_at_call 126; refine hpk.mono ?_; rintro e w9 ⟨rfl, hw9⟩; rw [hw9]; clear hw9)
    go_region_law (refine step_append_lies _ (by rfl) _ _ TKeys (by rfl) B TKey i0 _ 1 8 Tryz.underlying22 hi hz0 hz1 hz2 rfl (by decide) v ks.length (KV ks) (by rfl) (HR.out.alloc _) ⟨W.heap.size, 0, none⟩ 1 1 [kv e.key] (by rfl) rfl (World.news_of_block (heap_alloc_new W _)) (by simp [Value.oneCell']) (by decide) (by unfold maxLen; omega) hlen (by show B ≤ (W.alloc _).heap.size; rw [World.size_alloc]; omega) (W.heap.size + 1) (by simp) ?_; intro g' cap' w1 hown' hgrow hat hlt; have hgr2 : (W.alloc (.cells #[kv e.key] TKey)).grownBy w1 v.ownBlock := ⟨hgrow.os, hgrow.tape, hgrow.output, hgrow.size, hgrow.block⟩; have hap := HX.out.appended (by decide) HR.out (by omega) hkb hown' hgr2; have hc2 : w1.cell? ⟨kb, 0, none⟩ = some v := hap.1.cell; have hf2 : w1.frozen? ⟨kb, 0, none⟩ = false := hap.1.frozen; have hk2 : w1.cell? ⟨e.blk, 0, none⟩ = some (kv e.key) := HK2.out w1 hgr2; have HA : Hid (Boxed (w1.setCell ⟨kb, 0, none⟩ (.slice (some ⟨g', 0, none⟩) (ks.length + 1) cap')) kb TKeys (.slice (some ⟨g', 0, none⟩) (ks.length + 1) cap') ∧ (w1.setCell ⟨kb, 0, none⟩ (.slice (some ⟨g', 0, none⟩) (ks.length + 1) cap')).ownsRow B TKey 1 (.slice (some ⟨g', 0, none⟩) (ks.length + 1) cap') (ks.length + 1) (KV ks ++ [kv e.key]) ∧ Below B W (w1.setCell ⟨kb, 0, none⟩ (.slice (some ⟨g', 0, none⟩) (ks.length + 1) cap'))) := ⟨hap.2.1, hap.2.2.1, hap.2.2.2.2⟩; clear hown' hgrow hat hlt hgr2 hap)
    all_goals go_wp2
    all_goals go_ret
    all_goals exact ⟨rfl, HB.out.trans HA.out.2.2, _, HA.out.1, by rw [List.length_append, KV, List.map_append]; exact HA.out.2.1⟩
  · have hs' : sel e = false := by simpa using hs
    rw [hs'] at hpk
    simp only [hs, if_false]
    have HG : Hid (Gath B kb W0 W ks) := ⟨hb, v, hbox, hrow⟩
    clear h hB hb1 hb hbox hrow hro hpl hs hs'
    go_enter Tryz.func169, Tryz.ntmps169
    go_wp2_with (go_at_call 126; refine hpk.mono ?_; rintro e w9 ⟨rfl, hw9⟩; rw [hw9]; clear hw9)
    go_ret
    exact ⟨rfl, HG.out⟩
end Go.Proofs.YtijimcjmpeakpaaGreat.I.A

namespace Go.Proofs.YtijimcjmpeakpaaGreat.I
open Go.RowKit Go.Maps
attribute [local go_sem] Oper.semAt_some
set_option linter.unusedVariables false
set_option linter.unusedSimpArgs false
set_option maxRecDepth 100000

set_option maxHeartbeats 2000000 in
/-- the walk through the places, by what its callback keeps -/
theorem walk_told {w : World} {bo bm g : Nat} {L : List Ent} (h : RO w bo bm g L) (c1 c2 : Value) (J Jx : List Ent → World → Prop) (h0 : J [] w)
    (hJ : ∀ pre W, J pre W → RO W bo bm g L)
    (hs : ∀ k e W, L[k]? = some e → J (L.take k) W → Calls Tryz.prog 169 #[.pointer (some ⟨e.blk, 0, none⟩), c1, c2] W fun r W' => (r = .returned (.bool true) ∧ J (L.take (k + 1)) W') ∨ (r = .returned (.bool false) ∧ Jx (L.take (k + 1)) W')) :
    Calls Tryz.prog 168 #[.pointer (some ⟨bo, 0, none⟩), .func (.func 169) #[] #[c1, c2]] w fun r w' => r = .returned (.tuple #[]) ∧ (J L w' ∨ ∃ k, k < L.length ∧ Jx (L.take (k + 1)) w') := by
  have hu := usable_any h
  have hgap := h.gap
  have hfst := h.first
  have hnd := h.nd
  have HJ : Hid (∀ pre W, J pre W → RO W bo bm g L) := hJ
  have HS : Hid (∀ k e W, L[k]? = some e → J (L.take k) W → Calls Tryz.prog 169 #[.pointer (some ⟨e.blk, 0, none⟩), c1, c2] W fun r W' => (r = .returned (.bool true) ∧ J (L.take (k + 1)) W') ∨ (r = .returned (.bool false) ∧ Jx (L.take (k + 1)) W')) := hs
  have H0 : Hid (J [] w) := h0
  have HN : Hid ((g :: L.map (·.blk)).Nodup) := hnd
  clear h hJ hs h0 hnd
  go_enter Tryz.func168, Tryz.ntmps168
  go_wp2_with (go_at_call 158; refine hu.mono ?_; rintro e w9 ⟨rfl, hw9⟩; rw [hw9]; clear hw9)
  go_loopw [4] (fun p wr => ∃ k, k ≤ L.length ∧ p = .pointer (some ⟨nthP L g k, 0, none⟩) ∧ Hid (J (L.take k) wr)) (fun p _ => leftP L p)
  case atStart => exact ⟨0, Nat.zero_le _, rfl, H0⟩
  case round =>
    obtain ⟨k, hk, rfl, HK⟩ := hrel
    have hro := HJ.out _ _ HK.out
    have hgr := hro.gap
    have hgb := hro.gapBlk
    by_cases hlt : k < L.length
    · have he : L[k]? = some L[k] := List.getElem?_eq_getElem hlt
      have hb := nthP_lt (g := g) he
      have hng := hro.notGap (List.mem_of_getElem? he)
      have hst := (HS.out k _ wr he HK.out).mono (R' := fun r W' => (r = .returned (.bool true) ∧ J (L.take (k + 1)) W' ∧ W'.cell? ⟨L[k].blk, 3, none⟩ = some (.pointer (some ⟨nthP L g (k + 1), 0, none⟩))) ∨ (r = .returned (.bool false) ∧ Jx (L.take (k + 1)) W')) (fun r W' h => h.imp (fun h => ⟨h.1, h.2, (HJ.out _ _ h.2).next he⟩) id)
      obtain ⟨pa, pb, hpl⟩ := hro.plcBlk (List.mem_of_getElem? he)
      obtain ⟨ga, gb, hgb⟩ := hgb
      have hnq := neq_ptr wr hpl hgb hng
      rw [hb]
      generalize L[k] = e at *
      have HE : Hid (L[k]? = some e) := he
      have HM : Hid (leftP L (.pointer (some ⟨e.blk, 0, none⟩)) = L.length - k) := by rw [← hb]; exact leftP_lt HN.out hk
      clear he hro hb hpl hgb hng
      go_wp2_with (go_at_call 169; refine hst.mono ?_; rintro r w1 (⟨rfl, hj1, hnx⟩ | ⟨rfl, hjx⟩))
      · go_roundw
        case rel => exact ⟨k + 1, by omega, rfl, hj1⟩
        case measure => rw [leftP_lt HN.out (by omega : k + 1 ≤ L.length), HM.out]; omega
      · go_end0
        exact ⟨rfl, .inr ⟨k, hlt, hjx⟩⟩
    · have e : k = L.length := by omega
      subst e
      rw [nthP_end]
      have hnq := neq_ptr_same wr g
      have HE : Hid (J L wr) := by have := HK.out; rw [List.take_length] at this; exact this
      clear hro hgb
      go_wp2
      go_end0
      exact ⟨rfl, .inl HE.out⟩
end Go.Proofs.YtijimcjmpeakpaaGreat.I
