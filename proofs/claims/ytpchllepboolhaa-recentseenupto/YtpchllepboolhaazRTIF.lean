import Derived.Test.YtpchllepboolhaazRWI
import Derived.Deep.RegionHeld3
import Derived.Deep.AppendLies
import Derived.RangeFuncBox
import Derived.WalkSpells
import Derived.Deep.RegionLaw
import Derived.Deep.DrawnRows
namespace Go.Proofs.Ytpchllepboolhaa.I.F
open Go.RowKit Go.Maps Go.Proofs.Ytpchllepboolhaa.I
attribute [local go_sem] Oper.semAt_some
attribute [local go_sem ↓] Go.wp_at_zero Go.wp_at_succ
set_option linter.unusedVariables false
set_option linter.unusedSimpArgs false
set_option maxRecDepth 100000

abbrev TKeys : TypeId := 43
/-- which places are picked -/
def sel (e : Ent) : Bool := (decide (e.pins = 0))
def KV (l : List Int) : List Value := l.map kv
/-- the keys of those that are picked -/
def picked (L : List Ent) : List Int := (L.filter sel).map (·.key)
theorem picked_hit (pre : List Ent) (e : Ent) (h : sel e = true) : picked (pre ++ [e]) = picked pre ++ [e.key] := by simp [picked, h]
theorem picked_miss (pre : List Ent) (e : Ent) (h : sel e = false) : picked (pre ++ [e]) = picked pre := by simp [picked, h]
theorem picked_length (L : List Ent) : (picked L).length ≤ L.length := by unfold picked; rw [List.length_map]; exact List.length_filter_le _ _
theorem infoKey : (Try.prog.info? TKey).map (fun i => (i.zero, i.size, i.bytes)) = some (some (kv 0), 1, 8) := by kernel_rfl

theorem pick_any {W : World} {bo bm g : Nat} {L : List Ent} (h : RO W bo bm g L) {e : Ent} (he : e ∈ L) : Calls Try.prog 74 #[.pointer (some ⟨e.blk, 0, none⟩)] W fun r w' => r = .returned (.bool (sel e)) ∧ w' = W := by
  have hfr := h.free he
  go_enter Try.func74, Try.ntmps74
  go_wp2_with (go_at_call 71; refine hfr.mono ?_; rintro e w9 ⟨rfl, hw9⟩; rw [hw9]; clear hw9)
  go_ret
  exact ⟨rfl, rfl⟩

/-- the gathered keys, in memory of one's own -/
def Gath (B kb : Nat) (W0 W : World) (ks : List Int) : Prop := Below B W0 W ∧ ∃ v, Boxed W kb TKeys v ∧ W.ownsRow B TKey 1 v ks.length (KV ks)
theorem lowerRO {w w' : World} {bo bm g B : Nat} {L : List Ent} (h : RO w bo bm g L) (hB : ∀ i ∈ fp bo bm g L, i < B) (hb : Below B w w') : RO w' bo bm g L := h.same fun i hi => hb.block i (hB i hi)

set_option maxHeartbeats 2000000 in
theorem cb_any {B kb b1 : Nat} {W0 W : World} {bo bm g : Nat} {L : List Ent} {ks : List Int} (h : RO W0 bo bm g L) (hB : ∀ i ∈ fp bo bm g L, i < B) (hb1 : W0.cell? ⟨b1, 0, none⟩ = some (.func (.func 74) #[] #[])) (hlt1 : b1 < B) (hkb : B ≤ kb) (hBW : B ≤ W0.heap.size) (G : Gath B kb W0 W ks) {e : Ent} (he : e ∈ L) (hlen : (ks.length + 1) * 8 ≤ 140737488355328) :
    Calls Try.prog 88 #[.pointer (some ⟨e.blk, 0, none⟩), .pointer (some ⟨b1, 0, none⟩), .pointer (some ⟨kb, 0, none⟩)] W fun r W' => r = .returned (.bool true) ∧ Gath B kb W0 W' (if sel e then ks ++ [e.key] else ks) := by
  obtain ⟨i0, hi, hz0, hz1, hz2⟩ := info_parts infoKey
  obtain ⟨hb, v, hbox, hrow⟩ := G
  have hro := lowerRO h hB hb
  have hpk := pick_any hro he
  obtain ⟨o, x, hpl⟩ := hro.plcBlk he
  have hk : W.cell? ⟨e.blk, 0, none⟩ = some (kv e.key) := (cell_of hpl).trans rfl
  have hc1 : W.cell? ⟨b1, 0, none⟩ = some (.func (.func 74) #[] #[]) := (World.cell?_of_block (hb.block b1 hlt1)).trans hb1
  have hcv := hbox.cell
  have hcf := hbox.frozen
  have hbs := hb.size
  by_cases hs : sel e = true
  · rw [hs] at hpk
    simp only [hs, if_true]
    have HR : Hid (W.ownsRow B TKey 1 v ks.length (KV ks)) := hrow
    have HX : Hid (Boxed W kb TKeys v) := hbox
    have HB : Hid (Below B W0 W) := hb
    have HK2 : Hid (∀ w1, (W.alloc (.cells #[kv e.key] TKey)).grownBy w1 v.ownBlock → w1.cell? ⟨e.blk, 0, none⟩ = some (kv e.key)) := fun w1 hg => by
      have hlb : e.blk < B := hB e.blk (by simp only [fp, List.mem_cons, List.mem_map]; exact .inr (.inr (.inr ⟨e, he, rfl⟩)))
      have h1 := hg.cell_far ⟨e.blk, 0, none⟩ (by rw [World.size_alloc]; show e.blk < _; omega) (fun e' => by have := (hrow.lt _ e'.symm).1; have : B ≤ e.blk := this; omega)
      rw [h1]
      exact cell_later ((Below.refl _ W).alloc (Nat.le_refl _) _) hk
    have hcva : (W.alloc (.cells #[kv e.key] TKey)).cell? ⟨kb, 0, none⟩ = some v := cell_later ((Below.refl _ W).alloc (Nat.le_refl _) _) hcv
    clear hs h hB hb1 hb hbox hrow hro hpl
    go_enter Try.func88, Try.ntmps88
    go_wp2_with (go_at_call 74; refine hpk.mono ?_; rintro e w9 ⟨rfl, hw9⟩; rw [hw9]; clear hw9)
    go_region_law (refine step_append_lies _ (by rfl) _ _ TKeys (by rfl) B TKey i0 _ 1 8 Try.underlying43 hi hz0 hz1 hz2 rfl (by decide) v ks.length (KV ks) (by rfl) (HR.out.alloc _) ⟨W.heap.size, 0, none⟩ 1 1 [kv e.key] (by rfl) rfl (World.news_of_block (heap_alloc_new W _)) (by simp [Value.oneCell']) (by decide) (by unfold maxLen; omega) hlen (by show B ≤ (W.alloc _).heap.size; rw [World.size_alloc]; omega) (W.heap.size + 1) (by simp) ?_; intro g' cap' w1 hown' hgrow hat hlt; have hgr2 : (W.alloc (.cells #[kv e.key] TKey)).grownBy w1 v.ownBlock := ⟨hgrow.os, hgrow.tape, hgrow.output, hgrow.size, hgrow.block⟩; have hap := HX.out.appended (by decide) HR.out (by omega) hkb hown' hgr2; have hc2 : w1.cell? ⟨kb, 0, none⟩ = some v := hap.1.cell; have hf2 : w1.frozen? ⟨kb, 0, none⟩ = false := hap.1.frozen; have hk2 : w1.cell? ⟨e.blk, 0, none⟩ = some (kv e.key) := HK2.out w1 hgr2; have HA : Hid (Boxed (w1.setCell ⟨kb, 0, none⟩ (.slice (some ⟨g', 0, none⟩) (ks.length + 1) cap')) kb TKeys (.slice (some ⟨g', 0, none⟩) (ks.length + 1) cap') ∧ (w1.setCell ⟨kb, 0, none⟩ (.slice (some ⟨g', 0, none⟩) (ks.length + 1) cap')).ownsRow B TKey 1 (.slice (some ⟨g', 0, none⟩) (ks.length + 1) cap') (ks.length + 1) (KV ks ++ [kv e.key]) ∧ Below B W (w1.setCell ⟨kb, 0, none⟩ (.slice (some ⟨g', 0, none⟩) (ks.length + 1) cap'))) := ⟨hap.2.1, hap.2.2.1, hap.2.2.2.2⟩; clear hown' hgrow hat hlt hgr2 hap)
    all_goals go_wp2
    all_goals go_ret
    all_goals exact ⟨rfl, HB.out.trans HA.out.2.2, _, HA.out.1, by rw [List.length_append, KV, List.map_append]; exact HA.out.2.1⟩
  · have hs' : sel e = false := by simpa using hs
    rw [hs'] at hpk
    simp only [hs, if_false]
    have HG : Hid (Gath B kb W0 W ks) := ⟨hb, v, hbox, hrow⟩
    clear h hB hb1 hb hbox hrow hro hpl hs hs'
    go_enter Try.func88, Try.ntmps88
    go_wp2_with (go_at_call 74; refine hpk.mono ?_; rintro e w9 ⟨rfl, hw9⟩; rw [hw9]; clear hw9)
    go_ret
    exact ⟨rfl, HG.out⟩
end Go.Proofs.Ytpchllepboolhaa.I.F
