import Derived.Test.YtbamjfnjenmdaaaGreatG28
namespace Go.Proofs.YtbamjfnjenmdaaaGreat.C
open Go.RowKit Go.Maps Go.Shelf Go.Sort Go.Proofs.YtbamjfnjenmdaaaGreat
attribute [local go_sem] Oper.semAt_some
set_option linter.unusedVariables false
set_option linter.unusedSimpArgs false
set_option maxRecDepth 100000

/-- the sectors of the dirty lines that a question picks, rising -/
def dlL (p : Ln → Bool) (L : List Ln) : List Int := sortI ((L.filter fun l => l.dirty && p l).map fun l => (l.sec : Int))
theorem ptrE_ptr {v : Value} {y : DataW Unit × List MemPlace} (h : I.ptrE v = some y) : ∃ c, v = .pointer c := by
  unfold I.ptrE at h
  split at h
  · exact ⟨_, rfl⟩
  · exact ⟨_, rfl⟩
  · cases h
theorem row_base {w : World} {B n s : Nat} {T : TypeId} {v : Value} {xs : List Value} (h : w.ownsRow B T s v n xs) {g : Nat} (hg : v.ownBlock = some g) : B ≤ g := by
  rcases h.2 with ⟨rfl, _⟩ | ⟨g', cap, cur, rfl, hb, _⟩
  · simp [Value.ownBlock] at hg
  · simp [Value.ownBlock] at hg
    omega
theorem same_kl (a b : Int) : (I.kl a).sameKey (I.kl b) = decide (a = b) := by
  simp [I.kl, Lit.sameKey]
/-- the sectors that were gathered, of the lines that a ranging has gone through -/
structure GoneK (p : Ln → Bool) (L : List Ln) (left : Lit → Bool) (ks : List Int) : Prop where
  nd : ks.Nodup
  mem : ∀ k : Int, k ∈ ks ↔ ∃ l ∈ L, (l.sec : Int) = k ∧ (l.dirty && p l) = true ∧ left (I.kl k) = false
section
variable {w : World} {P : Loc} {S : K.Dk} {C : Ch} {p : Ln → Bool} {left : Lit → Bool} {ks : List Int}
theorem secs_nodup (h : RC w P S C) (q : Ln → Bool) : ((C.L.filter q).map fun l => (l.sec : Int)).Nodup := (List.filter_sublist.map _).nodup h.sd
theorem GoneK.done (g : GoneK p C.L left ks) (h : RC w P S C) (hl : ∀ z, left z = false) : ks.Perm ((C.L.filter fun l => l.dirty && p l).map fun l => (l.sec : Int)) := by
  refine (List.perm_ext_iff_of_nodup g.nd (secs_nodup h _)).2 fun k => ?_
  rw [g.mem k, List.mem_map]
  constructor
  · rintro ⟨l, hm, rfl, hy, _⟩
    exact ⟨l, List.mem_filter.2 ⟨hm, hy⟩, rfl⟩
  · rintro ⟨l, hm, rfl⟩
    obtain ⟨h1, h2⟩ := List.mem_filter.1 hm
    exact ⟨l, h1, rfl, h2, hl _⟩
theorem nodup_sub_len : ∀ {a b : List Int}, a.Nodup → (∀ x ∈ a, x ∈ b) → a.length ≤ b.length
  | [], _, _, _ => by simp
  | x :: a, b, hd, hs => by
    have hx := hs x (by simp)
    have ih := nodup_sub_len (a := a) (b := b.erase x) (List.nodup_cons.1 hd).2 (fun y hy => (List.mem_erase_of_ne (fun e => (List.nodup_cons.1 hd).1 (by rw [← e]; exact hy))).2 (hs y (by simp [hy])))
    have := List.length_erase_of_mem hx
    have hpos : 0 < b.length := List.length_pos_of_mem hx
    simp
    omega
theorem GoneK.small (g : GoneK p C.L left ks) (h : RC w P S C) : ks.length ≤ 1024 := by
  have h1 : ks.length ≤ (C.L.map fun l => (l.sec : Int)).length := nodup_sub_len g.nd fun k hk => by
    obtain ⟨l, hl, rfl, _⟩ := (g.mem k).1 hk
    exact List.mem_map.2 ⟨l, hl, rfl⟩
  have h2 := h.lim
  rw [List.length_map] at h1
  omega
theorem GoneK.yes (g : GoneK p C.L left ks) {l : Ln} (hl : l ∈ C.L) (hk : left (I.kl (l.sec : Int)) = true) (hy : (l.dirty && p l) = true) : GoneK p C.L (fun z => left z && !z.sameKey (I.kl (l.sec : Int))) (ks ++ [(l.sec : Int)]) := by
  have hno : (l.sec : Int) ∉ ks := fun hm => by
    obtain ⟨_, _, _, _, hf⟩ := (g.mem _).1 hm
    rw [hk] at hf; cases hf
  refine ⟨?_, fun k => ?_⟩
  · rw [List.nodup_append]
    exact ⟨g.nd, by simp, fun a ha b hb => by simp at hb; subst hb; rintro rfl; exact hno ha⟩
  · rw [List.mem_append, g.mem k]
    simp only [List.mem_singleton, same_kl]
    constructor
    · rintro (⟨x, hx, rfl, h1, h2⟩ | rfl)
      · exact ⟨x, hx, rfl, h1, by simp [h2]⟩
      · exact ⟨l, hl, rfl, hy, by simp⟩
    · rintro ⟨x, hx, rfl, h1, h2⟩
      by_cases e : (x.sec : Int) = l.sec
      · exact .inr e
      · exact .inl ⟨x, hx, rfl, h1, by simpa [e] using h2⟩
theorem GoneK.no (g : GoneK p C.L left ks) (h : RC w P S C) {l : Ln} (hl : l ∈ C.L) (hk : left (I.kl (l.sec : Int)) = true) (hy : (l.dirty && p l) = false) : GoneK p C.L (fun z => left z && !z.sameKey (I.kl (l.sec : Int))) ks := by
  refine ⟨g.nd, fun k => ?_⟩
  rw [g.mem k]
  simp only [same_kl]
  constructor
  · rintro ⟨x, hx, rfl, h1, h2⟩
    exact ⟨x, hx, rfl, h1, by simp [h2]⟩
  · rintro ⟨x, hx, rfl, h1, h2⟩
    by_cases e : (x.sec : Int) = l.sec
    · exfalso
      have e1 := h.atLine hx
      rw [e, h.atLine hl] at e1
      cases e1
      rw [hy] at h1; cases h1
    · exact ⟨x, hx, rfl, h1, by simpa [e] using h2⟩
end
end Go.Proofs.YtbamjfnjenmdaaaGreat.C

namespace Go.Proofs.YtbamjfnjenmdaaaGreat.C
open Go.RowKit Go.Maps Go.Shelf Go.Sort Go.Proofs.YtbamjfnjenmdaaaGreat
attribute [local go_sem] Oper.semAt_some
set_option linter.unusedVariables false
set_option linter.unusedSimpArgs false
set_option maxRecDepth 100000

set_option maxHeartbeats 8000000 in
theorem dirty_data {w : World} {P : Loc} {S : K.Dk} {C : Ch} (h : RC w P S C) :
    Calls Tryz.prog 34 #[.pointer (some ⟨P.bc, 0, none⟩), .func (.func 35) #[] #[]] w fun r w' => ∃ v, r = .returned v ∧ w'.ownsRow (w.heap.size + 1) TIn 1 v (dlL isData C.L).length (IV (dlL isData C.L)) ∧ Below w.heap.size w w' := by
  have hp : Pk 35 isData := pk_data
  have c3 : w.cell? ⟨P.bc, 3, none⟩ = some (.map (some P.bl)) := h.c 3
  have hlim := h.lim
  obtain ⟨D, hm, hmo⟩ := h.lm
  obtain ⟨i0, hi, hz0, hz1, hz2⟩ := info_parts I.A.infoKey
  have HM : Hid (w.ownsMap Tryz.prog TIn I.ptrE P.bl (Maps.size D) D) := hm
  have HRC : Hid (∀ W, Below w.heap.size w W → RC W P S C) := fun W hb => h.later hb
  have HMO : Hid (I.MapOk (C.L.map Ln.ent) D) := hmo
  have HBL : Hid (P.bl < w.heap.size) := hm.lt
  have HP : Hid (Pk 35 isData) := hp
  have HS0 : Hid (GoneK isData C.L (Maps.has D) []) := ⟨List.nodup_nil, fun k => by
    constructor
    · intro hk; cases hk
    · rintro ⟨l, hl, rfl, _, hf⟩
      have := hmo.has_ l.ent (List.mem_map.2 ⟨l, hl, rfl⟩)
      simp only [Ln.ent] at this
      rw [this] at hf; cases hf⟩
  clear h hm hmo hp
  go_enter Tryz.func34, Tryz.ntmps34
  go_wp2_with (at_range; refine wpList_range_own _ rfl _ TLm rfl TIn TLp I.keyed Tryz.underlying86 I.ptrE P.bl _ D rfl HM.out ?_; intro w3 hrg hg3 hs3)
  go_frame
  have HR0 : Hid (w3.ranges Tryz.prog TIn I.ptrE P.bl w.heap.size (Maps.size D) D (Maps.has D) (Maps.size D)) := hrg
  have HB3 : Hid (Below w.heap.size w w3 ∧ w.heap.size + 1 ≤ w3.heap.size) := ⟨⟨hg3.os, hg3.tape, hg3.output, hg3.size, fun i hi => hg3.block i hi (by simp)⟩, by omega⟩
  clear hrg hg3 hs3 HM
  go_loopw [5] (fun v wr => ∃ left cnt ks, Hid (wr.ranges Tryz.prog TIn I.ptrE P.bl w.heap.size (Maps.size D) D left cnt) ∧ Hid (wr.ownsRow (w.heap.size + 1) TIn 1 v ks.length (IV ks)) ∧ Hid (Below w.heap.size w wr ∧ w.heap.size + 1 ≤ wr.heap.size) ∧ Hid (GoneK isData C.L left ks)) (fun _ wr => wr.rangeLeft P.bl w.heap.size)
  case atStart => exact ⟨_, _, [], HR0, World.ownsRow_nil _ _ _ _, HB3, HS0⟩
  case round =>
    obtain ⟨left, cnt, ks, HR, HO, HB, HG⟩ := hrel
    obtain ⟨ao, cap, hu5⟩ := int_form HO.out
    subst hu5
    go_wp2_with (at_next; refine wpList_next_ranges _ rfl _ rfl TIn I.keyed I.ptrE (Value.int .i64) Value.pointer (fun key kl hkey => by obtain ⟨x, rfl, _⟩ := Maps.keyOf_int_inv Tryz.underlying3 hkey; exact ⟨x, rfl⟩) (fun v y hv => ptrE_ptr hv) P.bl w.heap.size _ D left cnt rfl HR.out ?_ ?_)
    · intro hc0 hl0
      have hpm : ks.Perm ((C.L.filter fun l => l.dirty && isData l).map fun l => (l.sec : Int)) := HG.out.done (HRC.out _ HB.out.1) hl0
      have hsc := sort_c HO.out (by have := hpm.length_eq; have h2 := List.length_filter_le (fun l => l.dirty && isData l) C.L; rw [List.length_map] at this; omega)
      have hdl : sortI ks = dlL isData C.L := sortI_congr hpm
      have hdn : ks.length = (dlL isData C.L).length := by rw [← hdl]; exact (sortI_perm ks).length_eq.symm
      have HF : Hid (Calls Tryz.prog 39 #[.slice ao ks.length cap] wr fun e w' => e = .returned (.tuple #[]) ∧ w'.ownsRow (w.heap.size + 1) TIn 1 (.slice ao ks.length cap) (dlL isData C.L).length (IV (dlL isData C.L)) ∧ Below w.heap.size w w') := by
        refine hsc.mono ?_
        rintro e w' ⟨rfl, ho, h1, h2, h3, h4, h5⟩
        rw [hdl] at ho
        refine ⟨rfl, by rw [← hdn]; exact ho, ⟨h1.trans HB.out.1.os, h2.trans HB.out.1.tape, h3.trans HB.out.1.output, Nat.le_trans HB.out.1.size h4, fun i hi => (h5 i (Nat.lt_of_lt_of_le hi HB.out.1.size) (fun e => ?_)).trans (HB.out.1.block i hi)⟩⟩
        have := row_base HO.out e
        omega
      clear hpm hsc hdl hdn hl0 HG HR HO
      go_wp2_with (go_at_call 39; refine HF.out.mono ?_; rintro e w9 ⟨rfl, ho, hb⟩)
      go_ret
      exact ⟨_, rfl, ho, hb⟩
    · intro x c kl' y1 y2 w4 cnt1 hkey hlk hv hat hrg1 hlt1 hg1 hs1 hen
      obtain ⟨x', ex, rfl, hwx⟩ := Maps.keyOf_int_inv Tryz.underlying3 hkey
      cases ex
      obtain ⟨l, hl, hls⟩ : ∃ l ∈ C.L, (l.sec : Int) = x := by
        by_cases hin : ∃ l ∈ C.L, (l.sec : Int) = x
        · exact hin
        · exfalso
          have hno := HMO.out.no x (fun e he hek => by obtain ⟨l, hl, rfl⟩ := List.mem_map.1 he; exact hin ⟨l, hl, hek⟩)
          rw [Maps.has_true_of_atKey hat] at hno
          cases hno
      subst hls
      have hy := HMO.out.at_ l.ent (List.mem_map.2 ⟨l, hl, rfl⟩)
      have hc : Value.pointer c = .pointer (some ⟨l.blk, 0, none⟩) := by
        have h1 : y1 = .lit (.int .i64 l.blk) := by rw [← hat .nil]; exact hy
        exact I.ptrE_some (ps := y2) (by rw [hv, h1])
      cases hc
      have hB4 : Below w.heap.size w w4 := HB.out.1.grown hg1 HB.out.1.size (fun g e => by cases e; exact Nat.le_refl _)
      have hrc := HRC.out w4 hB4
      have cd : w4.cell? ⟨l.blk, 512, none⟩ = some (.bool l.dirty) := (hrc.lcell hl 512).trans (lcells_dirty (hrc.ok l hl).2)
      have hpk := HP.out w4 l (hrc.ln l hl) (hrc.ok l hl).2
      have hO4 : w4.ownsRow (w.heap.size + 1) TIn 1 (.slice ao ks.length cap) ks.length (IV ks) := K.ownsRow_block HO.out fun g hg => hg1.block g (K.row_lt HO.out g hg).1 (fun e => by have := row_base HO.out hg; cases e; omega)
      have HR4 : Hid (w4.ranges Tryz.prog TIn I.ptrE P.bl w.heap.size (Maps.size D) D (fun z => left z && !z.sameKey (I.kl (l.sec : Int))) cnt1) := hrg1
      have HB4 : Hid (Below w.heap.size w w4 ∧ w.heap.size + 1 ≤ w4.heap.size) := ⟨hB4, by rw [hs1]; exact HB.out.2⟩
      have HCN : Hid (wr.rangeLeft P.bl w.heap.size = cnt ∧ cnt1 < cnt) := ⟨HR.out.left_eq, hlt1⟩
      have HO4 : Hid (w4.ownsRow (w.heap.size + 1) TIn 1 (.slice ao ks.length cap) ks.length (IV ks)) := hO4
      have HKL : Hid (ks.length ≤ 1024) := by
        have := HG.out.small (HRC.out _ HB.out.1)
        show ks.length ≤ 1024
        omega
      have HGY : Hid ((l.dirty && isData l) = true → GoneK isData C.L (fun z => left z && !z.sameKey (I.kl (l.sec : Int))) (ks ++ [(l.sec : Int)])) := fun hy => HG.out.yes hl hlk hy
      have HGN : Hid ((l.dirty && isData l) = false → GoneK isData C.L (fun z => left z && !z.sameKey (I.kl (l.sec : Int))) ks) := fun hy => HG.out.no (HRC.out _ HB.out.1) hl hlk hy
      clear hB4 hrc hO4 hrg1 hlt1 hg1 hs1 hv hat hkey hwx hlk hy HG HR HO HB hl
      generalize hdy : l.dirty = dy at *
      cases dy
      · go_wp2
        go_roundw
        case rel => exact ⟨_, _, ks, HR4, HO4, HB4, HGN.out rfl⟩
        case measure => rw [HR4.out.left_eq, HCN.out.1]; exact HCN.out.2
      · generalize hlp : isData l = lp at *
        cases lp
        · go_wp2_with (go_at_call 35; refine hpk.mono ?_; rintro r w9 ⟨rfl, hw9⟩; rw [hw9]; clear hw9)
          go_roundw
          case rel => exact ⟨_, _, ks, HR4, HO4, HB4, HGN.out rfl⟩
          case measure => rw [HR4.out.left_eq, HCN.out.1]; exact HCN.out.2
        · go_wp2_with (first | (go_at_call 35; refine hpk.mono ?_; rintro r w9 ⟨rfl, hw9⟩; rw [hw9]; clear hw9) | (at_builtin; refine wpList_append_own_at _ rfl _ _ 33 rfl (w.heap.size + 1) TIn i0 _ 1 8 Tryz.underlying33 hi hz0 hz1 hz2 rfl (by decide) (.slice ao ks.length cap) ks.length (IV ks) rfl (HO4.out.alloc _) ⟨w4.heap.size, 0, none⟩ 1 1 [.int .i64 l.sec] rfl rfl (I.A.news1 _ _) (by simp [Value.oneCell']) (by have := HKL.out; unfold maxLen; omega) (by have := HKL.out; omega) (by have := HB4.out.2; simp; omega) ?_; intro v' w5 hown5 hgrow5 _ hat5))
          have ha5 : w4.grownBy (w4.alloc (.cells #[.int .i64 l.sec] TIn)) none := World.grownBy_alloc w4 _ none
          have HR5 : Hid (w5.ranges Tryz.prog TIn I.ptrE P.bl w.heap.size (Maps.size D) D (fun z => left z && !z.sameKey (I.kl (l.sec : Int))) cnt1) := (HR4.out.alloc _).kept hgrow5 (fun e => by have := row_base HO4.out e.symm; have h2 := HBL.out; omega) (fun e => by have := row_base HO4.out e.symm; omega)
          have HO5 : Hid (w5.ownsRow (w.heap.size + 1) TIn 1 v' (ks ++ [(l.sec : Int)]).length (IV (ks ++ [(l.sec : Int)]))) := by
            rw [List.length_append, IV, List.map_append]
            exact hown5
          have HB5 : Hid (Below w.heap.size w w5 ∧ w.heap.size + 1 ≤ w5.heap.size) := by
            have h1 : Below w.heap.size w (w4.alloc (.cells #[.int .i64 l.sec] TIn)) := HB4.out.1.alloc HB4.out.1.size _
            refine ⟨h1.grown hgrow5 h1.size (fun g e => by have := row_base HO4.out e; omega), ?_⟩
            have h2 := hgrow5.size
            have h3 := HB4.out.2
            simp at h2
            omega
          clear hown5 hgrow5 hat5 ha5
          go_wp2
          go_roundw
          case rel => exact ⟨_, _, _, HR5, HO5, HB5, HGY.out rfl⟩
          case measure => rw [HR5.out.left_eq, HCN.out.1]; exact HCN.out.2
end Go.Proofs.YtbamjfnjenmdaaaGreat.C

namespace Go.Proofs.YtbamjfnjenmdaaaGreat.C
open Go.RowKit Go.Maps Go.Shelf Go.Sort Go.Proofs.YtbamjfnjenmdaaaGreat
attribute [local go_sem] Oper.semAt_some
set_option linter.unusedVariables false
set_option linter.unusedSimpArgs false
set_option maxRecDepth 100000

set_option maxHeartbeats 8000000 in
theorem dirty_note {w : World} {P : Loc} {S : K.Dk} {C : Ch} (h : RC w P S C) :
    Calls Tryz.prog 34 #[.pointer (some ⟨P.bc, 0, none⟩), .func (.func 37) #[] #[]] w fun r w' => ∃ v, r = .returned v ∧ w'.ownsRow (w.heap.size + 1) TIn 1 v (dlL isNoted C.L).length (IV (dlL isNoted C.L)) ∧ Below w.heap.size w w' := by
  have hp : Pk 37 isNoted := pk_note
  have c3 : w.cell? ⟨P.bc, 3, none⟩ = some (.map (some P.bl)) := h.c 3
  have hlim := h.lim
  obtain ⟨D, hm, hmo⟩ := h.lm
  obtain ⟨i0, hi, hz0, hz1, hz2⟩ := info_parts I.A.infoKey
  have HM : Hid (w.ownsMap Tryz.prog TIn I.ptrE P.bl (Maps.size D) D) := hm
  have HRC : Hid (∀ W, Below w.heap.size w W → RC W P S C) := fun W hb => h.later hb
  have HMO : Hid (I.MapOk (C.L.map Ln.ent) D) := hmo
  have HBL : Hid (P.bl < w.heap.size) := hm.lt
  have HP : Hid (Pk 37 isNoted) := hp
  have HS0 : Hid (GoneK isNoted C.L (Maps.has D) []) := ⟨List.nodup_nil, fun k => by
    constructor
    · intro hk; cases hk
    · rintro ⟨l, hl, rfl, _, hf⟩
      have := hmo.has_ l.ent (List.mem_map.2 ⟨l, hl, rfl⟩)
      simp only [Ln.ent] at this
      rw [this] at hf; cases hf⟩
  clear h hm hmo hp
  go_enter Tryz.func34, Tryz.ntmps34
  go_wp2_with (at_range; refine wpList_range_own _ rfl _ TLm rfl TIn TLp I.keyed Tryz.underlying86 I.ptrE P.bl _ D rfl HM.out ?_; intro w3 hrg hg3 hs3)
  go_frame
  have HR0 : Hid (w3.ranges Tryz.prog TIn I.ptrE P.bl w.heap.size (Maps.size D) D (Maps.has D) (Maps.size D)) := hrg
  have HB3 : Hid (Below w.heap.size w w3 ∧ w.heap.size + 1 ≤ w3.heap.size) := ⟨⟨hg3.os, hg3.tape, hg3.output, hg3.size, fun i hi => hg3.block i hi (by simp)⟩, by omega⟩
  clear hrg hg3 hs3 HM
  go_loopw [5] (fun v wr => ∃ left cnt ks, Hid (wr.ranges Tryz.prog TIn I.ptrE P.bl w.heap.size (Maps.size D) D left cnt) ∧ Hid (wr.ownsRow (w.heap.size + 1) TIn 1 v ks.length (IV ks)) ∧ Hid (Below w.heap.size w wr ∧ w.heap.size + 1 ≤ wr.heap.size) ∧ Hid (GoneK isNoted C.L left ks)) (fun _ wr => wr.rangeLeft P.bl w.heap.size)
  case atStart => exact ⟨_, _, [], HR0, World.ownsRow_nil _ _ _ _, HB3, HS0⟩
  case round =>
    obtain ⟨left, cnt, ks, HR, HO, HB, HG⟩ := hrel
    obtain ⟨ao, cap, hu5⟩ := int_form HO.out
    subst hu5
    go_wp2_with (at_next; refine wpList_next_ranges _ rfl _ rfl TIn I.keyed I.ptrE (Value.int .i64) Value.pointer (fun key kl hkey => by obtain ⟨x, rfl, _⟩ := Maps.keyOf_int_inv Tryz.underlying3 hkey; exact ⟨x, rfl⟩) (fun v y hv => ptrE_ptr hv) P.bl w.heap.size _ D left cnt rfl HR.out ?_ ?_)
    · intro hc0 hl0
      have hpm : ks.Perm ((C.L.filter fun l => l.dirty && isNoted l).map fun l => (l.sec : Int)) := HG.out.done (HRC.out _ HB.out.1) hl0
      have hsc := sort_c HO.out (by have := hpm.length_eq; have h2 := List.length_filter_le (fun l => l.dirty && isNoted l) C.L; rw [List.length_map] at this; omega)
      have hdl : sortI ks = dlL isNoted C.L := sortI_congr hpm
      have hdn : ks.length = (dlL isNoted C.L).length := by rw [← hdl]; exact (sortI_perm ks).length_eq.symm
      have HF : Hid (Calls Tryz.prog 39 #[.slice ao ks.length cap] wr fun e w' => e = .returned (.tuple #[]) ∧ w'.ownsRow (w.heap.size + 1) TIn 1 (.slice ao ks.length cap) (dlL isNoted C.L).length (IV (dlL isNoted C.L)) ∧ Below w.heap.size w w') := by
        refine hsc.mono ?_
        rintro e w' ⟨rfl, ho, h1, h2, h3, h4, h5⟩
        rw [hdl] at ho
        refine ⟨rfl, by rw [← hdn]; exact ho, ⟨h1.trans HB.out.1.os, h2.trans HB.out.1.tape, h3.trans HB.out.1.output, Nat.le_trans HB.out.1.size h4, fun i hi => (h5 i (Nat.lt_of_lt_of_le hi HB.out.1.size) (fun e => ?_)).trans (HB.out.1.block i hi)⟩⟩
        have := row_base HO.out e
        omega
      clear hpm hsc hdl hdn hl0 HG HR HO
      go_wp2_with (go_at_call 39; refine HF.out.mono ?_; rintro e w9 ⟨rfl, ho, hb⟩)
      go_ret
      exact ⟨_, rfl, ho, hb⟩
    · intro x c kl' y1 y2 w4 cnt1 hkey hlk hv hat hrg1 hlt1 hg1 hs1 hen
      obtain ⟨x', ex, rfl, hwx⟩ := Maps.keyOf_int_inv Tryz.underlying3 hkey
      cases ex
      obtain ⟨l, hl, hls⟩ : ∃ l ∈ C.L, (l.sec : Int) = x := by
        by_cases hin : ∃ l ∈ C.L, (l.sec : Int) = x
        · exact hin
        · exfalso
          have hno := HMO.out.no x (fun e he hek => by obtain ⟨l, hl, rfl⟩ := List.mem_map.1 he; exact hin ⟨l, hl, hek⟩)
          rw [Maps.has_true_of_atKey hat] at hno
          cases hno
      subst hls
      have hy := HMO.out.at_ l.ent (List.mem_map.2 ⟨l, hl, rfl⟩)
      have hc : Value.pointer c = .pointer (some ⟨l.blk, 0, none⟩) := by
        have h1 : y1 = .lit (.int .i64 l.blk) := by rw [← hat .nil]; exact hy
        exact I.ptrE_some (ps := y2) (by rw [hv, h1])
      cases hc
      have hB4 : Below w.heap.size w w4 := HB.out.1.grown hg1 HB.out.1.size (fun g e => by cases e; exact Nat.le_refl _)
      have hrc := HRC.out w4 hB4
      have cd : w4.cell? ⟨l.blk, 512, none⟩ = some (.bool l.dirty) := (hrc.lcell hl 512).trans (lcells_dirty (hrc.ok l hl).2)
      have hpk := HP.out w4 l (hrc.ln l hl) (hrc.ok l hl).2
      have hO4 : w4.ownsRow (w.heap.size + 1) TIn 1 (.slice ao ks.length cap) ks.length (IV ks) := K.ownsRow_block HO.out fun g hg => hg1.block g (K.row_lt HO.out g hg).1 (fun e => by have := row_base HO.out hg; cases e; omega)
      have HR4 : Hid (w4.ranges Tryz.prog TIn I.ptrE P.bl w.heap.size (Maps.size D) D (fun z => left z && !z.sameKey (I.kl (l.sec : Int))) cnt1) := hrg1
      have HB4 : Hid (Below w.heap.size w w4 ∧ w.heap.size + 1 ≤ w4.heap.size) := ⟨hB4, by rw [hs1]; exact HB.out.2⟩
      have HCN : Hid (wr.rangeLeft P.bl w.heap.size = cnt ∧ cnt1 < cnt) := ⟨HR.out.left_eq, hlt1⟩
      have HO4 : Hid (w4.ownsRow (w.heap.size + 1) TIn 1 (.slice ao ks.length cap) ks.length (IV ks)) := hO4
      have HKL : Hid (ks.length ≤ 1024) := by
        have := HG.out.small (HRC.out _ HB.out.1)
        show ks.length ≤ 1024
        omega
      have HGY : Hid ((l.dirty && isNoted l) = true → GoneK isNoted C.L (fun z => left z && !z.sameKey (I.kl (l.sec : Int))) (ks ++ [(l.sec : Int)])) := fun hy => HG.out.yes hl hlk hy
      have HGN : Hid ((l.dirty && isNoted l) = false → GoneK isNoted C.L (fun z => left z && !z.sameKey (I.kl (l.sec : Int))) ks) := fun hy => HG.out.no (HRC.out _ HB.out.1) hl hlk hy
      clear hB4 hrc hO4 hrg1 hlt1 hg1 hs1 hv hat hkey hwx hlk hy HG HR HO HB hl
      generalize hdy : l.dirty = dy at *
      cases dy
      · go_wp2
        go_roundw
        case rel => exact ⟨_, _, ks, HR4, HO4, HB4, HGN.out rfl⟩
        case measure => rw [HR4.out.left_eq, HCN.out.1]; exact HCN.out.2
      · generalize hlp : isNoted l = lp at *
        cases lp
        · go_wp2_with (go_at_call 37; refine hpk.mono ?_; rintro r w9 ⟨rfl, hw9⟩; rw [hw9]; clear hw9)
          go_roundw
          case rel => exact ⟨_, _, ks, HR4, HO4, HB4, HGN.out rfl⟩
          case measure => rw [HR4.out.left_eq, HCN.out.1]; exact HCN.out.2
        · go_wp2_with (first | (go_at_call 37; refine hpk.mono ?_; rintro r w9 ⟨rfl, hw9⟩; rw [hw9]; clear hw9) | (at_builtin; refine wpList_append_own_at _ rfl _ _ 33 rfl (w.heap.size + 1) TIn i0 _ 1 8 Tryz.underlying33 hi hz0 hz1 hz2 rfl (by decide) (.slice ao ks.length cap) ks.length (IV ks) rfl (HO4.out.alloc _) ⟨w4.heap.size, 0, none⟩ 1 1 [.int .i64 l.sec] rfl rfl (I.A.news1 _ _) (by simp [Value.oneCell']) (by have := HKL.out; unfold maxLen; omega) (by have := HKL.out; omega) (by have := HB4.out.2; simp; omega) ?_; intro v' w5 hown5 hgrow5 _ hat5))
          have ha5 : w4.grownBy (w4.alloc (.cells #[.int .i64 l.sec] TIn)) none := World.grownBy_alloc w4 _ none
          have HR5 : Hid (w5.ranges Tryz.prog TIn I.ptrE P.bl w.heap.size (Maps.size D) D (fun z => left z && !z.sameKey (I.kl (l.sec : Int))) cnt1) := (HR4.out.alloc _).kept hgrow5 (fun e => by have := row_base HO4.out e.symm; have h2 := HBL.out; omega) (fun e => by have := row_base HO4.out e.symm; omega)
          have HO5 : Hid (w5.ownsRow (w.heap.size + 1) TIn 1 v' (ks ++ [(l.sec : Int)]).length (IV (ks ++ [(l.sec : Int)]))) := by
            rw [List.length_append, IV, List.map_append]
            exact hown5
          have HB5 : Hid (Below w.heap.size w w5 ∧ w.heap.size + 1 ≤ w5.heap.size) := by
            have h1 : Below w.heap.size w (w4.alloc (.cells #[.int .i64 l.sec] TIn)) := HB4.out.1.alloc HB4.out.1.size _
            refine ⟨h1.grown hgrow5 h1.size (fun g e => by have := row_base HO4.out e; omega), ?_⟩
            have h2 := hgrow5.size
            have h3 := HB4.out.2
            simp at h2
            omega
          clear hown5 hgrow5 hat5 ha5
          go_wp2
          go_roundw
          case rel => exact ⟨_, _, _, HR5, HO5, HB5, HGY.out rfl⟩
          case measure => rw [HR5.out.left_eq, HCN.out.1]; exact HCN.out.2
end Go.Proofs.YtbamjfnjenmdaaaGreat.C
