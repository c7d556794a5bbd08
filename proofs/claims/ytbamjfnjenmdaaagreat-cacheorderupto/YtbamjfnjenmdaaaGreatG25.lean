import Derived.Test.YtbamjfnjenmdaaaGreatG24
import Derived.Test.YtbamjfnjenmdaaaGreatG21
namespace Go.Proofs.YtbamjfnjenmdaaaGreat.C
open Go.RowKit Go.Maps Go.Proofs.YtbamjfnjenmdaaaGreat
attribute [local go_sem] Oper.semAt_some
set_option linter.unusedVariables false
set_option linter.unusedSimpArgs false
set_option maxRecDepth 100000

section
variable {w w' : World} {P : Loc} {S S' : K.Dk} {C C' : Ch}
def evC (C : Ch) (L : List Ln) : Ch := { C with L := L, st := { C.st with evicted := K.inc C.st.evicted } }
/-- a line is taken out -/
theorem RC.gone (h : RC w P S C) {L1 L2 : List Ln} {l : Ln} (hL : C.L = L1 ++ l :: L2) {D : DataW Unit} (hm : w.ownsMap Tryz.prog TIn I.ptrE P.bl (Maps.size D) D) (hmo : I.MapOk (C.L.map Ln.ent) D) {w3 : World} {n : Nat} (hown : w3.ownsMap Tryz.prog TIn I.ptrE P.bl n (D.del (I.kl (l.sec : Int)))) (hg : w.grownBy w3 (some P.bl)) :
    w3.cell? ⟨P.bc, 4, none⟩ = some (.pointer (some ⟨P.bo, 0, none⟩)) ∧ Calls Tryz.prog 74 #[.pointer (some ⟨P.bo, 0, none⟩), .int .i64 l.sec] w3 fun r w' => r = .returned (.bool true) ∧ ∃ P', w'.cell? ⟨P.bc, 7, none⟩ = some (.int .u64 C.st.evicted) ∧ w'.frozen? ⟨P.bc, 7, none⟩ = false ∧ CAct w (w'.setCell ⟨P.bc, 7, none⟩ (.int .u64 (K.inc C.st.evicted))) P P' C S (evC C (L1 ++ L2)) := by
  have ha := h.apart
  obtain ⟨E1, e, E2, hE, hek, h1, h2⟩ := h.split hL
  have hob : ∀ i ∈ P.ofp, i ≠ P.bl := fun i hi e => h.d3 i hi (by rw [e]; simp [Loc.cfp])
  have hro : I.RO w3 P.bo P.bm P.g P.E := h.ro.same fun i hi => hg.block i (h.ro.lt i hi) (fun e => by cases e; exact hob _ hi rfl)
  have hbc : w3.heap[P.bc]? = some (.cells (ccells P C) TCa (0, 0)) := (hg.block P.bc (h.cl _ (by simp [Loc.cfp])) (fun e => ha.1 (Option.some.inj e))).trans h.blk
  rw [hE] at hro
  have hdr := I.drop_any hro
  rw [hek] at hdr
  refine ⟨(K.cell_of hbc).trans rfl, hdr.mono ?_⟩
  rintro r w4 ⟨rfl, hact⟩
  rw [← hE] at hact
  have hst : ∀ i, i < w.heap.size → i ∉ P.ofp → i ≠ P.bl → w4.heap[i]? = w.heap[i]? := fun i hi h1 h2 => (hact.kp.block i (Nat.lt_of_lt_of_le hi hg.size) h1).trans (hg.block i hi (fun e => by cases e; exact h2 rfl))
  have hbl : P.bl < w.heap.size := h.cl _ (by simp [Loc.cfp])
  have hin : ∀ x ∈ L1 ++ L2, x ∈ C.L := fun x hx => by rw [hL]; rcases List.mem_append.1 hx with h | h <;> simp [h]
  have a1 : CAct w w4 P { P with E := E1 ++ E2 } C S { C with L := L1 ++ L2 } := by
    refine h.remap ?_ ?_ ⟨_, _, K.ownsMap_block hown (hact.kp.block _ (Nat.lt_of_lt_of_le hbl hg.size) (fun hh => hob _ hh rfl)), ?_⟩ hact.ro ?_ ?_ ?_ ?_ ?_
    · rintro i (hi | ⟨hi, hne⟩)
      · exact hst i (h.rk.lt i hi) (h.d1 i hi) (fun e => h.d2 i hi (by rw [e]; simp [Loc.cfp]))
      · exact hst i (h.cl i hi) (fun ho => h.d3 i ho hi) hne
    · exact ((K.Kp.refl w (P.fp C.L)).grown hg (fun k e => by cases e; exact .inl (by simp [Loc.fp, Loc.cfp]))).trans (kpI hact.kp) (fun i hi => .inl (by simp only [Loc.fp, List.mem_append]; exact .inr (.inl hi)))
    · have hd := h.sdE
      rw [hL] at hmo hd
      simp only [List.map_append, List.map_cons] at hmo hd
      have := hmo.del (hm.tidy I.keyed) (by simpa using hd)
      rw [List.map_append]
      exact this
    · simp [h1, h2]
    · intro i hi
      refine .inl ((hact.sub i hi).elim id fun hh => ?_)
      exfalso
      -- the order's blocks behind Drop are among those ahead of it
      have : i ∈ I.fp P.bo P.bm P.g P.E := by
        rw [hE]
        simp only [I.fp, List.mem_cons, List.map_append, List.map_cons, List.mem_append] at hi ⊢
        rcases hi with h | h | h | h | h <;> simp [h]
      have h3 := h.ro.lt i this
      have h4 := hg.size
      omega
    · exact fun x hx => .inl (hin x hx)
    · have hd := h.nd
      rw [hL] at hd
      simp only [List.map_append, List.map_cons, List.nodup_append, List.nodup_cons, List.mem_cons] at hd ⊢
      exact ⟨hd.1, hd.2.1.2, fun a ha b hb => hd.2.2 a ha b (.inr hb)⟩
    · have := h.lim.1
      rw [hL] at this
      simp at this ⊢
      omega
  exact ⟨rfl, _, a1.rc.c 7, a1.rc.fz 7, a1.trans (a1.rc.stat 7 (.int .u64 (K.inc C.st.evicted)) { C.st with evicted := K.inc C.st.evicted } rfl)⟩
def gwE (S : K.Dk) (l : Ln) : Int := if l.dirty = true then (if K.wrE S l.sec l.dat = 0 then 0 else 33) else 0
def gwS (S : K.Dk) (l : Ln) : K.Dk := if l.dirty = true then K.wrS S l.sec l.dat else S
def gwC (S : K.Dk) (C : Ch) (L1 : List Ln) (l : Ln) (L2 : List Ln) : Ch :=
  if l.dirty = true then (if K.wrE S l.sec l.dat = 0 then evC (writtenC C L1 l L2) (L1 ++ L2) else C) else evC C (L1 ++ L2)
theorem RC.atLine (h : RC w P S C) {l : Ln} (hm : l ∈ C.L) : lineAt C.L l.sec = some l := by
  cases e : lineAt C.L l.sec with
  | none => exact absurd rfl (lineAt_none e l hm)
  | some x =>
    obtain ⟨hx, hxs⟩ := lineAt_mem e
    congr 1
    have hd := h.sd
    obtain ⟨i, hi, ei⟩ := List.getElem_of_mem hx
    obtain ⟨j, hj, ej⟩ := List.getElem_of_mem hm
    have : i = j := (List.getElem_inj (h₀ := by simpa using hi) (h₁ := by simpa using hj) hd).1 (by simp [ei, ej, hxs])
    subst this
    rw [← ei, ej]
set_option maxHeartbeats 4000000 in
theorem giveWay_c (h : RC w P S C) (hf : K.FsOk S.fs) (hq : S.q.length < 1048576) {L1 L2 : List Ln} {l : Ln} (hL : C.L = L1 ++ l :: L2) :
    Calls Tryz.prog 54 #[.pointer (some ⟨P.bc, 0, none⟩), .int .i64 l.sec] w fun r w' => r = .returned (.int .i64 (gwE S l)) ∧ ∃ P', CAct w w' P P' C (gwS S l) (gwC S C L1 l L2) := by
  have hm : l ∈ C.L := by rw [hL]; simp
  have hok := h.ok l hm
  have hwf := h.wf hm
  have hlk := h.look hwf
  rw [h.atLine hm] at hlk
  simp only [linePtr] at hlk
  have c3 : w.cell? ⟨P.bc, 3, none⟩ = some (.map (some P.bl)) := h.c 3
  have cd : w.cell? ⟨l.blk, 512, none⟩ = some (.bool l.dirty) := (h.lcell hm 512).trans (lcells_dirty hok.2)
  have hwb := writeBack_c h hf hq hL
  unfold gwE gwS gwC
  -- what follows, from any state with the line
  have HGO : Hid (∀ (w1 : World) (P1 : Loc) (S1 : K.Dk) (C1 : Ch) (l1 : Ln), CAct w w1 P P1 C S1 C1 → C1.L = L1 ++ l1 :: L2 → l1.sec = l.sec → w1.cell? ⟨P.bc, 3, none⟩ = some (.map (some P1.bl)) ∧ ∃ n D, w1.ownsMap Tryz.prog TIn I.ptrE P1.bl n D ∧ ∀ n' w3, w3.ownsMap Tryz.prog TIn I.ptrE P1.bl n' (D.del (I.kl (l.sec : Int))) → w1.grownBy w3 (some P1.bl) → w3.cell? ⟨P.bc, 4, none⟩ = some (.pointer (some ⟨P1.bo, 0, none⟩)) ∧ Calls Tryz.prog 74 #[.pointer (some ⟨P1.bo, 0, none⟩), .int .i64 l.sec] w3 fun r w' => r = .returned (.bool true) ∧ w'.cell? ⟨P.bc, 7, none⟩ = some (.int .u64 C1.st.evicted) ∧ w'.frozen? ⟨P.bc, 7, none⟩ = false ∧ ∃ P', CAct w (w'.setCell ⟨P.bc, 7, none⟩ (.int .u64 (K.inc C1.st.evicted))) P P' C S1 (evC C1 (L1 ++ L2))) := fun w1 P1 S1 C1 l1 ha hL1 hs => by
    have h1 := ha.rc
    have hbc := ha.bc
    obtain ⟨D, hm1, hmo⟩ := h1.lm
    refine ⟨by have := h1.c 3; rw [hbc] at this; exact this, _, D, hm1, fun n' w3 ho hg => ?_⟩
    rw [← hs] at ho
    obtain ⟨k4, hcall⟩ := h1.gone hL1 hm1 hmo ho hg
    rw [hs, hbc] at hcall
    rw [hbc] at k4
    refine ⟨k4, hcall.mono ?_⟩
    rintro r w' ⟨rfl, P', k7, f7, ha'⟩
    exact ⟨rfl, k7, f7, P', ha.trans ha'⟩
  have HR : Hid (CAct w w P P C S C) := CAct.refl h
  have HL : Hid (C.L = L1 ++ l :: L2) := hL
  clear h hm hok hL
  cases hdy : l.dirty with
  | false =>
    rw [hdy] at cd
    simp only [Bool.false_eq_true, if_false]
    obtain ⟨_, n, D, hm1, hgo⟩ := HGO.out w P S C l HR.out HL.out rfl
    have HM1 : Hid (w.ownsMap Tryz.prog TIn I.ptrE P.bl n D) := hm1
    have HG : Hid (∀ n' w3, w3.ownsMap Tryz.prog TIn I.ptrE P.bl n' (D.del (I.kl (l.sec : Int))) → w.grownBy w3 (some P.bl) → w3.cell? ⟨P.bc, 4, none⟩ = some (.pointer (some ⟨P.bo, 0, none⟩)) ∧ Calls Tryz.prog 74 #[.pointer (some ⟨P.bo, 0, none⟩), .int .i64 l.sec] w3 fun r w' => r = .returned (.bool true) ∧ w'.cell? ⟨P.bc, 7, none⟩ = some (.int .u64 C.st.evicted) ∧ w'.frozen? ⟨P.bc, 7, none⟩ = false ∧ ∃ P', CAct w (w'.setCell ⟨P.bc, 7, none⟩ (.int .u64 (K.inc C.st.evicted))) P P' C S (evC C (L1 ++ L2))) := hgo
    clear hm1 hgo HGO hwb HR HL
    go_enter Tryz.func54, Tryz.ntmps54
    go_wp2_with (first | (at_delete; refine wpList_delete_own _ rfl _ _ TLm TIn rfl TLp I.keyed Tryz.underlying86 _ P.bl n D rfl HM1.out _ _ rfl (I.keyAt hwf) ?_; intro w2 hown2 hturn2; obtain ⟨k4, hdrop⟩ := HG.out _ w2 hown2 hturn2.grown; clear hown2 hturn2) | (go_at_call 74; refine hdrop.mono ?_; rintro r w5 ⟨rfl, k7, f7, hfin⟩; have HFI : Hid _ := hfin; clear hfin))
    go_ret
    exact ⟨rfl, HFI.out⟩
  | true =>
    rw [hdy] at cd
    simp only [if_true]
    by_cases he : K.wrE S l.sec l.dat = 0
    · rw [if_pos he] at hwb ⊢
      rw [if_pos he] at hwb
      rw [if_pos he]
      go_enter Tryz.func54, Tryz.ntmps54
      go_wp2_with (first | (go_at_call 43; refine hwb.mono ?_; rintro r w1 ⟨rfl, P1, ha1⟩; obtain ⟨k3, n, D, hm1, hgo⟩ := HGO.out w1 P1 _ _ _ ha1 rfl rfl; have HM1 : Hid _ := hm1; have HG : Hid _ := hgo; clear hm1 hgo) | (at_delete; refine wpList_delete_own _ rfl _ _ TLm TIn rfl TLp I.keyed Tryz.underlying86 _ P1.bl n D rfl HM1.out _ _ rfl (I.keyAt hwf) ?_; intro w2 hown2 hturn2; obtain ⟨k4, hdrop⟩ := HG.out _ w2 hown2 hturn2.grown; clear hown2 hturn2) | (go_at_call 74; refine hdrop.mono ?_; rintro r w5 ⟨rfl, k7, f7, hfin⟩; have HFI : Hid _ := hfin; clear hfin))
      go_ret
      exact ⟨rfl, HFI.out⟩
    · rw [if_neg he] at hwb ⊢
      rw [if_neg he] at hwb
      rw [if_neg he]
      go_enter Tryz.func54, Tryz.ntmps54
      go_wp2_with (go_at_call 43; refine hwb.mono ?_; rintro r w1 ⟨rfl, P1, ha1⟩)
      go_ret
      exact ⟨rfl, P1, ha1⟩
end
end Go.Proofs.YtbamjfnjenmdaaaGreat.C

namespace Go.Proofs.YtbamjfnjenmdaaaGreat.I
open Go.RowKit Go.Maps
set_option linter.unusedSimpArgs false
set_option maxRecDepth 100000
theorem sizePl (w : World) : (sizeOf TPl).run Tryz.prog w = .ok 4 w := by kernel_rfl
theorem undPt : Tryz.prog.underlying TPt = some (.pointer TPl) := Tryz.underlying144
theorem shape_of {w : World} {a : Nat} {cs : Array Value} {T : TypeId} (h : w.heap[a]? = some (.cells cs T (0, 0))) : w.shape? a = some (T, cs.size) := by
  unfold World.shape?; rw [h]
theorem noView_cells (w : World) {a : Nat} {cs : Array Value} {T : TypeId} (h : w.heap[a]? = some (.cells cs T (0, 0))) : (noView ⟨a, 0, none⟩).run Tryz.prog w = .ok () w := by
  simp [noView, viewAt, shape_of h, go_sem]
theorem mayBeOne_cells (w : World) {a b : Nat} {cs cs' : Array Value} {T T' : TypeId} (h : w.heap[a]? = some (.cells cs T (0, 0))) (h' : w.heap[b]? = some (.cells cs' T' (0, 0))) : (mayBeOne ⟨a, 0, none⟩ ⟨b, 0, none⟩).run Tryz.prog w = .ok false w := by
  have f1 : ∀ n, w.frozen? ⟨a, n, none⟩ = false := fun n => frozen_of h
  have f2 : ∀ n, w.frozen? ⟨b, n, none⟩ = false := fun n => frozen_of h'
  simp [mayBeOne, stringish, shape_of h, shape_of h', f1, f2, go_sem]
theorem sameAddr_cells (w : World) {a b : Nat} {cs cs' : Array Value} {T T' : TypeId} (h : w.heap[a]? = some (.cells cs T (0, 0))) (h' : w.heap[b]? = some (.cells cs' T' (0, 0))) (hab : a ≠ b) : (sameAddr ⟨a, 0, none⟩ ⟨b, 0, none⟩).run Tryz.prog w = .ok false w := by
  have f1 : ∀ n, w.frozen? ⟨a, n, none⟩ = false := fun n => frozen_of h
  simp [sameAddr, hab, f1, noView_cells w h, noView_cells w h', mayBeOne_cells w h h', go_sem]
theorem eqIn_ptr (w : World) (d : Nat) {a b : Nat} {cs cs' : Array Value} {T T' : TypeId} (h : w.heap[a]? = some (.cells cs T (0, 0))) (h' : w.heap[b]? = some (.cells cs' T' (0, 0))) (hab : a ≠ b) : (Op.equalIn (d + 1) TPt (.pointer (some ⟨a, 0, none⟩)) (.pointer (some ⟨b, 0, none⟩))).run Tryz.prog w = .ok false w := by
  simp [Op.equalIn, run_underlying undPt, sizePl, sameAddr_cells w h h' hab]
theorem eqIn_ptr_same (w : World) (d : Nat) (a : Nat) : (Op.equalIn (d + 1) TPt (.pointer (some ⟨a, 0, none⟩)) (.pointer (some ⟨a, 0, none⟩))).run Tryz.prog w = .ok true w := by
  simp [Op.equalIn, run_underlying undPt, sizePl, sameAddr]
theorem eq_ptr (w : World) {a b : Nat} {cs cs' : Array Value} {T T' : TypeId} (h : w.heap[a]? = some (.cells cs T (0, 0))) (h' : w.heap[b]? = some (.cells cs' T' (0, 0))) (hab : a ≠ b) : (Op.equal TPt (.pointer (some ⟨a, 0, none⟩)) (.pointer (some ⟨b, 0, none⟩))).run Tryz.prog w = .ok false w := eqIn_ptr w 9999 h h' hab
theorem eq_ptr_same (w : World) (a : Nat) : (Op.equal TPt (.pointer (some ⟨a, 0, none⟩)) (.pointer (some ⟨a, 0, none⟩))).run Tryz.prog w = .ok true w := eqIn_ptr_same w 9999 a
theorem neq_ptr (w : World) {a b : Nat} {cs cs' : Array Value} {T T' : TypeId} (h : w.heap[a]? = some (.cells cs T (0, 0))) (h' : w.heap[b]? = some (.cells cs' T' (0, 0))) (hab : a ≠ b) : (binOp .neq TPt (.pointer (some ⟨a, 0, none⟩)) (.pointer (some ⟨b, 0, none⟩))).run Tryz.prog w = .ok (.bool true) w := by
  simp only [binOp]
  simp [eq_ptr w h h' hab]
theorem neq_ptr_same (w : World) (a : Nat) : (binOp .neq TPt (.pointer (some ⟨a, 0, none⟩)) (.pointer (some ⟨a, 0, none⟩))).run Tryz.prog w = .ok (.bool false) w := by
  simp only [binOp]
  simp [eq_ptr_same w a]
end Go.Proofs.YtbamjfnjenmdaaaGreat.I

namespace Go.Proofs.YtbamjfnjenmdaaaGreat.I
open Go.RowKit Go.Maps
attribute [local go_sem] Oper.semAt_some
set_option linter.unusedVariables false
set_option linter.unusedSimpArgs false
set_option maxRecDepth 100000

/-- the block of the k-th place; behind the last the gap -/
def nthP (L : List Ent) (g k : Nat) : Nat := (L.map (·.blk) ++ [g]).getD k g
theorem nthP_lt {L : List Ent} {g k : Nat} {e : Ent} (h : L[k]? = some e) : nthP L g k = e.blk := by
  unfold nthP
  have hk := (List.getElem?_eq_some_iff.1 h).1
  rw [List.getD_eq_getElem?_getD, List.getElem?_append_left (by simpa using hk), List.getElem?_map, h]; rfl
theorem nthP_end (L : List Ent) (g : Nat) : nthP L g L.length = g := by
  unfold nthP
  rw [List.getD_eq_getElem?_getD, List.getElem?_append_right (by simp)]; simp
theorem RO.first {w : World} {bo bm g : Nat} {L : List Ent} (h : RO w bo bm g L) : w.cell? ⟨g, 3, none⟩ = some (.pointer (some ⟨nthP L g 0, 0, none⟩)) := by
  obtain ⟨nx, pv, rl, hg, hL⟩ := h.rg
  rw [cell_of hg]
  have := rl.first
  show some (Value.pointer (some ⟨nx g, 0, none⟩)) = _
  rw [this]
  unfold nthP
  cases L <;> rfl
theorem RO.next {w : World} {bo bm g : Nat} {L : List Ent} (h : RO w bo bm g L) {k : Nat} {e : Ent} (he : L[k]? = some e) : w.cell? ⟨e.blk, 3, none⟩ = some (.pointer (some ⟨nthP L g (k + 1), 0, none⟩)) := by
  obtain ⟨nx, pv, rl, hg, hL⟩ := h.rg
  have hk := (List.getElem?_eq_some_iff.1 he).1
  rw [cell_of (hL e (List.mem_of_getElem? he))]
  show some (Value.pointer (some ⟨nx e.blk, 0, none⟩)) = _
  have hc : (L.map (·.blk) ++ [g])[k + 1]? = some (nthP L g (k + 1)) := by
    unfold nthP
    rw [List.getD_eq_getElem?_getD, List.getElem?_eq_getElem (by simp; omega)]; rfl
  rw [rl.next (i := k) (b := e.blk) (by rw [List.getElem?_map, he]; rfl) hc]
theorem RO.notGap {w : World} {bo bm g : Nat} {L : List Ent} (h : RO w bo bm g L) {e : Ent} (he : e ∈ L) : e.blk ≠ g := by
  obtain ⟨nx, pv, rl, hg, hL⟩ := h.rg
  intro e'
  exact (List.nodup_cons.1 rl.nd).1 (by rw [← e']; exact List.mem_map.2 ⟨e, he, rfl⟩)
/-- how many places are left -/
def leftP (L : List Ent) : Value → Nat
  | .pointer (some a) => L.length - (L.map (·.blk)).idxOf a.block
  | _ => 0
theorem leftP_lt {L : List Ent} {g k : Nat} (hn : (g :: L.map (·.blk)).Nodup) (hk : k ≤ L.length) : leftP L (.pointer (some ⟨nthP L g k, 0, none⟩)) = L.length - k := by
  unfold leftP
  simp only
  have : (L.map (·.blk)).idxOf (nthP L g k) = k := by
    by_cases h : k < L.length
    · rw [nthP_lt (List.getElem?_eq_getElem h)]
      have h2 : k < (L.map (·.blk)).length := by simpa using h
      have := List.Nodup.idxOf_getElem (List.nodup_cons.1 hn).2 k h2
      simpa using this
    · have e : k = L.length := by omega
      subst e
      rw [nthP_end, List.idxOf_eq_length (List.nodup_cons.1 hn).1]; simp
  rw [this]
theorem RO.nd {w : World} {bo bm g : Nat} {L : List Ent} (h : RO w bo bm g L) : (g :: L.map (·.blk)).Nodup := by
  obtain ⟨nx, pv, rl, hg, hL⟩ := h.rg
  exact rl.nd

theorem RO.gapBlk {w : World} {bo bm g : Nat} {L : List Ent} (h : RO w bo bm g L) : ∃ o x, w.heap[g]? = some (plc 0 0 o x) := by
  obtain ⟨nx, pv, rl, hg, hL⟩ := h.rg
  exact ⟨_, _, hg⟩
theorem RO.plcBlk {w : World} {bo bm g : Nat} {L : List Ent} (h : RO w bo bm g L) {e : Ent} (he : e ∈ L) : ∃ o x, w.heap[e.blk]? = some (plc e.key e.pins o x) := by
  obtain ⟨nx, pv, rl, hg, hL⟩ := h.rg
  exact ⟨_, _, hL e he⟩

end Go.Proofs.YtbamjfnjenmdaaaGreat.I
