import Derived.Test.YtlacligofhinmaaGreatV26
import Derived.Deep.RegionHeld3
import Derived.Deep.RegionLaw
import Derived.Deep.AppendLies
import Derived.Deep.DrawnRows
import Derived.Test.YtlacligofhinmaaGreatV27
namespace Go.Proofs.YtlacligofhinmaaGreat.K
open Go.RowKit Go.Maps Go.Proofs.YtlacligofhinmaaGreat
attribute [local go_sem] Oper.semAt_some
set_option linter.unusedVariables false
set_option linter.unusedSimpArgs false
set_option maxRecDepth 100000

/-- the first bytes of a sector are laid -/
def mix (L : List Nat) (o : Nat) (l : Bl) (k : Nat) : List Nat := L.take o ++ l.take k ++ L.drop (o + k)
theorem mix_len {L : List Nat} {o : Nat} {l : Bl} {k : Nat} (hl : l.length = 512) (hk : k ≤ 512) (ho : o + 512 ≤ L.length) : (mix L o l k).length = L.length := by
  unfold mix
  simp [hl]
  omega
theorem mix_zero (L : List Nat) (o : Nat) (l : Bl) : mix L o l 0 = L := by simp [mix]
theorem mix_get {L : List Nat} {o : Nat} {l : Bl} {k : Nat} (hl : l.length = 512) (hk : k ≤ 512) (ho : o + 512 ≤ L.length) (j : Nat) : (mix L o l k)[j]? = if o ≤ j ∧ j < o + k then l[j - o]? else L[j]? := by
  unfold mix
  rw [List.append_assoc]
  have e1 : (L.take o).length = o := by simp; omega
  have e2 : (l.take k).length = k := by simp; omega
  by_cases h1 : j < o
  · rw [List.getElem?_append_left (by rw [e1]; exact h1), List.getElem?_take, if_pos h1, if_neg (by omega)]
  · rw [List.getElem?_append_right (by rw [e1]; omega), e1]
    by_cases h2 : j - o < k
    · rw [List.getElem?_append_left (by rw [e2]; exact h2), List.getElem?_take, if_pos h2, if_pos (by omega)]
    · rw [List.getElem?_append_right (by rw [e2]; omega), e2, List.getElem?_drop, if_neg (by omega), show o + k + (j - o - k) = j by omega]
theorem mix_step {L : List Nat} {o : Nat} {l : Bl} {k x : Nat} (hx : l[k]? = some x) (hl : l.length = 512) (ho : o + 512 ≤ L.length) : (mix L o l k).set (o + k) x = mix L o l (k + 1) := by
  have hk : k < 512 := by have := (List.getElem?_eq_some_iff.1 hx).1; omega
  apply List.ext_getElem?
  intro j
  rw [List.getElem?_set, mix_get hl (by omega) ho, mix_get hl (by omega) ho, mix_len hl (by omega) ho]
  by_cases h1 : o + k = j
  · rw [if_pos h1, if_pos (by omega), if_pos (by omega), ← h1, show o + k - o = k by omega, hx]
  · rw [if_neg h1]
    by_cases h2 : o ≤ j ∧ j < o + k
    · rw [if_pos h2, if_pos (by omega)]
    · rw [if_neg h2, if_neg (by omega)]
theorem mix_all {L : List Nat} {o : Nat} {l : Bl} (hl : l.length = 512) : mix L o l 512 = L.take o ++ l ++ L.drop (o + 512) := by
  unfold mix
  rw [List.take_of_length_le (l := l) (by omega)]
theorem map_set_bv (l : List Nat) (i x : Nat) : (l.map bv).toArray.setIfInBounds i (.int .u8 (x : Int)) = ((l.set i x).map bv).toArray := by
  rw [List.setIfInBounds_toArray]
  congr 1
  rw [List.map_set]
  rfl
/-- the safe bytes by the first writes -/
def safeTo (D : List Pv) (i : Nat) (s : Nat) : Bl := (lastQ s ((D.take i).map bare)).getD z512
theorem safeTo_succ {D : List Pv} {i : Nat} {x : Pv} (h : D[i]? = some x) : safeTo D (i + 1) = upd (safeTo D i) x.1 x.2.2 := by
  funext s
  unfold safeTo upd
  rw [List.take_add_one, h, List.map_append, lastQ_append]
  simp only [Option.toList_some, List.map_cons, List.map_nil, lastQ, bare]
  by_cases e : s = x.1
  · rw [if_pos e, if_pos e.symm]; rfl
  · rw [if_neg e, if_neg (fun h => e h.symm)]; rfl
theorem safeTo_len {D : List Pv} {n : Nat} (h : ∀ x ∈ D, x.1 < n ∧ OkB x.2.2) (i s : Nat) : (safeTo D i s).length = 512 := by
  unfold safeTo
  cases hl : lastQ s ((D.take i).map bare) with
  | none => exact okZ.len
  | some l =>
    obtain ⟨j, hj, _⟩ := lastQ_some hl
    rw [List.getElem?_map] at hj
    obtain ⟨x, hx, e⟩ := Option.map_eq_some_iff.1 hj
    have h2 := (h x (List.mem_of_mem_take (List.mem_of_getElem? hx))).2
    simp [bare] at e
    rw [Option.getD_some, ← e.2]; exact h2.len
section
variable {w : World} {p : Nat} {dv qv av : Value} {D Q : List Pv} {S : Dk}
set_option maxHeartbeats 8000000 in
theorem rImage_any (h : RR w p dv qv av D Q S) (hl : D.length ≤ 1048576) :
    Calls Tryz.prog 91 #[.pointer (some ⟨p, 0, none⟩)] w fun r w' => ∃ v, r = .returned v ∧ w'.ownsRow w.heap.size 5 1 v (S.n * 512) ((imgL S.n S.safe).map bv) ∧ Below w.heap.size w w' := by
  obtain ⟨n, hn⟩ : ∃ n, n = S.n := ⟨_, rfl⟩
  have HNn : Hid (S.n = n) := hn.symm
  have hn1 : n ≤ 65536 := by rw [hn]; exact h.n1
  have hmk := run_image w hn1
  obtain ⟨W0, hW0⟩ : ∃ W0, W0 = w.alloc (.cells ((imgL n (fun _ => z512)).map bv).toArray 5) := ⟨_, rfl⟩
  have hB0 : Below w.heap.size w W0 := by rw [hW0]; exact (Below.refl _ w).alloc (Nat.le_refl _) _
  have hbb : W0.heap[w.heap.size]? = some (.cells ((imgL n (safeTo D 0)).map bv).toArray 5) := by
    rw [hW0]
    exact heap_alloc_new w _
  rw [← hW0] at hmk
  have c0 : w.cell? ⟨p, 0, none⟩ = some (.int .i64 n) := by rw [hn]; exact h.c 0
  obtain ⟨ddo, ddc, rfl⟩ := own_slice h.dr
  obtain ⟨dn, hdn⟩ : ∃ dn, dn = D.length := ⟨_, rfl⟩
  have HDn : Hid (D.length = dn) := hdn.symm
  rw [← hdn] at hl
  have HH : Hid (∀ W, Below w.heap.size w W → RR W p (.slice ddo dn ddc) qv av D Q S) := fun W hW => by have h1 := h.later hW; rw [← hdn] at h1; exact h1
  have c1 : W0.cell? ⟨p, 1, none⟩ = some (.slice none 0 0) := (HH.out W0 hB0).c 1
  have HB0 : Hid (Below w.heap.size w W0) := hB0
  have HBB : Hid (W0.heap[w.heap.size]? = some (.cells ((imgL n (safeTo D 0)).map bv).toArray 5)) := hbb
  rw [← hn]
  clear h hn hW0 hB0 hbb hdn
  go_enter Tryz.func91, Tryz.ntmps91
  go_wp2
  go_loopw [4] (fun c wr => c = .int .i64 0 ∧ Hid (wr = W0)) (fun _ _ => 0)
  case atStart => exact ⟨rfl, rfl⟩
  case round =>
    obtain ⟨rfl, HW⟩ := hrel
    have hw := HW.out
    subst hw
    go_wp2
    go_loopw [5] (fun c wr => ∃ i : Nat, i ≤ dn ∧ c = .int .i64 i ∧ Hid (Below w.heap.size w wr) ∧ Hid (wr.heap[w.heap.size]? = some (.cells ((imgL n (safeTo D i)).map bv).toArray 5))) (fun c _ => dn - (intOf c).toNat)
    case atStart => exact ⟨0, Nat.zero_le _, rfl, HB0, HBB⟩
    case round =>
      obtain ⟨Wo, hWo⟩ : ∃ Wo, Wo = wr := ⟨_, rfl⟩
      subst hWo
      obtain ⟨i, hi, rfl, HB, HI⟩ := hrel
      have hrr := HH.out Wo HB.out
      have c2 : Wo.cell? ⟨p, 2, none⟩ = some (.slice ddo dn ddc) := hrr.c 2
      have hok : ∀ x ∈ D, x.1 < n ∧ OkB x.2.2 := fun x hx => by have h1 := hrr.ok x (by simp [hx]); rw [HNn.out] at h1; exact h1
      by_cases hlt : i < dn
      · obtain ⟨x, hx⟩ : ∃ x, D[i]? = some x := ⟨_, List.getElem?_eq_getElem (by have := HDn.out; omega)⟩
        obtain ⟨s, v, bl⟩ := x
        have hxm : (s, v, bl) ∈ D := List.mem_of_getElem? hx
        obtain ⟨hsn, hbl⟩ := hok _ hxm
        simp only at hsn hbl
        have hdat := hrr.dat (s, v, bl) (by simp [hxm])
        obtain ⟨gv, vc, curv, hv, _, hgv, hcv⟩ := own_form hdat (by decide)
        simp only at hv
        subst hv
        obtain ⟨gd, hgd⟩ : ∃ gd, ddo = some ⟨gd, 0, none⟩ := by
          rcases hrr.dr.2 with ⟨e, h0⟩ | ⟨g, cap', cur, e, _⟩
          · rw [HDn.out] at h0; omega
          · simp at e; exact ⟨g, e.1⟩
        subst hgd
        obtain ⟨q0, q1⟩ := qrow_at (by have h1 := hrr.dr; rw [HDn.out] at h1; exact h1 : Wo.ownsRow 0 TPt 2 (.slice (some ⟨gd, 0, none⟩) dn ddc) dn (qcells D)) hx HDn.out
        simp only at q0 q1
        have hlen : ∀ t, t < n → (safeTo D i t).length = 512 := fun t _ => safeTo_len hok i t
        have hil : (imgL n (safeTo D i)).length = n * 512 := imgL_len hlen
        have hso : s * 512 + 512 ≤ (imgL n (safeTo D i)).length := by rw [hil]; omega
        have HSo : Hid (s * 512 + 512 ≤ (imgL n (safeTo D i)).length ∧ (imgL n (safeTo D i)).length = n * 512) := ⟨hso, hil⟩
        have HBl : Hid (OkB bl) := hbl
        have HSn : Hid (s < n) := hsn
        have HNext : Hid (((mix (imgL n (safeTo D i)) (s * 512) bl 512).map bv).toArray = ((imgL n (safeTo D (i + 1))).map bv).toArray) := by
          show _ = _
          rw [mix_all hbl.len, imgL_put hlen hsn hbl.len, safeTo_succ hx]
        have hgvl : gv < Wo.heap.size := (Array.getElem?_eq_some_iff.1 hgv).1
        have HV : Hid (∀ W, Below Wo.heap.size Wo W ∨ W.heap[gv]? = Wo.heap[gv]? → ∀ (j y : Nat), bl[j]? = some y → W.cell? ⟨gv, j, none⟩ = some (.int .u8 y)) := fun W hW j y hy => by
          have h1 : W.heap[gv]? = Wo.heap[gv]? := by
            rcases hW with hW | hW
            · exact hW.block gv hgvl
            · exact hW
          rw [cell_of (h1.trans hgv)]
          exact hcv j y hy
        obtain ⟨W1, hW1⟩ : ∃ W1, W1 = Wo.alloc (.cells #[.int .i64 s, .slice (some ⟨gv, 0, none⟩) 512 vc] TPt) := ⟨_, rfl⟩
        have hB1 : Below Wo.heap.size Wo W1 := by rw [hW1]; exact (Below.refl _ Wo).alloc (Nat.le_refl _) _
        have hbbl : w.heap.size < Wo.heap.size := (Array.getElem?_eq_some_iff.1 HI.out).1
        have HS1 : Hid (Below w.heap.size w W1 ∧ W1.heap[w.heap.size]? = some (.cells ((mix (imgL n (safeTo D i)) (s * 512) bl 0).map bv).toArray 5) ∧ W1.heap[Wo.heap.size]? = some (.cells #[.int .i64 s, .slice (some ⟨gv, 0, none⟩) 512 vc] TPt) ∧ W1.heap[gv]? = Wo.heap[gv]?) := by
          refine ⟨HB.out.trans (hB1.mono HB.out.size), ?_, by rw [hW1]; exact heap_alloc_new Wo _, hB1.block gv hgvl⟩
          rw [mix_zero]
          exact (hB1.block _ hbbl).trans HI.out
        have HGB : Hid (gv ≠ w.heap.size ∧ w.heap.size < Wo.heap.size ∧ gv < Wo.heap.size) := ⟨fun e => by
          have h1 := row_lt (hrr.dat (s, .slice (some ⟨gv, 0, none⟩) 512 vc, bl) (by simp [hxm])) gv rfl
          have h2 := (row_lt ((HH.out w (Below.refl _ _)).dat (s, .slice (some ⟨gv, 0, none⟩) 512 vc, bl) (by simp [hxm])) gv rfl).1
          omega, hbbl, hgvl⟩
        clear hrr hok hx hxm hsn hbl hdat hgv hcv hlen hil hso hB1
        go_wp2
        rw [← hW1]
        clear hW1
        go_loopw [7] (fun c wr2 => ∃ k : Nat, k ≤ 512 ∧ c = .int .i64 k ∧ Hid (Below w.heap.size w wr2 ∧ wr2.heap[w.heap.size]? = some (.cells ((mix (imgL n (safeTo D i)) (s * 512) bl k).map bv).toArray 5) ∧ wr2.heap[Wo.heap.size]? = some (.cells #[.int .i64 s, .slice (some ⟨gv, 0, none⟩) 512 vc] TPt) ∧ wr2.heap[gv]? = Wo.heap[gv]?)) (fun c _ => 512 - (intOf c).toNat)
        case atStart => exact ⟨0, by decide, rfl, HS1⟩
        case round =>
          obtain ⟨k, hk, rfl, HR⟩ := hrel
          by_cases hk5 : k < 512
          · obtain ⟨x, hx⟩ : ∃ x, bl[k]? = some x := ⟨_, List.getElem?_eq_getElem (by rw [HBl.out.len]; exact hk5)⟩
            obtain ⟨r1, r2, r3, r4⟩ := HR.out
            have y0 : wr.cell? ⟨Wo.heap.size, 0, none⟩ = some (.int .i64 s) := (cell_of r3).trans rfl
            have y1 : wr.cell? ⟨Wo.heap.size, 1, none⟩ = some (.slice (some ⟨gv, 0, none⟩) 512 vc) := (cell_of r3).trans rfl
            have dk : wr.cell? ⟨gv, k, none⟩ = some (.int .u8 x) := HV.out wr (.inr r4) k x hx
            have hml : (mix (imgL n (safeTo D i)) (s * 512) bl k).length = n * 512 := by rw [mix_len HBl.out.len hk HSo.out.1, HSo.out.2]
            obtain ⟨old, hold⟩ : ∃ old, wr.cell? ⟨w.heap.size, s * 512 + k, none⟩ = some old := by
              rw [cell_of r2]
              have := HSn.out
              exact ⟨_, Array.getElem?_eq_getElem (by simp [hml]; omega)⟩
            have fz : wr.frozen? ⟨w.heap.size, s * 512 + k, none⟩ = false := frozen_of r2
            have e1 : ¬ w.heap.size = Wo.heap.size := by have := HGB.out.2.1; omega
            have e2 : ¬ Wo.heap.size = w.heap.size := by omega
            have e3 : ¬ w.heap.size = gv := fun e => HGB.out.1 e.symm
            have e4 : ¬ gv = w.heap.size := HGB.out.1
            have n6 : s ≤ 65536 := by have := HSn.out; omega
            have n1 : IntKind.i64.wrap ((s : Int) * 512) = (s : Int) * 512 := wrap_id (by omega) (by omega)
            have n7 : IntKind.i64.wrap ((s : Int) * 512 + (k : Int)) = (s : Int) * 512 + (k : Int) := wrap_id (by omega) (by omega)
            have n8 : (s : Int) * 512 + (k : Int) < ((n * 512 : Nat) : Int) := by have := HSn.out; omega
            have n2 : ((s : Int) * 512 + (k : Int)) < (n : Int) * 512 := by have := HSn.out; omega
            have n3 : (0 : Int) ≤ (s : Int) * 512 + (k : Int) := by omega
            have n4 : ((s : Int) * 512 + (k : Int)).toNat = s * 512 + k := by omega
            have n5 : s * 512 + k < n * 512 := by have := HSn.out; omega
            have HNx : Hid (Below w.heap.size w (wr.setCell ⟨w.heap.size, s * 512 + k, none⟩ (.int .u8 x)).drew ∧ (wr.setCell ⟨w.heap.size, s * 512 + k, none⟩ (.int .u8 x)).drew.heap[w.heap.size]? = some (.cells ((mix (imgL n (safeTo D i)) (s * 512) bl (k + 1)).map bv).toArray 5) ∧ (wr.setCell ⟨w.heap.size, s * 512 + k, none⟩ (.int .u8 x)).drew.heap[Wo.heap.size]? = some (.cells #[.int .i64 s, .slice (some ⟨gv, 0, none⟩) 512 vc] TPt) ∧ (wr.setCell ⟨w.heap.size, s * 512 + k, none⟩ (.int .u8 x)).drew.heap[gv]? = Wo.heap[gv]?) := by
              have hb := blk_set r2 (s * 512 + k) (.int .u8 x)
              rw [map_set_bv, mix_step hx HBl.out.len HSo.out.1] at hb
              refine ⟨⟨r1.os, r1.tape, r1.output, by show _ ≤ (wr.setCell _ _).heap.size; simpa using r1.size, fun j hj => ?_⟩, hb, ?_, ?_⟩
              · exact (Below.heap_setCell _ _ _ _ (by show j ≠ w.heap.size; omega)).trans (r1.block j hj)
              · exact (Below.heap_setCell _ _ _ _ (by show Wo.heap.size ≠ w.heap.size; omega)).trans r3
              · exact (Below.heap_setCell _ _ _ _ (by show gv ≠ w.heap.size; omega)).trans r4
            clear r1 r2 r3 r4 hx hml
            go_wp2
            go_region_held3 (fun w' => w'.cell? ⟨Wo.heap.size, 0, none⟩ = some (.int .i64 s) ∧ w'.cell? ⟨Wo.heap.size, 1, none⟩ = some (.slice (some ⟨gv, 0, none⟩) 512 vc) ∧ w'.cell? ⟨gv, k, none⟩ = some (.int .u8 x)) (first | go_keep) (fail)
            go_wp2
            go_roundw
            case rel => exact ⟨k + 1, by omega, by go_num, HNx⟩
            case measure => simp [intOf]; omega
          · have hk6 : k = 512 := by omega
            subst hk6
            have HI2 : Hid (wr.heap[w.heap.size]? = some (.cells ((imgL n (safeTo D (i + 1))).map bv).toArray 5)) := by
              have := HR.out.2.1
              rw [HNext.out] at this
              exact this
            have HB2 : Hid (Below w.heap.size w wr) := HR.out.1
            have y1 : wr.cell? ⟨Wo.heap.size, 1, none⟩ = some (.slice (some ⟨gv, 0, none⟩) 512 vc) := (cell_of HR.out.2.2.1).trans rfl
            go_wp2
            go_roundw
            case rel => exact ⟨i + 1, by omega, by go_num, HB2, HI2⟩
            case measure => simp [intOf]; omega
      · have e : i = dn := by omega
        subst e
        have hfin : imgL n (safeTo D i) = imgL n S.safe := imgL_congr fun t ht => by
          rw [hrr.sf t (by rw [HNn.out]; exact ht)]
          unfold safeTo
          rw [List.take_of_length_le (by have := HDn.out; omega)]
        have hl5 : (imgL n S.safe).length = n * 512 := by rw [← hfin]; exact imgL_len (fun t _ => safeTo_len hok i t)
        have HO : Hid (Wo.ownsRow w.heap.size 5 1 (.slice (some ⟨w.heap.size, 0, none⟩) (n * 512) (n * 512)) (n * 512) ((imgL n S.safe).map bv)) := by
          have h1 := HI.out
          rw [hfin] at h1
          refine ⟨by rw [List.length_map, hl5]; omega, .inr ⟨w.heap.size, n * 512, _, rfl, Nat.le_refl _, h1, Nat.le_refl _, by unfold maxLen; omega, by simp [hl5], by rw [List.take_of_length_le (by simp [hl5])]⟩⟩
        clear hrr hok hfin hl5
        go_wp2
        go_ret
        exact ⟨_, rfl, HO.out, HB.out⟩
end
end Go.Proofs.YtlacligofhinmaaGreat.K

namespace Go.Proofs.YtlacligofhinmaaGreat.C
open Go.RowKit Go.Maps Go.Shelf Go.Proofs.YtlacligofhinmaaGreat
set_option linter.unusedVariables false
set_option linter.unusedSimpArgs false
set_option maxRecDepth 100000

abbrev TRq : TypeId := 95
abbrev TRl : TypeId := 98
abbrev TRls : TypeId := 90
/-- a line of the document's cache: its sector, where its bytes lie, its bytes, is it dirty -/
structure Xl where
  sec : Nat
  v : Value
  dat : K.Bl
  dirty : Bool
def xcell (x : Xl) : List Value := [.int .i64 x.sec, x.v, .bool x.dirty]
def xcells (X : List Xl) : List Value := X.flatMap xcell
abbrev Xk := Nat × K.Bl × Bool
def Xl.k (x : Xl) : Xk := (x.sec, x.dat, x.dirty)
def Ln.k (l : Ln) : Xk := (l.sec, l.dat, l.dirty)
/-- the lines of both are the same -/
def Sim (X : List Xl) (L : List Ln) : Prop := X.map Xl.k = L.map Ln.k
/-- where it lies -/
structure Qa where
  q : Nat
  p : Nat
  dv : Value
  rq : Value
  av : Value
  D : List K.Pv
  Q : List K.Pv
  nv : Value
  lv : Value
  X : List Xl
def Qa.rfp (A : Qa) : List Nat := K.fr A.p A.dv A.rq A.av (A.D ++ A.Q)
def Qa.cfp (A : Qa) : List Nat := A.q :: (A.nv.ownBlock.toList ++ (A.lv.ownBlock.toList ++ A.X.flatMap fun x => x.v.ownBlock.toList))
def Qa.fp (A : Qa) : List Nat := A.rfp ++ A.cfp
def Qa.pot (A : Qa) (C : Ch) : Nat := A.D.length + A.Q.length + dirtyN C.L
def qcl (A : Qa) (C : Ch) : Array Value := #[.pointer (some ⟨A.p, 0, none⟩), .int .i64 C.most, A.nv, A.lv, .int .u64 C.st.hits, .int .u64 C.st.misses, .int .u64 C.st.evicted, .int .u64 C.st.written]
theorem mem_qcfp {A : Qa} {i : Nat} : i ∈ A.cfp ↔ i = A.q ∨ A.nv.ownBlock = some i ∨ A.lv.ownBlock = some i ∨ ∃ x ∈ A.X, x.v.ownBlock = some i := by
  simp [Qa.cfp, List.mem_flatMap]
/-- the document's cache in memory -/
structure RQ (w : World) (A : Qa) (S : K.Dk) (C : Ch) : Prop where
  blk : w.heap[A.q]? = some (.cells (qcl A C) TRq (0, 0))
  rr : K.RR w A.p A.dv A.rq A.av A.D A.Q S
  nr : w.ownsRow 0 TSp 2 A.nv C.notes.length (spcells C.notes)
  lr : w.ownsRow 0 TRl 3 A.lv A.X.length (xcells A.X)
  xd : ∀ x ∈ A.X, w.ownsRow 0 5 1 x.v 512 (x.dat.map bv)
  xf : ∀ x ∈ A.X, ∀ g, x.v.ownBlock = some g → g ∉ A.rfp
  sim : Sim A.X C.L
  ok : ∀ l ∈ C.L, l.sec < S.n ∧ K.OkB l.dat
  sd : (secs C.L).Nodup
  lim : C.L.length ≤ C.most ∧ 1 ≤ C.most ∧ C.most ≤ 1024
  nl : C.notes.length ≤ 64
  nok : ∀ p ∈ C.notes, 0 ≤ p.1 ∧ 1 ≤ p.2 ∧ p.1 + p.2 ≤ S.n
  fs : K.FsOk S.fs
  nt : Nt C
section
variable {w w' : World} {A : Qa} {S S' : K.Dk} {C C' : Ch}
theorem Sim.len {X : List Xl} {L : List Ln} (h : Sim X L) : X.length = L.length := by
  have := congrArg List.length h; simpa using this
theorem Sim.get {X : List Xl} {L : List Ln} (h : Sim X L) {i : Nat} {x : Xl} (hx : X[i]? = some x) : ∃ l, L[i]? = some l ∧ x.sec = l.sec ∧ x.dat = l.dat ∧ x.dirty = l.dirty := by
  have h1 : (X.map Xl.k)[i]? = (L.map Ln.k)[i]? := by rw [h]
  rw [List.getElem?_map, List.getElem?_map, hx] at h1
  cases hl : L[i]? with
  | none => rw [hl] at h1; simp at h1
  | some l =>
    rw [hl] at h1
    simp [Xl.k, Ln.k] at h1
    exact ⟨l, rfl, h1.1, h1.2.1, h1.2.2⟩
theorem Sim.get' {X : List Xl} {L : List Ln} (h : Sim X L) {i : Nat} {l : Ln} (hl : L[i]? = some l) : ∃ x, X[i]? = some x ∧ x.sec = l.sec ∧ x.dat = l.dat ∧ x.dirty = l.dirty := by
  have h1 : (X.map Xl.k)[i]? = (L.map Ln.k)[i]? := by rw [h]
  rw [List.getElem?_map, List.getElem?_map, hl] at h1
  cases hx : X[i]? with
  | none => rw [hx] at h1; simp at h1
  | some x =>
    rw [hx] at h1
    simp [Xl.k, Ln.k] at h1
    exact ⟨x, rfl, h1.1, h1.2.1, h1.2.2⟩
theorem Sim.mem {X : List Xl} {L : List Ln} (h : Sim X L) {x : Xl} (hx : x ∈ X) : ∃ l ∈ L, x.sec = l.sec ∧ x.dat = l.dat ∧ x.dirty = l.dirty := by
  obtain ⟨i, hi⟩ := List.getElem?_of_mem hx
  obtain ⟨l, hl, h1⟩ := h.get hi
  exact ⟨l, List.mem_of_getElem? hl, h1⟩
theorem xcells_len (X : List Xl) : (xcells X).length = X.length * 3 := by
  induction X with
  | nil => rfl
  | cons x X ih =>
    have : xcells (x :: X) = xcell x ++ xcells X := by simp [xcells]
    rw [this, List.length_append, ih]; simp [xcell]; omega
theorem xcells_append (a b : List Xl) : xcells (a ++ b) = xcells a ++ xcells b := by simp [xcells]
theorem xcells_get : ∀ {X : List Xl} {i : Nat} {x : Xl}, X[i]? = some x → (xcells X)[i * 3]? = some (.int .i64 x.sec) ∧ (xcells X)[i * 3 + 1]? = some x.v ∧ (xcells X)[i * 3 + 2]? = some (.bool x.dirty)
  | [], i, x, h => by simp at h
  | y :: r, 0, x, h => by simp at h; subst h; exact ⟨rfl, rfl, rfl⟩
  | y :: r, i + 1, x, h => by
    have ih := xcells_get (X := r) (i := i) (by simpa using h)
    have e : xcells (y :: r) = xcell y ++ xcells r := by simp [xcells]
    have l3 : (xcell y).length = 3 := rfl
    rw [e, List.getElem?_append_right (by omega), List.getElem?_append_right (by omega), List.getElem?_append_right (by omega), l3]
    rw [show (i + 1) * 3 - 3 = i * 3 by omega, show (i + 1) * 3 + 1 - 3 = i * 3 + 1 by omega, show (i + 1) * 3 + 2 - 3 = i * 3 + 2 by omega]
    exact ih
theorem xrow_at {B g n cap : Nat} {X : List Xl} (h : w.ownsRow B TRl 3 (.slice (some ⟨g, 0, none⟩) n cap) n (xcells X)) {i : Nat} {x : Xl} (hi : X[i]? = some x) (hn : X.length = n) : w.cell? ⟨g, i * 3, none⟩ = some (.int .i64 x.sec) ∧ w.cell? ⟨g, i * 3 + 1, none⟩ = some x.v ∧ w.cell? ⟨g, i * 3 + 2, none⟩ = some (.bool x.dirty) := by
  have hlt := (List.getElem?_eq_some_iff.1 hi).1
  obtain ⟨h1, h2, h3⟩ := xcells_get hi
  exact ⟨(h.cellAt _ (by omega)).trans h1, (h.cellAt _ (by omega)).trans h2, (h.cellAt _ (by omega)).trans h3⟩
theorem xcells_one {X : List Xl} (h : ∀ x ∈ X, x.v.oneCell' = true) : ∀ u ∈ xcells X, u.oneCell' = true := fun u hu => by
  simp only [xcells, List.mem_flatMap] at hu
  obtain ⟨x, hx, hu⟩ := hu
  simp [xcell] at hu
  rcases hu with rfl | rfl | rfl
  · rfl
  · exact h x hx
  · rfl
theorem RQ.c (h : RQ w A S C) (j : Nat) : w.cell? ⟨A.q, j, none⟩ = (qcl A C)[j]? := K.cell_of h.blk
theorem RQ.fz (h : RQ w A S C) (j : Nat) : w.frozen? ⟨A.q, j, none⟩ = false := K.frozen_of h.blk
theorem RQ.cl (h : RQ w A S C) : ∀ i ∈ A.cfp, i < w.heap.size := by
  intro i hi
  rcases mem_qcfp.1 hi with rfl | hi | hi | ⟨x, hx, hi⟩
  · exact (Array.getElem?_eq_some_iff.1 h.blk).1
  · exact (K.row_lt h.nr i hi).1
  · exact (K.row_lt h.lr i hi).1
  · exact (K.row_lt (h.xd x hx) i hi).1
theorem RQ.lt (h : RQ w A S C) : ∀ i ∈ A.fp, i < w.heap.size := by
  intro i hi
  rcases List.mem_append.1 hi with hi | hi
  · exact h.rr.lt i hi
  · exact h.cl i hi
theorem RQ.same (h : RQ w A S C) (hs : ∀ i ∈ A.fp, w'.heap[i]? = w.heap[i]?) : RQ w' A S C := by
  have hc : ∀ i ∈ A.cfp, w'.heap[i]? = w.heap[i]? := fun i hi => hs i (List.mem_append_right _ hi)
  exact ⟨(hc _ (mem_qcfp.2 (.inl rfl))).trans h.blk, h.rr.same (fun i hi => hs i (List.mem_append_left _ hi)), K.ownsRow_block h.nr (fun g e => hc g (mem_qcfp.2 (.inr (.inl e)))), K.ownsRow_block h.lr (fun g e => hc g (mem_qcfp.2 (.inr (.inr (.inl e))))), fun x hx => K.ownsRow_block (h.xd x hx) (fun g e => hc g (mem_qcfp.2 (.inr (.inr (.inr ⟨x, hx, e⟩))))), h.xf, h.sim, h.ok, h.sd, h.lim, h.nl, h.nok, h.fs, h.nt⟩
theorem RQ.later (h : RQ w A S C) (hb : Below w.heap.size w w') : RQ w' A S C := h.same fun i hi => hb.block i (h.lt i hi)
theorem RQ.kept {F : List Nat} (h : RQ w A S C) (hk : K.Kp w w' F) (hd : ∀ i ∈ A.fp, i ∉ F) : RQ w' A S C := h.same fun i hi => hk.block i (h.lt i hi) (hd i hi)
theorem RQ.ln (h : RQ w A S C) : A.X.length = C.L.length := h.sim.len
theorem RQ.x1024 (h : RQ w A S C) : A.X.length ≤ 1024 := by have := h.sim.len; have := h.lim; omega
/-- the blocks of the document's disk are none of the cache's own -/
theorem RQ.apart (h : RQ w A S C) : ∀ i ∈ A.cfp, i ∉ A.rfp := by
  intro i hi hr
  rcases K.mem_fr.1 hr with e | hr | hr | hr | ⟨y, hy, hr⟩ <;> rcases mem_qcfp.1 hi with rfl | hi | hi | ⟨x, hx, hi⟩
  · have h1 := h.rr.blk; rw [← e, h.blk] at h1; simp at h1; exact absurd h1.2 (by decide)
  · subst e; exact K.blk_types h.rr.blk h.nr (by decide) hi
  · subst e; exact K.blk_types h.rr.blk h.lr (by decide) hi
  · subst e; exact K.blk_types h.rr.blk (h.xd x hx) (by decide) hi
  · exact K.blk_types h.blk h.rr.dr (by decide) hr
  · exact K.own_types h.nr h.rr.dr (by decide) hi hr
  · exact K.own_types h.lr h.rr.dr (by decide) hi hr
  · exact K.own_types (h.xd x hx) h.rr.dr (by decide) hi hr
  · exact K.blk_types h.blk h.rr.qr (by decide) hr
  · exact K.own_types h.nr h.rr.qr (by decide) hi hr
  · exact K.own_types h.lr h.rr.qr (by decide) hi hr
  · exact K.own_types (h.xd x hx) h.rr.qr (by decide) hi hr
  · exact K.blk_types h.blk h.rr.fr (by decide) hr
  · exact K.own_types h.nr h.rr.fr (by decide) hi hr
  · exact K.own_types h.lr h.rr.fr (by decide) hi hr
  · exact K.own_types (h.xd x hx) h.rr.fr (by decide) hi hr
  · exact K.blk_types h.blk (h.rr.dat y hy) (by decide) hr
  · exact K.own_types h.nr (h.rr.dat y hy) (by decide) hi hr
  · exact K.own_types h.lr (h.rr.dat y hy) (by decide) hi hr
  · exact h.xf x hx i hi (K.mem_fr.2 (.inr (.inr (.inr (.inr ⟨y, hy, hr⟩)))))
/-- the cache's own blocks are apart -/
theorem RQ.own (h : RQ w A S C) : A.nv.ownBlock ≠ some A.q ∧ A.lv.ownBlock ≠ some A.q ∧ (∀ x ∈ A.X, x.v.ownBlock ≠ some A.q) ∧ (∀ g, A.lv.ownBlock = some g → A.nv.ownBlock ≠ some g ∧ ∀ x ∈ A.X, x.v.ownBlock ≠ some g) :=
  ⟨K.blk_types h.blk h.nr (by decide), K.blk_types h.blk h.lr (by decide), fun x hx => K.blk_types h.blk (h.xd x hx) (by decide), fun g e => ⟨K.own_types h.lr h.nr (by decide) e, fun x hx => K.own_types h.lr (h.xd x hx) (by decide) e⟩⟩
end
/-- what a call leaves; N: how much the writes may have grown, dirty lines among them -/
structure QAct (w w' : World) (A A' : Qa) (C : Ch) (S' : K.Dk) (C' : Ch) (N : Nat) : Prop where
  rq : RQ w' A' S' C'
  kp : K.Kp w w' A.fp
  sub : ∀ i ∈ A'.fp, i ∈ A.fp ∨ w.heap.size ≤ i
  q : A'.q = A.q
  p : A'.p = A.p
  pot : A'.pot C' ≤ A.pot C + N
section
variable {w w' w2 : World} {A A' A2 : Qa} {S S' S2 : K.Dk} {C C' C2 : Ch} {N M : Nat}
theorem QAct.refl (h : RQ w A S C) : QAct w w A A C S C 0 := ⟨h, K.Kp.refl _ _, fun _ h => .inl h, rfl, rfl, Nat.le_refl _⟩
theorem QAct.trans (h : QAct w w' A A' C S' C' N) (k : QAct w' w2 A' A2 C' S2 C2 M) : QAct w w2 A A2 C S2 C2 (N + M) :=
  ⟨k.rq, h.kp.trans k.kp h.sub, fun i hi => (k.sub i hi).elim (h.sub i) (fun hh => .inr (Nat.le_trans h.kp.size hh)), k.q.trans h.q, k.p.trans h.p, by have := h.pot; have := k.pot; omega⟩
theorem QAct.later (h : QAct w w' A A' C S' C' N) (hb : Below w'.heap.size w' w2) : QAct w w2 A A' C S' C' N :=
  ⟨h.rq.later hb, h.kp.trans (K.Kp.of_below hb []) (by simp), h.sub, h.q, h.p, h.pot⟩
theorem QAct.from_later {w0 : World} (hb : Below w0.heap.size w0 w) (hP : ∀ i ∈ A.fp, i < w0.heap.size) (h : QAct w w' A A' C S' C' N) : QAct w0 w' A A' C S' C' N :=
  ⟨h.rq, (K.Kp.of_below hb A.fp).trans h.kp (fun i hi => .inl hi), fun i hi => (h.sub i hi).imp id (fun hh => Nat.le_trans hb.size hh), h.q, h.p, h.pot⟩
theorem QAct.more (h : QAct w w' A A' C S' C' N) (hm : N ≤ M) : QAct w w' A A' C S' C' M := ⟨h.rq, h.kp, h.sub, h.q, h.p, by have := h.pot; omega⟩
theorem QAct.lt (h : QAct w w' A A' C S' C' N) : ∀ i ∈ A'.fp, i < w'.heap.size := h.rq.lt
/-- a call on the document's disk -/
theorem RQ.disk (h : RQ w A S C) {dv' rq' av' : Value} {D' Q' : List K.Pv} (hn : S'.n = S.n) (hf : K.FsOk S'.fs) (ha : K.RAct w w' A.p A.dv A.rq A.av A.D A.Q dv' rq' av' D' Q' S') (hN : D'.length + Q'.length ≤ A.D.length + A.Q.length + N) :
    QAct w w' A { A with dv := dv', rq := rq', av := av', D := D', Q := Q' } C S' C N := by
  have hap := h.apart
  have hk : ∀ i ∈ A.cfp, w'.heap[i]? = w.heap[i]? := fun i hi => ha.kp.block i (h.cl i hi) (hap i hi)
  have hsub : ∀ i ∈ K.fr A.p dv' rq' av' (D' ++ Q'), i ∈ A.rfp ∨ w.heap.size ≤ i := ha.sub
  refine ⟨⟨(hk _ (mem_qcfp.2 (.inl rfl))).trans h.blk, ha.rk, K.ownsRow_block h.nr (fun g e => hk g (mem_qcfp.2 (.inr (.inl e)))), K.ownsRow_block h.lr (fun g e => hk g (mem_qcfp.2 (.inr (.inr (.inl e))))), fun x hx => K.ownsRow_block (h.xd x hx) (fun g e => hk g (mem_qcfp.2 (.inr (.inr (.inr ⟨x, hx, e⟩))))), ?_, h.sim, fun l hl => ⟨by rw [hn]; exact (h.ok l hl).1, (h.ok l hl).2⟩, h.sd, h.lim, h.nl, fun p hp => by rw [hn]; exact h.nok p hp, hf, h.nt⟩, ?_, ?_, rfl, rfl, ?_⟩
  · intro x hx g e hm
    rcases hsub g hm with h1 | h1
    · exact h.xf x hx g e h1
    · have := (K.row_lt (h.xd x hx) g e).1; omega
  · exact ha.kp.sub fun i hi => .inl (List.mem_append_left _ hi)
  · intro i hi
    rcases List.mem_append.1 hi with hi | hi
    · exact (hsub i hi).imp (fun hh => List.mem_append_left _ hh) id
    · exact .inl (List.mem_append_right _ hi)
  · simp only [Qa.pot]; omega
/-- the counts are changed -/
theorem RQ.stat (h : RQ w A S C) (j : Nat) (v : Value) (st : Cs) (hv : (qcl A C).setIfInBounds j v = qcl A { C with st := st }) :
    QAct w (w.setCell ⟨A.q, j, none⟩ v) A A C S { C with st := st } 0 := by
  have ho : ∀ i, i ≠ A.q → (w.setCell ⟨A.q, j, none⟩ v).heap[i]? = w.heap[i]? := fun i hi => Below.heap_setCell _ _ _ _ hi
  have ha := h.own
  have hap := h.apart
  have hn : ∀ {x : Value} {g : Nat}, x.ownBlock ≠ some A.q → x.ownBlock = some g → g ≠ A.q := fun h1 h2 e => h1 (by rw [h2, e])
  refine ⟨⟨?_, h.rr.same (fun i hi => ho i (fun e => hap A.q (mem_qcfp.2 (.inl rfl)) (by rw [← e]; exact hi))), K.ownsRow_block h.nr (fun g e => ho g (hn ha.1 e)), K.ownsRow_block h.lr (fun g e => ho g (hn ha.2.1 e)), fun x hx => K.ownsRow_block (h.xd x hx) (fun g e => ho g (hn (ha.2.2.1 x hx) e)), h.xf, h.sim, h.ok, h.sd, h.lim, h.nl, h.nok, h.fs, h.nt⟩, ?_, fun i hi => .inl hi, rfl, rfl, Nat.le_refl _⟩
  · rw [← hv]; exact K.blk_set h.blk j v
  · exact (K.Kp.refl w _).set (.inl (List.mem_append_right _ (mem_qcfp.2 (.inl rfl)))) j v
/-- the lines are others: w1 has the new row, whose block is new or the old one -/
theorem RQ.lines {w1 : World} (h : RQ w A S C) (hk : K.Kp w w1 A.lv.ownBlock.toList) {lv' : Value} {X' : List Xl} {L' : List Ln} (hrow : w1.ownsRow 0 TRl 3 lv' X'.length (xcells X')) (hat : ∀ g, lv'.ownBlock = some g → A.lv.ownBlock = some g ∨ w.heap.size ≤ g)
    (hX : ∀ x ∈ X', x ∈ A.X ∨ (w1.ownsRow w.heap.size 5 1 x.v 512 (x.dat.map bv))) (hsim : Sim X' L') (hok : ∀ l ∈ L', l.sec < S.n ∧ K.OkB l.dat) (hsd : (secs L').Nodup) (hl : L'.length ≤ C.most) (hnt : ∀ l ∈ L', l.note = isN C.notes l.sec) :
    w1.heap[A.q]? = w.heap[A.q]? ∧ QAct w (w1.setCell ⟨A.q, 3, none⟩ lv') A { A with lv := lv', X := X' } C S { C with L := L' } (dirtyN L' - dirtyN C.L) := by
  have ha := h.own
  have hap := h.apart
  have hlt := h.lt
  have hq : A.q < w.heap.size := (Array.getElem?_eq_some_iff.1 h.blk).1
  have hb : ∀ i, i < w.heap.size → A.lv.ownBlock ≠ some i → w1.heap[i]? = w.heap[i]? := fun i h1 h2 => hk.block i h1 (by simpa using h2)
  have hq1 : w1.heap[A.q]? = w.heap[A.q]? := hb _ hq ha.2.1
  have ho : ∀ i, i ≠ A.q → (w1.setCell ⟨A.q, 3, none⟩ lv').heap[i]? = w1.heap[i]? := fun i hi => Below.heap_setCell _ _ _ _ hi
  have hlq : ∀ g, lv'.ownBlock = some g → g ≠ A.q := fun g e e2 => by
    rcases hat g e with h1 | h1
    · exact ha.2.1 (by rw [← e2]; exact h1)
    · omega
  have hxq : ∀ x ∈ X', ∀ g, x.v.ownBlock = some g → g ≠ A.q := fun x hx g e e2 => by
    rcases hX x hx with h1 | h1
    · exact ha.2.2.1 x h1 (by rw [← e2]; exact e)
    · have := row_base h1 e; omega
  have hnr : ∀ g, A.nv.ownBlock = some g → A.lv.ownBlock ≠ some g := fun g e e2 => (ha.2.2.2 g e2).1 e
  refine ⟨hq1, ⟨by rw [K.blk_set (hq1.trans h.blk)]; rfl, h.rr.same (fun i hi => (ho i (fun e => hap A.q (mem_qcfp.2 (.inl rfl)) (by rw [← e]; exact hi))).trans (hb i (h.rr.lt i hi) (fun e => hap i (mem_qcfp.2 (.inr (.inr (.inl e)))) hi))), K.ownsRow_block h.nr (fun g e => (ho g (fun e2 => ha.1 (by rw [← e2]; exact e))).trans (hb g (K.row_lt h.nr g e).1 (hnr g e))), K.ownsRow_block hrow (fun g e => ho g (hlq g e)), ?_, ?_, hsim, hok, hsd, ⟨hl, h.lim.2⟩, h.nl, h.nok, h.fs, hnt⟩, ?_, ?_, rfl, rfl, ?_⟩
  · intro x hx
    rcases hX x hx with h1 | h1
    · exact K.ownsRow_block (h.xd x h1) (fun g e => (ho g (hxq x hx g e)).trans (hb g (K.row_lt (h.xd x h1) g e).1 (fun e2 => (ha.2.2.2 g e2).2 x h1 e)))
    · exact owns_mono (K.ownsRow_block h1 (fun g e => ho g (hxq x hx g e))) (Nat.zero_le _)
  · intro x hx g e hm
    rcases hX x hx with h1 | h1
    · exact h.xf x h1 g e hm
    · have := row_base h1 e
      have := h.rr.lt g hm
      omega
  · exact K.Kp.set (hk.sub fun i hi => .inl (List.mem_append_right _ (mem_qcfp.2 (.inr (.inr (.inl (by simpa using hi))))))) (.inl (List.mem_append_right _ (mem_qcfp.2 (.inl rfl)))) _ _
  · intro i hi
    rcases List.mem_append.1 hi with hi | hi
    · exact .inl (List.mem_append_left _ hi)
    · rcases mem_qcfp.1 hi with hi | hi | hi | ⟨x, hx, hi⟩
      · exact .inl (List.mem_append_right _ (mem_qcfp.2 (.inl hi)))
      · exact .inl (List.mem_append_right _ (mem_qcfp.2 (.inr (.inl hi))))
      · exact (hat i hi).imp (fun h1 => List.mem_append_right _ (mem_qcfp.2 (.inr (.inr (.inl h1))))) id
      · rcases hX x hx with h1 | h1
        · exact .inl (List.mem_append_right _ (mem_qcfp.2 (.inr (.inr (.inr ⟨x, h1, hi⟩)))))
        · exact .inr (row_base h1 hi)
  · simp only [Qa.pot]; omega
end
end Go.Proofs.YtlacligofhinmaaGreat.C
