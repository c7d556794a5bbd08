import Derived.Test.YthmonfmpgjbhmaazMI
import Derived.Deep.RegionHeld3
import Derived.Deep.RegionLaw
import Derived.Deep.AppendLies
import Derived.Deep.DrawnRows
namespace Go.Proofs.Ythmonfmpgjbhmaa.K
open Go.RowKit Go.Maps Go.Proofs.Ythmonfmpgjbhmaa
attribute [local go_sem] Oper.semAt_some
set_option linter.unusedVariables false
set_option linter.unusedSimpArgs false
set_option maxRecDepth 100000

/-- the first bytes of a sector are laid -/
def mix (L : List Nat) (o : Nat) (l : Bl) (k : Nat) : List Nat := L.take o ++ l.take k ++ L.drop (o + k)
theorem mix_len {L : List Nat} {o : Nat} {l : Bl} {k : Nat} (hl : l.length = 512) (hk : k ≤ 512) (ho : o + 512 ≤ L.length) : (mix L o l k).length = L.length := by
  unfold mix
  simp [hl]
  omega
theorem mix_zero (L : List Nat) (o : Nat) (l : Bl) : mix L o l 0 = L := by simp [mix]
theorem mix_get {L : List Nat} {o : Nat} {l : Bl} {k : Nat} (hl : l.length = 512) (hk : k ≤ 512) (ho : o + 512 ≤ L.length) (j : Nat) : (mix L o l k)[j]? = if o ≤ j ∧ j < o + k then l[j - o]? else L[j]? := by
  unfold mix
  rw [List.append_assoc]
  have e1 : (L.take o).length = o := by simp; omega
  have e2 : (l.take k).length = k := by simp; omega
  by_cases h1 : j < o
  · rw [List.getElem?_append_left (by rw [e1]; exact h1), List.getElem?_take, if_pos h1, if_neg (by omega)]
  · rw [List.getElem?_append_right (by rw [e1]; omega), e1]
    by_cases h2 : j - o < k
    · rw [List.getElem?_append_left (by rw [e2]; exact h2), List.getElem?_take, if_pos h2, if_pos (by omega)]
    · rw [List.getElem?_append_right (by rw [e2]; omega), e2, List.getElem?_drop, if_neg (by omega), show o + k + (j - o - k) = j by omega]
theorem mix_step {L : List Nat} {o : Nat} {l : Bl} {k x : Nat} (hx : l[k]? = some x) (hl : l.length = 512) (ho : o + 512 ≤ L.length) : (mix L o l k).set (o + k) x = mix L o l (k + 1) := by
  have hk : k < 512 := by have := (List.getElem?_eq_some_iff.1 hx).1; omega
  apply List.ext_getElem?
  intro j
  rw [List.getElem?_set, mix_get hl (by omega) ho, mix_get hl (by omega) ho, mix_len hl (by omega) ho]
  by_cases h1 : o + k = j
  · rw [if_pos h1, if_pos (by omega), if_pos (by omega), ← h1, show o + k - o = k by omega, hx]
  · rw [if_neg h1]
    by_cases h2 : o ≤ j ∧ j < o + k
    · rw [if_pos h2, if_pos (by omega)]
    · rw [if_neg h2, if_neg (by omega)]
theorem mix_all {L : List Nat} {o : Nat} {l : Bl} (hl : l.length = 512) : mix L o l 512 = L.take o ++ l ++ L.drop (o + 512) := by
  unfold mix
  rw [List.take_of_length_le (l := l) (by omega)]
theorem map_set_bv (l : List Nat) (i x : Nat) : (l.map bv).toArray.setIfInBounds i (.int .u8 (x : Int)) = ((l.set i x).map bv).toArray := by
  rw [List.setIfInBounds_toArray]
  congr 1
  rw [List.map_set]
  rfl
/-- the safe bytes by the first writes -/
def safeTo (D : List Pv) (i : Nat) (s : Nat) : Bl := (lastQ s ((D.take i).map bare)).getD z512
theorem safeTo_succ {D : List Pv} {i : Nat} {x : Pv} (h : D[i]? = some x) : safeTo D (i + 1) = upd (safeTo D i) x.1 x.2.2 := by
  funext s
  unfold safeTo upd
  rw [List.take_add_one, h, List.map_append, lastQ_append]
  simp only [Option.toList_some, List.map_cons, List.map_nil, lastQ, bare]
  by_cases e : s = x.1
  · rw [if_pos e, if_pos e.symm]; rfl
  · rw [if_neg e, if_neg (fun h => e h.symm)]; rfl
theorem safeTo_len {D : List Pv} {n : Nat} (h : ∀ x ∈ D, x.1 < n ∧ OkB x.2.2) (i s : Nat) : (safeTo D i s).length = 512 := by
  unfold safeTo
  cases hl : lastQ s ((D.take i).map bare) with
  | none => exact okZ.len
  | some l =>
    obtain ⟨j, hj, _⟩ := lastQ_some hl
    rw [List.getElem?_map] at hj
    obtain ⟨x, hx, e⟩ := Option.map_eq_some_iff.1 hj
    have h2 := (h x (List.mem_of_mem_take (List.mem_of_getElem? hx))).2
    simp [bare] at e
    rw [Option.getD_some, ← e.2]; exact h2.len
section
variable {w : World} {p : Nat} {dv qv av : Value} {D Q : List Pv} {S : Dk}
set_option maxHeartbeats 8000000 in
theorem rImage_any (h : RR w p dv qv av D Q S) (hl : D.length ≤ 1048576) :
    Calls Try.prog 79 #[.pointer (some ⟨p, 0, none⟩)] w fun r w' => ∃ v, r = .returned v ∧ w'.ownsRow w.heap.size 5 1 v (S.n * 512) ((imgL S.n S.safe).map bv) ∧ Below w.heap.size w w' := by
  obtain ⟨n, hn⟩ : ∃ n, n = S.n := ⟨_, rfl⟩
  have HNn : Hid (S.n = n) := hn.symm
  have hn1 : n ≤ 65536 := by rw [hn]; exact h.n1
  have hmk := run_image w hn1
  obtain ⟨W0, hW0⟩ : ∃ W0, W0 = w.alloc (.cells ((imgL n (fun _ => z512)).map bv).toArray 5) := ⟨_, rfl⟩
  have hB0 : Below w.heap.size w W0 := by rw [hW0]; exact (Below.refl _ w).alloc (Nat.le_refl _) _
  have hbb : W0.heap[w.heap.size]? = some (.cells ((imgL n (safeTo D 0)).map bv).toArray 5) := by
    rw [hW0]
    exact heap_alloc_new w _
  rw [← hW0] at hmk
  have c0 : w.cell? ⟨p, 0, none⟩ = some (.int .i64 n) := by rw [hn]; exact h.c 0
  obtain ⟨ddo, ddc, rfl⟩ := own_slice h.dr
  obtain ⟨dn, hdn⟩ : ∃ dn, dn = D.length := ⟨_, rfl⟩
  have HDn : Hid (D.length = dn) := hdn.symm
  rw [← hdn] at hl
  have HH : Hid (∀ W, Below w.heap.size w W → RR W p (.slice ddo dn ddc) qv av D Q S) := fun W hW => by have h1 := h.later hW; rw [← hdn] at h1; exact h1
  have c1 : W0.cell? ⟨p, 1, none⟩ = some (.slice none 0 0) := (HH.out W0 hB0).c 1
  have HB0 : Hid (Below w.heap.size w W0) := hB0
  have HBB : Hid (W0.heap[w.heap.size]? = some (.cells ((imgL n (safeTo D 0)).map bv).toArray 5)) := hbb
  rw [← hn]
  clear h hn hW0 hB0 hbb hdn
  go_enter Try.func79, Try.ntmps79
  go_wp2
  go_loopw [4] (fun c wr => c = .int .i64 0 ∧ Hid (wr = W0)) (fun _ _ => 0)
  case atStart => exact ⟨rfl, rfl⟩
  case round =>
    obtain ⟨rfl, HW⟩ := hrel
    have hw := HW.out
    subst hw
    go_wp2
    go_loopw [5] (fun c wr => ∃ i : Nat, i ≤ dn ∧ c = .int .i64 i ∧ Hid (Below w.heap.size w wr) ∧ Hid (wr.heap[w.heap.size]? = some (.cells ((imgL n (safeTo D i)).map bv).toArray 5))) (fun c _ => dn - (intOf c).toNat)
    case atStart => exact ⟨0, Nat.zero_le _, rfl, HB0, HBB⟩
    case round =>
      obtain ⟨Wo, hWo⟩ : ∃ Wo, Wo = wr := ⟨_, rfl⟩
      subst hWo
      obtain ⟨i, hi, rfl, HB, HI⟩ := hrel
      have hrr := HH.out Wo HB.out
      have c2 : Wo.cell? ⟨p, 2, none⟩ = some (.slice ddo dn ddc) := hrr.c 2
      have hok : ∀ x ∈ D, x.1 < n ∧ OkB x.2.2 := fun x hx => by have h1 := hrr.ok x (by simp [hx]); rw [HNn.out] at h1; exact h1
      by_cases hlt : i < dn
      · obtain ⟨x, hx⟩ : ∃ x, D[i]? = some x := ⟨_, List.getElem?_eq_getElem (by have := HDn.out; omega)⟩
        obtain ⟨s, v, bl⟩ := x
        have hxm : (s, v, bl) ∈ D := List.mem_of_getElem? hx
        obtain ⟨hsn, hbl⟩ := hok _ hxm
        simp only at hsn hbl
        have hdat := hrr.dat (s, v, bl) (by simp [hxm])
        obtain ⟨gv, vc, curv, hv, _, hgv, hcv⟩ := own_form hdat (by decide)
        simp only at hv
        subst hv
        obtain ⟨gd, hgd⟩ : ∃ gd, ddo = some ⟨gd, 0, none⟩ := by
          rcases hrr.dr.2 with ⟨e, h0⟩ | ⟨g, cap', cur, e, _⟩
          · rw [HDn.out] at h0; omega
          · simp at e; exact ⟨g, e.1⟩
        subst hgd
        obtain ⟨q0, q1⟩ := qrow_at (by have h1 := hrr.dr; rw [HDn.out] at h1; exact h1 : Wo.ownsRow 0 TPt 2 (.slice (some ⟨gd, 0, none⟩) dn ddc) dn (qcells D)) hx HDn.out
        simp only at q0 q1
        have hlen : ∀ t, t < n → (safeTo D i t).length = 512 := fun t _ => safeTo_len hok i t
        have hil : (imgL n (safeTo D i)).length = n * 512 := imgL_len hlen
        have hso : s * 512 + 512 ≤ (imgL n (safeTo D i)).length := by rw [hil]; omega
        have HSo : Hid (s * 512 + 512 ≤ (imgL n (safeTo D i)).length ∧ (imgL n (safeTo D i)).length = n * 512) := ⟨hso, hil⟩
        have HBl : Hid (OkB bl) := hbl
        have HSn : Hid (s < n) := hsn
        have HNext : Hid (((mix (imgL n (safeTo D i)) (s * 512) bl 512).map bv).toArray = ((imgL n (safeTo D (i + 1))).map bv).toArray) := by
          show _ = _
          rw [mix_all hbl.len, imgL_put hlen hsn hbl.len, safeTo_succ hx]
        have hgvl : gv < Wo.heap.size := (Array.getElem?_eq_some_iff.1 hgv).1
        have HV : Hid (∀ W, Below Wo.heap.size Wo W ∨ W.heap[gv]? = Wo.heap[gv]? → ∀ (j y : Nat), bl[j]? = some y → W.cell? ⟨gv, j, none⟩ = some (.int .u8 y)) := fun W hW j y hy => by
          have h1 : W.heap[gv]? = Wo.heap[gv]? := by
            rcases hW with hW | hW
            · exact hW.block gv hgvl
            · exact hW
          rw [cell_of (h1.trans hgv)]
          exact hcv j y hy
        obtain ⟨W1, hW1⟩ : ∃ W1, W1 = Wo.alloc (.cells #[.int .i64 s, .slice (some ⟨gv, 0, none⟩) 512 vc] TPt) := ⟨_, rfl⟩
        have hB1 : Below Wo.heap.size Wo W1 := by rw [hW1]; exact (Below.refl _ Wo).alloc (Nat.le_refl _) _
        have hbbl : w.heap.size < Wo.heap.size := (Array.getElem?_eq_some_iff.1 HI.out).1
        have HS1 : Hid (Below w.heap.size w W1 ∧ W1.heap[w.heap.size]? = some (.cells ((mix (imgL n (safeTo D i)) (s * 512) bl 0).map bv).toArray 5) ∧ W1.heap[Wo.heap.size]? = some (.cells #[.int .i64 s, .slice (some ⟨gv, 0, none⟩) 512 vc] TPt) ∧ W1.heap[gv]? = Wo.heap[gv]?) := by
          refine ⟨HB.out.trans (hB1.mono HB.out.size), ?_, by rw [hW1]; exact heap_alloc_new Wo _, hB1.block gv hgvl⟩
          rw [mix_zero]
          exact (hB1.block _ hbbl).trans HI.out
        have HGB : Hid (gv ≠ w.heap.size ∧ w.heap.size < Wo.heap.size ∧ gv < Wo.heap.size) := ⟨fun e => by
          have h1 := row_lt (hrr.dat (s, .slice (some ⟨gv, 0, none⟩) 512 vc, bl) (by simp [hxm])) gv rfl
          have h2 := (row_lt ((HH.out w (Below.refl _ _)).dat (s, .slice (some ⟨gv, 0, none⟩) 512 vc, bl) (by simp [hxm])) gv rfl).1
          omega, hbbl, hgvl⟩
        clear hrr hok hx hxm hsn hbl hdat hgv hcv hlen hil hso hB1
        go_wp2
        rw [← hW1]
        clear hW1
        go_loopw [7] (fun c wr2 => ∃ k : Nat, k ≤ 512 ∧ c = .int .i64 k ∧ Hid (Below w.heap.size w wr2 ∧ wr2.heap[w.heap.size]? = some (.cells ((mix (imgL n (safeTo D i)) (s * 512) bl k).map bv).toArray 5) ∧ wr2.heap[Wo.heap.size]? = some (.cells #[.int .i64 s, .slice (some ⟨gv, 0, none⟩) 512 vc] TPt) ∧ wr2.heap[gv]? = Wo.heap[gv]?)) (fun c _ => 512 - (intOf c).toNat)
        case atStart => exact ⟨0, by decide, rfl, HS1⟩
        case round =>
          obtain ⟨k, hk, rfl, HR⟩ := hrel
          by_cases hk5 : k < 512
          · obtain ⟨x, hx⟩ : ∃ x, bl[k]? = some x := ⟨_, List.getElem?_eq_getElem (by rw [HBl.out.len]; exact hk5)⟩
            obtain ⟨r1, r2, r3, r4⟩ := HR.out
            have y0 : wr.cell? ⟨Wo.heap.size, 0, none⟩ = some (.int .i64 s) := (cell_of r3).trans rfl
            have y1 : wr.cell? ⟨Wo.heap.size, 1, none⟩ = some (.slice (some ⟨gv, 0, none⟩) 512 vc) := (cell_of r3).trans rfl
            have dk : wr.cell? ⟨gv, k, none⟩ = some (.int .u8 x) := HV.out wr (.inr r4) k x hx
            have hml : (mix (imgL n (safeTo D i)) (s * 512) bl k).length = n * 512 := by rw [mix_len HBl.out.len hk HSo.out.1, HSo.out.2]
            obtain ⟨old, hold⟩ : ∃ old, wr.cell? ⟨w.heap.size, s * 512 + k, none⟩ = some old := by
              rw [cell_of r2]
              have := HSn.out
              exact ⟨_, Array.getElem?_eq_getElem (by simp [hml]; omega)⟩
            have fz : wr.frozen? ⟨w.heap.size, s * 512 + k, none⟩ = false := frozen_of r2
            have e1 : ¬ w.heap.size = Wo.heap.size := by have := HGB.out.2.1; omega
            have e2 : ¬ Wo.heap.size = w.heap.size := by omega
            have e3 : ¬ w.heap.size = gv := fun e => HGB.out.1 e.symm
            have e4 : ¬ gv = w.heap.size := HGB.out.1
            have n6 : s ≤ 65536 := by have := HSn.out; omega
            have n1 : IntKind.i64.wrap ((s : Int) * 512) = (s : Int) * 512 := wrap_id (by omega) (by omega)
            have n7 : IntKind.i64.wrap ((s : Int) * 512 + (k : Int)) = (s : Int) * 512 + (k : Int) := wrap_id (by omega) (by omega)
            have n8 : (s : Int) * 512 + (k : Int) < ((n * 512 : Nat) : Int) := by have := HSn.out; omega
            have n2 : ((s : Int) * 512 + (k : Int)) < (n : Int) * 512 := by have := HSn.out; omega
            have n3 : (0 : Int) ≤ (s : Int) * 512 + (k : Int) := by omega
            have n4 : ((s : Int) * 512 + (k : Int)).toNat = s * 512 + k := by omega
            have n5 : s * 512 + k < n * 512 := by have := HSn.out; omega
            have HNx : Hid (Below w.heap.size w (wr.setCell ⟨w.heap.size, s * 512 + k, none⟩ (.int .u8 x)).drew ∧ (wr.setCell ⟨w.heap.size, s * 512 + k, none⟩ (.int .u8 x)).drew.heap[w.heap.size]? = some (.cells ((mix (imgL n (safeTo D i)) (s * 512) bl (k + 1)).map bv).toArray 5) ∧ (wr.setCell ⟨w.heap.size, s * 512 + k, none⟩ (.int .u8 x)).drew.heap[Wo.heap.size]? = some (.cells #[.int .i64 s, .slice (some ⟨gv, 0, none⟩) 512 vc] TPt) ∧ (wr.setCell ⟨w.heap.size, s * 512 + k, none⟩ (.int .u8 x)).drew.heap[gv]? = Wo.heap[gv]?) := by
              have hb := blk_set r2 (s * 512 + k) (.int .u8 x)
              rw [map_set_bv, mix_step hx HBl.out.len HSo.out.1] at hb
              refine ⟨⟨r1.os, r1.tape, r1.output, by show _ ≤ (wr.setCell _ _).heap.size; simpa using r1.size, fun j hj => ?_⟩, hb, ?_, ?_⟩
              · exact (Below.heap_setCell _ _ _ _ (by show j ≠ w.heap.size; omega)).trans (r1.block j hj)
              · exact (Below.heap_setCell _ _ _ _ (by show Wo.heap.size ≠ w.heap.size; omega)).trans r3
              · exact (Below.heap_setCell _ _ _ _ (by show gv ≠ w.heap.size; omega)).trans r4
            clear r1 r2 r3 r4 hx hml
            go_wp2
            go_region_held3 (fun w' => w'.cell? ⟨Wo.heap.size, 0, none⟩ = some (.int .i64 s) ∧ w'.cell? ⟨Wo.heap.size, 1, none⟩ = some (.slice (some ⟨gv, 0, none⟩) 512 vc) ∧ w'.cell? ⟨gv, k, none⟩ = some (.int .u8 x)) (first | go_keep) (fail)
            go_wp2
            go_roundw
            case rel => exact ⟨k + 1, by omega, by go_num, HNx⟩
            case measure => simp [intOf]; omega
          · have hk6 : k = 512 := by omega
            subst hk6
            have HI2 : Hid (wr.heap[w.heap.size]? = some (.cells ((imgL n (safeTo D (i + 1))).map bv).toArray 5)) := by
              have := HR.out.2.1
              rw [HNext.out] at this
              exact this
            have HB2 : Hid (Below w.heap.size w wr) := HR.out.1
            have y1 : wr.cell? ⟨Wo.heap.size, 1, none⟩ = some (.slice (some ⟨gv, 0, none⟩) 512 vc) := (cell_of HR.out.2.2.1).trans rfl
            go_wp2
            go_roundw
            case rel => exact ⟨i + 1, by omega, by go_num, HB2, HI2⟩
            case measure => simp [intOf]; omega
      · have e : i = dn := by omega
        subst e
        have hfin : imgL n (safeTo D i) = imgL n S.safe := imgL_congr fun t ht => by
          rw [hrr.sf t (by rw [HNn.out]; exact ht)]
          unfold safeTo
          rw [List.take_of_length_le (by have := HDn.out; omega)]
        have hl5 : (imgL n S.safe).length = n * 512 := by rw [← hfin]; exact imgL_len (fun t _ => safeTo_len hok i t)
        have HO : Hid (Wo.ownsRow w.heap.size 5 1 (.slice (some ⟨w.heap.size, 0, none⟩) (n * 512) (n * 512)) (n * 512) ((imgL n S.safe).map bv)) := by
          have h1 := HI.out
          rw [hfin] at h1
          refine ⟨by rw [List.length_map, hl5]; omega, .inr ⟨w.heap.size, n * 512, _, rfl, Nat.le_refl _, h1, Nat.le_refl _, by unfold maxLen; omega, by simp [hl5], by rw [List.take_of_length_le (by simp [hl5])]⟩⟩
        clear hrr hok hfin hl5
        go_wp2
        go_ret
        exact ⟨_, rfl, HO.out, HB.out⟩
end
end Go.Proofs.Ythmonfmpgjbhmaa.K
