import Derived.Test.YtefgdhoapmikhaaDoorRtA
import Derived.Test.YtefgdhoapmikhaaDoorRpQ
import Derived.Test.YtefgdhoapmikhaaDoorRpO
import Derived.Deep.RegionHeld3
import Derived.Deep.CutRange
namespace Go.Proofs.YtefgdhoapmikhaaDoor
open Go.RowKit
set_option linter.unusedVariables false
set_option linter.unusedSimpArgs false
set_option maxRecDepth 100000
theorem URow.cell {w : World} {b off : Nat} {l : List Nat} (h : URow w (some ⟨b, off, none⟩) l) (k : Nat) (hk : k < l.length) : w.cell? ⟨b, off + k, none⟩ = some (.int .u32 (l[k] : Int)) := by
  obtain ⟨b', o', e, hc⟩ := h.at_ (by intro h0; rw [h0] at hk; simp at hk)
  simp at e
  obtain ⟨rfl, rfl⟩ := e
  exact hc k hk
theorem LRow.cellT {w : World} {b off : Nat} {L : List Ls} (h : LRow w (some ⟨b, off, none⟩) L) (k : Nat) (hk : k < L.length) : w.cell? ⟨b, off + k, none⟩ = some (.slice L[k].ao L[k].l.length L[k].cap) := by
  obtain ⟨b', o', e, hc⟩ := h.at_ (by intro h0; rw [h0] at hk; simp at hk)
  simp at e
  obtain ⟨rfl, rfl⟩ := e
  exact hc k hk
theorem RuRow.take1 {w : World} {ao : Option Addr} {l : List Rn} (h : RuRow w ao l) : RuRow w ao (l.take 1) := by
  refine ⟨fun x hx => h.ok x (List.mem_of_mem_take hx), by rw [List.length_take]; have := h.len; omega, fun hne => ?_⟩
  obtain ⟨b, off, e, hc⟩ := h.at_ (fun h0 => hne (by rw [h0]; rfl))
  refine ⟨b, off, e, fun k hk j hj => ?_⟩
  rw [List.length_take] at hk
  have := hc k (by omega) j hj
  rw [List.getElem_take]; exact this
/-- what is told of a list: all its runs, or the first one -/
def tell1 (one : Bool) (l : List Rn) : List Rn := if one = true then l.take 1 else l
theorem tell1_row {w : World} {ao : Option Addr} {l : List Rn} (one : Bool) (h : RuRow w ao l) : RuRow w ao (tell1 one l) := by
  unfold tell1; split
  · exact h.take1
  · exact h
theorem tell1_len (one : Bool) {l : List Rn} (h : 0 < l.length) : 0 < (tell1 one l).length ∧ (tell1 one l).length ≤ l.length := by
  unfold tell1; split
  · rw [List.length_take]; omega
  · omega
theorem tell1_nr (one wide : Bool) {l : List Rn} (h : nrP wide l) : nrP wide (tell1 one l) := by
  unfold tell1; split
  · exact fun x hx => h x (List.mem_of_mem_take hx)
  · exact h
def stS (one ex : Bool) (ck eo : Nat) (x : Ls) (u : Nat) : Say := (0, if ex = true then 6 else 5, ck, eo, stL ex u (tell1 one x.l))
set_option maxHeartbeats 4000000 in
theorem status_some (ix : Int) (st ex : Bool) (ub uo cc : Nat) (fl ty ck off len : Nat) (d : Value) (cd : Nat) (pl : Bool) (at_ : Nat) (po : Option Addr) (pn pc : Nat) (lb lo n lc : Nat) (w : World) (one : Bool) (L : List Ls) (U : List Nat) (Z : List Say) (h : LRow w (some ⟨lb, lo, none⟩) L) (hu : URow w (some ⟨ub, uo, none⟩) U) (HN : Hid (L.length = n)) (HU : Hid (U.length = n)) (hfl : bits .and .u16 (fl : Int) 8 = if one = true then 8 else 0) (eo : Nat) (heo : (eo : Int) = if ex = true then (off : Int) else 0)
    (HF : Hid (∀ x ∈ L, 0 < x.l.length ∧ nrP ex x.l)) (HZ : Hid (Z.length = n ∧ ∀ (k : Nat) (x : Ls) (u : Nat), L[k]? = some x → U[k]? = some u → Z[k]? = some (stS one ex ck eo x u))) :
    Calls Tryd.prog 72 #[.agg #[.int .i64 ix, .bool st, .bool ex, .slice (some ⟨ub, uo, none⟩) n cc, .int .u16 (fl : Int), .int .u16 (ty : Int), .int .u64 (ck : Int), .int .u64 (off : Int), .int .u64 (len : Int), d, .int .u32 (cd : Int), .bool pl, .int .u64 (at_ : Int), .slice po pn pc, .slice (some ⟨lb, lo, none⟩) n lc]] w fun e w' => ∃ v K, e = .returned v ∧ Cks w w' v K ∧ K.map Ck.say = Z ∧ Below w.heap.size w w' := by
  have hn : n ≤ 1048576 := HN.out ▸ h.len
  obtain ⟨i0, hi, hz0, hz1, hz2⟩ := info_parts infoCk
  have HR : Hid (LRow w (some ⟨lb, lo, none⟩) L) := h
  have HUr : Hid (URow w (some ⟨ub, uo, none⟩) U) := hu
  have HEO : Hid ((eo : Int) = if ex = true then (off : Int) else 0) := heo
  obtain ⟨kd, hkd⟩ : ∃ kd : Nat, kd = if ex = true then 6 else 5 := ⟨_, rfl⟩
  have HKd : Hid _ := hkd
  have hkl : kd < 65536 := by rw [hkd]; split <;> omega
  clear h hu heo hkd
  go_enter Tryd.func72, Tryd.ntmps72
  go_upto_if 11 with fail
  have hx := mkb1 w #[.int .i64 ix, .bool st, .bool ex, .slice (some ⟨ub, uo, none⟩) n cc, .int .u16 (fl : Int), .int .u16 (ty : Int), .int .u64 (ck : Int), .int .u64 (off : Int), .int .u64 (len : Int), d, .int .u32 (cd : Int), .bool pl, .int .u64 (at_ : Int), .slice po pn pc, .slice (some ⟨lb, lo, none⟩) n lc] 105
  generalize w.alloc (Obj.cells #[.int .i64 ix, .bool st, .bool ex, .slice (some ⟨ub, uo, none⟩) n cc, .int .u16 (fl : Int), .int .u16 (ty : Int), .int .u64 (ck : Int), .int .u64 (off : Int), .int .u64 (len : Int), d, .int .u32 (cd : Int), .bool pl, .int .u64 (at_ : Int), .slice po pn pc, .slice (some ⟨lb, lo, none⟩) n lc] 105) = W0 at *
  have HX : Hid (Bx1 w W0 #[.int .i64 ix, .bool st, .bool ex, .slice (some ⟨ub, uo, none⟩) n cc, .int .u16 (fl : Int), .int .u16 (ty : Int), .int .u64 (ck : Int), .int .u64 (off : Int), .int .u64 (len : Int), d, .int .u32 (cd : Int), .bool pl, .int .u64 (at_ : Int), .slice po pn pc, .slice (some ⟨lb, lo, none⟩) n lc] 105 ∧ Cks w W0 (.slice none 0 0) []) := ⟨hx, (Cks.nil w).later hx.bel⟩
  clear hx
  go_cut [3] (fun v wc => v = .int .u16 (kd : Int) ∧ wc = W0)
  case first =>
    rcases ex with _ | _
    · obtain rfl : kd = 5 := HKd.out
      go_wp2
      go_meet
      exact ⟨rfl, rfl⟩
    · obtain rfl : kd = 6 := HKd.out
      go_wp2
      go_meet
      exact ⟨rfl, rfl⟩
  case rest =>
    obtain ⟨rfl, rfl⟩ := hcut
    have zb14 : wc.cell? ⟨w.heap.size, 14, none⟩ = some (.slice (some ⟨lb, lo, none⟩) n lc) := by rw [blk_at HX.out.1.a]; rfl
    go_wp2
    clear zb14
    go_loopw [4, 16] (fun v i wr => ∃ (k : Nat) (vo : Option Addr) (vc : Nat) (K : List Ck), k ≤ n ∧ i = .int .i64 (k : Int) ∧ v = .slice vo k vc ∧ Hid (K.length = k ∧ Bx1 w wr #[.int .i64 ix, .bool st, .bool ex, .slice (some ⟨ub, uo, none⟩) n cc, .int .u16 (fl : Int), .int .u16 (ty : Int), .int .u64 (ck : Int), .int .u64 (off : Int), .int .u64 (len : Int), d, .int .u32 (cd : Int), .bool pl, .int .u64 (at_ : Int), .slice po pn pc, .slice (some ⟨lb, lo, none⟩) n lc] 105 ∧ Cks w wr (.slice vo k vc) K ∧ K.map Ck.say = Z.take k)) (fun _ i _ => n - (intOf i).toNat)
    case atStart => exact ⟨0, none, 0, [], Nat.zero_le _, rfl, rfl, rfl, HX.out.1, HX.out.2, rfl⟩
    case round =>
      obtain ⟨k, vo, vc, K, hk, rfl, rfl, HK⟩ := hrel
      clear HX
      by_cases hlt : k < n
      · have hkl2 : k < L.length := by rw [HN.out]; exact hlt
        have hkz : (k : Int) < (n : Int) := by omega
        have hkn : ¬ (k : Int) < 0 := by omega
        have hku : k < U.length := by rw [HU.out]; exact hlt
        have hrow : LRow wr (some ⟨lb, lo, none⟩) L := HR.out.later HK.out.2.1.bel
        have hur : URow wr (some ⟨ub, uo, none⟩) U := HUr.out.later HK.out.2.1.bel
        have g0 := hrow.cellT k hkl2
        have g1 := hur.cell k hku
        have hmem := List.getElem_mem hkl2
        have hx := hrow.row _ hmem
        have hf := HF.out _ hmem
        have hul := hur.ok _ (List.getElem_mem hku)
        have HS : Hid (Z[k]? = some (stS one ex ck eo L[k] U[k])) := HZ.out.2 k _ _ (List.getElem?_eq_getElem hkl2) (List.getElem?_eq_getElem hku)
        generalize L[k] = x at *
        generalize U[k] = u at *
        obtain ⟨xa, xc, xl⟩ := x
        simp only at g0 hx hf HS
        obtain ⟨b, po2, hxa, _⟩ := hx.1.at_ (fun h0 => by rw [h0] at hf; simp at hf)
        subst hxa
        obtain ⟨m, hm⟩ : ∃ m, (tell1 one xl).length = m := ⟨_, rfl⟩
        obtain ⟨m0, hm0⟩ : ∃ m0, xl.length = m0 := ⟨_, rfl⟩
        have htl := tell1_len one hf.1
        have HP : Hid (∀ W, Below wr.heap.size wr W → Calls Tryd.prog 100 #[.agg #[.int .u32 (u : Int), .slice (some ⟨b, po2, none⟩) m xc], .bool ex] W fun e w' => ∃ ao cap, e = .returned (.tuple #[.slice ao (stL ex u (tell1 one xl)).length cap, .int .i64 0]) ∧ Row W w' ao cap (stL ex u (tell1 one xl))) := fun W hb => packStatus u b po2 xc m ex (tell1 one xl) W ((tell1_row one hx.1).later hb) hm (by omega) (tell1_nr one ex hf.2) hul
        have HM1 : Hid (m = if one = true then 1 else m0) := by
          show _ = _
          rw [← hm, ← hm0]; unfold tell1; split
          · rw [List.length_take]; omega
          · rfl
        rw [hm0] at g0
        have hxc : m0 ≤ xc ∧ xc ≤ 9223372036854775807 := ⟨by have := hx.2.1; omega, hx.2.2⟩
        have hm1 : 1 ≤ m0 := by omega
        have hDL : ∃ dl, dl = stL ex u (tell1 one xl) := ⟨_, rfl⟩
        obtain ⟨dl, hdl⟩ := hDL
        rw [← hdl] at HP
        have HDL : Hid (Z[k]? = some (0, kd, ck, eo, dl)) := by
          show _ = _
          rw [HS.out, hdl]; simp only [stS, HKd.out]
        have HT : Hid (Z.take (k + 1) = Z.take k ++ [(0, kd, ck, eo, dl)]) := by
          show _ = _
          rw [List.take_add_one, HDL.out]; rfl
        clear hrow hur hx hf htl hm hm0 HS hdl HDL hmem
        have za4 : wr.cell? ⟨w.heap.size, 4, none⟩ = some (.int .u16 (fl : Int)) := by rw [blk_at HK.out.2.1.a]; rfl
        go_upto_if 25 with fail
        go_cut [6] from 17 to 50 (fun v wc => v = .slice (some ⟨b, po2, none⟩) m xc ∧ wc = wr)
        case first =>
          rcases one with _ | _
          · obtain rfl : m = m0 := HM1.out
            have hfl2 : bits .and .u16 (fl : Int) 8 = 0 := hfl
            go_wp2
            go_meet
            exact ⟨rfl, rfl⟩
          · obtain rfl : m = 1 := HM1.out
            have hfl2 : bits .and .u16 (fl : Int) 8 = 8 := hfl
            have hc1 : (1 : Int) ≤ (xc : Int) := by omega
            have hc2 : 1 ≤ xc := by omega
            go_wp2
            go_meet
            exact ⟨rfl, rfl⟩
        case rest =>
          obtain ⟨rfl, rfl⟩ := hcut
          clear za4 g0
          have hs5 : ∀ W, Below wc.heap.size wc W → (W.cell? ⟨w.heap.size, 2, none⟩ = some (.bool ex) ∧ W.cell? ⟨w.heap.size, 3, none⟩ = some (.slice (some ⟨ub, uo, none⟩) n cc) ∧ W.cell? ⟨ub, uo + k, none⟩ = some (.int .u32 (u : Int))) := fun W hb => ⟨cell_later hb (by rw [blk_at HK.out.2.1.a]; rfl), cell_later hb (by rw [blk_at HK.out.2.1.a]; rfl), cell_later hb g1⟩
          have HS5 : Hid _ := hs5
          have hs0 := hs5 wc.drew (below_drewN _ 1)
          have HPd : Hid _ := HP.out wc.drew (below_drewN _ 1)
          clear hs5 g1
          go_wp2
          go_region_held3 (fun w' => w'.cell? ⟨w.heap.size, 2, none⟩ = some (.bool ex) ∧ w'.cell? ⟨w.heap.size, 3, none⟩ = some (.slice (some ⟨ub, uo, none⟩) n cc) ∧ w'.cell? ⟨ub, uo + k, none⟩ = some (.int .u32 (u : Int))) (first | exact hs0 | exact hs6 | go_keep) (first
            | (go_at_call 100; refine Calls.mono HPd.out ?_; rintro e W6 ⟨ao2, cap2, rfl, hr⟩; have hb6 : Below wc.heap.size wc W6 := (below_drewN wc 1).trans hr.bel; have hs6 := HS5.out W6 hb6; have H6 : Hid (Bx1 w W6 #[.int .i64 ix, .bool st, .bool ex, .slice (some ⟨ub, uo, none⟩) n cc, .int .u16 (fl : Int), .int .u16 (ty : Int), .int .u64 (ck : Int), .int .u64 (off : Int), .int .u64 (len : Int), d, .int .u32 (cd : Int), .bool pl, .int .u64 (at_ : Int), .slice po pn pc, .slice (some ⟨lb, lo, none⟩) n lc] 105 ∧ Cks w W6 (.slice vo k vc) K ∧ W6.ownsRow w.heap.size 5 1 (.slice ao2 dl.length cap2) dl.length (dl.map bv) ∧ ∀ x ∈ dl, x < 256) := ⟨HK.out.2.1.later hb6, HK.out.2.2.1.later hb6, owns_mono hr.own HK.out.2.1.bel.size, hr.lt⟩; clear hr hb6))
          have HCh : Hid (∀ W ao k cap, Calls Tryd.prog 73 #[.agg #[.int .i64 ix, .bool st, .bool ex, .slice (some ⟨ub, uo, none⟩) n cc, .int .u16 (fl : Int), .int .u16 (ty : Int), .int .u64 (ck : Int), .int .u64 (off : Int), .int .u64 (len : Int), d, .int .u32 (cd : Int), .bool pl, .int .u64 (at_ : Int), .slice po pn pc, .slice (some ⟨lb, lo, none⟩) n lc], .int .u16 (kd : Int), .slice ao k cap] W fun e w' => e = .returned (.agg #[.int .u16 0, .int .u16 (kd : Int), .int .u64 (ck : Int), .int .u64 (eo : Int), .slice ao k cap]) ∧ Below W.heap.size W w') := fun W ao k cap => HEO.out ▸ chunk_any ix st ex _ _ cc fl ty ck off len d cd pl at_ po pn pc _ _ lc W kd ao k cap
          have q0 : W6.cell? ⟨w.heap.size, 0, none⟩ = some (.int .i64 ix) := by rw [blk_at H6.out.1.a]; rfl
          have q1 : W6.cell? ⟨w.heap.size, 1, none⟩ = some (.bool st) := by rw [blk_at H6.out.1.a]; rfl
          have q2 : W6.cell? ⟨w.heap.size, 2, none⟩ = some (.bool ex) := by rw [blk_at H6.out.1.a]; rfl
          have q3 : W6.cell? ⟨w.heap.size, 3, none⟩ = some (.slice (some ⟨ub, uo, none⟩) n cc) := by rw [blk_at H6.out.1.a]; rfl
          have q4 : W6.cell? ⟨w.heap.size, 4, none⟩ = some (.int .u16 (fl : Int)) := by rw [blk_at H6.out.1.a]; rfl
          have q5 : W6.cell? ⟨w.heap.size, 5, none⟩ = some (.int .u16 (ty : Int)) := by rw [blk_at H6.out.1.a]; rfl
          have q6 : W6.cell? ⟨w.heap.size, 6, none⟩ = some (.int .u64 (ck : Int)) := by rw [blk_at H6.out.1.a]; rfl
          have q7 : W6.cell? ⟨w.heap.size, 7, none⟩ = some (.int .u64 (off : Int)) := by rw [blk_at H6.out.1.a]; rfl
          have q8 : W6.cell? ⟨w.heap.size, 8, none⟩ = some (.int .u64 (len : Int)) := by rw [blk_at H6.out.1.a]; rfl
          have q9 : W6.cell? ⟨w.heap.size, 9, none⟩ = some (d) := by rw [blk_at H6.out.1.a]; rfl
          have q10 : W6.cell? ⟨w.heap.size, 10, none⟩ = some (.int .u32 (cd : Int)) := by rw [blk_at H6.out.1.a]; rfl
          have q11 : W6.cell? ⟨w.heap.size, 11, none⟩ = some (.bool pl) := by rw [blk_at H6.out.1.a]; rfl
          have q12 : W6.cell? ⟨w.heap.size, 12, none⟩ = some (.int .u64 (at_ : Int)) := by rw [blk_at H6.out.1.a]; rfl
          have q13 : W6.cell? ⟨w.heap.size, 13, none⟩ = some (.slice po pn pc) := by rw [blk_at H6.out.1.a]; rfl
          have q14 : W6.cell? ⟨w.heap.size, 14, none⟩ = some (.slice (some ⟨lb, lo, none⟩) n lc) := by rw [blk_at H6.out.1.a]; rfl
          clear hs0 HS5 HPd HP
          go_wp2_with fail
          refine (HCh.out _ _ _ _).mono ?_
          rintro e W7 ⟨rfl, hr⟩
          have H7 : Hid (Bx1 w W7 #[.int .i64 ix, .bool st, .bool ex, .slice (some ⟨ub, uo, none⟩) n cc, .int .u16 (fl : Int), .int .u16 (ty : Int), .int .u64 (ck : Int), .int .u64 (off : Int), .int .u64 (len : Int), d, .int .u32 (cd : Int), .bool pl, .int .u64 (at_ : Int), .slice po pn pc, .slice (some ⟨lb, lo, none⟩) n lc] 105 ∧ Cks w W7 (.slice vo k vc) K ∧ W7.ownsRow w.heap.size 5 1 (.slice ao2 dl.length cap2) dl.length (dl.map bv) ∧ ∀ x ∈ dl, x < 256) := ⟨H6.out.1.later hr, H6.out.2.1.later hr, owns_same H6.out.2.2.1 (fun g hg => hr.block g (owns_lt H6.out.2.2.1 g hg).1), H6.out.2.2.2⟩
          clear hr H6 HCh q0 q1 q2 q3 q4 q5 q6 q7 q8 q9 q10 q11 q12 q13 q14
          have hA : ∀ vo' vc' W8, W8.ownsRow w.heap.size 70 5 (.slice vo' (k + 1) vc') (k + 1) (K.flatMap Ck.cells ++ (⟨0, kd, ck, eo, ao2, cap2, dl⟩ : Ck).cells) → (W7.alloc (.cells (⟨0, kd, ck, eo, ao2, cap2, dl⟩ : Ck).cells.toArray 70)).grownBy W8 (Value.slice vo k vc).ownBlock → Bx1 w W8 #[.int .i64 ix, .bool st, .bool ex, .slice (some ⟨ub, uo, none⟩) n cc, .int .u16 (fl : Int), .int .u16 (ty : Int), .int .u64 (ck : Int), .int .u64 (off : Int), .int .u64 (len : Int), d, .int .u32 (cd : Int), .bool pl, .int .u64 (at_ : Int), .slice po pn pc, .slice (some ⟨lb, lo, none⟩) n lc] 105 ∧ Cks w W8 (.slice vo' (k + 1) vc') (K ++ [(⟨0, kd, ck, eo, ao2, cap2, dl⟩ : Ck)]) := fun vo' vc' W8 ho hg => push_all H7.out.1 (by decide) H7.out.2.1 HK.out.1 (⟨0, kd, ck, eo, ao2, cap2, dl⟩ : Ck) _ H7.out.2.2.1 H7.out.2.2.2 ho hg
          have HA : Hid _ := hA
          have HO : Hid ((W7.alloc (.cells (⟨0, kd, ck, eo, ao2, cap2, dl⟩ : Ck).cells.toArray 70)).ownsRow w.heap.size 70 5 (.slice vo k vc) k (K.flatMap Ck.cells)) := cks_own (H7.out.2.1.later (below1 W7 _)) HK.out.1
          have hw7 : w.heap.size ≤ (W7.alloc (.cells (⟨0, kd, ck, eo, ao2, cap2, dl⟩ : Ck).cells.toArray 70)).heap.size := Nat.le_trans H7.out.1.bel.size (by simp)
          clear hA
          go_wp2_with (at_builtin; refine wpList_append_lies _ rfl _ _ 50 rfl w.heap.size 70 i0 (.agg #[.int .u16 0, .int .u16 0, .int .u64 0, .int .u64 0, .slice none 0 0]) 5 48 Tryd.underlying50 hi hz0 hz1 hz2 rfl (by decide) (.slice vo k vc) k (K.flatMap Ck.cells) rfl HO.out ⟨W7.heap.size, 0, none⟩ 1 1 (⟨0, kd, ck, eo, ao2, cap2, dl⟩ : Ck).cells rfl rfl (news5 W7 (⟨0, kd, ck, eo, ao2, cap2, dl⟩ : Ck) _) (ck_one _) (by decide) (by unfold maxLen; omega) (by omega) hw7 (W7.heap.size + 1) (by simp) ?_)
          intro g8 cap8 W8 ho8 hg8 _ _
          have H8 : Hid (Bx1 w W8 #[.int .i64 ix, .bool st, .bool ex, .slice (some ⟨ub, uo, none⟩) n cc, .int .u16 (fl : Int), .int .u16 (ty : Int), .int .u64 (ck : Int), .int .u64 (off : Int), .int .u64 (len : Int), d, .int .u32 (cd : Int), .bool pl, .int .u64 (at_ : Int), .slice po pn pc, .slice (some ⟨lb, lo, none⟩) n lc] 105 ∧ Cks w W8 (.slice (some ⟨g8, 0, none⟩) (k + 1) cap8) (K ++ [(⟨0, kd, ck, eo, ao2, cap2, dl⟩ : Ck)])) := HA.out _ _ _ ho8 hg8
          clear ho8 hg8 HA HO H7 hw7
          go_wp2
          go_roundw
          case rel => exact ⟨k + 1, some ⟨g8, 0, none⟩, cap8, K ++ [(⟨0, kd, ck, eo, ao2, cap2, dl⟩ : Ck)], by omega, by go_num, rfl, by simp [HK.out.1], H8.out.1, H8.out.2, by rw [List.map_append, HK.out.2.2.2, HT.out]; rfl⟩
          case measure => simp [intOf]; omega
      · have HT : Hid (Z.take k = Z) := List.take_of_length_le (by rw [HZ.out.1]; omega)
        go_wp2
        go_ret
        exact ⟨_, K, rfl, HK.out.2.2.1, by rw [HK.out.2.2.2, HT.out], HK.out.2.1.bel⟩
end Go.Proofs.YtefgdhoapmikhaaDoor
