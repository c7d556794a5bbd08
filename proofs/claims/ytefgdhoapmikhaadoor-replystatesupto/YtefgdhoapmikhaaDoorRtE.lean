import Derived.Test.YtefgdhoapmikhaaDoorRtCD
import Derived.Test.YtefgdhoapmikhaaDoorRpQ
import Derived.Deep.CutRange
namespace Go.Proofs.YtefgdhoapmikhaaDoor
open Go.RowKit
set_option linter.unusedVariables false
set_option linter.unusedSimpArgs false
set_option maxRecDepth 100000
def hdN (wide : Bool) : Nat := 4 + (if wide = true then 4 else 0)
theorem stH_len (wide : Bool) (cx n : Nat) : (stH wide cx n).length = hdN wide := by unfold stH hdN; split <;> simp [bigTo_length]
theorem rnL_len (wide : Bool) (x : Rn) : (rnL wide x).length = 2 * nsz wide := by simp only [rnL, List.length_append, nL_sz]; omega
theorem rnLs_len (wide : Bool) : ∀ (l : List Rn), (l.flatMap (rnL wide)).length = l.length * (2 * nsz wide)
  | [] => by simp
  | x :: l => by
    rw [List.flatMap_cons, List.length_append, rnLs_len wide l, rnL_len, List.length_cons, Nat.add_mul]; omega
theorem stL_len (wide : Bool) (cx : Nat) (P : List Rn) : (stL wide cx P).length = hdN wide + P.length * (2 * nsz wide) := by rw [stL, List.length_append, stH_len, rnLs_len]
theorem val_nL {l pre tl : List Nat} (x : Nat) (wide : Bool) (a : Nat) (h : l = pre ++ (nL x wide ++ tl)) (ha : pre.length = a) (hx : wide = true ∨ x < 4294967296) (hx2 : x < 18446744073709551616) : valB ((l.drop a).take (nsz wide)) = x := by
  rcases wide with _ | _
  · have hx3 : x < 4294967296 := by simpa using hx
    simp only [nL, Bool.false_eq_true, if_false] at h
    rw [Nat.mod_eq_of_lt hx3] at h
    exact val_of' x 4 a h ha (by omega)
  · simp only [nL, if_true] at h
    exact val_of' x 8 a h ha (by omega)
theorem st_split (wide : Bool) (cx : Nat) (P : List Rn) (k : Nat) (hk : k < P.length) : stL wide cx P = (stH wide cx P.length ++ (P.take k).flatMap (rnL wide)) ++ (nL P[k].ln wide ++ (nL P[k].fl wide ++ (P.drop (k + 1)).flatMap (rnL wide))) := by
  have e : P = P.take k ++ P[k] :: P.drop (k + 1) := by rw [← List.drop_eq_getElem_cons hk, List.take_append_drop]
  have e2 : P.flatMap (rnL wide) = (P.take k).flatMap (rnL wide) ++ (rnL wide P[k] ++ (P.drop (k + 1)).flatMap (rnL wide)) := by
    conv => lhs; rw [e]
    rw [List.flatMap_append, List.flatMap_cons]
  rw [stL, e2]
  simp [rnL]
theorem st_val1 (wide : Bool) (cx : Nat) (P : List Rn) (k : Nat) (hk : k < P.length) (hok : P[k].ok) (hf : nrP wide P) : valB (((stL wide cx P).drop (hdN wide + k * (2 * nsz wide))).take (nsz wide)) = P[k].ln :=
  val_nL P[k].ln wide _ (st_split wide cx P k hk) (by rw [List.length_append, stH_len, rnLs_len, List.length_take]; congr 2; omega) ((hf _ (List.getElem_mem hk)).imp id (·.1)) hok.1
theorem st_val2 (wide : Bool) (cx : Nat) (P : List Rn) (k : Nat) (hk : k < P.length) (hok : P[k].ok) (hf : nrP wide P) : valB (((stL wide cx P).drop ((hdN wide + k * (2 * nsz wide)) + nsz wide)).take (nsz wide)) = P[k].fl := by
  have h := st_split wide cx P k hk
  rw [← List.append_assoc] at h
  exact val_nL P[k].fl wide _ h (by rw [List.length_append, List.length_append, stH_len, rnLs_len, nL_sz, List.length_take]; congr 3; omega) ((hf _ (List.getElem_mem hk)).imp id (·.2)) hok.2
theorem st_head (wide : Bool) (cx : Nat) (P : List Rn) (hcx : cx < 4294967296) : valB (((stL wide cx P).drop 0).take 4) = cx := by
  refine val_of' (pre := []) (tl := (if wide = true then bigTo P.length 4 4 else []) ++ P.flatMap (rnL wide)) cx 4 0 ?_ rfl (by omega)
  simp [stL, stH]
theorem st_count (cx : Nat) (P : List Rn) (hP : P.length < 4294967296) : valB (((stL true cx P).drop (0 + 4)).take 4) = P.length := by
  refine val_of' (pre := bigTo cx 4 4) (tl := P.flatMap (rnL true)) P.length 4 4 ?_ (by simp [bigTo_length]) (by omega)
  simp [stL, stH]
theorem take_rnC (P : List Rn) (k : Nat) (hk : k < P.length) : (P.take (k + 1)) = P.take k ++ [P[k]] := List.take_succ_eq_append_getElem hk
theorem us_row {w W0 W : World} {c r : Nat} {ao : Option Addr} {cap : Nat} {l : List Nat} {at_ ge cx k : Nat} {v : Value} {Q : List Rn} {o : Obj} (h : Us w W0 W c r ao cap l at_ ge cx v Q) (hk : Q.length = k) : (W.alloc o).ownsRow W0.heap.size 87 2 v k (Q.flatMap rnC) := by
  subst hk
  exact (h.later (below1 W o)).row
theorem us_sz {w W0 W : World} {c r : Nat} {ao : Option Addr} {cap : Nat} {l : List Nat} {at_ ge cx : Nat} {v : Value} {Q : List Rn} {o : Obj} (h : Us w W0 W c r ao cap l at_ ge cx v Q) : W0.heap.size ≤ (W.alloc o).heap.size := Nat.le_trans h.bd.bel.size (by simp)
set_option maxHeartbeats 4000000 in
theorem unpackStatus (cx n N : Nat) (wide : Bool) (P : List Rn) (ao : Option Addr) (cap : Nat) (w : World) (hcx : cx < 4294967296) (HN : Hid (P.length = n)) (hn0 : 0 < n) (hn : n ≤ 1048576) (hok : ∀ x ∈ P, x.ok) (hf : nrP wide P) (h : BRow w ao cap (stL wide cx P)) (HNN : Hid ((stL wide cx P).length = N)) :
    Calls Tryd.prog 31 #[.slice ao N cap, .bool wide] w fun e w' => ∃ ra rc, e = .returned (.tuple #[.agg #[.int .u32 (cx : Int), .slice ra n rc], .int .i64 0]) ∧ w'.ownsRow w.heap.size 87 2 (.slice ra n rc) n (P.flatMap rnC) ∧ Below w.heap.size w w' := by
  obtain ⟨i0, hi, hz0, hz1, hz2⟩ := info_parts infoRn
  have HV0 : Hid _ := st_head wide cx P hcx
  have HVn : Hid (wide = true → valB (((stL wide cx P).drop (0 + 4)).take 4) = n) := fun e => by subst e; rw [st_count cx P (by rw [HN.out]; omega)]; exact HN.out
  have HV1 : Hid (∀ k (hk : k < P.length), valB (((stL wide cx P).drop (hdN wide + k * (2 * nsz wide))).take (nsz wide)) = P[k].ln) := fun k hk => st_val1 wide cx P k hk (hok _ (List.getElem_mem hk)) hf
  have HV2 : Hid (∀ k (hk : k < P.length), valB (((stL wide cx P).drop ((hdN wide + k * (2 * nsz wide)) + nsz wide)).take (nsz wide)) = P[k].fl) := fun k hk => st_val2 wide cx P k hk (hok _ (List.getElem_mem hk)) hf
  have HL : Hid ((stL wide cx P).length = hdN wide + n * (2 * nsz wide)) := by show _ = _; rw [stL_len, HN.out]
  have hhd : 4 ≤ hdN wide := by unfold hdN; omega
  have HHd : Hid (wide = true → hdN wide = 8) := fun e => by subst e; rfl
  generalize stL wide cx P = l at *
  have HUp : Hid (∀ W, Below w.heap.size w W → Calls Tryd.prog 51 #[.slice ao N cap] W fun e w' => ∃ c r ao' cap', e = .returned (.pointer (some ⟨c, 0, none⟩)) ∧ Bd W w' c r ao' cap' l 0) := fun W hb => unpack_any ao cap N l W (h.later hb) HNN
  clear h hok hf HNN
  go_enter Tryd.func31, Tryd.ntmps31
  go_wp2_with fail
  have hx := mkb1 w #[.int .u32 0, .slice none 0 0] 90
  generalize w.alloc (Obj.cells #[.int .u32 0, .slice none 0 0] 90) = W0 at *
  refine (HUp.out _ hx.bel).mono ?_
  rintro e W1 ⟨c, r, ao', cap', rfl, hbd⟩
  have HX : Hid (Bx1 w W0 #[.int .u32 0, .slice none 0 0] 90) := hx
  have H1 : Hid (Bd W0 W1 c r ao' cap' l 0) := hbd
  clear hx hbd HUp
  go_wp2_with fail
  refine (bu32 H1.out (by rw [HL.out]; omega)).mono ?_
  rintro e W2 ⟨rfl, hbd, _⟩
  rw [HV0.out]
  have H2 : Hid (Bd W0 W2 c r ao' cap' l (0 + 4)) := hbd
  clear hbd H1 HV0
  go_upto_if 14 with fail
  have hU : Us w W0 (W2.alloc (Obj.cells #[.int .u32 (cx : Int), .slice none 0 0] 90)) c r ao' cap' l (0 + 4) W2.heap.size cx (.slice none 0 0) [] := ⟨H2.out.later (below1 W2 _), heap_new W2 _, World.ownsRow_nil _ _ _ _, H2.out.bel.size⟩
  generalize W2.alloc (Obj.cells #[.int .u32 (cx : Int), .slice none 0 0] 90) = W3 at *
  generalize W2.heap.size = ge at *
  have HU3 : Hid _ := hU
  clear hU H2
  go_cut [8] (fun v wc => ∃ sd : Nat, v = .int .u32 (sd : Int) ∧ Hid ((wide = true → sd = n) ∧ Us w W0 wc c r ao' cap' l (hdN wide) ge cx (.slice none 0 0) []))
  case first =>
    rcases wide with _ | _
    · go_wp2
      go_meet
      exact ⟨0, rfl, fun h => (by cases h), HU3.out⟩
    · go_wp2_with fail
      refine (bu32 HU3.out.bd (by rw [HL.out, HHd.out (by simp)]; omega)).mono ?_
      rintro e W4 ⟨rfl, hbd, hk4⟩
      rw [HVn.out (by simp)]
      have H4 : Hid (Us w W0 W4 c r ao' cap' l (hdN true) ge cx (.slice none 0 0) []) := HU3.out.keep hbd hk4
      clear hbd hk4
      go_wp2
      go_meet
      exact ⟨n, rfl, fun _ => rfl, H4.out⟩
  case rest =>
    obtain ⟨sd, rfl, HU4⟩ := hcut
    clear HU3
    go_wp2_with fail
    go_loopg [] n (fun g wr => ∃ (k : Nat) (vo : Option Addr) (vc : Nat), k ≤ n ∧ g = n - k ∧ Hid (Us w W0 wr c r ao' cap' l (hdN wide + k * (2 * nsz wide)) ge cx (.slice vo k vc) (P.take k)))
    case atStart => exact ⟨0, none, 0, Nat.zero_le _, rfl, by have h9 := HU4.out.2; have e9 : hdN wide + 0 * (2 * nsz wide) = hdN wide := (by omega); show Us w W0 wc c r ao' cap' l (hdN wide + 0 * (2 * nsz wide)) ge cx (.slice none 0 0) []; rw [e9]; exact h9⟩
    case round =>
      obtain ⟨k, vo, vc, hk, rfl, HU⟩ := hrel
      have HWl : Hid _ := well_true HU.out.bd
      go_wp2_with fail
      refine Calls.mono HWl.out ?_
      rintro e W5 ⟨rfl, hw⟩
      rw [hw]; clear hw W5 HWl
      have HLf : Hid _ := bleft HU.out.bd
      rw [HL.out] at HLf
      by_cases hlt : k < n
      · have hkl : k < P.length := by rw [HN.out]; exact hlt
        have hle : (hdN wide + k * (2 * nsz wide)) + 2 * nsz wide ≤ l.length := by
          rw [HL.out]
          have := Nat.mul_le_mul_right (2 * nsz wide) (show k + 1 ≤ n by omega)
          rw [Nat.add_mul] at this
          omega
        have hns : 4 ≤ nsz wide := by unfold nsz; split <;> omega
        have hz : (0 : Int) < ((hdN wide + n * (2 * nsz wide) : Nat) : Int) - (((hdN wide + k * (2 * nsz wide)) : Nat) : Int) := by rw [HL.out] at hle; omega
        generalize ((hdN wide + n * (2 * nsz wide) : Nat) : Int) - (((hdN wide + k * (2 * nsz wide)) : Nat) : Int) = z at *
        go_wp2_with fail
        refine Calls.mono HLf.out ?_
        rintro e W5 ⟨rfl, q5, hw⟩
        have HU5 : Hid (Us w W0 W5 c r ao' cap' l (hdN wide + k * (2 * nsz wide)) ge cx (.slice vo k vc) (P.take k)) := by rw [hw]; exact HU.out.later (below_drewN _ q5)
        clear hw HLf HU
        have HT : Hid (P.take (k + 1) = P.take k ++ [P[k]]) := take_rnC P k hkl
        have hv1 := HV1.out k hkl
        have hv2 := HV2.out k hkl
        have HTl : Hid ((P.take k).length = k) := by show _ = _; rw [List.length_take]; omega
        have HN1 : Hid (Calls Tryd.prog 63 #[.pointer (some ⟨c, 0, none⟩), .bool wide] W5.drew fun e W6 => e = .returned (.int .u64 (P[k].ln : Int)) ∧ W6.cell? ⟨ge, 1, none⟩ = some (.slice vo k vc) ∧ Hid (Us w W0 W6 c r ao' cap' l (hdN wide + k * (2 * nsz wide) + nsz wide) ge cx (.slice vo k vc) (P.take k))) := by
          have hU := HU5.out.later (below_drewN W5 1)
          refine (bnum wide hU.bd (by omega)).mono ?_
          rintro e W6 ⟨rfl, hb, hk6⟩
          have h6 := hU.keep hb hk6
          exact ⟨by rw [hv1], by rw [blk_at h6.bx]; rfl, h6⟩
        have HN2 : Hid (∀ W6, Us w W0 W6 c r ao' cap' l (hdN wide + k * (2 * nsz wide) + nsz wide) ge cx (.slice vo k vc) (P.take k) → Calls Tryd.prog 63 #[.pointer (some ⟨c, 0, none⟩), .bool wide] W6 fun e W7 => e = .returned (.int .u64 (P[k].fl : Int)) ∧ W7.cell? ⟨ge, 1, none⟩ = some (.slice vo k vc) ∧ (∀ o, (W7.alloc o).cell? ⟨ge, 1, none⟩ = some (.slice vo k vc)) ∧ Hid (Us w W0 W7 c r ao' cap' l (hdN wide + k * (2 * nsz wide) + nsz wide + nsz wide) ge cx (.slice vo k vc) (P.take k))) := fun W6 hU => by
          refine (bnum wide hU.bd (by omega)).mono ?_
          rintro e W7 ⟨rfl, hb, hk6⟩
          have h6 := hU.keep hb hk6
          exact ⟨by rw [hv2], by rw [blk_at h6.bx]; rfl, fun o => cell_later (below1 W7 o) (by rw [blk_at h6.bx]; rfl), h6⟩
        have b5 : W5.cell? ⟨ge, 1, none⟩ = some (.slice vo k vc) := by rw [blk_at HU5.out.bx]; rfl
        generalize P[k] = p at *
        obtain ⟨ln, fl⟩ := p
        simp only at HN1 HN2
        have K1 : Hid True := trivial
        have K2 : Hid True := trivial
        clear hv1 hv2 hle HU5
        go_wp2
        go_region_law (first | (go_simp; go_at_call 63; have hk1 := K1; clear hk1 K1; refine Calls.mono HN1.out ?_; rintro e W6 ⟨rfl, m6, HU6⟩; dsimp only) | (go_simp; go_at_call 63; have hk2 := K2; clear hk2 K2; refine Calls.mono (HN2.out W6 HU6.out) ?_; rintro e W7 ⟨rfl, m7, m7a, HU7⟩; dsimp only) | (refine step_append_lies _ (by rfl) _ _ 85 (by rfl) W0.heap.size 87 i0 (.agg #[.int .u64 0, .int .u64 0]) 2 16 Tryd.underlying85 hi hz0 hz1 hz2 rfl (by decide) (.slice vo k vc) k ((P.take k).flatMap rnC) (by rfl) (us_row HU7.out HTl.out) ⟨W7.heap.size, 0, none⟩ 1 1 [.int .u64 (ln : Int), .int .u64 (fl : Int)] (by rfl) rfl (World.news_of_block (heap_alloc_new W7 _)) (by simp [Value.oneCell']) (by decide) (by unfold maxLen; omega) (by omega) (us_sz HU7.out) _ rfl ?_; intro g8 cp8 W8 ho8 hg8 _ _; have hgr := HU7.out.grow ⟨ln, fl⟩ HTl.out ho8 hg8; have z1 : W8.cell? ⟨ge, 1, none⟩ = some (.slice vo k vc) := (blk_at hgr.1 1).trans rfl; have zf : W8.frozen? ⟨ge, 1, none⟩ = false := blk_free hgr.1 1; have HU8 : Hid _ := hgr.2; clear ho8 hg8 hgr))
        all_goals go_wp2
        all_goals go_roundg (n - (k + 1))
        all_goals first
          | omega
          | (refine ⟨k + 1, some ⟨g8, 0, none⟩, cp8, by omega, rfl, ?_⟩
             have h9 := HU8.out
             rw [← HT.out, show hdN wide + k * (2 * nsz wide) + nsz wide + nsz wide = hdN wide + (k + 1) * (2 * nsz wide) by rw [Nat.add_mul]; omega] at h9
             exact h9)
      · obtain rfl : k = n := by omega
        have hz : ((hdN wide + k * (2 * nsz wide) : Nat) : Int) - (((hdN wide + k * (2 * nsz wide)) : Nat) : Int) = 0 := by omega
        rw [hz] at HLf
        go_wp2_with fail
        refine Calls.mono HLf.out ?_
        rintro e W5 ⟨rfl, q5, hw⟩
        have HT : Hid (P.take k = P) := List.take_of_length_le (by rw [HN.out]; omega)
        have HU5 : Hid (Us w W0 W5 c r ao' cap' l (hdN wide + k * (2 * nsz wide)) ge cx (.slice vo k vc) P) := by rw [hw]; have h9 := HU.out.later (below_drewN _ q5); rw [HT.out] at h9; exact h9
        clear hw HLf HU
        have b1 : W5.cell? ⟨ge, 1, none⟩ = some (.slice vo k vc) := by rw [blk_at HU5.out.bx]; rfl
        have hk0 : (0 : Int) < (k : Int) := by omega
        go_wp2_with fail
        refine (need_true c W5).mono ?_
        rintro e W6 ⟨rfl, hw⟩
        rw [hw]; clear hw
        have HWn : Hid (wide = true → sd = k) := HU4.out.1
        clear HU4
        go_upto_region 9 with fail
        go_cut [] (fun wc => wc = W5)
        case first =>
          rcases wide with _ | _
          · go_wp2_with fail
            refine (need_true c W5).mono ?_
            rintro e W6 ⟨rfl, hw⟩
            rw [hw]; clear hw
            go_wp2
            go_meet
            rfl
          · have hsd : sd = k := HWn.out rfl
            subst hsd
            have w1 : IntKind.u64.wrap (sd : Int) = sd := wu64 (by omega) (by omega)
            go_wp2_with fail
            refine (need_true c W5).mono ?_
            rintro e W6 ⟨rfl, hw⟩
            rw [hw]; clear hw
            go_wp2
            go_meet
            rfl
        case rest =>
          subst hcut
          have HBd : Hid (Bd W0 wc c r ao' cap' l l.length) := by
            have h9 := HU5.out.bd
            rw [← HL.out] at h9
            exact h9
          have b0 : wc.cell? ⟨ge, 0, none⟩ = some (.int .u32 (cx : Int)) := by rw [blk_at HU5.out.bx]; rfl
          have HRw : Hid (wc.ownsRow W0.heap.size 87 2 (.slice vo k vc) k (P.flatMap rnC)) := by have h9 := HU5.out.row; rw [HN.out] at h9; exact h9
          go_wp2_with fail
          refine (wholeS (at_ := 0) cx k vo vc HBd.out).mono ?_
          rintro e W9 ⟨rfl, hb9, hb9'⟩
          have H9 : Hid (Bx1 w W9 #[.int .u32 0, .slice none 0 0] 90) := HX.out.later hb9
          have HR9 : Hid (W9.ownsRow W0.heap.size 87 2 (.slice vo k vc) k (P.flatMap rnC)) := owns_sameK HRw.out (fun g hg => hb9'.block g (owns_ltK HRw.out g hg).1)
          have hy := H9.out
          have za0 : W9.cell? ⟨w.heap.size, 0, none⟩ = some (.int .u32 0) := by rw [blk_at hy.a]; rfl
          have za1 : W9.cell? ⟨w.heap.size, 1, none⟩ = some (.slice none 0 0) := by rw [blk_at hy.a]; rfl
          have ya0 : W9.frozen? ⟨w.heap.size, 0, none⟩ = false := blk_free hy.a 0
          have ya1 : W9.frozen? ⟨w.heap.size, 1, none⟩ = false := blk_free hy.a 1
          clear hy hb9 hb9' HBd HRw HU5 b0 b1
          go_wp2
          obtain ⟨hp, hq⟩ := put2 H9.out.a (.int .u32 (cx : Int)) (.slice vo k vc)
          refine bodyPost_ret (results_cell_tmp1 rfl _ _ w.heap.size 90 _ (0, 0) _ rfl hp Tryd.underlying90 rfl infoS) rfl ⟨vo, vc, rfl, ?_, H9.out.bel.trans (hq.below H9.out.bel.size (fun g hg => by omega))⟩
          have hs0 : w.heap.size < W0.heap.size := block_lt HX.out.a
          exact owns_monoK (owns_sameK HR9.out (fun g hg => hq.block g (owns_ltK HR9.out g hg).1 (by have := (owns_ltK HR9.out g hg).2.1; omega))) (Nat.le_of_lt hs0)
end Go.Proofs.YtefgdhoapmikhaaDoor
