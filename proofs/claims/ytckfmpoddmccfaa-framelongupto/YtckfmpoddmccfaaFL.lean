import Derived.Test.YtckfmpoddmccfaaFLm
import Derived.Test.YtckfmpoddmccfaaFH
import Derived.Test.YtckfmpoddmccfaaJG
import Derived.Test.YtckfmpoddmccfaaFJ
namespace Go.Proofs.Ytckfmpoddmccfaa
open Go.RowKit
set_option linter.unusedVariables false
set_option linter.unusedSimpArgs false
set_option maxRecDepth 100000

/-- a list of numbers that was handed in -/
structure IRow (w : World) (po : Option Addr) (pn pc : Nat) : Prop where
  pos : 0 < pn → ∃ b off, po = some ⟨b, off, none⟩ ∧ ∀ i, i < pn → ∃ z : Int, w.cell? ⟨b, off + i, none⟩ = some (.int .i64 z)
  len : pn ≤ 1099511627776
theorem IRow.later {w w' : World} {po : Option Addr} {pn pc : Nat} (h : IRow w po pn pc) (hb : Below w.heap.size w w') : IRow w' po pn pc :=
  ⟨fun hp => by
    obtain ⟨b, off, e, hc⟩ := h.pos hp
    exact ⟨b, off, e, fun i hi => by obtain ⟨z, hz⟩ := hc i hi; exact ⟨z, cell_later hb hz⟩⟩, h.len⟩
theorem tmod_cast (k pn : Nat) : (k : Int).tmod (pn : Int) = ((k % pn : Nat) : Int) := by
  rw [Int.tmod_eq_emod_of_nonneg (by omega)]; simp
theorem wrap_small (r : Nat) (h : r < 40) : wrap64 (r : Int) = (r : Int) ∧ IntKind.i64.wrap (r : Int) = (r : Int) ∧ IntKind.i64.wrap (1 + (r : Int)) = ((1 + r : Nat) : Int) := by
  refine ⟨?_, ?_, ?_⟩
  · unfold wrap64; omega
  · rw [IntKind.wrap_i64]; omega
  · rw [IntKind.wrap_i64]; omega
theorem wrapT {a m T : Nat} (h : a + m = T) (hT : T ≤ 2000000) : IntKind.i64.wrap ((a : Int) + (m : Int)) = (T : Int) := by
  rw [IntKind.wrap_i64]; omega
theorem mod40 (z : Int) : ∃ r : Nat, (IntKind.u64.wrap z).tmod 40 = (r : Int) ∧ r < 40 := by
  have h0 : 0 ≤ IntKind.u64.wrap z := by rw [IntKind.wrap_u64]; omega
  have h1 : 0 ≤ (IntKind.u64.wrap z).tmod 40 := Int.tmod_nonneg _ h0
  have h2 : (IntKind.u64.wrap z).tmod 40 < 40 := Int.tmod_lt_of_pos _ (by omega)
  exact ⟨((IntKind.u64.wrap z).tmod 40).toNat, by omega, by omega⟩
set_option maxHeartbeats 4000000 in
theorem frameLong_zero (c nx a : Int) (ao : Option Addr) (cap : Nat) (pv : Value) (w : World) : Calls Try.prog 7 #[.int .u32 c, .slice ao 0 cap, .int .i64 a, pv, .int .u32 nx] w fun e w' => e = .returned (.bool true) ∧ Below w.heap.size w w' := by
  have H2 : Hid (Calls Try.prog 10 #[] w fun e w' => e = .returned (.bool true) ∧ Below w.heap.size w w') := heads_any w
  go_enter Try.func7, Try.ntmps7
  go_wp2_with fail
  refine H2.out.mono ?_
  rintro e w1 ⟨rfl, hb⟩
  have HB : Hid _ := hb
  clear hb H2
  go_wp2
  go_ret
  exact ⟨rfl, HB.out⟩
/-- what stands at a round -/
structure Lg (w wr : World) (c : Nat) (d : List Nat) (nx : Nat) (B bx g cpB : Nat) (told : Bool) (at_ : Nat) (v : Value) : Prop where
  inb : Inb wr B bx v 20 (if told = true then 16 + d.length - at_ else 0) (if told = true then ((LS c d nx).take at_).drop (16 + d.length) else (LS c d nx).take at_)
  row : wr.ownsRow w.heap.size 5 1 (.slice (some ⟨g, 0, none⟩) (20 + d.length) cpB) (20 + d.length) ((LS c d nx).map bv)
  ap : ¬ ifp bx v g
  bel : Below w.heap.size w wr
  hB : w.heap.size ≤ B
  lo : told = false → at_ < 16
  hi : told = true → 16 ≤ at_
set_option maxHeartbeats 8000000 in
theorem frameLong_any (c nx : Nat) (a : Int) (ao : Option Addr) (cap n : Nat) (d : List Nat) (po : Option Addr) (pn pc : Nat) (w : World) (hd : BRow w ao cap d) (HN : Hid (d.length = n)) (hn0 : 0 < n) (hn : n ≤ 1048576) (hp : IRow w po pn pc) (hc : c < 4294967296) (hx : nx < 4294967296) : Calls Try.prog 7 #[.int .u32 (c : Int), .slice ao n cap, .int .i64 a, .slice po pn pc, .int .u32 (nx : Int)] w fun e w' => e = .returned (.bool true) ∧ Below w.heap.size w w' := by
  obtain ⟨i0, hi, hz0, hz1, hz2⟩ := info_parts Try.info5
  have H2 : Hid (Calls Try.prog 10 #[] w fun e w' => e = .returned (.bool true) ∧ Below w.heap.size w w') := heads_any w
  have HD : Hid (BRow w ao cap d) := hd
  have HP : Hid (IRow w po pn pc) := hp
  have hnz : ¬ ((n : Int) = 0) := by omega
  have w1 : IntKind.u64.wrap (n : Int) = (n : Int) := by rw [IntKind.wrap_u64]; omega
  have w2 : IntKind.u32.wrap (n : Int) = (n : Int) := by rw [IntKind.wrap_u32]; omega
  obtain ⟨mo, hm1, hmn⟩ : ∃ mo : Nat, (IntKind.u64.wrap a).tmod (n : Int) = (mo : Int) ∧ mo < n := by
    have h0 : 0 ≤ IntKind.u64.wrap a := by rw [IntKind.wrap_u64]; omega
    have h1 : 0 ≤ (IntKind.u64.wrap a).tmod (n : Int) := Int.tmod_nonneg _ h0
    have h2 : (IntKind.u64.wrap a).tmod (n : Int) < n := Int.tmod_lt_of_pos _ (by omega)
    exact ⟨((IntKind.u64.wrap a).tmod (n : Int)).toNat, by omega, by omega⟩
  have hm2 : wrap64 (mo : Int) = (mo : Int) := by unfold wrap64; omega
  have hm3 : (mo : Int) % 4294967296 = (mo : Int) := by omega
  clear hd hp
  go_enter Try.func7, Try.ntmps7
  go_wp2_with fail
  refine H2.out.mono ?_
  rintro e W1 ⟨rfl, hb⟩
  have HE : Hid (Calls Try.prog 22 #[.agg #[.int .u32 (c : Int), .int .u32 (n : Int), .bool false, .slice ao n cap]] W1 fun e w' => ∃ ao' cap', e = .returned (.tuple #[.slice ao' (16 + n) cap', .int .i64 0]) ∧ Row W1 w' ao' cap' (oL c d)) := by
    have hol : (oL c d).length = 16 + n := by simp [oL, bigTo_length, HN.out]; omega
    have := encOption c ao cap d W1 hc (HD.out.later hb) (by rw [HN.out]; omega) (by rw [HN.out]; omega)
    rw [hol, HN.out] at this
    exact this
  have HB1 : Hid _ := hb
  clear hb H2
  go_wp2_with fail
  refine HE.out.mono ?_
  rintro e W2 ⟨ao2, cap2, rfl, hr⟩
  clear hm1 hm2 hm3
  have HNw : Hid (Calls Try.prog 18 #[.int .i64 20] W2 fun e w' => e = .returned (.tuple #[.pointer (some ⟨W2.heap.size, 0, none⟩), .int .i64 0]) ∧ Inb w' W2.heap.size W2.heap.size (.slice none 0 0) 20 0 [] ∧ Below W2.heap.size W2 w') := newI 20 (by decide) (by decide) W2
  have hol : (oL c d).length = 16 + n := by simp [oL, bigTo_length, HN.out]; omega
  have ho2 : W2.ownsRow w.heap.size 5 1 (.slice ao2 (16 + n) cap2) (16 + n) ((oL c d).map bv) := by
    have := hr.own
    rw [hol] at this
    exact owns_mono this HB1.out.size
  have HO2 : Hid _ := ho2
  have HB2 : Hid (Below w.heap.size w W2) := HB1.out.trans (hr.bel.mono HB1.out.size)
  have HLo : Hid (∀ x ∈ oL c d, x < 256) := hr.lt
  clear HE hr ho2 HB1
  go_wp2_with fail
  refine HNw.out.mono ?_
  rintro e W3 ⟨rfl, hI3, hb3⟩
  have HF : Hid _ := encFlags nx W3 hx
  have HI3 : Hid _ := hI3
  have HO3 : Hid (W3.ownsRow w.heap.size 5 1 (.slice ao2 (16 + n) cap2) (16 + n) ((oL c d).map bv)) := owns_same HO2.out fun g hg => hb3.block g (owns_lt HO2.out g hg).1
  have hap3 : ∀ g, (Value.slice ao2 (16 + n) cap2).ownBlock = some g → g < W2.heap.size := fun g hg => (owns_lt HO2.out g hg).1
  have HA3 : Hid _ := hap3
  have HB3 : Hid (Below w.heap.size w W3) := HB2.out.trans (hb3.mono HB2.out.size)
  have HS2 : Hid (w.heap.size ≤ W2.heap.size) := HB2.out.size
  clear HNw hI3 hb3 HO2 hap3 HB2
  go_wp2_with fail
  refine Calls.mono HF.out ?_
  rintro e W4 ⟨ao4, cap4, rfl, hr4⟩
  have hI4 := HI3.out.later hr4.bel
  have hO4 : W4.ownsRow w.heap.size 5 1 (.slice ao2 (16 + n) cap2) (16 + n) ((oL c d).map bv) := owns_same HO3.out fun g hg => hr4.bel.block g (owns_lt HO3.out g hg).1
  have hB4 : Below w.heap.size w W4 := HB3.out.trans (hr4.bel.mono HB3.out.size)
  have hbr4 : BRow W4 ao4 cap4 (bigTo nx 4 4) := hr4.brow (by rw [bigTo_length]; omega)
  have hsz4 : W2.heap.size < W4.heap.size := block_lt hI4.blk
  have HI4 : Hid _ := hI4
  have HO4 : Hid _ := hO4
  have HB4 : Hid _ := hB4
  have HR4 : Hid _ := hbr4
  clear HF hr4 HI3 HO3 HB3 hI4 hO4 hB4 hbr4
  go_wp2_with (at_builtin; refine wpList_append_two _ rfl (.tmp 62) (.tmp 64) 22 rfl w.heap.size 5 i0 (.int .u8 0) 1 Try.underlying22 hi hz0 hz1 hz2 rfl (.slice ao2 (16 + n) cap2) (16 + n) ((oL c d).map bv) rfl HO4.out ao4 4 cap4 ((bigTo nx 4 4).map bv) rfl (fun e => by have := HR4.out.nil' e; rw [bigTo_length] at this; exact this) (by rw [List.length_map, bigTo_length]) HR4.out.news (bv_one _) (by unfold maxLen; omega) (by omega) (by have := HB4.out.size; omega) ?_)
  intro v5 W5 ho5 hg5 hf5
  have hB5 : Below w.heap.size w W5 := HB4.out.grown hg5 HB4.out.size (fun g hg => (owns_lt HO4.out g hg).2)
  have hI5 : Inb W5 W2.heap.size W2.heap.size (.slice none 0 0) 20 0 [] := HI4.out.keep (S := fun g => (Value.slice ao2 (16 + n) cap2).ownBlock = some g) ⟨hg5.os, hg5.tape, hg5.output, hg5.size, fun k hk hn => hg5.block k hk (fun e => hn e.symm)⟩ (fun g hg hf => by
    have h1 := HA3.out g hf
    rcases hg with e | e
    · omega
    · simp [Value.ownBlock] at e)
  have hrow5 : W5.ownsRow w.heap.size 5 1 v5 (20 + n) ((LS c d nx).map bv) := by
    have e1 : 16 + n + 4 = 20 + n := by omega
    rw [e1] at ho5
    show W5.ownsRow _ _ _ _ _ ((oL c d ++ bigTo nx 4 4).map bv)
    rw [List.map_append]; exact ho5
  obtain ⟨gB, cpB, hv5, hcp1, hcp2⟩ : ∃ gB cpB, v5 = .slice (some ⟨gB, 0, none⟩) (20 + n) cpB ∧ 20 + n ≤ cpB ∧ cpB ≤ 9223372036854775807 := by
    rcases hrow5.2 with ⟨_, h0⟩ | ⟨g, cp, cur, hv, _, _, h1, h2, _⟩
    · omega
    · exact ⟨g, cp, hv, h1, by unfold maxLen at h2; omega⟩
  have hgne : gB ≠ W2.heap.size := fun e => by
    obtain ⟨cur, hcur⟩ := owns_type hrow5 gB (by rw [hv5]; rfl)
    rw [e, hI5.blk] at hcur
    simp at hcur
    exact absurd hcur.2 (by decide)
  subst hv5
  have HL0 : Hid (Lg w W5 c d nx W2.heap.size W2.heap.size gB cpB false 0 (.slice none 0 0)) := ⟨by simpa using hI5, by rw [HN.out]; exact hrow5, fun h => by rcases h with e | e; (· exact hgne e); simp [Value.ownBlock] at e, hB5, HS2.out, fun _ => by decide, fun h => by cases h⟩
  obtain ⟨bx, hbx⟩ : ∃ bx, W2.heap.size = bx := ⟨_, rfl⟩
  rw [hbx] at HL0
  obtain ⟨B, hB⟩ : ∃ B, B = bx := ⟨_, rfl⟩
  have HL0 : Hid (Lg w W5 c d nx B bx gB cpB false 0 (.slice none 0 0)) := by rw [hB]; exact HL0
  clear hB
  clear ho5 hg5 hf5 hB5 hI5 hrow5 hgne HI4 HO4 HB4 HR4 HA3 hsz4 HS2
  rw [hbx]
  clear hbx
  go_wp2
  go_loopw [17, 18, 19] (fun tv av kv wr => ∃ (told : Bool) (at_ k : Nat) (v : Value), tv = .bool told ∧ av = .int .i64 (at_ : Int) ∧ kv = .int .i64 (k : Int) ∧ k ≤ at_ ∧ at_ ≤ 20 + n ∧ Hid (Lg w wr c d nx B bx gB cpB told at_ v)) (fun tv av kv _ => 20 + n - (intOf av).toNat)
  case atStart => exact ⟨false, 0, 0, _, rfl, rfl, rfl, Nat.le_refl _, Nat.zero_le _, HL0⟩
  case round =>
    obtain ⟨told, at_, k, v, rfl, rfl, rfl, hka, hat, HL⟩ := hrel
    by_cases hlt : at_ < 20 + n
    · have hltz : (at_ : Int) < ((20 + n : Nat) : Int) := by omega
      have hltz2 : (at_ : Int) < 20 + (n : Int) := by omega
      obtain ⟨R, hR⟩ : ∃ R, 20 + n - at_ = R := ⟨_, rfl⟩
      have hRw : IntKind.i64.wrap (20 + (n : Int) - (at_ : Int)) = (R : Int) := by rw [IntKind.wrap_i64]; omega
      have hRw2 : IntKind.i64.wrap (((20 + n : Nat) : Int) - (at_ : Int)) = (R : Int) := by rw [IntKind.wrap_i64]; omega
      by_cases hpn : 0 < pn
      · obtain ⟨pb, pof, rfl, hcell⟩ := (HP.out.later HL.out.bel).pos hpn
        have hpl := HP.out.len
        have hkm : k % pn < pn := Nat.mod_lt _ hpn
        obtain ⟨z, hz⟩ := hcell (k % pn) hkm
        clear hcell
        have hrm : (k : Int).tmod (pn : Int) = ((k % pn : Nat) : Int) := tmod_cast k pn
        obtain ⟨ix, hix⟩ : ∃ ix, k % pn = ix := ⟨_, rfl⟩
        rw [hix] at hrm hkm hz
        have hpz : (0 : Int) < (pn : Int) := by omega
        have hpz2 : ¬ ((pn : Int) = 0) := by omega
        have hixz : (ix : Int) < (pn : Int) := by omega
        obtain ⟨r, hr1', hr40⟩ := mod40 z
        have HR1 : Hid ((IntKind.u64.wrap z).tmod 40 = (r : Int)) := hr1'
        clear hr1'
        obtain ⟨hr2, hr3, hr4⟩ := wrap_small r hr40
        obtain ⟨m0, hm0⟩ : ∃ m0, 1 + r = m0 := ⟨_, rfl⟩
        rw [hm0] at hr4
        have HR2 : Hid (wrap64 (r : Int) = (r : Int) ∧ IntKind.i64.wrap (r : Int) = (r : Int) ∧ IntKind.i64.wrap (1 + (r : Int)) = (m0 : Int)) := ⟨hr2, hr3, hr4⟩
        clear hr2 hr3 hr4
        clear hix
        by_cases hRm : R < m0
        · have hRm2 : (R : Int) < (m0 : Int) := by omega
          obtain ⟨T, hT⟩ : ∃ T, at_ + R = T := ⟨_, rfl⟩
          have q2 : IntKind.i64.wrap ((at_ : Int) + (R : Int)) = (T : Int) := wrapT hT (by omega)
          have q3 : (at_ : Int) ≤ (T : Int) := by omega
          have q4 : (T : Int) ≤ (cpB : Int) := by omega
          have q5 : T - at_ = R := by omega
          have q6 : (T : Int) - (at_ : Int) = (R : Int) := by omega
          have q7 : ¬ (cpB = at_) := by omega
          have q8 : ¬ (cpB - at_ = 0) := by omega
          have q9 : ((cpB - at_ : Nat) : Int) = (cpB : Int) - (at_ : Int) := by omega
          have HLn : Hid ((((LS c d nx).drop at_).take R).length = R) := by show _ = _; rw [List.length_take, List.length_drop, LS_len, HN.out]; omega
          have hcr : CRow wr (some ⟨gB, at_, none⟩) (cpB - at_) (((LS c d nx).drop at_).take R) := by
            have hro := HL.out.row
            refine ⟨⟨fun x hx => LS_lt HD.out.lt x (List.mem_of_mem_drop (List.mem_of_mem_take hx)), by have h9 := HLn.out; omega, fun e => by simp at e, fun _ => ⟨_, _, rfl, fun j hj => ?_⟩⟩, by have h9 := HLn.out; omega, by omega⟩
            rw [HLn.out] at hj
            rw [hro.cellAt (at_ + j) (by rw [HN.out]; omega), List.getElem?_map, List.getElem?_eq_getElem (by rw [LS_len, HN.out]; omega)]
            simp
          cases told with
          | true =>
            have h16 := HL.out.hi rfl
            obtain ⟨e1, e2, e3⟩ := LS_feed_told (LS c d nx) d.length at_ R (LS_len c d nx) h16 (by rw [HN.out]; omega)
            have hin := HL.out.inb
            simp only [if_true] at hin
            have HFd : Hid _ := feedI hin (some ⟨gB, at_, none⟩) (cpB - at_) R (((LS c d nx).drop at_).take R) hcr HLn (by omega) _ _ rfl rfl
            rw [e1, e2, e3] at HFd
            have HIn : Hid _ := hin
            clear e1 e2 e3 hin hcr
            have hr1 : (IntKind.u64.wrap z).tmod 40 = (r : Int) := HR1.out
            obtain ⟨hr2, hr3, hr4⟩ := HR2.out
            go_wp2_with fail
            clear hr1 hr2 hr3 hr4
            refine Calls.mono HFd.out ?_
            rintro e W6 ⟨rfl, v6, hI6, hA6⟩
            have hL6 : Lg w W6 c d nx B bx gB cpB true T v6 := by
              refine ⟨by simp only [if_true]; rw [← hT]; exact hI6, owns_same HL.out.row fun x hx => ?_, ?_, HL.out.bel.trans ((hA6.below HIn.out).mono HL.out.hB), HL.out.hB, fun h => (by cases h), fun _ => (by omega)⟩
              · simp [Value.ownBlock] at hx
                subst hx
                exact hA6.kept.block _ (owns_lt HL.out.row _ rfl).1 HL.out.ap
              · rintro (e | e)
                · exact HL.out.ap (.inl e)
                · exact Fresh.not hA6.fresh (owns_lt HL.out.row _ rfl).1 (fun e => HL.out.ap (.inr e)) e
            have hle6 := hI6.le
            obtain ⟨ln, hln⟩ : ∃ ln, (((LS c d nx).take (at_ + R)).drop (16 + d.length)).length = ln := ⟨_, rfl⟩
            have HH : Hid _ := heldI hI6
            rw [hln] at HH hle6
            have HL6 : Hid _ := hL6
            have hh1 : ¬ ((20 : Int) < (ln : Int)) := by omega
            have hh2 : decide ((20 : Int) < (ln : Int)) = false := by simp; omega
            have hh3 : ¬ ((R : Int) < 0) := by omega
            have hh4 : decide ((R : Int) < 0) = false := by simp
            clear HFd hI6 hA6 HIn hL6 HL hln
            go_wp2_with fail
            refine Calls.mono HH.out ?_
            rintro e W7 ⟨rfl, hw7⟩
            rw [hw7]; clear hw7 HH
            go_wp2
            go_roundw
            case rel => exact ⟨true, T, k + 1, v6, rfl, rfl, by go_num, by omega, by omega, HL6⟩
            case measure => simp [intOf]; omega
          | false =>
            have h16 := HL.out.lo rfl
            have hin := HL.out.inb
            simp only [if_false, Bool.false_eq_true] at hin
            obtain ⟨k2, hk2⟩ : ∃ k2, min R (20 - at_) = k2 := ⟨_, rfl⟩
            have hlen : ((LS c d nx).take at_).length = at_ := by rw [List.length_take, LS_len, HN.out]; omega
            have HFd : Hid _ := feedI hin (some ⟨gB, at_, none⟩) (cpB - at_) R (((LS c d nx).drop at_).take R) hcr HLn (by omega) 0 k2 (by omega) (by omega)
            have e3 : (LS c d nx).take at_ ++ ((((LS c d nx).drop at_).take R).drop 0).take k2 = (LS c d nx).take (at_ + k2) := by
              have := LS_feed_new (LS c d nx) at_ R (by rw [LS_len, HN.out]; omega) h16
              rw [hlen, Nat.sub_zero, hk2] at this
              exact this
            obtain ⟨U, hU⟩ : ∃ U, at_ + k2 = U := ⟨_, rfl⟩
            rw [e3, hU, Nat.zero_add] at HFd
            have HIn : Hid _ := hin
            clear e3 hin hcr hlen
            have hr1 : (IntKind.u64.wrap z).tmod 40 = (r : Int) := HR1.out
            obtain ⟨hr2, hr3, hr4⟩ := HR2.out
            go_wp2_with fail
            clear hr1 hr2 hr3 hr4
            refine Calls.mono HFd.out ?_
            rintro e W6 ⟨rfl, v6, hI6, hA6⟩
            have hO6 : W6.ownsRow w.heap.size 5 1 (.slice (some ⟨gB, 0, none⟩) (20 + d.length) cpB) (20 + d.length) ((LS c d nx).map bv) := owns_same HL.out.row fun x hx => by
              simp [Value.ownBlock] at hx
              subst hx
              exact hA6.kept.block _ (owns_lt HL.out.row _ rfl).1 HL.out.ap
            have hap6 : ¬ ifp bx v6 gB := by
              rintro (e | e)
              · exact HL.out.ap (.inl e)
              · exact Fresh.not hA6.fresh (owns_lt HL.out.row _ rfl).1 (fun e => HL.out.ap (.inr e)) e
            have hB6 : Below w.heap.size w W6 := HL.out.bel.trans ((hA6.below HIn.out).mono HL.out.hB)
            have hle6 := hI6.le
            obtain ⟨ln, hln⟩ : ∃ ln, ((LS c d nx).take U).length = ln := ⟨_, rfl⟩
            have HH : Hid _ := heldI hI6
            rw [hln] at HH hle6
            have HOp : Hid _ := optionI hI6 mo (by omega)
            rw [Nat.zero_sub] at HOp
            have HI6 : Hid _ := hI6
            have HO6 : Hid _ := hO6
            have HA6 : Hid _ := hap6
            have HB6 : Hid _ := hB6
            have HhB : Hid _ := HL.out.hB
            have q10 : IntKind.i64.wrap ((at_ : Int) + (k2 : Int)) = (U : Int) := wrapT hU (by omega)
            have hh1 : ¬ ((20 : Int) < (ln : Int)) := by omega
            have hh2 : decide ((20 : Int) < (ln : Int)) = false := by simp; omega
            have hh3 : ¬ ((R : Int) < (k2 : Int)) := by omega
            have hh4 : decide ((R : Int) < (k2 : Int)) = false := by simp; omega
            have hh5 : ¬ ((k2 : Int) < 0) := by omega
            have hh6 : decide ((k2 : Int) < 0) = false := by simp
            have hh7 : ¬ ((k2 : Int) = 0) := by omega
            clear HFd hI6 hA6 HIn HL hln hO6 hap6 hB6
            go_wp2_with fail
            refine Calls.mono HH.out ?_
            rintro e W7 ⟨rfl, hw7⟩
            rw [hw7]; clear hw7 HH
            by_cases h9 : U < 16
            · exfalso
              omega
            · rw [LS_long c d nx U mo (by omega) (by rw [HN.out]; omega) hc (by rw [HN.out]; omega) (by rw [HN.out]; omega)] at HOp
              go_wp2_with fail
              refine Calls.mono HOp.out ?_
              rintro e W8 ⟨c8, k8, lg8, d8, cu8, ov8, l8, v8, ao8, cap8, rfl, hx8, hI8, hA8, hr8, hn8⟩
              simp only [Prod.mk.injEq] at hx8
              obtain ⟨⟨rfl, rfl, rfl, rfl⟩, rfl, rfl, rfl⟩ := hx8
              have hb9 : Below W8.heap.size W8 (W8.alloc (.cells #[.int .u32 (c : Int), .int .u32 (d.length : Int), .bool true, .slice ao8 0 cap8] 57)) := (Below.refl _ _).alloc (Nat.le_refl _) _
              have HL9 : Hid (Lg w (W8.alloc (.cells #[.int .u32 (c : Int), .int .u32 (d.length : Int), .bool true, .slice ao8 0 cap8] 57)) c d nx B bx gB cpB true U v8) := by
                have hB8 : Below w.heap.size w W8 := HB6.out.trans ((hA8.below HI6.out).mono HhB.out)
                have hO8 : W8.ownsRow w.heap.size 5 1 (.slice (some ⟨gB, 0, none⟩) (20 + d.length) cpB) (20 + d.length) ((LS c d nx).map bv) := owns_same HO6.out fun x hx => by
                  simp [Value.ownBlock] at hx
                  subst hx
                  exact hA8.kept.block _ (owns_lt HO6.out _ rfl).1 HA6.out
                refine ⟨by simp only [if_true]; exact hI8.later hb9, owns_same hO8 fun x hx => hb9.block x (owns_lt hO8 x hx).1, ?_, hB8.trans (hb9.mono hB8.size), HhB.out, fun h => (by cases h), fun _ => (by omega)⟩
                rintro (e | e)
                · exact HA6.out (.inl e)
                · exact Fresh.not hA8.fresh (owns_lt HO6.out _ rfl).1 (fun e => HA6.out (.inr e)) e
              have h10 : ¬ ((U : Int) < 16) := by omega
              have h11 : decide ((U : Int) < 16) = false := by simp; omega
              clear HOp hI8 hA8 hr8 hn8 HI6 HO6 HA6 HB6 HhB hb9
              rw [HN.out] at HL9 ⊢
              go_wp2
              go_roundw
              case rel => exact ⟨true, U, k + 1, v8, rfl, rfl, by go_num, by omega, by omega, HL9⟩
              case measure => simp [intOf]; omega
        · have hRm2 : ¬ ((R : Int) < (m0 : Int)) := by omega
          obtain ⟨T, hT⟩ : ∃ T, at_ + m0 = T := ⟨_, rfl⟩
          have q2 : IntKind.i64.wrap ((at_ : Int) + (m0 : Int)) = (T : Int) := wrapT hT (by omega)
          have q3 : (at_ : Int) ≤ (T : Int) := by omega
          have q4 : (T : Int) ≤ (cpB : Int) := by omega
          have q5 : T - at_ = m0 := by omega
          have q6 : (T : Int) - (at_ : Int) = (m0 : Int) := by omega
          have q7 : ¬ (cpB = at_) := by omega
          have q8 : ¬ (cpB - at_ = 0) := by omega
          have q9 : ((cpB - at_ : Nat) : Int) = (cpB : Int) - (at_ : Int) := by omega
          have HLn : Hid ((((LS c d nx).drop at_).take m0).length = m0) := by show _ = _; rw [List.length_take, List.length_drop, LS_len, HN.out]; omega
          have hcr : CRow wr (some ⟨gB, at_, none⟩) (cpB - at_) (((LS c d nx).drop at_).take m0) := by
            have hro := HL.out.row
            refine ⟨⟨fun x hx => LS_lt HD.out.lt x (List.mem_of_mem_drop (List.mem_of_mem_take hx)), by have h9 := HLn.out; omega, fun e => by simp at e, fun _ => ⟨_, _, rfl, fun j hj => ?_⟩⟩, by have h9 := HLn.out; omega, by omega⟩
            rw [HLn.out] at hj
            rw [hro.cellAt (at_ + j) (by rw [HN.out]; omega), List.getElem?_map, List.getElem?_eq_getElem (by rw [LS_len, HN.out]; omega)]
            simp
          cases told with
          | true =>
            have h16 := HL.out.hi rfl
            obtain ⟨e1, e2, e3⟩ := LS_feed_told (LS c d nx) d.length at_ m0 (LS_len c d nx) h16 (by rw [HN.out]; omega)
            have hin := HL.out.inb
            simp only [if_true] at hin
            have HFd : Hid _ := feedI hin (some ⟨gB, at_, none⟩) (cpB - at_) m0 (((LS c d nx).drop at_).take m0) hcr HLn (by omega) _ _ rfl rfl
            rw [e1, e2, e3] at HFd
            have HIn : Hid _ := hin
            clear e1 e2 e3 hin hcr
            have hr1 : (IntKind.u64.wrap z).tmod 40 = (r : Int) := HR1.out
            obtain ⟨hr2, hr3, hr4⟩ := HR2.out
            go_wp2_with fail
            clear hr1 hr2 hr3 hr4
            refine Calls.mono HFd.out ?_
            rintro e W6 ⟨rfl, v6, hI6, hA6⟩
            have hL6 : Lg w W6 c d nx B bx gB cpB true T v6 := by
              refine ⟨by simp only [if_true]; rw [← hT]; exact hI6, owns_same HL.out.row fun x hx => ?_, ?_, HL.out.bel.trans ((hA6.below HIn.out).mono HL.out.hB), HL.out.hB, fun h => (by cases h), fun _ => (by omega)⟩
              · simp [Value.ownBlock] at hx
                subst hx
                exact hA6.kept.block _ (owns_lt HL.out.row _ rfl).1 HL.out.ap
              · rintro (e | e)
                · exact HL.out.ap (.inl e)
                · exact Fresh.not hA6.fresh (owns_lt HL.out.row _ rfl).1 (fun e => HL.out.ap (.inr e)) e
            have hle6 := hI6.le
            obtain ⟨ln, hln⟩ : ∃ ln, (((LS c d nx).take (at_ + m0)).drop (16 + d.length)).length = ln := ⟨_, rfl⟩
            have HH : Hid _ := heldI hI6
            rw [hln] at HH hle6
            have HL6 : Hid _ := hL6
            have hh1 : ¬ ((20 : Int) < (ln : Int)) := by omega
            have hh2 : decide ((20 : Int) < (ln : Int)) = false := by simp; omega
            have hh3 : ¬ ((m0 : Int) < 0) := by omega
            have hh4 : decide ((m0 : Int) < 0) = false := by simp
            clear HFd hI6 hA6 HIn hL6 HL hln
            go_wp2_with fail
            refine Calls.mono HH.out ?_
            rintro e W7 ⟨rfl, hw7⟩
            rw [hw7]; clear hw7 HH
            go_wp2
            go_roundw
            case rel => exact ⟨true, T, k + 1, v6, rfl, rfl, by go_num, by omega, by omega, HL6⟩
            case measure => simp [intOf]; omega
          | false =>
            have h16 := HL.out.lo rfl
            have hin := HL.out.inb
            simp only [if_false, Bool.false_eq_true] at hin
            obtain ⟨k2, hk2⟩ : ∃ k2, min m0 (20 - at_) = k2 := ⟨_, rfl⟩
            have hlen : ((LS c d nx).take at_).length = at_ := by rw [List.length_take, LS_len, HN.out]; omega
            have HFd : Hid _ := feedI hin (some ⟨gB, at_, none⟩) (cpB - at_) m0 (((LS c d nx).drop at_).take m0) hcr HLn (by omega) 0 k2 (by omega) (by omega)
            have e3 : (LS c d nx).take at_ ++ ((((LS c d nx).drop at_).take m0).drop 0).take k2 = (LS c d nx).take (at_ + k2) := by
              have := LS_feed_new (LS c d nx) at_ m0 (by rw [LS_len, HN.out]; omega) h16
              rw [hlen, Nat.sub_zero, hk2] at this
              exact this
            obtain ⟨U, hU⟩ : ∃ U, at_ + k2 = U := ⟨_, rfl⟩
            rw [e3, hU, Nat.zero_add] at HFd
            have HIn : Hid _ := hin
            clear e3 hin hcr hlen
            have hr1 : (IntKind.u64.wrap z).tmod 40 = (r : Int) := HR1.out
            obtain ⟨hr2, hr3, hr4⟩ := HR2.out
            go_wp2_with fail
            clear hr1 hr2 hr3 hr4
            refine Calls.mono HFd.out ?_
            rintro e W6 ⟨rfl, v6, hI6, hA6⟩
            have hO6 : W6.ownsRow w.heap.size 5 1 (.slice (some ⟨gB, 0, none⟩) (20 + d.length) cpB) (20 + d.length) ((LS c d nx).map bv) := owns_same HL.out.row fun x hx => by
              simp [Value.ownBlock] at hx
              subst hx
              exact hA6.kept.block _ (owns_lt HL.out.row _ rfl).1 HL.out.ap
            have hap6 : ¬ ifp bx v6 gB := by
              rintro (e | e)
              · exact HL.out.ap (.inl e)
              · exact Fresh.not hA6.fresh (owns_lt HL.out.row _ rfl).1 (fun e => HL.out.ap (.inr e)) e
            have hB6 : Below w.heap.size w W6 := HL.out.bel.trans ((hA6.below HIn.out).mono HL.out.hB)
            have hle6 := hI6.le
            obtain ⟨ln, hln⟩ : ∃ ln, ((LS c d nx).take U).length = ln := ⟨_, rfl⟩
            have HH : Hid _ := heldI hI6
            rw [hln] at HH hle6
            have HOp : Hid _ := optionI hI6 mo (by omega)
            rw [Nat.zero_sub] at HOp
            have HI6 : Hid _ := hI6
            have HO6 : Hid _ := hO6
            have HA6 : Hid _ := hap6
            have HB6 : Hid _ := hB6
            have HhB : Hid _ := HL.out.hB
            have q10 : IntKind.i64.wrap ((at_ : Int) + (k2 : Int)) = (U : Int) := wrapT hU (by omega)
            have hh1 : ¬ ((20 : Int) < (ln : Int)) := by omega
            have hh2 : decide ((20 : Int) < (ln : Int)) = false := by simp; omega
            have hh3 : ¬ ((m0 : Int) < (k2 : Int)) := by omega
            have hh4 : decide ((m0 : Int) < (k2 : Int)) = false := by simp; omega
            have hh5 : ¬ ((k2 : Int) < 0) := by omega
            have hh6 : decide ((k2 : Int) < 0) = false := by simp
            have hh7 : ¬ ((k2 : Int) = 0) := by omega
            clear HFd hI6 hA6 HIn HL hln hO6 hap6 hB6
            go_wp2_with fail
            refine Calls.mono HH.out ?_
            rintro e W7 ⟨rfl, hw7⟩
            rw [hw7]; clear hw7 HH
            by_cases h9 : U < 16
            · rw [LS_short c d nx U mo h9] at HOp
              go_wp2_with fail
              refine Calls.mono HOp.out ?_
              rintro e W8 ⟨c8, k8, lg8, d8, cu8, ov8, l8, v8, ao8, cap8, rfl, hx8, hI8, hA8, hr8, hn8⟩
              simp only [Prod.mk.injEq] at hx8
              obtain ⟨⟨rfl, rfl, rfl, rfl⟩, rfl, rfl, rfl⟩ := hx8
              have hb9 : Below W8.heap.size W8 (W8.alloc (.cells #[.int .u32 0, .int .u32 0, .bool false, .slice ao8 0 cap8] 57)) := (Below.refl _ _).alloc (Nat.le_refl _) _
              have HL9 : Hid (Lg w (W8.alloc (.cells #[.int .u32 0, .int .u32 0, .bool false, .slice ao8 0 cap8] 57)) c d nx B bx gB cpB false U v8) := by
                have hB8 : Below w.heap.size w W8 := HB6.out.trans ((hA8.below HI6.out).mono HhB.out)
                have hO8 : W8.ownsRow w.heap.size 5 1 (.slice (some ⟨gB, 0, none⟩) (20 + d.length) cpB) (20 + d.length) ((LS c d nx).map bv) := owns_same HO6.out fun x hx => by
                  simp [Value.ownBlock] at hx
                  subst hx
                  exact hA8.kept.block _ (owns_lt HO6.out _ rfl).1 HA6.out
                refine ⟨by simp only [if_false, Bool.false_eq_true]; exact hI8.later hb9, owns_same hO8 fun x hx => hb9.block x (owns_lt hO8 x hx).1, ?_, hB8.trans (hb9.mono hB8.size), HhB.out, fun _ => h9, fun h => by cases h⟩
                rintro (e | e)
                · exact HA6.out (.inl e)
                · exact Fresh.not hA8.fresh (owns_lt HO6.out _ rfl).1 (fun e => HA6.out (.inr e)) e
              have h10 : ¬ ((16 : Int) ≤ (U : Int)) := by omega
              have h11 : decide ((16 : Int) ≤ (U : Int)) = false := by simp; omega
              clear HOp hI8 hA8 hr8 hn8 HI6 HO6 HA6 HB6 HhB hb9
              go_wp2
              go_roundw
              case rel => exact ⟨false, U, k + 1, v8, rfl, rfl, by go_num, by omega, by omega, HL9⟩
              case measure => simp [intOf]; omega
            · rw [LS_long c d nx U mo (by omega) (by rw [HN.out]; omega) hc (by rw [HN.out]; omega) (by rw [HN.out]; omega)] at HOp
              go_wp2_with fail
              refine Calls.mono HOp.out ?_
              rintro e W8 ⟨c8, k8, lg8, d8, cu8, ov8, l8, v8, ao8, cap8, rfl, hx8, hI8, hA8, hr8, hn8⟩
              simp only [Prod.mk.injEq] at hx8
              obtain ⟨⟨rfl, rfl, rfl, rfl⟩, rfl, rfl, rfl⟩ := hx8
              have hb9 : Below W8.heap.size W8 (W8.alloc (.cells #[.int .u32 (c : Int), .int .u32 (d.length : Int), .bool true, .slice ao8 0 cap8] 57)) := (Below.refl _ _).alloc (Nat.le_refl _) _
              have HL9 : Hid (Lg w (W8.alloc (.cells #[.int .u32 (c : Int), .int .u32 (d.length : Int), .bool true, .slice ao8 0 cap8] 57)) c d nx B bx gB cpB true U v8) := by
                have hB8 : Below w.heap.size w W8 := HB6.out.trans ((hA8.below HI6.out).mono HhB.out)
                have hO8 : W8.ownsRow w.heap.size 5 1 (.slice (some ⟨gB, 0, none⟩) (20 + d.length) cpB) (20 + d.length) ((LS c d nx).map bv) := owns_same HO6.out fun x hx => by
                  simp [Value.ownBlock] at hx
                  subst hx
                  exact hA8.kept.block _ (owns_lt HO6.out _ rfl).1 HA6.out
                refine ⟨by simp only [if_true]; exact hI8.later hb9, owns_same hO8 fun x hx => hb9.block x (owns_lt hO8 x hx).1, ?_, hB8.trans (hb9.mono hB8.size), HhB.out, fun h => (by cases h), fun _ => (by omega)⟩
                rintro (e | e)
                · exact HA6.out (.inl e)
                · exact Fresh.not hA8.fresh (owns_lt HO6.out _ rfl).1 (fun e => HA6.out (.inr e)) e
              have h10 : ¬ ((U : Int) < 16) := by omega
              have h11 : decide ((U : Int) < 16) = false := by simp; omega
              clear HOp hI8 hA8 hr8 hn8 HI6 HO6 HA6 HB6 HhB hb9
              rw [HN.out] at HL9 ⊢
              go_wp2
              go_roundw
              case rel => exact ⟨true, U, k + 1, v8, rfl, rfl, by go_num, by omega, by omega, HL9⟩
              case measure => simp [intOf]; omega
      · obtain rfl : pn = 0 := by omega
        have hmR : ¬ (R < 1) := by omega
        obtain ⟨T, hT⟩ : ∃ T, at_ + 1 = T := ⟨_, rfl⟩
        have q2 : IntKind.i64.wrap ((at_ : Int) + (1 : Int)) = (T : Int) := wrapT hT (by omega)
        have q3 : (at_ : Int) ≤ (T : Int) := by omega
        have q4 : (T : Int) ≤ (cpB : Int) := by omega
        have q5 : T - at_ = 1 := by omega
        have q6 : (T : Int) - (at_ : Int) = (1 : Int) := by omega
        have q7 : ¬ (cpB = at_) := by omega
        have q8 : ¬ (cpB - at_ = 0) := by omega
        have q9 : ((cpB - at_ : Nat) : Int) = (cpB : Int) - (at_ : Int) := by omega
        have HLn : Hid ((((LS c d nx).drop at_).take 1).length = 1) := by show _ = _; rw [List.length_take, List.length_drop, LS_len, HN.out]; omega
        have hcr : CRow wr (some ⟨gB, at_, none⟩) (cpB - at_) (((LS c d nx).drop at_).take 1) := by
          have hro := HL.out.row
          refine ⟨⟨fun x hx => LS_lt HD.out.lt x (List.mem_of_mem_drop (List.mem_of_mem_take hx)), by have h9 := HLn.out; omega, fun e => by simp at e, fun _ => ⟨_, _, rfl, fun j hj => ?_⟩⟩, by have h9 := HLn.out; omega, by omega⟩
          rw [HLn.out] at hj
          rw [hro.cellAt (at_ + j) (by rw [HN.out]; omega), List.getElem?_map, List.getElem?_eq_getElem (by rw [LS_len, HN.out]; omega)]
          simp
        cases told with
        | true =>
          have h16 := HL.out.hi rfl
          obtain ⟨e1, e2, e3⟩ := LS_feed_told (LS c d nx) d.length at_ 1 (LS_len c d nx) h16 (by rw [HN.out]; omega)
          have hin := HL.out.inb
          simp only [if_true] at hin
          have HFd : Hid _ := feedI hin (some ⟨gB, at_, none⟩) (cpB - at_) 1 (((LS c d nx).drop at_).take 1) hcr HLn (by omega) _ _ rfl rfl
          rw [e1, e2, e3] at HFd
          have HIn : Hid _ := hin
          clear e1 e2 e3 hin hcr
          go_wp2_with fail
          refine Calls.mono HFd.out ?_
          rintro e W6 ⟨rfl, v6, hI6, hA6⟩
          have hL6 : Lg w W6 c d nx B bx gB cpB true T v6 := by
            refine ⟨by simp only [if_true]; rw [← hT]; exact hI6, owns_same HL.out.row fun x hx => ?_, ?_, HL.out.bel.trans ((hA6.below HIn.out).mono HL.out.hB), HL.out.hB, fun h => (by cases h), fun _ => (by omega)⟩
            · simp [Value.ownBlock] at hx
              subst hx
              exact hA6.kept.block _ (owns_lt HL.out.row _ rfl).1 HL.out.ap
            · rintro (e | e)
              · exact HL.out.ap (.inl e)
              · exact Fresh.not hA6.fresh (owns_lt HL.out.row _ rfl).1 (fun e => HL.out.ap (.inr e)) e
          have hle6 := hI6.le
          obtain ⟨ln, hln⟩ : ∃ ln, (((LS c d nx).take (at_ + 1)).drop (16 + d.length)).length = ln := ⟨_, rfl⟩
          have HH : Hid _ := heldI hI6
          rw [hln] at HH hle6
          have HL6 : Hid _ := hL6
          have hh1 : ¬ ((20 : Int) < (ln : Int)) := by omega
          have hh2 : decide ((20 : Int) < (ln : Int)) = false := by simp; omega
          have hh3 : ¬ ((1 : Int) < 0) := by omega
          have hh4 : decide ((1 : Int) < 0) = false := by simp
          clear HFd hI6 hA6 HIn hL6 HL hln
          go_wp2_with fail
          refine Calls.mono HH.out ?_
          rintro e W7 ⟨rfl, hw7⟩
          rw [hw7]; clear hw7 HH
          go_wp2
          go_roundw
          case rel => exact ⟨true, T, k + 1, v6, rfl, rfl, by go_num, by omega, by omega, HL6⟩
          case measure => simp [intOf]; omega
        | false =>
          have h16 := HL.out.lo rfl
          have hin := HL.out.inb
          simp only [if_false, Bool.false_eq_true] at hin
          obtain ⟨k2, hk2⟩ : ∃ k2, min 1 (20 - at_) = k2 := ⟨_, rfl⟩
          have hlen : ((LS c d nx).take at_).length = at_ := by rw [List.length_take, LS_len, HN.out]; omega
          have HFd : Hid _ := feedI hin (some ⟨gB, at_, none⟩) (cpB - at_) 1 (((LS c d nx).drop at_).take 1) hcr HLn (by omega) 0 k2 (by omega) (by omega)
          have e3 : (LS c d nx).take at_ ++ ((((LS c d nx).drop at_).take 1).drop 0).take k2 = (LS c d nx).take (at_ + k2) := by
            have := LS_feed_new (LS c d nx) at_ 1 (by rw [LS_len, HN.out]; omega) h16
            rw [hlen, Nat.sub_zero, hk2] at this
            exact this
          obtain ⟨U, hU⟩ : ∃ U, at_ + k2 = U := ⟨_, rfl⟩
          rw [e3, hU, Nat.zero_add] at HFd
          have HIn : Hid _ := hin
          clear e3 hin hcr hlen
          go_wp2_with fail
          refine Calls.mono HFd.out ?_
          rintro e W6 ⟨rfl, v6, hI6, hA6⟩
          have hO6 : W6.ownsRow w.heap.size 5 1 (.slice (some ⟨gB, 0, none⟩) (20 + d.length) cpB) (20 + d.length) ((LS c d nx).map bv) := owns_same HL.out.row fun x hx => by
            simp [Value.ownBlock] at hx
            subst hx
            exact hA6.kept.block _ (owns_lt HL.out.row _ rfl).1 HL.out.ap
          have hap6 : ¬ ifp bx v6 gB := by
            rintro (e | e)
            · exact HL.out.ap (.inl e)
            · exact Fresh.not hA6.fresh (owns_lt HL.out.row _ rfl).1 (fun e => HL.out.ap (.inr e)) e
          have hB6 : Below w.heap.size w W6 := HL.out.bel.trans ((hA6.below HIn.out).mono HL.out.hB)
          have hle6 := hI6.le
          obtain ⟨ln, hln⟩ : ∃ ln, ((LS c d nx).take U).length = ln := ⟨_, rfl⟩
          have HH : Hid _ := heldI hI6
          rw [hln] at HH hle6
          have HOp : Hid _ := optionI hI6 mo (by omega)
          rw [Nat.zero_sub] at HOp
          have HI6 : Hid _ := hI6
          have HO6 : Hid _ := hO6
          have HA6 : Hid _ := hap6
          have HB6 : Hid _ := hB6
          have HhB : Hid _ := HL.out.hB
          have q10 : IntKind.i64.wrap ((at_ : Int) + (k2 : Int)) = (U : Int) := wrapT hU (by omega)
          have hh1 : ¬ ((20 : Int) < (ln : Int)) := by omega
          have hh2 : decide ((20 : Int) < (ln : Int)) = false := by simp; omega
          have hh3 : ¬ ((1 : Int) < (k2 : Int)) := by omega
          have hh4 : decide ((1 : Int) < (k2 : Int)) = false := by simp; omega
          have hh5 : ¬ ((k2 : Int) < 0) := by omega
          have hh6 : decide ((k2 : Int) < 0) = false := by simp
          have hh7 : ¬ ((k2 : Int) = 0) := by omega
          clear HFd hI6 hA6 HIn HL hln hO6 hap6 hB6
          go_wp2_with fail
          refine Calls.mono HH.out ?_
          rintro e W7 ⟨rfl, hw7⟩
          rw [hw7]; clear hw7 HH
          by_cases h9 : U < 16
          · rw [LS_short c d nx U mo h9] at HOp
            go_wp2_with fail
            refine Calls.mono HOp.out ?_
            rintro e W8 ⟨c8, k8, lg8, d8, cu8, ov8, l8, v8, ao8, cap8, rfl, hx8, hI8, hA8, hr8, hn8⟩
            simp only [Prod.mk.injEq] at hx8
            obtain ⟨⟨rfl, rfl, rfl, rfl⟩, rfl, rfl, rfl⟩ := hx8
            have hb9 : Below W8.heap.size W8 (W8.alloc (.cells #[.int .u32 0, .int .u32 0, .bool false, .slice ao8 0 cap8] 57)) := (Below.refl _ _).alloc (Nat.le_refl _) _
            have HL9 : Hid (Lg w (W8.alloc (.cells #[.int .u32 0, .int .u32 0, .bool false, .slice ao8 0 cap8] 57)) c d nx B bx gB cpB false U v8) := by
              have hB8 : Below w.heap.size w W8 := HB6.out.trans ((hA8.below HI6.out).mono HhB.out)
              have hO8 : W8.ownsRow w.heap.size 5 1 (.slice (some ⟨gB, 0, none⟩) (20 + d.length) cpB) (20 + d.length) ((LS c d nx).map bv) := owns_same HO6.out fun x hx => by
                simp [Value.ownBlock] at hx
                subst hx
                exact hA8.kept.block _ (owns_lt HO6.out _ rfl).1 HA6.out
              refine ⟨by simp only [if_false, Bool.false_eq_true]; exact hI8.later hb9, owns_same hO8 fun x hx => hb9.block x (owns_lt hO8 x hx).1, ?_, hB8.trans (hb9.mono hB8.size), HhB.out, fun _ => h9, fun h => by cases h⟩
              rintro (e | e)
              · exact HA6.out (.inl e)
              · exact Fresh.not hA8.fresh (owns_lt HO6.out _ rfl).1 (fun e => HA6.out (.inr e)) e
            have h10 : ¬ ((16 : Int) ≤ (U : Int)) := by omega
            have h11 : decide ((16 : Int) ≤ (U : Int)) = false := by simp; omega
            clear HOp hI8 hA8 hr8 hn8 HI6 HO6 HA6 HB6 HhB hb9
            go_wp2
            go_roundw
            case rel => exact ⟨false, U, k + 1, v8, rfl, rfl, by go_num, by omega, by omega, HL9⟩
            case measure => simp [intOf]; omega
          · rw [LS_long c d nx U mo (by omega) (by rw [HN.out]; omega) hc (by rw [HN.out]; omega) (by rw [HN.out]; omega)] at HOp
            go_wp2_with fail
            refine Calls.mono HOp.out ?_
            rintro e W8 ⟨c8, k8, lg8, d8, cu8, ov8, l8, v8, ao8, cap8, rfl, hx8, hI8, hA8, hr8, hn8⟩
            simp only [Prod.mk.injEq] at hx8
            obtain ⟨⟨rfl, rfl, rfl, rfl⟩, rfl, rfl, rfl⟩ := hx8
            have hb9 : Below W8.heap.size W8 (W8.alloc (.cells #[.int .u32 (c : Int), .int .u32 (d.length : Int), .bool true, .slice ao8 0 cap8] 57)) := (Below.refl _ _).alloc (Nat.le_refl _) _
            have HL9 : Hid (Lg w (W8.alloc (.cells #[.int .u32 (c : Int), .int .u32 (d.length : Int), .bool true, .slice ao8 0 cap8] 57)) c d nx B bx gB cpB true U v8) := by
              have hB8 : Below w.heap.size w W8 := HB6.out.trans ((hA8.below HI6.out).mono HhB.out)
              have hO8 : W8.ownsRow w.heap.size 5 1 (.slice (some ⟨gB, 0, none⟩) (20 + d.length) cpB) (20 + d.length) ((LS c d nx).map bv) := owns_same HO6.out fun x hx => by
                simp [Value.ownBlock] at hx
                subst hx
                exact hA8.kept.block _ (owns_lt HO6.out _ rfl).1 HA6.out
              refine ⟨by simp only [if_true]; exact hI8.later hb9, owns_same hO8 fun x hx => hb9.block x (owns_lt hO8 x hx).1, ?_, hB8.trans (hb9.mono hB8.size), HhB.out, fun h => (by cases h), fun _ => (by omega)⟩
              rintro (e | e)
              · exact HA6.out (.inl e)
              · exact Fresh.not hA8.fresh (owns_lt HO6.out _ rfl).1 (fun e => HA6.out (.inr e)) e
            have h10 : ¬ ((U : Int) < 16) := by omega
            have h11 : decide ((U : Int) < 16) = false := by simp; omega
            clear HOp hI8 hA8 hr8 hn8 HI6 HO6 HA6 HB6 HhB hb9
            rw [HN.out] at HL9 ⊢
            go_wp2
            go_roundw
            case rel => exact ⟨true, U, k + 1, v8, rfl, rfl, by go_num, by omega, by omega, HL9⟩
            case measure => simp [intOf]; omega
    · obtain rfl : at_ = 20 + n := by omega
      have hd1 : ¬ (((20 + n : Nat) : Int) < 20 + (n : Int)) := by omega
      cases told with
      | false => have := HL.out.lo rfl; omega
      | true =>
        have hin := HL.out.inb
        simp only [if_true] at hin
        rw [← HN.out] at hin
        rw [show 16 + d.length - (20 + d.length) = 0 by omega] at hin
        have HFl : Hid _ := flagsI hin
        have hcut := LS_end c d nx hx
        have HB5 : Hid (Below w.heap.size w wr) := HL.out.bel
        have HIn : Hid _ := hin
        have HhB : Hid (w.heap.size ≤ B) := HL.out.hB
        clear HL hin
        go_wp2_with fail
        refine Calls.mono HFl.out ?_
        rintro e W6 ⟨f, cu, l', v', rfl, hc6, hI6, hA6⟩
        rw [hcut] at hc6
        simp only [Prod.mk.injEq] at hc6
        obtain ⟨rfl, rfl, rfl⟩ := hc6
        have HB6 : Hid (Below w.heap.size w W6) := HB5.out.trans ((hA6.below HIn.out).mono HhB.out)
        have HH : Hid _ := heldI hI6
        clear HFl hcut hI6 hA6 HIn HB5
        go_wp2_with fail
        refine Calls.mono HH.out ?_
        rintro e W7 ⟨rfl, hw7⟩
        rw [hw7]; clear hw7 HH
        go_wp2
        go_ret
        exact ⟨rfl, HB6.out⟩
end Go.Proofs.Ytckfmpoddmccfaa
