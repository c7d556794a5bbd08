import Derived.Test.YtbamjfnjenmdaaaGreatG50
import Derived.Test.YtbamjfnjenmdaaaGreatzCOgo
import Derived.Deep.RegionHeld3
namespace Go.Proofs.YtbamjfnjenmdaaaGreat.C
open Go.RowKit Go.Maps Go.Shelf Go.Proofs.YtbamjfnjenmdaaaGreat
attribute [local go_sem] Oper.semAt_some
set_option linter.unusedVariables false
set_option linter.unusedSimpArgs false
set_option maxRecDepth 100000

/-- is one of the first entries this? -/
def hasD (f : K.Bl) (E : List (Value × K.Bl)) : Bool := E.any fun d => decide (f = d.2)
set_option maxHeartbeats 8000000 in
theorem holds_l {B : Nat} {w : World} {bw sv : Value} {SS : List Se} (hs : Sn B w bw sv SS) (n : Nat) (hn0 : 1 ≤ n) (hn : n ≤ 65536) (hSS : SS.length = n) (hel : ∀ e ∈ SS, e.2.length ≤ 1048576) (hdk : ∀ e ∈ SS, ∀ d ∈ e.2, K.OkB d.2) (k : Int) {v : Value} {l : List (Int × Int)} (hv : ArgS w v l) (hl : l.length ≤ 64) (hw : ∀ p ∈ l, 0 ≤ p.1 ∧ 1 ≤ p.2 ∧ p.1 + p.2 ≤ 65536) {g c : Nat} {f : Nat → K.Bl} (hi : Img w g c n f) (hf : ∀ (x : Nat) e, SS[x]? = some e → isN l x = true ∨ hasD (f x) e.2 = true) :
    Calls Tryz.prog 18 #[.agg #[.int .i64 n, .int .i64 k, v], .slice (some ⟨g, 0, none⟩) (n * 512) c, sv] w fun r w' => r = .returned (.bool true) ∧ Below w.heap.size w w' := by
  obtain ⟨ao, c0, rfl, _⟩ := hv.form
  obtain ⟨e0, he0⟩ : ∃ e, SS[0]? = some e := ⟨_, List.getElem?_eq_getElem (by omega)⟩
  obtain ⟨gs, sc, rfl, _, _⟩ := row_at hs.row (k := 0) (x := e0.1) (by rw [List.getElem?_map, he0]; rfl)
  rw [hSS]
  obtain ⟨W0, hW0⟩ : ∃ W0, W0 = w.alloc (.cells #[.int .i64 n, .int .i64 k, .slice ao l.length c0] TSe) := ⟨_, rfl⟩
  have hB0 : Below w.heap.size w W0 := by rw [hW0]; exact (Below.refl _ w).alloc (Nat.le_refl _) _
  have hbx : W0.heap[w.heap.size]? = some (.cells #[.int .i64 n, .int .i64 k, .slice ao l.length c0] TSe) := by rw [hW0]; exact heap_alloc_new w _
  have hlt : w.heap.size < W0.heap.size := (Array.getElem?_eq_some_iff.1 hbx).1
  obtain ⟨L, hL⟩ : ∃ L, L = n * 512 := ⟨_, rfl⟩
  have hLc : L ≤ c := by rw [hL]; exact hi.cap
  obtain ⟨ml, hml⟩ : ∃ ml, ml = l.length := ⟨_, rfl⟩
  have HC : Hid (∀ W, Below W0.heap.size W0 W → (W.cell? ⟨w.heap.size, 0, none⟩ = some (.int .i64 n) ∧ W.cell? ⟨w.heap.size, 1, none⟩ = some (.int .i64 k) ∧ W.cell? ⟨w.heap.size, 2, none⟩ = some (.slice ao ml c0)) ∧ Below w.heap.size w W) := fun W hb' => by
    have h1 := (hb'.block _ hlt).trans hbx
    exact ⟨⟨(K.cell_of h1).trans rfl, (K.cell_of h1).trans rfl, by rw [hml]; exact (K.cell_of h1).trans rfl⟩, hB0.trans (hb'.mono hB0.size)⟩
  have HNt : Hid (∀ W, Below W0.heap.size W0 W → ∀ x : Nat, x < n → Calls Tryz.prog 26 #[.agg #[.int .i64 n, .int .i64 k, .slice ao ml c0], .int .i64 x] W fun r w' => r = .returned (.bool (isN l x)) ∧ Below W0.heap.size W0 w') := fun W hb' x hx => by
    rw [hml]
    have hbw : Below w.heap.size w W := hB0.trans (hb'.mono hB0.size)
    refine (note_l W n k (hv.later hbw) hl hw (s := x) ⟨by omega, by omega⟩).mono ?_
    rintro r w' ⟨rfl, hb2⟩
    exact ⟨rfl, hb'.trans (hb2.mono hb'.size)⟩
  have HX : Hid (∀ (x : Nat) (e : Se), SS[x]? = some e → x < n → (∃ eo ec, e.1 = .slice eo e.2.length ec) ∧ e.2.length ≤ 1048576 ∧ ∀ W, Below W0.heap.size W0 W → W.cell? ⟨gs, x, none⟩ = some e.1 ∧ ∀ (i : Nat) d, e.2[i]? = some d → ∃ ge ec, e.1 = .slice (some ⟨ge, 0, none⟩) e.2.length ec ∧ W.cell? ⟨ge, i, none⟩ = some d.1 ∧ ∃ do' dc, d.1 = .slice do' 512 dc ∧ ∀ q, Calls Tryz.prog 23 #[.slice (some ⟨g, x * 512, none⟩) 512 (c - x * 512), .slice do' 512 dc] (W.drewN q) fun r w' => r = .returned (.bool (decide (f x = d.2))) ∧ ∃ m, w' = (W.drewN q).drewN m) := fun x e hx hxn => by
    have hm := List.mem_of_getElem? hx
    refine ⟨by_form (hs.inn e hm), hel e hm, fun W hb' => ?_⟩
    have hbw : Below w.heap.size w W := hB0.trans (hb'.mono hB0.size)
    have hs' := hs.later hbw
    obtain ⟨gs', sc', e1, c1, _⟩ := row_at hs'.row (k := x) (x := e.1) (by rw [List.getElem?_map, hx]; rfl)
    cases e1
    refine ⟨c1, fun i d hd => ?_⟩
    obtain ⟨ge, ec, e2, c2, _⟩ := row_at (hs'.inn e hm) (k := i) (x := d.1) (by rw [List.getElem?_map, hd]; rfl)
    have hdm := List.mem_of_getElem? hd
    have hok := hdk e hm d hdm
    obtain ⟨do', dc, e3, hb3⟩ := row_brow (hs'.dat e hm d hdm) hok
    refine ⟨ge, ec, e2, c2, do', dc, e3, fun q => ?_⟩
    have h1 := ((hi.later hbw).brow hxn).drewN q
    have h2 := hb3.drewN q
    have hsm := same_any _ _ _ _ _ _ (W.drewN q) h1 h2
    rw [(hi.ok x hxn).len, hok.len] at hsm
    exact hsm
  have HF : Hid (∀ (x : Nat) e, SS[x]? = some e → isN l x = true ∨ hasD (f x) e.2 = true) := hf
  have HLn : Hid (SS.length = n ∧ L = n * 512) := ⟨hSS, hL⟩
  have hwr0 : IntKind.i64.wrap ((n : Int) * 512) = (L : Int) := by rw [IntKind.wrap_i64]; omega
  have HB0 : Hid (Below W0.heap.size W0 W0) := Below.refl _ _
  have k0 : W0.cell? ⟨w.heap.size, 0, none⟩ = some (.int .i64 n) := (HC.out W0 HB0.out).1.1
  rw [← hL]
  rw [← hml] at hW0 ⊢
  clear hs hi hf hB0 hbx hlt hL hv hw hel hdk hml he0 hSS
  go_enter Tryz.func18, Tryz.ntmps18
  have k0' := k0
  rw [hW0] at k0'
  go_wp2
  rw [← hW0]
  clear hW0 k0 k0'
  go_loopw [7] (fun i wr => ∃ (x : Nat), x ≤ n ∧ i = .int .i64 x ∧ Hid (Below W0.heap.size W0 wr)) (fun i _ => n - (intOf i).toNat)
  case atStart => exact ⟨0, Nat.zero_le _, rfl, HB0⟩
  case round =>
    obtain ⟨x, hx, rfl, HB⟩ := hrel
    obtain ⟨⟨k1, k2, k3⟩, hbw⟩ := HC.out wr HB.out
    by_cases hlt : x < n
    · have hxz : (x : Int) < (n : Int) := by omega
      obtain ⟨a, ha⟩ : ∃ a, a = x * 512 := ⟨_, rfl⟩
      obtain ⟨b, hb⟩ : ∃ b, b = a + 512 := ⟨_, rfl⟩
      have hwr : IntKind.i64.wrap ((x : Int) * 512) = (a : Int) := by rw [IntKind.wrap_i64]; omega
      have hwr2 : IntKind.i64.wrap ((a : Int) + 512) = (b : Int) := by rw [IntKind.wrap_i64]; have := HLn.out.2; omega
      have i1 : (0 : Int) ≤ (a : Int) := by omega
      have i2 : (a : Int) ≤ (b : Int) := by omega
      have i3 : (b : Int) ≤ (L : Int) := by have := HLn.out.2; omega
      have i4 : (b : Int) ≤ (c : Int) := by have := HLn.out.2; omega
      have i5 : ¬ c = a := by have := HLn.out.2; omega
      have i6 : b - a = 512 := by omega
      have x0 : (0 : Int) ≤ (x : Int) := by omega
      obtain ⟨e, he⟩ : ∃ e, SS[x]? = some e := ⟨_, List.getElem?_eq_getElem (by have := HLn.out.1; omega)⟩
      obtain ⟨⟨eo, ec, hee⟩, hel, HEc⟩ := HX.out x e he hlt
      obtain ⟨E, hE⟩ : ∃ E, E = e.2 := ⟨_, rfl⟩
      obtain ⟨el, hel2⟩ : ∃ el, el = E.length := ⟨_, rfl⟩
      have HEl : Hid (el = E.length) := hel2
      have HFx : Hid (isN l x = true ∨ hasD (f x) E = true) := by have := HF.out x e he; rw [← hE] at this; exact this
      rw [← ha, hee] at HEc
      rw [← hE, ← hel2] at HEc hel
      have HE : Hid (∀ W, Below W0.heap.size W0 W → W.cell? ⟨gs, x, none⟩ = some (.slice eo el ec) ∧ ∀ (i : Nat) d, E[i]? = some d → ∃ ge, eo = some ⟨ge, 0, none⟩ ∧ W.cell? ⟨ge, i, none⟩ = some d.1 ∧ ∃ do' dc, d.1 = .slice do' 512 dc ∧ ∀ q, Calls Tryz.prog 23 #[.slice (some ⟨g, a, none⟩) 512 (c - a), .slice do' 512 dc] (W.drewN q) fun r w' => r = .returned (.bool (decide (f x = d.2))) ∧ ∃ m, w' = (W.drewN q).drewN m) := fun W hb' => by
        obtain ⟨h1, h2⟩ := HEc W hb'
        refine ⟨h1, fun i d hd => ?_⟩
        obtain ⟨ge, ec', e2, r2⟩ := h2 i d hd
        cases e2
        exact ⟨ge, rfl, r2⟩
      have hnt := HNt.out wr HB.out x hlt
      have HNT : Hid _ := hnt
      clear hnt HEc hee he hE hel2 ha hb hbw
      go_wp2_with fail
      refine Calls.mono HNT.out ?_
      clear HNT k1 k2 k3
      rintro r w2 ⟨rfl, hb2⟩
      have HB2 : Hid (Below W0.heap.size W0 w2) := hb2
      clear hb2
      go_wp2
      go_loopw [9, 10] (fun okv iv wk => ∃ (i : Nat), i ≤ el ∧ iv = .int .i64 i ∧ okv = .bool (isN l x || hasD (f x) (E.take i)) ∧ Hid (Below W0.heap.size W0 wk)) (fun _ iv _ => el - (intOf iv).toNat)
      case atStart => exact ⟨0, Nat.zero_le _, rfl, by simp [hasD], HB2⟩
      case round =>
        obtain ⟨i, hil, rfl, rfl, HBk⟩ := hrel
        obtain ⟨m1, hcs⟩ := HE.out wr HBk.out
        generalize hbo : (isN l x || hasD (f x) (E.take i)) = bo at *
        have HBO : Hid ((isN l x || hasD (f x) (E.take i)) = bo) := hbo
        clear hbo
        cases bo
        · by_cases hie : i < el
          · have hiz : (i : Int) < (el : Int) := by omega
            have iz0 : (0 : Int) ≤ (i : Int) := by omega
            obtain ⟨d, hd⟩ : ∃ d, E[i]? = some d := ⟨_, List.getElem?_eq_getElem (by have := HEl.out; omega)⟩
            obtain ⟨ge, rfl, m2, do', dc, hde, hsm⟩ := hcs i d hd
            rw [hde] at m2
            have HT : Hid ((isN l x || hasD (f x) (E.take (i + 1))) = decide (f x = d.2)) := by
              show _ = _
              have h1 := HBO.out
              rw [Bool.or_eq_false_iff] at h1
              rw [h1.1, List.take_add_one, hd]
              unfold hasD at h1 ⊢
              rw [List.any_append, h1.2]
              simp
            have HSM : Hid (∀ q, Calls Tryz.prog 23 #[.slice (some ⟨g, a, none⟩) 512 (c - a), .slice do' 512 dc] (wr.drewN q) fun r w' => r = .returned (.bool (decide (f x = d.2))) ∧ ∃ m, w' = (wr.drewN q).drewN m) := hsm
            clear hcs hd hde hsm
            go_wp2
            go_quiet (first | (go_at_call 23; exact Calls.quiet_of (HSM.out _)))
            go_wp2
            go_roundw
            case rel => exact ⟨i + 1, by omega, by go_num, by rw [HT.out], ⟨HBk.out.os, HBk.out.tape, HBk.out.output, HBk.out.size, HBk.out.block⟩⟩
            case measure => simp [intOf]; omega
          · exfalso
            have h1 := HBO.out
            rw [Bool.or_eq_false_iff, List.take_of_length_le (by have := HEl.out; omega)] at h1
            rcases HFx.out with h2 | h2
            · rw [h1.1] at h2; cases h2
            · rw [h1.2] at h2; cases h2
        · clear hcs
          by_cases hie : i < el
          · have hiz : (i : Int) < (el : Int) := by omega
            have s0 := (HC.out wr HBk.out).1.1
            go_wp2
            go_roundw
            case rel => exact ⟨x + 1, by omega, by go_num, HBk⟩
            case measure => simp [intOf]; omega
          · have hiz : ¬ (i : Int) < (el : Int) := by omega
            have s0 := (HC.out wr HBk.out).1.1
            go_wp2
            go_roundw
            case rel => exact ⟨x + 1, by omega, by go_num, HBk⟩
            case measure => simp [intOf]; omega
    · have hxz : ¬ (x : Int) < (n : Int) := by omega
      have HBW : Hid (Below w.heap.size w wr) := hbw
      clear hbw
      go_wp2
      go_ret
      exact ⟨rfl, HBW.out⟩
end Go.Proofs.YtbamjfnjenmdaaaGreat.C

namespace Go.Proofs.YtbamjfnjenmdaaaGreat.C
open Go.RowKit Go.Maps Go.Shelf Go.Proofs.YtbamjfnjenmdaaaGreat
attribute [local go_sem] Oper.semAt_some
set_option linter.unusedVariables false
set_option linter.unusedSimpArgs false
set_option maxRecDepth 100000

theorem eq_cn (w : World) : (binOp .eql 29 (.pointer none) (.pointer none)).run Tryz.prog w = .ok (.bool true) w := by rfl
theorem eq_dn (w : World) : (binOp .eql 28 (.pointer none) (.pointer none)).run Tryz.prog w = .ok (.bool true) w := by rfl
theorem eq_ds (w : World) (a : Addr) : (binOp .eql 28 (.pointer (some a)) (.pointer none)).run Tryz.prog w = .ok (.bool false) w := by rfl
theorem run_book (w : World) : (Instr.build TBk #[]).run Tryz.prog w = .ok (.agg #[.slice none 0 0, .slice none 0 0]) w := run_build w TBk _ _ (by kernel_rfl)
theorem w_drew (X : World) : Below X.heap.size X X.drew := ⟨rfl, rfl, rfl, Nat.le_refl _, fun _ _ => rfl⟩
abbrev TBss : TypeId := 37
theorem infoBs : (Tryz.prog.info? TBs).map (fun i => (i.zero, i.size, i.bytes)) = some (some (.slice none 0 0), 1, 24) := by kernel_rfl
theorem run_since (w : World) {n : Nat} (hn : n ≤ 65536) : (Instr.makeSlice TBss (.int .i64 (n : Int)) (.int .i64 (n : Int))).run Tryz.prog w = .ok (.slice (some ⟨w.heap.size, 0, none⟩) n n) (w.alloc (.cells (List.replicate n (Value.slice none 0 0)).toArray TBs)) := by
  obtain ⟨i0, hi, hz0, hz1, hz2⟩ := info_parts infoBs
  have h1 := run_make (P := Tryz.prog) w TBss TBs i0 (.slice none 0 0) Tryz.underlying37 hi hz0 .i64 .i64 (n : Int) (n : Int) (by omega) (Int.le_refl _) (by rw [hz2]; omega) (by omega)
  rw [Int.toNat_natCast, hz1] at h1
  rw [h1]
  congr 3
  apply Array.ext_getElem?
  intro k
  rcases Nat.lt_or_ge k n with hk | hk
  · simp [madeCells, Value.cells, hk, Nat.mod_one]
  · rw [Array.getElem?_eq_none (by simp [madeCells]; omega), Array.getElem?_eq_none (by simp; omega)]
/-- the bytes of a sector's list -/
def bsOf (e : Se) : List K.Bl := e.2.map (·.2)
theorem hasD_of {f : K.Bl} {e : Se} (h : f ∈ bsOf e) : hasD f e.2 = true := by
  obtain ⟨d, hd, e1⟩ := List.mem_map.1 h
  unfold hasD
  rw [List.any_eq_true]
  exact ⟨d, hd, by simp [e1]⟩
/-- what the law has behind some of its rounds -/
structure Oi (w0 W : World) (bc bd kb n i : Nat) (l : List (Int × Int)) (sv : Value) (P : Loc) (S : K.Dk) (C : Ch) (av bw : Value) (A : List Be) (SS : List Se) : Prop where
  kp : Kpr w0 W bc bd kb n i P S C av bw A (fun t => getB A t)
  nt : Nt C
  no : C.notes = l
  sn : Sn w0.heap.size W bw sv SS
  ln : SS.length = n
  sz : ∀ e ∈ SS, e.2.length ≤ i + 1 ∧ ∀ d ∈ e.2, K.OkB d.2
  ord : notedB l S.q = true → ∀ (x : Nat) e, SS[x]? = some e → (isN l x = false → S.safe x ∈ bsOf e) ∧ getB A x ∈ bsOf e
def Nxo (w0 W : World) (bc bd kb n i : Nat) (l : List (Int × Int)) (sv : Value) : Prop := ∃ P S C av bw A SS, Oi w0 W bc bd kb n i l sv P S C av bw A SS
theorem Oi.later {w0 W W' : World} {bc bd kb n i : Nat} {l : List (Int × Int)} {sv : Value} {P : Loc} {S : K.Dk} {C : Ch} {av bw : Value} {A : List Be} {SS : List Se} (h : Oi w0 W bc bd kb n i l sv P S C av bw A SS) (hb : Below W.heap.size W W') : Oi w0 W' bc bd kb n i l sv P S C av bw A SS := ⟨h.kp.later hb, h.nt, h.no, h.sn.later hb, h.ln, h.sz, h.ord⟩
theorem lawOrder_no (w : World) (n k : Int) {v : Value} {l : List (Int × Int)} (hv : ArgS w v l) (hw : ∀ p ∈ l, I64 p.1 ∧ I64 p.2) (hfit : fitB n k l = false) (so : Option Addr) (m cap : Nat) :
    Calls Tryz.prog 3 #[.agg #[.int .i64 n, .int .i64 k, v], .slice so m cap] w fun r w' => r = .returned (.bool true) ∧ Below w.heap.size w w' := by
  obtain ⟨ao, c0, hve, _⟩ := hv.form
  subst hve
  obtain ⟨W0, hW0⟩ : ∃ W0, W0 = w.alloc (.cells #[.int .i64 n, .int .i64 k, .slice ao l.length c0] TSe) := ⟨_, rfl⟩
  have hB0 : Below w.heap.size w W0 := by rw [hW0]; exact (Below.refl _ w).alloc (Nat.le_refl _) _
  have hbx : W0.heap[w.heap.size]? = some (.cells #[.int .i64 n, .int .i64 k, .slice ao l.length c0] TSe) := by rw [hW0]; exact heap_alloc_new w _
  have hlt : w.heap.size < W0.heap.size := (Array.getElem?_eq_some_iff.1 hbx).1
  have HC : Hid (∀ W, Below W0.heap.size W0 W → W.cell? ⟨w.heap.size, 0, none⟩ = some (.int .i64 n) ∧ W.cell? ⟨w.heap.size, 1, none⟩ = some (.int .i64 k) ∧ W.cell? ⟨w.heap.size, 2, none⟩ = some (.slice ao l.length c0)) := fun W hb => by
    have h1 := (hb.block _ hlt).trans hbx
    exact ⟨(K.cell_of h1).trans rfl, (K.cell_of h1).trans rfl, (K.cell_of h1).trans rfl⟩
  have HF : Hid (∀ W, Below W0.heap.size W0 W → Below w.heap.size w W) := fun W hb => hB0.trans (hb.mono hB0.size)
  have HFit : Hid (∀ W, Below W0.heap.size W0 W → Calls Tryz.prog 5 #[.agg #[.int .i64 n, .int .i64 k, .slice ao l.length c0]] W fun r w' => r = .returned (.bool false) ∧ Below W0.heap.size W0 w') := fun W hb => by
    refine (fits_c W n k (hv.later (HF.out W hb)) hw).mono ?_
    rintro r w' ⟨rfl, hb'⟩
    exact ⟨by rw [hfit], hb.trans (hb'.mono hb.size)⟩
  clear hv hw hB0 hbx hlt hfit
  go_enter Tryz.func3, Tryz.ntmps3
  go_wp2_with fail
  rw [← hW0]
  refine Calls.mono (heads_c W0) ?_
  clear hW0
  rintro e W1 ⟨rfl, hb1⟩
  obtain ⟨q0, q1, q2⟩ := HC.out W1 hb1
  have hf1 := HFit.out W1 hb1
  clear HFit hb1
  go_wp2_with fail
  refine Calls.mono hf1 ?_
  clear hf1 q0 q1 q2
  rintro e W2 ⟨rfl, hb2⟩
  go_wp2
  go_ret
  exact ⟨rfl, HF.out _ hb2⟩
end Go.Proofs.YtbamjfnjenmdaaaGreat.C
