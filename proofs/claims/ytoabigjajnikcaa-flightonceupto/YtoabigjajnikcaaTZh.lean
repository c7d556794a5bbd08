import Derived.Test.YtoabigjajnikcaaTZb
import Derived.Test.YtoabigjajnikcaaTZd
import Derived.Test.YtoabigjajnikcaaTZe
import Derived.Test.YtoabigjajnikcaaTZf
import Derived.Test.YtoabigjajnikcaaTZg
namespace Go.Proofs.Ytoabigjajnikcaa
open Go.RowKit Go.Maps
attribute [local go_sem] Oper.semAt_some
set_option linter.unusedVariables false
set_option linter.unusedSimpArgs false
set_option maxRecDepth 100000
theorem infoOp : (Try.prog.info? 46).map (·.size) = some 9 := by kernel_rfl

section
variable {w : World} {n0 : Nat} {F G : Nat → Prop} {b bm p : Nat} {V U : Int → Value} {v : Value} {S : St}
set_option maxHeartbeats 2000000 in
theorem as_none (h : P2 w n0 F G b bm p V v U S S) (o : OpF) (h5 : ¬ o.kind = 5) (h6 : ¬ o.kind = 6) (h7 : ¬ o.kind = 7) (h8 : ¬ o.kind = 8) (n1 n2 : Nat) (da aa : Option Addr) (dc ac : Nat) : Calls Try.prog 42 #[.pointer (some ⟨b, 0, none⟩), .pointer (some ⟨p, 0, none⟩), .agg (opl o n1 n2 da dc aa ac)] w fun r w' => r = .returned (.bool true) ∧ Below w.heap.size w w' := by
  clear h
  simp only [opl]
  generalize o.kind = k at *
  go_enter Try.func42, Try.ntmps42
  go_wp2
  go_ret
  exact ⟨rfl, below1 w _⟩
theorem asks_any (h : P2 w n0 F G b bm p V v U S S) (o : OpF) (n1 n2 : Nat) (da aa : Option Addr) (dc ac : Nat) (hw : (Lit.int .i64 o.id).wf = true) : Calls Try.prog 42 #[.pointer (some ⟨b, 0, none⟩), .pointer (some ⟨p, 0, none⟩), .agg (opl o n1 n2 da dc aa ac)] w fun r w' => r = .returned (.bool true) ∧ Below w.heap.size w w' := by
  by_cases h5 : o.kind = 5
  · exact as_get h o h5 n1 n2 da aa dc ac hw
  by_cases h6 : o.kind = 6
  · exact as_those h o h6 n1 n2 da aa dc ac
  by_cases h7 : o.kind = 7
  · exact as_len h o h7 n1 n2 da aa dc ac
  by_cases h8 : o.kind = 8
  · exact as_all h o h8 n1 n2 da aa dc ac
  exact as_none h o h5 h6 h7 h8 n1 n2 da aa dc ac
set_option maxHeartbeats 2000000 in
theorem ch_asks (h : P2 w n0 F G b bm p V v U S S) (o : OpF) (h1 : ¬ o.kind = 1) (h2 : ¬ o.kind = 2) (h3 : ¬ o.kind = 3) (h4 : ¬ o.kind = 4) (n1 n2 : Nat) (da aa : Option Addr) (dc ac : Nat) (hw : (Lit.int .i64 o.id).wf = true) : Calls Try.prog 26 #[.pointer (some ⟨b, 0, none⟩), .pointer (some ⟨p, 0, none⟩), .agg (opl o n1 n2 da dc aa ac)] w fun r w' => r = .returned (.bool true) ∧ Step w w' n0 b bm p S := by
  have B2 := mkb1 w (opl o n1 n2 da dc aa ac) 46
  have HB2 : Hid _ := B2
  have HP : Hid _ := h.later B2.bel
  have HA : Hid _ := asks_any (h.later B2.bel) o n1 n2 da aa dc ac hw
  have hle := h.le
  simp only [opl] at HB2 HP HA ⊢
  generalize o.kind = k at *
  clear h B2
  go_enter Try.func26, Try.ntmps26
  go_wp2_with (first | (refine wpList_load_row rfl 46 _ rfl w.heap.size rfl 46 #[.int .i64 k, .int .i64 o.id, .int .u16 o.rq.fl, .int .u16 o.rq.ty, .int .u64 o.rq.ck, .int .u64 o.rq.off, .int .u64 o.rq.len, .slice da n1 dc, .slice aa n2 ac] (0, 0) _ HB2.out.a Try.underlying46 rfl infoOp ?_) | fail)
  refine Calls.mono HA.out ?_
  rintro r w1 ⟨rfl, hb⟩
  have HP1 : Hid _ := HP.out.later hb
  have HB1 : Hid (Below n0 w w1) := (HB2.out.bel.trans (hb.mono (by rw [size1]; omega))).mono hle
  clear hb
  go_wp2
  go_ret
  exact ⟨rfl, _, _, _, _, _, _, HP1.out, by omega, HB1.out⟩
/-- one call of a script, made on both tables -/
theorem changes_any (h : P2 w n0 F G b bm p V v U S S) (hb : S.last < 4611686018427387904) (o : OpF) (n1 n2 : Nat) (da aa : Option Addr) (dc ac : Nat) (hop : OpOk w n0 o da dc aa ac) (HN1 : Hid (o.rq.data.length = n1)) (HN2 : Hid (o.an.length = n2)) : Calls Try.prog 26 #[.pointer (some ⟨b, 0, none⟩), .pointer (some ⟨p, 0, none⟩), .agg (opl o n1 n2 da dc aa ac)] w fun r w' => r = .returned (.bool true) ∧ Step w w' n0 b bm p S := by
  by_cases h1 : o.kind = 1
  · exact ch_add h hb o h1 n1 n2 da aa dc ac hop HN1
  by_cases h2 : o.kind = 2
  · exact ch_done h o h2 n1 n2 da aa dc ac hop HN2
  by_cases h3 : o.kind = 3
  · exact ch_take h o h3 n1 n2 da aa dc ac hop.wf
  by_cases h4 : o.kind = 4
  · exact ch_clear h o h4 n1 n2 da aa dc ac
  exact ch_asks h o h1 h2 h3 h4 n1 n2 da aa dc ac hop.wf
end
/-- a script: nine cells for each call, all of it below n0 -/
structure Scr (w : World) (n0 : Nat) (ao : Option Addr) (os : List OpF) : Prop where
  len : os.length ≤ 1099511627776
  at_ : ∀ k o, os[k]? = some o → ∃ g off da dc aa ac, ao = some ⟨g, off, none⟩ ∧ g < n0 ∧ w.rangeAt g (off + k * 9) (opl o o.rq.data.length o.an.length da dc aa ac).toList ∧ OpOk w n0 o da dc aa ac
theorem range_same {w w' : World} {g off : Nat} {xs : List Value} (h : w.rangeAt g off xs) (hb : w'.heap[g]? = w.heap[g]?) : w'.rangeAt g off xs := fun j u hu => (cell_block hb).trans (h j u hu)
theorem Scr.below {w w' : World} {n0 : Nat} {ao : Option Addr} {os : List OpF} (h : Scr w n0 ao os) (hb : Below n0 w w') : Scr w' n0 ao os := by
  refine ⟨h.len, fun k o ho => ?_⟩
  obtain ⟨g, off, da, dc, aa, ac, e, hg, hr, hop⟩ := h.at_ k o ho
  exact ⟨g, off, da, dc, aa, ac, e, hg, range_same hr (hb.block g hg), hop.below hb⟩
set_option maxHeartbeats 4000000 in
theorem plays_any (w : World) (most lo hi : Int) (ao : Option Addr) (n cap : Nat) (os : List OpF) (HN : Hid (os.length = n)) (hs : Scr w w.heap.size ao os) : Calls Try.prog 15 #[.int .i64 most, .slice ao n cap, .int .i64 lo, .int .i64 hi] w fun r w' => r = .returned (.bool true) ∧ Below w.heap.size w w' := by
  have HS : Hid _ := hs
  have hnl : n ≤ 1099511627776 := by rw [← HN.out]; exact hs.len
  clear hs
  by_cases hm : most < 1 ∨ 64 < most
  · have HM : Hid _ := made_bad w most hm
    clear hm
    go_enter Try.func15, Try.ntmps15
    go_wp2_with fail
    refine Calls.mono HM.out ?_
    rintro r w1 ⟨rfl, hw⟩
    rw [hw]; clear hw w1
    go_wp2_with fail
    refine Calls.mono (heads_any w) ?_
    rintro r w1 ⟨rfl, hb⟩
    have HB : Hid _ := hb
    clear hb
    go_wp2
    go_ret
    exact ⟨rfl, HB.out⟩
  · obtain ⟨m, rfl⟩ : ∃ m : Nat, most = m := ⟨most.toNat, by omega⟩
    have HM : Hid _ := made_any w m (by omega) (by omega)
    clear hm
    go_enter Try.func15, Try.ntmps15
    go_wp2_with fail
    refine Calls.mono HM.out ?_
    rintro r w1 ⟨b, p, rfl, bm, hpr, hb1⟩
    have HP1 : Hid _ := hpr.p2
    have HB1 : Hid _ := hb1
    clear hpr hb1 HM
    go_wp2_with fail
    refine Calls.mono (heads_any w1) ?_
    rintro r w2 ⟨rfl, hb⟩
    have HP2 : Hid _ := HP1.out.later hb
    have HB2 : Hid (Below w.heap.size w w2) := HB1.out.trans (hb.mono HB1.out.size)
    clear hb HP1 HB1
    go_wp2
    go_loopw [12] (fun i wr => ∃ k : Nat, k ≤ n ∧ i = .int .i64 (k : Int) ∧ ∃ (F G : Nat → Prop) (V U : Int → Value) (v : Value) (S : St), Hid (P2 wr w.heap.size F G b bm p V v U S S ∧ S.last ≤ k ∧ Below w.heap.size w wr)) (fun i _ => n - (intOf i).toNat)
    case atStart => exact ⟨0, Nat.zero_le _, rfl, _, _, _, _, _, _, HP2.out, Nat.le_refl _, HB2.out⟩
    case round =>
      obtain ⟨k, hk, rfl, F, G, V, U, v, S, HI⟩ := hrel
      by_cases hlt : k < n
      · obtain ⟨o, hko⟩ : ∃ o, os[k]? = some o := ⟨_, List.getElem?_eq_getElem (by rw [HN.out]; exact hlt)⟩
        obtain ⟨g, off, da, dc, aa, ac, rfl, hg, hr, hop⟩ := (HS.out.below HI.out.2.2).at_ k o hko
        obtain ⟨n1, hn1⟩ : ∃ n, o.rq.data.length = n := ⟨_, rfl⟩
        obtain ⟨n2, hn2⟩ : ∃ n, o.an.length = n := ⟨_, rfl⟩
        have HC : Hid _ := changes_any HI.out.1 (by have := HI.out.2.1; omega) o n1 n2 da aa dc ac hop hn1 hn2
        rw [hn1, hn2] at hr
        have HR : Hid _ := hr
        have hkz : (k : Int) < (n : Int) := by omega
        have hkn : ¬ (k : Int) < 0 := by omega
        clear hko hr hop hn1 hn2 hg
        simp only [opl] at HC HR
        go_wp2_with (first | (refine wpList_load_mid rfl 46 _ rfl g (off + k * 9) rfl _ _ HR.out Try.underlying46 rfl infoOp ?_) | fail)
        refine Calls.mono HC.out ?_
        rintro r w3 ⟨rfl, F', G', V', v', U', S', hp3, hl3, hb3⟩
        have HI3 : Hid (P2 w3 w.heap.size F' G' b bm p V' v' U' S' S' ∧ S'.last ≤ k + 1 ∧ Below w.heap.size w w3) := ⟨hp3, by have := HI.out.2.1; omega, HI.out.2.2.trans hb3⟩
        clear hp3 hl3 hb3 HC HR HI
        go_wp2
        go_roundw
        case rel => exact ⟨k + 1, by omega, by go_num, F', G', V', U', v', S', HI3⟩
        case measure => simp [intOf]; omega
      · have HR3 : Hid _ := HI.out.2.2
        clear HI
        go_wp2
        go_ret
        exact ⟨rfl, HR3.out⟩
theorem lawMoves (w : World) (most : Int) (ao : Option Addr) (n cap : Nat) (os : List OpF) (HN : Hid (os.length = n)) (hs : Scr w w.heap.size ao os) : Calls Try.prog 4 #[.int .i64 most, .slice ao n cap] w fun r w' => r = .returned (.bool true) ∧ Below w.heap.size w w' := by
  have HP : Hid _ := plays_any w most 1 4 ao n cap os HN hs
  clear hs
  go_enter Try.func4, Try.ntmps4
  go_wp2_with fail
  refine Calls.mono HP.out ?_
  rintro r w1 ⟨rfl, hb⟩
  have HB : Hid _ := hb
  clear hb
  go_wp2
  go_ret
  exact ⟨rfl, HB.out⟩
theorem lawTells (w : World) (most : Int) (ao : Option Addr) (n cap : Nat) (os : List OpF) (HN : Hid (os.length = n)) (hs : Scr w w.heap.size ao os) : Calls Try.prog 5 #[.int .i64 most, .slice ao n cap] w fun r w' => r = .returned (.bool true) ∧ Below w.heap.size w w' := by
  have HP : Hid _ := plays_any w most 5 8 ao n cap os HN hs
  clear hs
  go_enter Try.func5, Try.ntmps5
  go_wp2_with fail
  refine Calls.mono HP.out ?_
  rintro r w1 ⟨rfl, hb⟩
  have HB : Hid _ := hb
  clear hb
  go_wp2
  go_ret
  exact ⟨rfl, HB.out⟩
theorem lawAll (w : World) (most : Int) (ao : Option Addr) (n cap : Nat) (os : List OpF) (HN : Hid (os.length = n)) (hs : Scr w w.heap.size ao os) : Calls Try.prog 6 #[.int .i64 most, .slice ao n cap] w fun r w' => r = .returned (.bool true) ∧ Below w.heap.size w w' := by
  have HP : Hid _ := plays_any w most 1 8 ao n cap os HN hs
  clear hs
  go_enter Try.func6, Try.ntmps6
  go_wp2_with fail
  refine Calls.mono HP.out ?_
  rintro r w1 ⟨rfl, hb⟩
  have HB : Hid _ := hb
  clear hb
  go_wp2
  go_ret
  exact ⟨rfl, HB.out⟩
end Go.Proofs.Ytoabigjajnikcaa
