import Derived.Test.YtpchllepboolhaaGO
import Derived.BigFrame
import Derived.BigGuard
namespace Go.Proofs.Ytpchllepboolhaa.D
open Go.RowKit Go.Proofs.Ytpchllepboolhaa.I
attribute [local go_sem] Oper.semAt_some
set_option linter.unusedVariables false
set_option linter.unusedSimpArgs false
set_option maxRecDepth 100000

/-- every row of numbers is kept -/
def KI (W W' : World) : Prop := ∀ (i : Nat) (cs : Array Value) (fr : Nat × Nat), W.heap[i]? = some (.cells cs TIn fr) → W'.heap[i]? = some (.cells cs TIn fr)
theorem KI.row {W W' : World} (h : KI W W') {B n : Nat} {v : Value} {xs : List Value} (hr : W.ownsRow B TIn 1 v n xs) : W'.ownsRow B TIn 1 v n xs := by
  refine ⟨hr.1, ?_⟩
  rcases hr.2 with h0 | ⟨g, cap, cur, hv, hb, hg, rest⟩
  · exact .inl h0
  · exact .inr ⟨g, cap, cur, hv, hb, h g _ _ hg, rest⟩
theorem row_later {W W' : World} (h : Below W.heap.size W W') {B n : Nat} {v : Value} {xs : List Value} (hr : W.ownsRow B TIn 1 v n xs) : W'.ownsRow B TIn 1 v n xs := KI.row (fun i cs fr hi => (h.block i (Array.getElem?_eq_some_iff.1 hi).1).trans hi) hr
theorem kp_int {W W' : World} {bo bm g : Nat} {L : List Ent} (h : RO W bo bm g L) (hk : Kp W W' (fp bo bm g L)) : KI W W' := fun i cs fr hi => by
  refine (hk.block i (Array.getElem?_eq_some_iff.1 hi).1 fun hf => ?_).trans hi
  obtain ⟨nx, pv, rl, hg, hL⟩ := h.rg
  obtain ⟨n, D, ⟨es, clock, hm, _⟩, _⟩ := h.mp
  have key : ∀ {cs' : Array Value} {T' : TypeId}, W.heap[i]? = some (.cells cs' T' (0, 0)) → TIn = T' := fun h => by
    have := hi.symm.trans h
    simp at this; exact this.2.1
  simp only [fp, List.mem_cons, List.mem_map] at hf
  rcases hf with rfl | rfl | rfl | ⟨x, hx, rfl⟩
  · exact absurd (key h.ord) (by decide)
  · rw [hi] at hm; cases hm
  · exact absurd (key hg) (by decide)
  · exact absurd (key (hL x hx)) (by decide)
theorem Os.callK {w W : World} {bo bm g : Nat} {A A' : List It} {f : Nat} {kind k : Int} {b : Bool} (h : Os w W bo bm g A) (hb : ans kind k A = b) (hA : stp kind k A = A') (ho : ∀ L, L.map I.kp = A → RO W bo bm g L → OCall f kind W bo bm g L k) :
    Calls Try.prog f #[.pointer (some ⟨bo, 0, none⟩), .int .i64 k] W fun r w' => r = .returned (.bool b) ∧ Os w w' bo bm g A' ∧ KI W w' := by
  obtain ⟨L, h1, rfl, h3, h4⟩ := h
  subst hb hA
  refine (ho L rfl h1).mono ?_
  rintro r w' ⟨rfl, L', ha, hA⟩
  obtain ⟨b1, b2⟩ := ha.below h4 h3.size
  exact ⟨rfl, ⟨L', ha.ro, hA, h3.trans b1, b2⟩, kp_int h1 ha.kp⟩
theorem irow' {W : World} {B n : Nat} {v : Value} {ks : List Int} (h : W.ownsRow B TIn 1 v n (iv ks)) (hn : n = ks.length) : ∃ ao cap, v = .slice ao n cap ∧ IRow W ao ks := by
  subst hn
  exact irow_of h
theorem Os.allS {w W : World} {bo bm g n : Nat} {A : List It} {ks : List Int} (h : Os w W bo bm g A) (hl : A.length ≤ 8796093022208) (hk : keysOf A = ks) (hn : n = ks.length) :
    Calls Try.prog 36 #[.pointer (some ⟨bo, 0, none⟩)] W fun r w' => ∃ a c, r = .returned (.slice a n c) ∧ w'.ownsRow W.heap.size TIn 1 (.slice a n c) n (iv ks) ∧ Below W.heap.size W w' := by
  subst hk hn
  refine (h.all hl).mono ?_
  rintro r w' ⟨v, rfl, ho, hb⟩
  obtain ⟨a, c, rfl, _⟩ := irow_of ho
  exact ⟨a, c, rfl, ho, hb⟩
theorem Os.freeS {w W : World} {bo bm g n : Nat} {A : List It} {ks : List Int} (h : Os w W bo bm g A) (hl : A.length ≤ 8796093022208) (hk : freeOf A = ks) (hn : n = ks.length) :
    Calls Try.prog 42 #[.pointer (some ⟨bo, 0, none⟩)] W fun r w' => ∃ a c, r = .returned (.slice a n c) ∧ w'.ownsRow W.heap.size TIn 1 (.slice a n c) n (iv ks) ∧ Below W.heap.size W w' := by
  subst hk hn
  refine (h.free hl).mono ?_
  rintro r w' ⟨v, rfl, ho, hb⟩
  obtain ⟨a, c, rfl, _⟩ := irow_of ho
  exact ⟨a, c, rfl, ho, hb⟩
theorem sameS {X : World} {B B' n c c' : Nat} {a a' : Option Addr} {ks : List Int} (hn : n = ks.length) (hl : n ≤ 17592186044416) (h : X.ownsRow B TIn 1 (.slice a n c) n (iv ks)) (h' : X.ownsRow B' TIn 1 (.slice a' n c') n (iv ks)) :
    Calls Try.prog 35 #[.slice a n c, .slice a' n c'] X fun r w' => r = .returned (.bool true) ∧ Below X.heap.size X w' := by
  obtain ⟨b1, d1, e1, h1⟩ := irow' h hn
  obtain ⟨b2, d2, e2, h2⟩ := irow' h' hn
  simp only [Value.slice.injEq] at e1 e2
  obtain ⟨rfl, _, rfl⟩ := e1
  obtain ⟨rfl, _, rfl⟩ := e2
  subst hn
  refine (same_any a a' c c' ks ks X hl hl h1 h2).mono ?_
  rintro r w' ⟨rfl, q, rfl⟩
  exact ⟨by simp, below_drewN X q⟩
theorem filt_snoc {K : List Int} {j : Nat} {x : Int} (p : Int → Bool) (h : K[j]? = some x) : (K.take (j + 1)).filter p = (K.take j).filter p ++ if p x then [x] else [] := by
  rw [List.take_add_one, h, List.filter_append]
  congr 1
  by_cases hp : p x <;> simp [hp]
def cntK (K : List Int) (key : Int) (j : Nat) : Nat := ((K.take j).filter (fun x => x == key)).length
def rstK (K : List Int) (key : Int) (j : Nat) : List Int := (K.take j).filter (fun x => x != key)
theorem cntK_le (K : List Int) (key : Int) (j : Nat) : cntK K key j ≤ j := by
  unfold cntK
  have := List.length_filter_le (fun x => x == key) (K.take j)
  rw [List.length_take] at this; omega
theorem rstK_le (K : List Int) (key : Int) (j : Nat) : (rstK K key j).length ≤ j := by
  unfold rstK
  have := List.length_filter_le (fun x => x != key) (K.take j)
  rw [List.length_take] at this; omega
theorem Os.wf {w W : World} {bo bm g : Nat} {A : List It} (h : Os w W bo bm g A) : ∀ x ∈ A, wfK x.1 := by
  obtain ⟨L, h1, rfl, _⟩ := h
  intro x hx
  obtain ⟨e, he, rfl⟩ := List.mem_map.1 hx
  exact h1.wf e he
theorem keys_get {R : List It} {j : Nat} {x : It} (h : R[j]? = some x) : (keysOf R)[j]? = some x.1 := by unfold keysOf; rw [List.getElem?_map, h]; rfl
def lsK (R : List It) (j : Nat) : List Int := freeOf (R.take j)

set_option maxHeartbeats 32000000 in
theorem lawRow_any (ao : Option Addr) (c m : Nat) (l : List Ac) (key : Int) (w : World) (HM : Hid (m = l.length)) (hl : m ≤ 1048576) (HA : Hid (ARow w ao l)) (HW : Hid (∀ x ∈ l, wfK x.2)) (Hk : Hid (wfK key)) :
    Calls Try.prog 6 #[.slice ao m c, .int .i64 key] w fun e w' => e = .returned (.bool true) ∧ Below w.heap.size w w' := by
  have hbu := built_any ao c m l w HM (by omega) HA HW
  obtain ⟨i0, hi0, hz0, hz1, hz2⟩ := info_parts infoInt
  go_enter Try.func6, Try.ntmps6
  go_big_wp2_with (first | (go_at_call 38; refine hbu.mono ?_; rintro e w0 ⟨bo, bm, g, A, rfl, hO, hAl, hAp⟩) | (go_at_call 34; fail) | (go_at_call 30; fail) | (go_at_call 33; fail) | (go_at_call 41; fail) | (go_at_call 43; fail) | (go_at_call 39; fail) | (go_at_call 40; fail) | (go_at_call 31; fail) | (go_at_call 32; fail) | (go_at_call 36; fail) | (go_at_call 42; fail) | (go_at_call 35; fail) | (go_at_call 12; fail))
  obtain ⟨n, hn⟩ : ∃ n, n = (keysOf A).length := ⟨_, rfl⟩
  have hnA : n = A.length := by rw [hn]; simp [keysOf]
  refine (hO.allS (n := n) (by omega) rfl hn).mono ?_
  rintro e w1 ⟨a1, c1, rfl, ho1, hb1⟩
  have hO1 := hO.later hb1
  obtain ⟨P, hP⟩ : ∃ P, P = (pinsOf key A).getD 0 := ⟨_, rfl⟩
  obtain ⟨T, hT⟩ : ∃ T, T = (pinsOf key A).isSome := ⟨_, rfl⟩
  have hpn := hO1.pins Hk.out
  have hhs := hO1.has Hk.out
  rw [← hP] at hpn
  rw [← hT] at hhs
  have HU : Hid (Uniq A) := hO.uniq
  have hPm : P < 2147483647 := by
    rw [hP]
    rcases split_or key A with hn1 | ⟨A1, p, A2, rfl, hn1⟩
    · rw [pinsOf_no hn1]; decide
    · rw [pinsOf_at hn1]; have := hAp (key, p) (by simp); show p < _; simp at this; omega
  have HP0 : Hid (P < 2147483647) := hPm
  have HP : Hid (P = (pinsOf key A).getD 0) := hP
  have HT : Hid (T = (pinsOf key A).isSome) := hT
  have HN : Hid (n = (keysOf A).length) := hn
  have HNA : Hid (n = A.length) := hnA
  have HO1 : Hid (Os w w1 bo bm g A) := hO1
  have HR1 : Hid (w1.ownsRow w0.heap.size TIn 1 (.slice a1 n c1) n (iv (keysOf A))) := ho1
  have hnm : n ≤ 1048576 := by omega
  clear hO hO1 ho1 hb1 hAl hAp hn hnA hP hT hPm hbu
  go_big_wp2_with (first | (go_at_call 39; refine hpn.mono ?_; rintro e w9 ⟨rfl, hw9⟩; rw [hw9]; clear hw9) | (go_at_call 40; refine hhs.mono ?_; rintro e w9 ⟨rfl, hw9⟩; rw [hw9]; clear hw9))
  go_loopw [9, 10, 11] (fun t9 t10 t11 wr => ∃ (j : Nat), j ≤ n ∧ t11 = .int .i64 j ∧ t10 = .int .i64 (cntK (keysOf A) key j) ∧ Hid (wr.ownsRow w1.heap.size TIn 1 t9 (rstK (keysOf A) key j).length (iv (rstK (keysOf A) key j))) ∧ Hid (Below w1.heap.size w1 wr)) (fun _ _ t11 _ => n - (intOf t11).toNat)
  case atStart => exact ⟨0, Nat.zero_le _, rfl, rfl, World.ownsRow_nil _ _ _ _, Below.refl _ _⟩
  case round =>
    obtain ⟨j, hj, rfl, rfl, HR, HB⟩ := hrel
    by_cases hlt : j < n
    · obtain ⟨x, hx⟩ : ∃ x, (keysOf A)[j]? = some x := ⟨_, List.getElem?_eq_getElem (by have := HN.out; omega)⟩
      obtain ⟨a1', c1', ev, hi1⟩ := irow' HR1.out HN.out
      simp only [Value.slice.injEq] at ev
      obtain ⟨rfl, _, rfl⟩ := ev
      obtain ⟨b, off, rfl, hcx⟩ := hi1.c _ _ hx
      have hcr := cell_later HB.out hcx
      have d1 : (j : Int) < (n : Int) := by omega
      have hcl := cntK_le (keysOf A) key j
      have hrl := rstK_le (keysOf A) key j
      have hsz := HB.out.size
      by_cases hxk : x = key
      · have hxe : (x == key) = true := by simpa using hxk
        have HCn : Hid (cntK (keysOf A) key (j + 1) = cntK (keysOf A) key j + 1) := by show _ = _; unfold cntK; rw [filt_snoc _ hx, hxe]; simp
        have HRs : Hid (rstK (keysOf A) key (j + 1) = rstK (keysOf A) key j) := by show _ = _; unfold rstK; rw [filt_snoc _ hx]; simp [hxk]
        clear hx hcx hxk
        generalize cntK (keysOf A) key j = cj at *
        go_big_wp2
        go_roundw
        case rel => exact ⟨j + 1, by omega, by go_num, by rw [HCn.out]; go_num, by rw [HRs.out]; exact HR, HB⟩
        case measure => simp [intOf]; omega
      · have hxe : (x == key) = false := by simpa using hxk
        have HCn : Hid (cntK (keysOf A) key (j + 1) = cntK (keysOf A) key j) := by show _ = _; unfold cntK; rw [filt_snoc _ hx, hxe]; simp
        have HRs : Hid (rstK (keysOf A) key (j + 1) = rstK (keysOf A) key j ++ [x]) := by show _ = _; unfold rstK; rw [filt_snoc _ hx]; simp [hxk]
        clear hx hcx hxk
        generalize cntK (keysOf A) key j = cj at *
        go_big_wp2_with (at_builtin; refine wpList_append_ints rfl _ _ rfl w1.heap.size _ _ _ rfl (HR.out.alloc _) _ [x] rfl (argI_one wr x) (by simp; omega) (by rw [World.size_alloc]; omega) ?_; intro v' w2 hown' hgrow)
        go_roundw
        case rel =>
          refine ⟨j + 1, by omega, by go_num, by rw [HCn.out], ?_, ?_⟩
          · rw [HRs.out, List.length_append]
            show w2.ownsRow _ _ _ _ _ _
            simpa using hown'
          · exact (HB.out.alloc hsz _).grown hgrow (by rw [World.size_alloc]; omega) (fun q e => (HR.out.lt q e).1)
        case measure => simp [intOf]; omega
    · have e : j = n := by omega
      subst e
      have HK : Hid (rstK (keysOf A) key j = keysOf (rm key A)) := by show _ = _; unfold rstK; rw [HN.out, List.take_length]; exact rest_keys HU.out key
      have HC : Hid (cntK (keysOf A) key j = if T then 1 else 0) := by show _ = _; unfold cntK; rw [HN.out, List.take_length, HT.out]; exact count_keys HU.out key
      rw [HC.out]
      rw [HK.out] at HR
      obtain ⟨nr, hnr⟩ : ∃ nr, nr = (keysOf (rm key A)).length := ⟨_, rfl⟩
      have HNr : Hid (nr = (keysOf (rm key A)).length) := hnr
      rw [← hnr] at HR
      obtain ⟨ar, cr, rfl, _⟩ := irow' HR.out hnr
      have hnr2 : nr ≤ 1048576 := by have := rstK_le (keysOf A) key j; rw [HK.out] at this; omega
      have HnR : Hid (∀ x ∈ rm key A, x.1 ≠ key) := rm_none HU.out key
      have HUr : Hid (Uniq (rm key A)) := uniq_rm HU.out key
      have HrL : Hid ((rm key A).length = nr) := by rw [hnr]; show _ = _; simp [keysOf]
      have hro := row_last HU.out key
      have HF1 : Hid (ans 2 key A = T) := by rw [HT.out]; show _ = _; simp [ans]
      have HF2 : Hid ((pinsOf key (stp 2 key A)).getD 0 = P) := by rw [HP.out]; exact hro.1
      have HF3 : Hid (ans 1 key (stp 2 key A) = !T) := by rw [HT.out]; exact hro.2.1
      have HF4 : Hid (stp 1 key (stp 2 key A) = rm key A ++ [(key, P)]) := by rw [HP.out]; exact hro.2.2
      have HOc : Hid (Os w wr bo bm g A) := HO1.out.later HB.out
      have HLt : Hid ((stp 2 key A).length < maxLen) := by have := stp_length 2 key A; have := HNA.out; show _ < _; unfold maxLen; omega
      have HTail := tail_pin HnR.out HP0.out
      have hln := HOc.out.len
      rw [← HNA.out] at hln
      clear HK HC hnr hro HO1 HB HR1 hpn hhs
      cases T
      all_goals
        go_big_wp2_with (first | (go_at_call 34; fail) | (go_at_call 30; fail) | (go_at_call 33; fail) | (go_at_call 41; fail) | (go_at_call 43; fail) | (go_at_call 39; fail) | (go_at_call 40; fail) | (go_at_call 31; fail) | (go_at_call 32; fail) | (go_at_call 36; fail) | (go_at_call 42; fail) | (go_at_call 35; fail) | (go_at_call 12; fail))
        refine hln.mono ?_
        rintro e w9 ⟨rfl, hw9⟩; rw [hw9]; clear hw9
        go_big_wp2_with (first | (go_at_call 34; fail) | (go_at_call 30; fail) | (go_at_call 33; fail) | (go_at_call 41; fail) | (go_at_call 43; fail) | (go_at_call 39; fail) | (go_at_call 40; fail) | (go_at_call 31; fail) | (go_at_call 32; fail) | (go_at_call 36; fail) | (go_at_call 42; fail) | (go_at_call 35; fail) | (go_at_call 12; fail))
        refine (HOc.out.callK (f := 30) HF1.out rfl fun L hL h1 => o_touch h1 Hk.out).mono ?_
        rintro e w2 ⟨rfl, hO2, hK2⟩
        have HR2 : Hid (w2.ownsRow w1.heap.size TIn 1 (.slice ar nr cr) nr (iv (keysOf (rm key A)))) := hK2.row HR.out
        have hp2 := hO2.pins Hk.out
        rw [HF2.out] at hp2
        have HO2 : Hid (Os w w2 bo bm g (stp 2 key A)) := hO2
        clear hO2 hK2 HR
        go_big_wp2_with (first | (go_at_call 34; fail) | (go_at_call 30; fail) | (go_at_call 33; fail) | (go_at_call 41; fail) | (go_at_call 43; fail) | (go_at_call 39; fail) | (go_at_call 40; fail) | (go_at_call 31; fail) | (go_at_call 32; fail) | (go_at_call 36; fail) | (go_at_call 42; fail) | (go_at_call 35; fail) | (go_at_call 12; fail))
        refine hp2.mono ?_
        rintro e w9 ⟨rfl, hw9⟩; rw [hw9]; clear hw9 hp2
        go_big_wp2_with (first | (go_at_call 34; fail) | (go_at_call 30; fail) | (go_at_call 33; fail) | (go_at_call 41; fail) | (go_at_call 43; fail) | (go_at_call 39; fail) | (go_at_call 40; fail) | (go_at_call 31; fail) | (go_at_call 32; fail) | (go_at_call 36; fail) | (go_at_call 42; fail) | (go_at_call 35; fail) | (go_at_call 12; fail))
        refine (HO2.out.callK (f := 34) HF3.out HF4.out fun L hL h1 => o_add h1 Hk.out (by have := HLt.out; rw [← hL] at this; simpa using this)).mono ?_
        rintro e w3 ⟨rfl, hO3, hK3⟩
        have HR3 : Hid (w3.ownsRow w1.heap.size TIn 1 (.slice ar nr cr) nr (iv (keysOf (rm key A)))) := hK3.row HR2.out
        have HO3 : Hid (Os w w3 bo bm g (rm key A ++ [(key, P)])) := hO3
        clear hO3 hK3 HR2 HO2
        go_big_wp2_with (first | (go_at_call 34; fail) | (go_at_call 30; fail) | (go_at_call 33; fail) | (go_at_call 41; fail) | (go_at_call 43; fail) | (go_at_call 39; fail) | (go_at_call 40; fail) | (go_at_call 31; fail) | (go_at_call 32; fail) | (go_at_call 36; fail) | (go_at_call 42; fail) | (go_at_call 35; fail) | (go_at_call 12; fail))
        refine (HO3.out.allS (n := nr + 1) (ks := keysOf (rm key A) ++ [key]) (by have := HrL.out; simp; omega) (keys_tail _ _ _) (by simp [HNr.out])).mono ?_
        rintro e w4 ⟨a4, c4, rfl, ho4, hb4⟩
        have HR4 : Hid (w4.ownsRow w1.heap.size TIn 1 (.slice ar nr cr) nr (iv (keysOf (rm key A)))) := row_later hb4 HR3.out
        have HO4 : Hid (Os w w4 bo bm g (rm key A ++ [(key, P)])) := HO3.out.later hb4
        have HQ4 : Hid (w4.ownsRow w3.heap.size TIn 1 (.slice a4 (nr + 1) c4) (nr + 1) (iv (keysOf (rm key A) ++ [key]))) := ho4
        have K4 : True := trivial
        clear ho4 hb4
        go_big_wp2_with (first | (go_at_call 34; fail) | (go_at_call 30; fail) | (go_at_call 33; fail) | (go_at_call 41; fail) | (go_at_call 43; fail) | (go_at_call 39; fail) | (go_at_call 40; fail) | (go_at_call 31; fail) | (go_at_call 32; fail) | (go_at_call 36; fail) | (go_at_call 42; fail) | (go_at_call 35; fail) | (go_at_call 12; fail) | (at_builtin; have hk := K4; clear hk K4; refine wpList_append_ints rfl (.const (.slice none 0 0)) _ rfl w4.heap.size (.slice none 0 0) 0 [] rfl (World.ownsRow_nil _ _ _ _) (.slice ar nr cr) (keysOf (rm key A)) rfl (by have := HR4.out; rw [HNr.out] at this ⊢; exact argI_of this) (by have := HNr.out; omega) (Nat.le_refl _) ?_; intro v5 w5 o5 g5; have hb5 : Below w4.heap.size w4 w5 := (Below.refl _ _).grown g5 (Nat.le_refl _) (fun k e => by cases e)) | (at_builtin; refine wpList_append_ints rfl _ _ rfl w4.heap.size v5 _ _ rfl (o5.alloc _) _ [key] rfl (argI_one w5 key) (by have := HNr.out; simp; omega) (by rw [World.size_alloc]; have := hb5.size; omega) ?_; intro v6 w6 o6 g6; have hb6 : Below w4.heap.size w4 w6 := (hb5.alloc hb5.size _).grown g6 (by rw [World.size_alloc]; have := hb5.size; omega) (fun k e => (o5.lt k e).1); have p6 : w6.ownsRow w4.heap.size TIn 1 v6 (nr + 1) (iv (keysOf (rm key A) ++ [key])) := (by have := o6; rw [HNr.out]; simpa using this); obtain ⟨a6, c6, rfl, _⟩ := irow' p6 (by simp [HNr.out]); clear o5 g5 o6 g6 hb5))
        refine (sameS (n := nr + 1) (ks := keysOf (rm key A) ++ [key]) (by simp [HNr.out]) (by omega) (row_later hb6 HQ4.out) p6).mono ?_
        rintro e w7 ⟨rfl, hb7⟩
        have HR7 : Hid (w7.ownsRow w1.heap.size TIn 1 (.slice ar nr cr) nr (iv (keysOf (rm key A)))) := row_later hb7 (row_later hb6 HR4.out)
        have HO7 : Hid (Os w w7 bo bm g (rm key A ++ [(key, P)])) := (HO4.out.later hb6).later hb7
        clear hb6 hb7 p6 HQ4 HR4 HO4 HR3 HO3
        go_big_wp2_with (first | (go_at_call 34; fail) | (go_at_call 30; fail) | (go_at_call 33; fail) | (go_at_call 41; fail) | (go_at_call 43; fail) | (go_at_call 39; fail) | (go_at_call 40; fail) | (go_at_call 31; fail) | (go_at_call 32; fail) | (go_at_call 36; fail) | (go_at_call 42; fail) | (go_at_call 35; fail) | (go_at_call 12; fail))
        refine (HO7.out.callK (f := 41) HTail.1 HTail.2 fun L hL h1 => o_pin h1 Hk.out).mono ?_
        rintro e w8 ⟨rfl, hO8, hK8⟩
        have HR8 : Hid (w8.ownsRow w1.heap.size TIn 1 (.slice ar nr cr) nr (iv (keysOf (rm key A)))) := hK8.row HR7.out
        have HO8 : Hid (Os w w8 bo bm g (rm key A ++ [(key, P + 1)])) := hO8
        have hp8 := hO8.pins Hk.out
        rw [tail_pins HnR.out] at hp8
        have hp8' : Calls Try.prog 39 #[.pointer (some ⟨bo, 0, none⟩), .int .i64 key] w8 fun r w' => r = .returned (.int .i64 ((P : Int) + 1)) ∧ w' = w8 := hp8
        clear hO8 hK8 HR7 HO7 hp8
        have hPi : (P : Int) < 2147483647 := by have := HP0.out; omega
        have hPi0 : (0 : Int) ≤ (P : Int) := by omega
        go_big_wp2_with (first | (go_at_call 34; fail) | (go_at_call 30; fail) | (go_at_call 33; fail) | (go_at_call 41; fail) | (go_at_call 43; fail) | (go_at_call 39; fail) | (go_at_call 40; fail) | (go_at_call 31; fail) | (go_at_call 32; fail) | (go_at_call 36; fail) | (go_at_call 42; fail) | (go_at_call 35; fail) | (go_at_call 12; fail))
        refine hp8'.mono ?_
        rintro e w9 ⟨rfl, hw9⟩; rw [hw9]; clear hw9 hp8'
        go_big_wp2_with (first | (go_at_call 34; fail) | (go_at_call 30; fail) | (go_at_call 33; fail) | (go_at_call 41; fail) | (go_at_call 43; fail) | (go_at_call 39; fail) | (go_at_call 40; fail) | (go_at_call 31; fail) | (go_at_call 32; fail) | (go_at_call 36; fail) | (go_at_call 42; fail) | (go_at_call 35; fail) | (go_at_call 12; fail))
        refine (HO8.out.allS (n := nr + 1) (ks := keysOf (rm key A) ++ [key]) (by have := HrL.out; simp; omega) (keys_tail _ _ _) (by simp [HNr.out])).mono ?_
        rintro e w10 ⟨a10, c10, rfl, ho10, hb10⟩
        have HR10 : Hid (w10.ownsRow w1.heap.size TIn 1 (.slice ar nr cr) nr (iv (keysOf (rm key A)))) := row_later hb10 HR8.out
        have HO10 : Hid (Os w w10 bo bm g (rm key A ++ [(key, P + 1)])) := HO8.out.later hb10
        have HQ10 : Hid (w10.ownsRow w8.heap.size TIn 1 (.slice a10 (nr + 1) c10) (nr + 1) (iv (keysOf (rm key A) ++ [key]))) := ho10
        have K10 : True := trivial
        clear ho10 hb10
        go_big_wp2_with (first | (go_at_call 34; fail) | (go_at_call 30; fail) | (go_at_call 33; fail) | (go_at_call 41; fail) | (go_at_call 43; fail) | (go_at_call 39; fail) | (go_at_call 40; fail) | (go_at_call 31; fail) | (go_at_call 32; fail) | (go_at_call 36; fail) | (go_at_call 42; fail) | (go_at_call 35; fail) | (go_at_call 12; fail) | (at_builtin; have hk := K10; clear hk K10; refine wpList_append_ints rfl (.const (.slice none 0 0)) _ rfl w10.heap.size (.slice none 0 0) 0 [] rfl (World.ownsRow_nil _ _ _ _) (.slice ar nr cr) (keysOf (rm key A)) rfl (by have := HR10.out; rw [HNr.out] at this ⊢; exact argI_of this) (by have := HNr.out; omega) (Nat.le_refl _) ?_; intro v11 w11 o11 g11; have hb11 : Below w10.heap.size w10 w11 := (Below.refl _ _).grown g11 (Nat.le_refl _) (fun k e => by cases e)) | (at_builtin; refine wpList_append_ints rfl _ _ rfl w10.heap.size v11 _ _ rfl (o11.alloc _) _ [key] rfl (argI_one w11 key) (by have := HNr.out; simp; omega) (by rw [World.size_alloc]; have := hb11.size; omega) ?_; intro v12 w12 o12 g12; have hb12 : Below w10.heap.size w10 w12 := (hb11.alloc hb11.size _).grown g12 (by rw [World.size_alloc]; have := hb11.size; omega) (fun k e => (o11.lt k e).1); have p12 : w12.ownsRow w10.heap.size TIn 1 v12 (nr + 1) (iv (keysOf (rm key A) ++ [key])) := (by have := o12; rw [HNr.out]; simpa using this); obtain ⟨a12, c12, rfl, _⟩ := irow' p12 (by simp [HNr.out]); clear o11 g11 o12 g12 hb11))
        refine (sameS (n := nr + 1) (ks := keysOf (rm key A) ++ [key]) (by simp [HNr.out]) (by omega) (row_later hb12 HQ10.out) p12).mono ?_
        rintro e w13 ⟨rfl, hb13⟩
        have HR13 : Hid (w13.ownsRow w1.heap.size TIn 1 (.slice ar nr cr) nr (iv (keysOf (rm key A)))) := row_later hb13 (row_later hb12 HR10.out)
        have HO13 : Hid (Os w w13 bo bm g (rm key A ++ [(key, P + 1)])) := (HO10.out.later hb12).later hb13
        clear hb12 hb13 p12 HQ10 HR10 HO10 HR8 HO8
        go_big_wp2
        go_loopw [12, 13] (fun t12 t13 wq => ∃ (j : Nat), j ≤ nr ∧ t13 = .int .i64 j ∧ Hid (wq.ownsRow w13.heap.size TIn 1 t12 (lsK (rm key A) j).length (iv (lsK (rm key A) j))) ∧ Hid (Below w13.heap.size w13 wq)) (fun _ t13 _ => nr - (intOf t13).toNat)
        case atStart => exact ⟨0, Nat.zero_le _, rfl, World.ownsRow_nil _ _ _ _, Below.refl _ _⟩
        case round =>
          obtain ⟨j2, hj2, rfl, HL, HBq⟩ := hrel
          have hszq := HBq.out.size
          by_cases hlt2 : j2 < nr
          · obtain ⟨x, hx⟩ : ∃ x, (rm key A)[j2]? = some x := ⟨_, List.getElem?_eq_getElem (by have := HrL.out; omega)⟩
            obtain ⟨ar2, cr2, ev, hir⟩ := irow' HR13.out HNr.out
            simp only [Value.slice.injEq] at ev
            obtain ⟨rfl, _, rfl⟩ := ev
            obtain ⟨b, off, rfl, hcx⟩ := hir.c _ _ (keys_get hx)
            have hcr := cell_later HBq.out hcx
            have d1 : (j2 : Int) < (nr : Int) := by omega
            have hmx := List.mem_of_getElem? hx
            have hpx := (HO13.out.later HBq.out).pins (k := x.1) (HO13.out.wf x (by simp [hmx]))
            rw [pinsOf_app (k := key) HUr.out hmx] at hpx
            have hpx2 : Calls Try.prog 39 #[.pointer (some ⟨bo, 0, none⟩), .int .i64 x.1] wr fun r w' => r = .returned (.int .i64 x.2) ∧ w' = wr := hpx
            have hfl := freeOf_le ((rm key A).take j2)
            rw [List.length_take] at hfl
            have HfL : Hid ((lsK (rm key A) j2).length ≤ j2) := by unfold lsK; show _ ≤ _; omega
            by_cases hp0 : x.2 = 0
            · have HNx : Hid (lsK (rm key A) (j2 + 1) = lsK (rm key A) j2 ++ [x.1]) := freeOf_hit hx hp0
              have hxz : ((x.2 : Int) == 0) = true := by simp [hp0]
              clear hx hcx hp0 hpx hfl
              go_big_wp2_with (first | (go_at_call 39; refine hpx2.mono ?_; rintro e w9 ⟨rfl, hw9⟩; rw [hw9]; clear hw9) | (at_builtin; refine wpList_append_ints rfl _ _ rfl w13.heap.size _ _ _ rfl (HL.out.alloc _) _ [x.1] rfl (argI_one wr x.1) (by have := HfL.out; simp; omega) (by rw [World.size_alloc]; omega) ?_; intro v14 w14 hown14 hgrow14))
              go_roundw
              case rel =>
                refine ⟨j2 + 1, by omega, by go_num, ?_, ?_⟩
                · rw [HNx.out, List.length_append]
                  show w14.ownsRow _ _ _ _ _ _
                  simpa using hown14
                · exact (HBq.out.alloc hszq _).grown hgrow14 (by rw [World.size_alloc]; omega) (fun q e => (HL.out.lt q e).1)
              case measure => simp [intOf]; omega
            · have HNx : Hid (lsK (rm key A) (j2 + 1) = lsK (rm key A) j2) := freeOf_miss hx hp0
              have hxz : ((x.2 : Int) == 0) = false := by simpa using hp0
              clear hx hcx hp0 hpx hfl
              go_big_wp2_with (go_at_call 39; refine hpx2.mono ?_; rintro e w9 ⟨rfl, hw9⟩; rw [hw9]; clear hw9)
              go_roundw
              case rel => exact ⟨j2 + 1, by omega, by go_num, by rw [HNx.out]; exact HL, HBq⟩
              case measure => simp [intOf]; omega
          · have e2 : j2 = nr := by omega
            subst e2
            have HLs : Hid (lsK (rm key A) j2 = freeOf (rm key A)) := by show _ = _; unfold lsK; rw [← HrL.out, List.take_length]
            rw [HLs.out] at HL
            have HRq : Hid (wr.ownsRow w1.heap.size TIn 1 (.slice ar j2 cr) j2 (iv (keysOf (rm key A)))) := row_later HBq.out HR13.out
            have HOq : Hid (Os w wr bo bm g (rm key A ++ [(key, P + 1)])) := HO13.out.later HBq.out
            have hold := HOq.out.oldest
            have HFt : Hid (freeOf (rm key A ++ [(key, P + 1)]) = freeOf (rm key A)) := free_tail _ _ _
            have HOl : Hid (oldOf (rm key A ++ [(key, P + 1)]) = (freeOf (rm key A)).head?) := by show _ = _; unfold oldOf; rw [HFt.out]
            rw [HOl.out] at hold
            have hfm := freeOf_le (rm key A)
            rw [HrL.out] at hfm
            have HDr := tail_drop (p := P + 1) HnR.out
            have HGn := gone_all5 HnR.out
            clear HR13 HO13 HBq HLs
            cases hfr : freeOf (rm key A)
            · have fl : [] = freeOf (rm key A) := hfr.symm
              rw [hfr] at HL hold HFt hfm
              clear hfr
              obtain ⟨nf, hnf⟩ : ∃ nf, nf = ([] : List Int).length := ⟨_, rfl⟩
              have HNf : Hid (nf = ([] : List Int).length) := hnf
              rw [← hnf] at HL hfm
              have hnf0 : nf = 0 := hnf
              subst hnf0
              obtain ⟨al, cl, rfl, hil⟩ := irow' HL.out hnf
              clear hnf
              have hold2 : Calls Try.prog 32 #[.pointer (some ⟨bo, 0, none⟩)] wr fun r w' => r = .returned (.tuple #[.int .i64 0, .bool false]) ∧ Below wr.heap.size wr w' := hold
              clear hold hil
              go_big_wp2_with (first | (go_at_call 34; fail) | (go_at_call 30; fail) | (go_at_call 33; fail) | (go_at_call 41; fail) | (go_at_call 43; fail) | (go_at_call 39; fail) | (go_at_call 40; fail) | (go_at_call 31; fail) | (go_at_call 32; fail) | (go_at_call 36; fail) | (go_at_call 42; fail) | (go_at_call 35; fail) | (go_at_call 12; fail))
              refine hold2.mono ?_
              rintro e w14 ⟨rfl, hb14⟩
              have HR14 : Hid (w14.ownsRow w1.heap.size TIn 1 (.slice ar j2 cr) j2 (iv (keysOf (rm key A)))) := row_later hb14 HRq.out
              have HL14 : Hid (w14.ownsRow w13.heap.size TIn 1 (.slice al 0 cl) 0 (iv [])) := row_later hb14 HL.out
              have HO14 : Hid (Os w w14 bo bm g (rm key A ++ [(key, P + 1)])) := HOq.out.later hb14
              clear hb14 HRq HL HOq hold2
              go_big_wp2_with (first | (go_at_call 34; fail) | (go_at_call 30; fail) | (go_at_call 33; fail) | (go_at_call 41; fail) | (go_at_call 43; fail) | (go_at_call 39; fail) | (go_at_call 40; fail) | (go_at_call 31; fail) | (go_at_call 32; fail) | (go_at_call 36; fail) | (go_at_call 42; fail) | (go_at_call 35; fail) | (go_at_call 12; fail))
              refine (HO14.out.freeS (n := 0) (ks := []) (by have := HrL.out; simp; omega) HFt.out HNf.out).mono ?_
              rintro e w15 ⟨a15, c15, rfl, ho15, hb15⟩
              have HR15 : Hid (w15.ownsRow w1.heap.size TIn 1 (.slice ar j2 cr) j2 (iv (keysOf (rm key A)))) := row_later hb15 HR14.out
              have HO15 : Hid (Os w w15 bo bm g (rm key A ++ [(key, P + 1)])) := HO14.out.later hb15
              have hsm := sameS (n := 0) (ks := []) HNf.out (by omega) ho15 (row_later hb15 HL14.out)
              clear ho15 hb15 HR14 HO14 HL14
              go_big_wp2_with (first | (go_at_call 34; fail) | (go_at_call 30; fail) | (go_at_call 33; fail) | (go_at_call 41; fail) | (go_at_call 43; fail) | (go_at_call 39; fail) | (go_at_call 40; fail) | (go_at_call 31; fail) | (go_at_call 32; fail) | (go_at_call 36; fail) | (go_at_call 42; fail) | (go_at_call 35; fail) | (go_at_call 12; fail))
              refine hsm.mono ?_
              rintro e w16 ⟨rfl, hb16⟩
              have HR16 : Hid (w16.ownsRow w1.heap.size TIn 1 (.slice ar j2 cr) j2 (iv (keysOf (rm key A)))) := row_later hb16 HR15.out
              have HO16 : Hid (Os w w16 bo bm g (rm key A ++ [(key, P + 1)])) := HO15.out.later hb16
              clear hb16 HR15 HO15 hsm
              go_big_wp2_with (first | (go_at_call 34; fail) | (go_at_call 30; fail) | (go_at_call 33; fail) | (go_at_call 41; fail) | (go_at_call 43; fail) | (go_at_call 39; fail) | (go_at_call 40; fail) | (go_at_call 31; fail) | (go_at_call 32; fail) | (go_at_call 36; fail) | (go_at_call 42; fail) | (go_at_call 35; fail) | (go_at_call 12; fail))
              refine (HO16.out.callK (f := 33) HDr.1 HDr.2 fun L hL h1 => o_drop h1 Hk.out).mono ?_
              rintro e w17 ⟨rfl, hO17, hK17⟩
              have HR17 : Hid (w17.ownsRow w1.heap.size TIn 1 (.slice ar j2 cr) j2 (iv (keysOf (rm key A)))) := hK17.row HR16.out
              have HO17 : Hid (Os w w17 bo bm g (rm key A)) := hO17
              clear hO17 hK17 HR16 HO16
              go_big_wp2_with (first | (go_at_call 34; fail) | (go_at_call 30; fail) | (go_at_call 33; fail) | (go_at_call 41; fail) | (go_at_call 43; fail) | (go_at_call 39; fail) | (go_at_call 40; fail) | (go_at_call 31; fail) | (go_at_call 32; fail) | (go_at_call 36; fail) | (go_at_call 42; fail) | (go_at_call 35; fail) | (go_at_call 12; fail))
              refine (HO17.out.callK (f := 33) HGn.1 HGn.2.1 fun L hL h1 => o_drop h1 Hk.out).mono ?_
              rintro e w18 ⟨rfl, hO18, hK18⟩
              have HR18 : Hid (w18.ownsRow w1.heap.size TIn 1 (.slice ar j2 cr) j2 (iv (keysOf (rm key A)))) := hK18.row HR17.out
              have hhs18 := hO18.has Hk.out
              have hpn18 := hO18.pins Hk.out
              rw [HGn.2.2.1] at hhs18 hpn18
              have hhs19 : Calls Try.prog 40 #[.pointer (some ⟨bo, 0, none⟩), .int .i64 key] w18 fun r w' => r = .returned (.bool false) ∧ w' = w18 := hhs18
              have hpn19 : Calls Try.prog 39 #[.pointer (some ⟨bo, 0, none⟩), .int .i64 key] w18 fun r w' => r = .returned (.int .i64 0) ∧ w' = w18 := hpn18
              have HO18 : Hid (Os w w18 bo bm g (rm key A)) := hO18
              clear hO18 hK18 HR17 HO17 hhs18 hpn18
              go_big_wp2_with (first | (go_at_call 34; fail) | (go_at_call 30; fail) | (go_at_call 33; fail) | (go_at_call 41; fail) | (go_at_call 43; fail) | (go_at_call 39; fail) | (go_at_call 40; fail) | (go_at_call 31; fail) | (go_at_call 32; fail) | (go_at_call 36; fail) | (go_at_call 42; fail) | (go_at_call 35; fail) | (go_at_call 12; fail))
              refine hhs19.mono ?_
              rintro e w9 ⟨rfl, hw9⟩; rw [hw9]; clear hw9 hhs19
              go_big_wp2_with (first | (go_at_call 34; fail) | (go_at_call 30; fail) | (go_at_call 33; fail) | (go_at_call 41; fail) | (go_at_call 43; fail) | (go_at_call 39; fail) | (go_at_call 40; fail) | (go_at_call 31; fail) | (go_at_call 32; fail) | (go_at_call 36; fail) | (go_at_call 42; fail) | (go_at_call 35; fail) | (go_at_call 12; fail))
              refine hpn19.mono ?_
              rintro e w9 ⟨rfl, hw9⟩; rw [hw9]; clear hw9 hpn19
              go_big_wp2_with (first | (go_at_call 34; fail) | (go_at_call 30; fail) | (go_at_call 33; fail) | (go_at_call 41; fail) | (go_at_call 43; fail) | (go_at_call 39; fail) | (go_at_call 40; fail) | (go_at_call 31; fail) | (go_at_call 32; fail) | (go_at_call 36; fail) | (go_at_call 42; fail) | (go_at_call 35; fail) | (go_at_call 12; fail))
              refine (HO18.out.callK (f := 43) HGn.2.2.2.1 HGn.2.2.2.2.1 fun L hL h1 => o_unpin h1 Hk.out).mono ?_
              rintro e w20 ⟨rfl, hO20, hK20⟩
              have HR20 : Hid (w20.ownsRow w1.heap.size TIn 1 (.slice ar j2 cr) j2 (iv (keysOf (rm key A)))) := hK20.row HR18.out
              have HO20 : Hid (Os w w20 bo bm g (rm key A)) := hO20
              clear hO20 hK20 HR18 HO18
              go_big_wp2_with (first | (go_at_call 34; fail) | (go_at_call 30; fail) | (go_at_call 33; fail) | (go_at_call 41; fail) | (go_at_call 43; fail) | (go_at_call 39; fail) | (go_at_call 40; fail) | (go_at_call 31; fail) | (go_at_call 32; fail) | (go_at_call 36; fail) | (go_at_call 42; fail) | (go_at_call 35; fail) | (go_at_call 12; fail))
              refine (HO20.out.allS (n := j2) (ks := keysOf (rm key A)) (by have := HrL.out; omega) rfl HNr.out).mono ?_
              rintro e w21 ⟨a21, c21, rfl, ho21, hb21⟩
              have hsm2 := sameS (n := j2) (ks := keysOf (rm key A)) HNr.out (by omega) ho21 (row_later hb21 HR20.out)
              have HO21 : Hid (Os w w21 bo bm g (rm key A)) := HO20.out.later hb21
              clear ho21 hb21 HR20 HO20
              go_big_wp2_with (first | (go_at_call 34; fail) | (go_at_call 30; fail) | (go_at_call 33; fail) | (go_at_call 41; fail) | (go_at_call 43; fail) | (go_at_call 39; fail) | (go_at_call 40; fail) | (go_at_call 31; fail) | (go_at_call 32; fail) | (go_at_call 36; fail) | (go_at_call 42; fail) | (go_at_call 35; fail) | (go_at_call 12; fail))
              refine hsm2.mono ?_
              rintro e w22 ⟨rfl, hb22⟩
              have HO22 : Hid (Os w w22 bo bm g (rm key A)) := HO21.out.later hb22
              clear hb22 HO21 hsm2
              go_big_wp2_with (first | (go_at_call 34; fail) | (go_at_call 30; fail) | (go_at_call 33; fail) | (go_at_call 41; fail) | (go_at_call 43; fail) | (go_at_call 39; fail) | (go_at_call 40; fail) | (go_at_call 31; fail) | (go_at_call 32; fail) | (go_at_call 36; fail) | (go_at_call 42; fail) | (go_at_call 35; fail) | (go_at_call 12; fail))
              refine (HO22.out.callK (f := 34) HGn.2.2.2.2.2.1 HGn.2.2.2.2.2.2 fun L hL h1 => o_add h1 Hk.out (by have h5 := HrL.out; rw [← hL] at h5; simp at h5; unfold maxLen; omega)).mono ?_
              rintro e w23 ⟨rfl, hO23, hK23⟩
              have hpn23 := hO23.pins Hk.out
              rw [tail_pins HnR.out] at hpn23
              have hpn24 : Calls Try.prog 39 #[.pointer (some ⟨bo, 0, none⟩), .int .i64 key] w23 fun r w' => r = .returned (.int .i64 0) ∧ w' = w23 := hpn23
              have HB23 : Hid (Below w.heap.size w w23) := hO23.below
              clear hO23 hK23 HO22 hpn23
              go_big_wp2_with (first | (go_at_call 39; refine hpn24.mono ?_; rintro e w9 ⟨rfl, hw9⟩; rw [hw9]; clear hw9) | (go_at_call 12; refine (S.alive_any _).mono ?_; rintro e w25 ⟨rfl, hb25⟩))
              go_ret
              exact ⟨rfl, HB23.out.trans (hb25.mono HB23.out.size)⟩
            · rename_i y ys
              have fl : y :: ys = freeOf (rm key A) := hfr.symm
              rw [hfr] at HL hold HFt hfm
              clear hfr
              obtain ⟨nf, hnf⟩ : ∃ nf, nf = ((y :: ys) : List Int).length := ⟨_, rfl⟩
              have HNf : Hid (nf = ((y :: ys) : List Int).length) := hnf
              rw [← hnf] at HL hfm
              have hnf1 : (0 : Int) < (nf : Int) := by rw [hnf, List.length_cons]; omega
              have hnf2 : 0 < nf := by omega
              obtain ⟨al, cl, rfl, hil⟩ := irow' HL.out hnf
              clear hnf
              have hold2 : Calls Try.prog 32 #[.pointer (some ⟨bo, 0, none⟩)] wr fun r w' => r = .returned (.tuple #[.int .i64 y, .bool true]) ∧ Below wr.heap.size wr w' := hold
              obtain ⟨gl, ol, rfl, hcl⟩ := hil.c 0 y rfl
              rw [Nat.add_zero] at hcl
              clear hold hil
              go_big_wp2_with (first | (go_at_call 34; fail) | (go_at_call 30; fail) | (go_at_call 33; fail) | (go_at_call 41; fail) | (go_at_call 43; fail) | (go_at_call 39; fail) | (go_at_call 40; fail) | (go_at_call 31; fail) | (go_at_call 32; fail) | (go_at_call 36; fail) | (go_at_call 42; fail) | (go_at_call 35; fail) | (go_at_call 12; fail))
              refine hold2.mono ?_
              rintro e w14 ⟨rfl, hb14⟩
              have HR14 : Hid (w14.ownsRow w1.heap.size TIn 1 (.slice ar j2 cr) j2 (iv (keysOf (rm key A)))) := row_later hb14 HRq.out
              have HL14 : Hid (w14.ownsRow w13.heap.size TIn 1 (.slice (some ⟨gl, ol, none⟩) nf cl) nf (iv (y :: ys))) := row_later hb14 HL.out
              have HO14 : Hid (Os w w14 bo bm g (rm key A ++ [(key, P + 1)])) := HOq.out.later hb14
              have HC14 : Hid (w14.cell? ⟨gl, ol, none⟩ = some (.int .i64 y)) := cell_later hb14 hcl
              clear hcl
              clear hb14 HRq HL HOq hold2
              go_big_wp2_with (first | (go_at_call 34; fail) | (go_at_call 30; fail) | (go_at_call 33; fail) | (go_at_call 41; fail) | (go_at_call 43; fail) | (go_at_call 39; fail) | (go_at_call 40; fail) | (go_at_call 31; fail) | (go_at_call 32; fail) | (go_at_call 36; fail) | (go_at_call 42; fail) | (go_at_call 35; fail) | (go_at_call 12; fail))
              refine (HO14.out.freeS (n := nf) (ks := (y :: ys)) (by have := HrL.out; simp; omega) HFt.out HNf.out).mono ?_
              rintro e w15 ⟨a15, c15, rfl, ho15, hb15⟩
              have HR15 : Hid (w15.ownsRow w1.heap.size TIn 1 (.slice ar j2 cr) j2 (iv (keysOf (rm key A)))) := row_later hb15 HR14.out
              have HO15 : Hid (Os w w15 bo bm g (rm key A ++ [(key, P + 1)])) := HO14.out.later hb15
              have hsm := sameS (n := nf) (ks := (y :: ys)) HNf.out (by omega) ho15 (row_later hb15 HL14.out)
              have HC15 : Hid (w15.cell? ⟨gl, ol, none⟩ = some (.int .i64 y)) := cell_later hb15 HC14.out
              clear HC14
              clear ho15 hb15 HR14 HO14 HL14
              go_big_wp2_with (first | (go_at_call 34; fail) | (go_at_call 30; fail) | (go_at_call 33; fail) | (go_at_call 41; fail) | (go_at_call 43; fail) | (go_at_call 39; fail) | (go_at_call 40; fail) | (go_at_call 31; fail) | (go_at_call 32; fail) | (go_at_call 36; fail) | (go_at_call 42; fail) | (go_at_call 35; fail) | (go_at_call 12; fail))
              refine hsm.mono ?_
              rintro e w16 ⟨rfl, hb16⟩
              have HR16 : Hid (w16.ownsRow w1.heap.size TIn 1 (.slice ar j2 cr) j2 (iv (keysOf (rm key A)))) := row_later hb16 HR15.out
              have HO16 : Hid (Os w w16 bo bm g (rm key A ++ [(key, P + 1)])) := HO15.out.later hb16
              have hc16 : w16.cell? ⟨gl, ol, none⟩ = some (.int .i64 y) := cell_later hb16 HC15.out
              clear HC15
              clear hb16 HR15 HO15 hsm
              go_big_wp2_with (first | (go_at_call 34; fail) | (go_at_call 30; fail) | (go_at_call 33; fail) | (go_at_call 41; fail) | (go_at_call 43; fail) | (go_at_call 39; fail) | (go_at_call 40; fail) | (go_at_call 31; fail) | (go_at_call 32; fail) | (go_at_call 36; fail) | (go_at_call 42; fail) | (go_at_call 35; fail) | (go_at_call 12; fail))
              refine (HO16.out.callK (f := 33) HDr.1 HDr.2 fun L hL h1 => o_drop h1 Hk.out).mono ?_
              rintro e w17 ⟨rfl, hO17, hK17⟩
              have HR17 : Hid (w17.ownsRow w1.heap.size TIn 1 (.slice ar j2 cr) j2 (iv (keysOf (rm key A)))) := hK17.row HR16.out
              have HO17 : Hid (Os w w17 bo bm g (rm key A)) := hO17
              clear hO17 hK17 HR16 HO16
              go_big_wp2_with (first | (go_at_call 34; fail) | (go_at_call 30; fail) | (go_at_call 33; fail) | (go_at_call 41; fail) | (go_at_call 43; fail) | (go_at_call 39; fail) | (go_at_call 40; fail) | (go_at_call 31; fail) | (go_at_call 32; fail) | (go_at_call 36; fail) | (go_at_call 42; fail) | (go_at_call 35; fail) | (go_at_call 12; fail))
              refine (HO17.out.callK (f := 33) HGn.1 HGn.2.1 fun L hL h1 => o_drop h1 Hk.out).mono ?_
              rintro e w18 ⟨rfl, hO18, hK18⟩
              have HR18 : Hid (w18.ownsRow w1.heap.size TIn 1 (.slice ar j2 cr) j2 (iv (keysOf (rm key A)))) := hK18.row HR17.out
              have hhs18 := hO18.has Hk.out
              have hpn18 := hO18.pins Hk.out
              rw [HGn.2.2.1] at hhs18 hpn18
              have hhs19 : Calls Try.prog 40 #[.pointer (some ⟨bo, 0, none⟩), .int .i64 key] w18 fun r w' => r = .returned (.bool false) ∧ w' = w18 := hhs18
              have hpn19 : Calls Try.prog 39 #[.pointer (some ⟨bo, 0, none⟩), .int .i64 key] w18 fun r w' => r = .returned (.int .i64 0) ∧ w' = w18 := hpn18
              have HO18 : Hid (Os w w18 bo bm g (rm key A)) := hO18
              clear hO18 hK18 HR17 HO17 hhs18 hpn18
              go_big_wp2_with (first | (go_at_call 34; fail) | (go_at_call 30; fail) | (go_at_call 33; fail) | (go_at_call 41; fail) | (go_at_call 43; fail) | (go_at_call 39; fail) | (go_at_call 40; fail) | (go_at_call 31; fail) | (go_at_call 32; fail) | (go_at_call 36; fail) | (go_at_call 42; fail) | (go_at_call 35; fail) | (go_at_call 12; fail))
              refine hhs19.mono ?_
              rintro e w9 ⟨rfl, hw9⟩; rw [hw9]; clear hw9 hhs19
              go_big_wp2_with (first | (go_at_call 34; fail) | (go_at_call 30; fail) | (go_at_call 33; fail) | (go_at_call 41; fail) | (go_at_call 43; fail) | (go_at_call 39; fail) | (go_at_call 40; fail) | (go_at_call 31; fail) | (go_at_call 32; fail) | (go_at_call 36; fail) | (go_at_call 42; fail) | (go_at_call 35; fail) | (go_at_call 12; fail))
              refine hpn19.mono ?_
              rintro e w9 ⟨rfl, hw9⟩; rw [hw9]; clear hw9 hpn19
              go_big_wp2_with (first | (go_at_call 34; fail) | (go_at_call 30; fail) | (go_at_call 33; fail) | (go_at_call 41; fail) | (go_at_call 43; fail) | (go_at_call 39; fail) | (go_at_call 40; fail) | (go_at_call 31; fail) | (go_at_call 32; fail) | (go_at_call 36; fail) | (go_at_call 42; fail) | (go_at_call 35; fail) | (go_at_call 12; fail))
              refine (HO18.out.callK (f := 43) HGn.2.2.2.1 HGn.2.2.2.2.1 fun L hL h1 => o_unpin h1 Hk.out).mono ?_
              rintro e w20 ⟨rfl, hO20, hK20⟩
              have HR20 : Hid (w20.ownsRow w1.heap.size TIn 1 (.slice ar j2 cr) j2 (iv (keysOf (rm key A)))) := hK20.row HR18.out
              have HO20 : Hid (Os w w20 bo bm g (rm key A)) := hO20
              clear hO20 hK20 HR18 HO18
              go_big_wp2_with (first | (go_at_call 34; fail) | (go_at_call 30; fail) | (go_at_call 33; fail) | (go_at_call 41; fail) | (go_at_call 43; fail) | (go_at_call 39; fail) | (go_at_call 40; fail) | (go_at_call 31; fail) | (go_at_call 32; fail) | (go_at_call 36; fail) | (go_at_call 42; fail) | (go_at_call 35; fail) | (go_at_call 12; fail))
              refine (HO20.out.allS (n := j2) (ks := keysOf (rm key A)) (by have := HrL.out; omega) rfl HNr.out).mono ?_
              rintro e w21 ⟨a21, c21, rfl, ho21, hb21⟩
              have hsm2 := sameS (n := j2) (ks := keysOf (rm key A)) HNr.out (by omega) ho21 (row_later hb21 HR20.out)
              have HO21 : Hid (Os w w21 bo bm g (rm key A)) := HO20.out.later hb21
              clear ho21 hb21 HR20 HO20
              go_big_wp2_with (first | (go_at_call 34; fail) | (go_at_call 30; fail) | (go_at_call 33; fail) | (go_at_call 41; fail) | (go_at_call 43; fail) | (go_at_call 39; fail) | (go_at_call 40; fail) | (go_at_call 31; fail) | (go_at_call 32; fail) | (go_at_call 36; fail) | (go_at_call 42; fail) | (go_at_call 35; fail) | (go_at_call 12; fail))
              refine hsm2.mono ?_
              rintro e w22 ⟨rfl, hb22⟩
              have HO22 : Hid (Os w w22 bo bm g (rm key A)) := HO21.out.later hb22
              clear hb22 HO21 hsm2
              go_big_wp2_with (first | (go_at_call 34; fail) | (go_at_call 30; fail) | (go_at_call 33; fail) | (go_at_call 41; fail) | (go_at_call 43; fail) | (go_at_call 39; fail) | (go_at_call 40; fail) | (go_at_call 31; fail) | (go_at_call 32; fail) | (go_at_call 36; fail) | (go_at_call 42; fail) | (go_at_call 35; fail) | (go_at_call 12; fail))
              refine (HO22.out.callK (f := 34) HGn.2.2.2.2.2.1 HGn.2.2.2.2.2.2 fun L hL h1 => o_add h1 Hk.out (by have h5 := HrL.out; rw [← hL] at h5; simp at h5; unfold maxLen; omega)).mono ?_
              rintro e w23 ⟨rfl, hO23, hK23⟩
              have hpn23 := hO23.pins Hk.out
              rw [tail_pins HnR.out] at hpn23
              have hpn24 : Calls Try.prog 39 #[.pointer (some ⟨bo, 0, none⟩), .int .i64 key] w23 fun r w' => r = .returned (.int .i64 0) ∧ w' = w23 := hpn23
              have HB23 : Hid (Below w.heap.size w w23) := hO23.below
              clear hO23 hK23 HO22 hpn23
              go_big_wp2_with (first | (go_at_call 39; refine hpn24.mono ?_; rintro e w9 ⟨rfl, hw9⟩; rw [hw9]; clear hw9) | (go_at_call 12; refine (S.alive_any _).mono ?_; rintro e w25 ⟨rfl, hb25⟩))
              go_ret
              exact ⟨rfl, HB23.out.trans (hb25.mono HB23.out.size)⟩
end Go.Proofs.Ytpchllepboolhaa.D
