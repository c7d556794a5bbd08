import Derived.Test.YtijafckdbhklmabXO
import Derived.Test.YtijafckdbhklmabZVl
import Derived.Deep.RegionHeld3
namespace Go.Proofs.Ytijafckdbhklmab.B
open Go.RowKit Go.Sort Go.Lib Go.Shelf
attribute [local go_sem] Oper.semAt_some
set_option linter.unusedVariables false
set_option linter.unusedSimpArgs false
set_option maxRecDepth 100000

set_option maxHeartbeats 0 in
theorem own_any {w : World} {v1 v2 : Value} {la lb : List (Int × Int)} (h1 : SL w v1 la) (h2 : SL w v2 lb) (hla : la.length ≤ 1048576) (hlb : lb.length ≤ 1048576) :
    Calls Try.prog 8 #[v1, v2] w fun e w' => e = .returned (.bool true) ∧ Below w.heap.size w w' := by
  have HA : Hid (SL w v1 la) := h1
  have HB : Hid (SL w v2 lb) := h2
  obtain ⟨ao, ca, rfl, _, _⟩ := h1
  obtain ⟨bo, cb, rfl, _, _⟩ := h2
  obtain ⟨is, his, hs0, hs1, hs2⟩ := info_parts infoSl
  obtain ⟨i0, hi0, hz0, hz1, hz2⟩ := info_parts infoRng
  go_enter Try.func8, Try.ntmps8
  go_wp2_with fail
  refine (roomy_any HA.out (by omega)).mono ?_
  rintro e w1 ⟨gx, rfl, hx, hbx⟩
  go_wp2_with fail
  refine (roomy_any (HB.out.later hbx) (by omega)).mono ?_
  rintro e w2 ⟨gy, rfl, hy, hby⟩
  have HX : Hid (w1.ownsRow w.heap.size TRng 2 (.slice (some ⟨gx, 0, none⟩) (la.length + 3) (la.length + 3)) (la.length + 3) (pcells (fullR la))) := hx
  have HBx : Hid (Below w.heap.size w w1) := hbx
  have HY : Hid (w2.ownsRow w1.heap.size TRng 2 (.slice (some ⟨gy, 0, none⟩) (lb.length + 3) (lb.length + 3)) (lb.length + 3) (pcells (fullR lb))) := hy
  have HBy : Hid (Below w1.heap.size w1 w2) := hby
  clear hx hbx hy hby
  dsimp only
  go_wp2
  have HSx : Hid (SL w2 (.slice (some ⟨gx, 0, none⟩) la.length (la.length + 3)) la) := ⟨_, _, rfl, by omega, rngs_pre (rngs_row (owns_later HX.out HBy.out))⟩
  have HSy : Hid (SL w2 (.slice (some ⟨gy, 0, none⟩) lb.length (lb.length + 3)) lb) := ⟨_, _, rfl, by omega, rngs_pre (rngs_row HY.out)⟩
  go_loopw [7, 8] (fun v i wr => ∃ (k : Nat) (ps : List (Value × List (Int × Int))), k ≤ 2 ∧ i = .int .i64 k ∧ OwnI w2 la lb k ps v wr) (fun _ i _ => 2 - (intOf i).toNat)
  case atStart => exact ⟨0, [], by omega, rfl, rfl, fun j p h => by simp at h, Pile.nil _ _, World.ownsRow_nil _ _ _ _, Below.refl _ _⟩
  case round =>
    as_aux_lemma =>
      obtain ⟨k, ps, hk, rfl, hI⟩ := hrel
      have HI : Hid (OwnI w2 la lb k ps u7 wr) := hI
      by_cases hlt : k < 2
      · have hkz : (k : Int) < 2 := by omega
        obtain ⟨lo, lc, rfl⟩ := owns_form hI.row
        clear hI
        go_wp2_with fail
        refine (normal_own (HSx.out.later HI.out.bel)).mono ?_
        rintro e W1 ⟨n1, L1, rfl, N1, o1, b1⟩
        go_wp2_with fail
        have B1 : Hid (Below w2.heap.size w2 W1) := HI.out.bel.trans (b1.mono HI.out.bel.size)
        refine (union_own (HSx.out.later B1.out) (HSy.out.later B1.out)).mono ?_
        rintro e W2 ⟨n2, L2, rfl, N2, o2, b2⟩
        have B2 : Hid (Below w2.heap.size w2 W2) := B1.out.trans (b2.mono B1.out.size)
        dsimp only
        go_wp2_with fail
        refine (minus_own (HSx.out.later B2.out) (HSy.out.later B2.out)).mono ?_
        rintro e W3 ⟨n3, L3, rfl, N3, o3, b3⟩
        go_wp2_with fail
        have B3 : Hid (Below w2.heap.size w2 W3) := B2.out.trans (b3.mono B2.out.size)
        refine (meet_own (HSx.out.later B3.out) (HSy.out.later B3.out)).mono ?_
        rintro e W4 ⟨n4, L4, rfl, N4, o4, b4⟩
        have B4 : Hid (Below w2.heap.size w2 W4) := B3.out.trans (b4.mono B3.out.size)
        dsimp only
        obtain ⟨a1, c1, rfl⟩ := owns_form o1
        obtain ⟨a2, c2, rfl⟩ := owns_form o2
        obtain ⟨a3, c3, rfl⟩ := owns_form o3
        obtain ⟨a4, c4, rfl⟩ := owns_form o4
        have hs0' := HI.out.bel.size
        have sz1 := b1.size
        have sz2 := b2.size
        have sz3 := b3.size
        have sz4 := b4.size
        have HST : Hid (∀ (v' : Value) (w' : World) (cs : Array Value) (ty : TypeId), w'.ownsRow w2.heap.size TSl 1 v' (ps.length + 4) (ps.map (·.1) ++ [.slice a1 L1.length c1, .slice a2 L2.length c2, .slice a3 L3.length c3, .slice a4 L4.length c4]) → (W4.alloc (.cells cs ty)).grownBy w' (Value.slice lo ps.length lc).ownBlock → ∃ ps', OwnI w2 la lb (k + 1) ps' v' w') := fun v' w' cs ty h h' => ⟨_, HI.out.step N1 o1 b1 N2 o2 b2 N3 o3 b3 N4 o4 b4 h h'⟩
        have HR : Hid ((W4.alloc (.cells #[.slice a1 L1.length c1, .slice a2 L2.length c2, .slice a3 L3.length c3, .slice a4 L4.length c4] TSl)).ownsRow w2.heap.size TSl 1 (.slice lo ps.length lc) ps.length (ps.map (·.1))) := (owns_later HI.out.row (((b1.trans (b2.mono sz1)).trans (b3.mono (by omega))).trans (b4.mono (by omega)))).alloc _
        have HP4 : Hid (ps.length = 4 * k) := HI.out.len
        clear N1 N2 N3 N4 o1 o2 o3 o4 b1 b2 b3 b4
        go_wp2_with (at_builtin; go_loud (refine wpList_append_own _ rfl (.tmp 27) (.tmp 39) 61 rfl w2.heap.size TSl is (.slice none 0 0) 1 24 Try.underlying61 his hs0 hs1 hs2 rfl (by decide) (.slice lo ps.length lc) ps.length (ps.map (·.1)) rfl HR.out ⟨W4.heap.size, 0, none⟩ 4 4 [.slice a1 L1.length c1, .slice a2 L2.length c2, .slice a3 L3.length c3, .slice a4 L4.length c4] rfl (by simp) (fun j u hu => by rw [WideShapes.add_plain]; exact (World.cell?_alloc_mark W4 _ TSl (0, 0) _).trans (by simpa using hu)) (by simp [Value.oneCell']) (by have := HP4.out; unfold maxLen; omega) (by have := HP4.out; omega) (by simp; omega) ?_))
        intro v' w' hown' hgrow _
        obtain ⟨ps', hI'⟩ := HST.out v' w' _ _ hown' hgrow
        have HI2 : Hid (OwnI w2 la lb (k + 1) ps' v' w') := hI'
        clear hI' hown' hgrow
        go_wp2
        go_roundw
        case rel => exact ⟨k + 1, ps', by omega, by go_num, HI2.out⟩
        case measure => simp [intOf]; omega
      · obtain rfl : k = 2 := by omega
        have h8 : ps.length = 8 := hI.len
        obtain ⟨gl, lc, rfl, hgl, _⟩ := owns_some hI.row (by omega)
        rw [h8]
        have K1 : Hid (Rngs w2 (some ⟨gx, 0, none⟩) (fullR la)) := rngs_row (owns_later HX.out HBy.out)
        have K2 : Hid (Rngs w2 (some ⟨gy, 0, none⟩) (fullR lb)) := rngs_row HY.out
        have BW : Hid (Below w.heap.size w w2) := HBx.out.trans (HBy.out.mono HBx.out.size)
        have HA2 : Hid (SL w2 (.slice ao la.length ca) la) := HA.out.later BW.out
        have HB2 : Hid (SL w2 (.slice bo lb.length cb) lb) := HB.out.later BW.out
        have H8 : Hid (ps.length = 8) := h8
        have HI8 : Hid (OwnI w2 la lb 2 ps (.slice (some ⟨gl, 0, none⟩) ps.length lc) wr) := HI.out
        clear hI HI h8 hgl HX HBx HY HBy HA HB HSx HSy
        go_wp2_with fail
        refine (kept_any (K1.out.later HI8.out.bel) (HA2.out.later HI8.out.bel) (by omega)).mono ?_
        rintro e V1 ⟨rfl, d1⟩
        go_wp2_with fail
        have I1 : Hid (OwnI w2 la lb 2 ps (.slice (some ⟨gl, 0, none⟩) ps.length lc) V1) := HI8.out.later d1
        clear d1 HI8
        refine (kept_any (K2.out.later I1.out.bel) (HB2.out.later I1.out.bel) (by omega)).mono ?_
        rintro e V2 ⟨rfl, d2⟩
        have I2 : Hid (OwnI w2 la lb 2 ps (.slice (some ⟨gl, 0, none⟩) ps.length lc) V2) := I1.out.later d2
        clear d2 I1
        dsimp only
        go_wp2
        go_loopw [9] (fun i wr => ∃ (k : Nat), k ≤ 4 ∧ i = .int .i64 k ∧ Hid (OwnI w2 la lb 2 ps (.slice (some ⟨gl, 0, none⟩) ps.length lc) wr)) (fun i _ => 4 - (intOf i).toNat)
        case atStart => exact ⟨0, by omega, rfl, I2⟩
        case round =>
          as_aux_lemma =>
            obtain ⟨k, hk, rfl, J⟩ := hrel
            by_cases hlt : k < 4
            · have hkz : (k : Int) < 4 := by omega
              obtain ⟨p, hp⟩ : ∃ p, ps[k]? = some p := ⟨_, List.getElem?_eq_getElem (by have := H8.out; omega)⟩
              obtain ⟨q, hq⟩ : ∃ q, ps[k + 4]? = some q := ⟨_, List.getElem?_eq_getElem (by have := H8.out; omega)⟩
              have hd : Below wr.heap.size wr wr.drew := (Below.refl _ wr).drew
              have Jd := J.out.later hd
              have e1 := Jd.cell hp
              have e2 := Jd.cell hq
              have hq2 := Jd.sl hq
              have hp2 := Jd.sl hp
              have epq : p.2 = q.2 := norm_unique (Jd.norm k p hp) (Jd.norm (k + 4) q hq) (fun i _ _ => by rw [show (k + 4) % 4 = k % 4 by omega])
              rw [← epq] at hq2
              have RG : Hid (Calls Try.prog 21 #[p.1, q.1] wr.drew fun e w' => e = .returned (.bool true) ∧ OwnI w2 la lb 2 ps (.slice (some ⟨gl, 0, none⟩) ps.length lc) w' ∧ w'.cell? ⟨gl, k, none⟩ = some p.1 ∧ w'.cell? ⟨gl, k + 4, none⟩ = some q.1) := (ranges_same hp2 hq2).mono fun e w' h => ⟨h.1, Jd.later h.2, (Jd.later h.2).cell hp, (Jd.later h.2).cell hq⟩
              have wk : IntKind.i64.wrap ((k : Int) + 4) = (k : Int) + 4 := by rw [IntKind.wrap_i64]; omega
              have tk : ((k : Int) + 4).toNat = k + 4 := by omega
              have k8 : (k : Int) < 8 := by omega
              have k48 : (k : Int) + 4 < 8 := by omega
              have k40 : (0 : Int) ≤ (k : Int) + 4 := by omega
              clear hq2 hp2 epq Jd hd hp hq
              generalize p.1 = pv at *
              generalize q.1 = qv at *
              go_wp2
              go_region_held3 (fun w' => w'.cell? ⟨gl, k, none⟩ = some pv ∧ w'.cell? ⟨gl, k + 4, none⟩ = some qv) (first | exact ⟨e1, e2⟩ | exact ⟨n1, n2⟩ | go_keep) (first | (go_at_call 21; refine RG.out.mono ?_; rintro e V3 ⟨rfl, hJ3, n1, n2⟩))
              go_wp2
              go_roundw
              case rel => exact ⟨k + 1, by omega, by go_num, hJ3⟩
              case measure => simp [intOf]; omega
            · obtain rfl : k = 4 := by omega
              obtain ⟨⟨v1, L1⟩, hp1⟩ : ∃ p, ps[1]? = some p := ⟨_, List.getElem?_eq_getElem (by have := H8.out; omega)⟩
              have e1 := J.out.cell hp1
              have s1 := J.out.sl hp1
              simp only at e1 s1
              have HN1 : Hid (Norm L1 (S4 la lb 1)) := J.out.norm 1 _ hp1
              have RM : Hid (Calls Try.prog 31 #[v1] wr fun e w' => ∃ gw, e = .returned (.slice (some ⟨gw, 0, none⟩) L1.length (L1.length + 3)) ∧ OwnW w2 gl lc (ps.map (·.1)) gw L1 ps w') := by
                refine (roomy_any s1 (norm_len HN1.out)).mono ?_
                rintro e w' ⟨gw, rfl, hw, hb⟩
                refine ⟨gw, rfl, ⟨by simp [H8.out], rfl, fun p hp => ?_, J.out.pile.later hb, ?_, owns_mono hw J.out.bel.size, ?_, J.out.bel.trans (hb.mono J.out.bel.size)⟩⟩
                · obtain ⟨j, hj⟩ := List.getElem?_of_mem hp
                  exact norm_len (J.out.norm j p hj)
                · have := owns_later J.out.row hb
                  rw [H8.out] at this
                  exact this
                · intro p hp e
                  have h1 := (owns_block (J.out.pile.own p hp) e).2
                  have h2 : wr.heap.size ≤ gw := (owns_block hw rfl).1
                  omega
              have HQ8 : Hid (ps.length = 8) := H8
              clear s1 J H8 hlt hk I2 hp1
              go_wp2_with fail
              refine RM.out.mono ?_
              rintro e V3 ⟨gw, rfl, hW⟩
              have HW0 : Hid (OwnW w2 gl lc (ps.map (·.1)) gw L1 ps V3) := hW
              clear hW RM e1
              generalize ps.map (·.1) = vs at *
              go_wp2
              go_loopw [11] (fun i wr => ∃ (k : Nat) (qs : List (Value × List (Int × Int))), k ≤ 8 ∧ i = .int .i64 k ∧ Hid (OwnW w2 gl lc vs gw L1 qs wr ∧ DoneW k qs)) (fun i _ => 8 - (intOf i).toNat)
              case atStart => exact ⟨0, ps, by omega, rfl, HW0.out, fun j hj => by omega⟩
              case round =>
                as_aux_lemma =>
                  obtain ⟨k, qs, hk, rfl, HQ⟩ := hrel
                  by_cases hlt : k < 8
                  · have hkz : (k : Int) < 8 := by omega
                    obtain ⟨⟨v, L⟩, hv⟩ : ∃ p, qs[k]? = some p := ⟨_, List.getElem?_eq_getElem (by rw [HQ.out.1.qlen]; exact hlt)⟩
                    obtain ⟨ao, c, rfl⟩ := HQ.out.1.form hv
                    obtain ⟨n, hn⟩ : ∃ n, n = L.length := ⟨_, rfl⟩
                    have hnl : n ≤ 1099511627776 := by rw [hn]; exact HQ.out.1.small _ (List.mem_of_getElem? hv)
                    rw [← hn] at hv
                    have HS : Hid (OwnW w2 gl lc vs gw L1 qs wr ∧ DoneW k qs ∧ ∃ L, qs[k]? = some (.slice ao n c, L) ∧ L.length = n ∧ ∀ t, t < 0 → L[t]? = some ((k : Int), -(k : Int))) := ⟨HQ.out.1, HQ.out.2, L, hv, hn.symm, fun t ht => by omega⟩
                    have wn : IntKind.i64.wrap (-(k : Int)) = -(k : Int) := by rw [IntKind.wrap_i64]; omega
                    clear hv hn HQ
                    go_wp2
                    go_loopw [12] (fun i wr => ∃ (m : Nat) (qs : List (Value × List (Int × Int))), m ≤ n ∧ i = .int .i64 m ∧ Hid (OwnW w2 gl lc vs gw L1 qs wr ∧ DoneW k qs ∧ ∃ L, qs[k]? = some (.slice ao n c, L) ∧ L.length = n ∧ ∀ t, t < m → L[t]? = some ((k : Int), -(k : Int)))) (fun i _ => n - (intOf i).toNat)
                    case atStart => exact ⟨0, qs, Nat.zero_le _, rfl, HS⟩
                    case round =>
                      as_aux_lemma =>
                        obtain ⟨m, qs, hm, rfl, HR⟩ := hrel
                        obtain ⟨ow, dn, L, hL, hLn, hLt⟩ := HR.out
                        have e1 := ow.cell hL
                        simp only at e1
                        by_cases hml : m < n
                        · have hmz : (m : Int) < (n : Int) := by omega
                          obtain ⟨q, hq⟩ : ∃ q, L[m]? = some q := ⟨_, List.getElem?_eq_getElem (by omega)⟩
                          have hL' := hL
                          rw [← hLn] at hL'
                          obtain ⟨g, rfl, c1, c2⟩ := ow.at_ hL' hq
                          obtain ⟨f1, f2, ⟨x2, k2⟩, ow2⟩ := ow.put hL' (by omega : m < L.length) (k : Int) (-(k : Int))
                          have HO : Hid (OwnW w2 gl lc vs gw L1 (qs.set k (.slice (some ⟨g, 0, none⟩) n c, L.set m ((k : Int), -(k : Int)))) ((wr.setCell ⟨g, m * 2, none⟩ (.int .i64 k)).setCell ⟨g, m * 2 + 1, none⟩ (.int .i64 (-(k : Int)))) ∧ DoneW k (qs.set k (.slice (some ⟨g, 0, none⟩) n c, L.set m ((k : Int), -(k : Int)))) ∧ ∃ L', (qs.set k (Value.slice (some ⟨g, 0, none⟩) n c, L.set m ((k : Int), -(k : Int))))[k]? = some (.slice (some ⟨g, 0, none⟩) n c, L') ∧ L'.length = n ∧ ∀ t, t < m + 1 → L'[t]? = some ((k : Int), -(k : Int))) := by
                            rw [hLn] at ow2
                            refine ⟨ow2, dn.set (Nat.le_refl _), L.set m ((k : Int), -(k : Int)), ?_, by rw [List.length_set]; exact hLn, fun t ht => ?_⟩
                            · rw [List.getElem?_set_self (List.getElem?_eq_some_iff.1 hL).1]
                            · rw [List.getElem?_set]
                              by_cases e : m = t
                              · subst e; rw [if_pos rfl, if_pos (by omega)]
                              · rw [if_neg e]; exact hLt t (by omega)
                          clear ow dn hL hLn hLt hq hL' ow2 HR
                          go_wp2
                          go_roundw
                          case rel => exact ⟨m + 1, _, by omega, by go_num, HO⟩
                          case measure => simp [intOf]; omega
                        · have hmz : ¬ (m : Int) < (n : Int) := by omega
                          obtain rfl : m = n := by omega
                          have HO : Hid (OwnW w2 gl lc vs gw L1 qs wr ∧ DoneW (k + 1) qs) := ⟨ow, fun j hj p hp x hx => by
                            by_cases e : j < k
                            · exact dn j e p hp x hx
                            · obtain rfl : j = k := by omega
                              rw [hL] at hp
                              cases hp
                              obtain ⟨t, ht⟩ := List.getElem?_of_mem hx
                              have h1 := hLt t (by have h9 := (List.getElem?_eq_some_iff.1 ht).1; simp only at h9; omega)
                              rw [ht] at h1
                              simpa using h1⟩
                          clear ow dn hL hLn hLt HR
                          go_wp2
                          go_roundw
                          case rel => exact ⟨k + 1, qs, by omega, by go_num, HO⟩
                          case measure => simp [intOf]; omega
                  · have hkz : ¬ (k : Int) < 8 := by omega
                    obtain rfl : k = 8 := by omega
                    have HQ' : Hid (OwnW w2 gl lc vs gw L1 qs wr) := HQ.out.1
                    have HDN : Hid (DoneW 8 qs) := HQ.out.2
                    clear HQ HW0
                    go_wp2
                    go_loopw [13, 14] (fun gr i wr => ∃ (k N : Nat), k ≤ 8 ∧ i = .int .i64 k ∧ gr = .int .i64 N ∧ 40 * k ≤ N ∧ N ≤ k * 2199023255552 ∧ Hid (OwnW w2 gl lc vs gw L1 qs wr)) (fun _ i _ => 8 - (intOf i).toNat)
                    case atStart => exact ⟨0, 0, by omega, rfl, rfl, by omega, by omega, HQ'⟩
                    case round =>
                      as_aux_lemma =>
                        obtain ⟨k, N, hk, rfl, rfl, hN1, hN2, HQ⟩ := hrel
                        by_cases hlt : k < 8
                        · have hkz : (k : Int) < 8 := by omega
                          obtain ⟨⟨v, L⟩, hv⟩ : ∃ p, qs[k]? = some p := ⟨_, List.getElem?_eq_getElem (by rw [HQ.out.qlen]; exact hlt)⟩
                          have hnl : L.length ≤ 1099511627776 := HQ.out.small _ (List.mem_of_getElem? hv)
                          have e1 := HQ.out.cell hv
                          simp only at e1
                          have HG0 : Hid (GrI w2 gl lc vs gw L1 qs wr.heap.size v L v 0 wr ∧ wr.heap.size ≤ wr.heap.size) := ⟨GrI.start HQ.out hv, Nat.le_refl _⟩
                          have HV : Hid (qs[k]? = some (v, L)) := hv
                          obtain ⟨H, hH⟩ : ∃ H, H = wr.heap.size := ⟨_, rfl⟩
                          rw [← hH] at HG0
                          have HG1 : Hid (GrI w2 gl lc vs gw L1 qs H v L v 0 wr ∧ H ≤ wr.heap.size) := ⟨HG0.out.1, by rw [hH]; exact Nat.le_refl _⟩
                          clear hv HQ HG0 hH
                          go_wp2
                          go_loopw [15, 16] (fun u j wr => ∃ (t : Nat), t ≤ 40 ∧ j = .int .i64 t ∧ Hid (GrI w2 gl lc vs gw L1 qs H v L u t wr ∧ H ≤ wr.heap.size)) (fun _ j _ => 40 - (intOf j).toNat)
                          case atStart => exact ⟨0, by omega, rfl, HG1⟩
                          case round =>
                            as_aux_lemma =>
                              obtain ⟨t, ht, rfl, HG⟩ := hrel
                              by_cases htl : t < 40
                              · have htz : (t : Int) < 40 := by omega
                                have HU : Hid ((wr.alloc (.cells #[.int .i64 (-9), .int .i64 (-9)] TRng)).ownsRow w2.heap.size TRng 2 u15 (L.length + t) (pcells (L ++ List.replicate t (-9, -9)))) := HG.out.1.uo.alloc _
                                go_wp2_with (at_builtin; go_loud (refine wpList_append_stay (P := Try.prog) rfl (.tmp 109) (.tmp 111) 48 rfl w2.heap.size TRng i0 (.agg #[.int .i64 0, .int .i64 0]) 2 16 Try.underlying48 hi0 hz0 hz1 hz2 rfl (by decide) u15 (L.length + t) (pcells (L ++ List.replicate t (-9, -9))) rfl HU.out ⟨wr.heap.size, 0, none⟩ 1 1 [.int .i64 (-9), .int .i64 (-9)] rfl rfl (World.news_of_block (heap_alloc_new wr _)) (by simp [Value.oneCell']) (by unfold maxLen; omega) (by omega) (by have := HG.out.1.ow.bel.size; simp; omega) ?_))
                                intro u' w' ho hg ha hst
                                have HG2 : Hid (GrI w2 gl lc vs gw L1 qs H v L u' (t + 1) w' ∧ H ≤ w'.heap.size) := ⟨HG.out.1.step HV.out ho hg (by rw [World.size_alloc]; exact ha) hst HG.out.2, by have h1 := hg.size; have h2 := HG.out.2; simp at h1; omega⟩
                                clear ho hg ha hst HG HU
                                go_wp2
                                go_roundw
                                case rel => exact ⟨t + 1, by omega, by go_num, HG2⟩
                                case measure => simp [intOf]; omega
                              · have htz : ¬ (t : Int) < 40 := by omega
                                obtain rfl : t = 40 := by omega
                                obtain ⟨ao, cc, hu⟩ := owns_form HG.out.1.uo
                                subst hu
                                have HO : Hid (OwnW w2 gl lc vs gw L1 qs wr) := HG.out.1.ow
                                have wN : IntKind.i64.wrap ((N : Int) + ((L.length + 40 : Nat) : Int)) = ((N + (L.length + 40) : Nat) : Int) := by rw [IntKind.wrap_i64]; omega
                                clear HG HG1
                                go_wp2
                                go_roundw
                                case rel => exact ⟨k + 1, N + (L.length + 40), by omega, by go_num, by go_num, by omega, by omega, HO⟩
                                case measure => simp [intOf]; omega
                        · have hkz : ¬ (k : Int) < 8 := by omega
                          obtain rfl : k = 8 := by omega
                          clear HQ'
                          go_wp2
                          go_loopw [17] (fun i wr => ∃ (k : Nat), k ≤ 8 ∧ i = .int .i64 k ∧ Hid (OwnW w2 gl lc vs gw L1 qs wr)) (fun i _ => 8 - (intOf i).toNat)
                          case atStart => exact ⟨0, by omega, rfl, HQ⟩
                          case round =>
                            as_aux_lemma =>
                              obtain ⟨k, hk, rfl, HQ⟩ := hrel
                              by_cases hlt : k < 8
                              · have hkz : (k : Int) < 8 := by omega
                                obtain ⟨⟨v, L⟩, hv⟩ : ∃ p, qs[k]? = some p := ⟨_, List.getElem?_eq_getElem (by rw [HQ.out.qlen]; exact hlt)⟩
                                obtain ⟨ao, c, rfl⟩ := HQ.out.form hv
                                have hnl : L.length ≤ 1099511627776 := HQ.out.small _ (List.mem_of_getElem? hv)
                                have HV : Hid (qs[k]? = some (.slice ao L.length c, L)) := hv
                                have wn : IntKind.i64.wrap (-(k : Int)) = -(k : Int) := by rw [IntKind.wrap_i64]; omega
                                clear hv
                                go_wp2
                                go_loopw [18] (fun i wr => ∃ (m : Nat), m ≤ L.length ∧ i = .int .i64 m ∧ Hid (OwnW w2 gl lc vs gw L1 qs wr)) (fun i _ => L.length - (intOf i).toNat)
                                case atStart => exact ⟨0, Nat.zero_le _, rfl, HQ⟩
                                case round =>
                                  as_aux_lemma =>
                                    obtain ⟨m, hm, rfl, HR⟩ := hrel
                                    have e1 := HR.out.cell HV.out
                                    simp only at e1
                                    by_cases hml : m < L.length
                                    · have hmz : (m : Int) < (L.length : Int) := by omega
                                      obtain ⟨q, hq⟩ : ∃ q, L[m]? = some q := ⟨_, List.getElem?_eq_getElem hml⟩
                                      obtain ⟨g, rfl, c1, c2⟩ := HR.out.at_ HV.out hq
                                      have hqe : q = ((k : Int), -(k : Int)) := HDN.out k hlt _ HV.out q (List.mem_of_getElem? hq)
                                      subst hqe
                                      simp only at c1 c2
                                      have HNQ := neqRng
                                      clear hq
                                      go_wp2
                                      go_roundw
                                      case rel => exact ⟨m + 1, by omega, by go_num, HR⟩
                                      case measure => simp [intOf]; omega
                                    · have hmz : ¬ (m : Int) < (L.length : Int) := by omega
                                      go_wp2
                                      go_roundw
                                      case rel => exact ⟨k + 1, by omega, by go_num, HR⟩
                                      case measure => simp [intOf]; omega
                              · have hkz : ¬ (k : Int) < 8 := by omega
                                have hN24 : decide ((N : Int) ≥ 24) = true := decide_eq_true (by omega)
                                have HLW : Hid (SL wr (.slice (some ⟨gw, 0, none⟩) L1.length (L1.length + 3)) L1 ∧ Below w2.heap.size w2 wr) := ⟨⟨_, _, rfl, by have := norm_len HN1.out; omega, rngs_pre (rngs_row HQ.out.was)⟩, HQ.out.bel⟩
                                clear HQ HDN
                                go_wp2_with fail
                                refine (kept_any (K1.out.later HLW.out.2) (HA2.out.later HLW.out.2) (by omega)).mono ?_
                                rintro e V5 ⟨rfl, d5⟩
                                go_wp2_with fail
                                have B5 : Hid (Below w2.heap.size w2 V5) := HLW.out.2.trans (d5.mono HLW.out.2.size)
                                have S5 : Hid (SL V5 (.slice (some ⟨gw, 0, none⟩) L1.length (L1.length + 3)) L1) := HLW.out.1.later d5
                                clear d5 HLW
                                refine (kept_any (K2.out.later B5.out) (HB2.out.later B5.out) (by omega)).mono ?_
                                rintro e V6 ⟨rfl, d6⟩
                                have B6 : Hid (Below w2.heap.size w2 V6) := B5.out.trans (d6.mono B5.out.size)
                                have S6 : Hid (SL V6 (.slice (some ⟨gw, 0, none⟩) L1.length (L1.length + 3)) L1) := S5.out.later d6
                                clear d6 S5
                                dsimp only
                                go_wp2_with fail
                                refine (union_any (HA2.out.later B6.out) (HB2.out.later B6.out)).mono ?_
                                rintro e V7 ⟨v7, L7, rfl, N7, s7, d7⟩
                                have e7 : L7 = L1 := norm_unique N7 HN1.out (fun i _ _ => Iff.rfl)
                                subst e7
                                have RG7 : Hid _ := ranges_same s7 (S6.out.later d7)
                                have B7 : Hid (Below w2.heap.size w2 V7) := B6.out.trans (d7.mono B6.out.size)
                                clear d7 N7 s7
                                go_wp2_with fail
                                refine Calls.mono RG7.out ?_
                                rintro e V8 ⟨rfl, d8⟩
                                have B8 : Hid (Below w2.heap.size w2 V8) := B7.out.trans (d8.mono B7.out.size)
                                clear d8
                                go_wp2_with fail
                                refine (I.alive_any _).mono ?_
                                rintro e V9 ⟨rfl, d9⟩
                                go_wp2
                                go_ret
                                exact ⟨rfl, (BW.out.trans (B8.out.mono BW.out.size)).trans (d9.mono (Nat.le_trans BW.out.size B8.out.size))⟩


end Go.Proofs.Ytijafckdbhklmab.B
