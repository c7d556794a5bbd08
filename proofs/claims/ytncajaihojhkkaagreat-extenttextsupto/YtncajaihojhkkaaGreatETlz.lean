import Derived.Test.YtncajaihojhkkaaGreatJD
namespace Go.Proofs.YtncajaihojhkkaaGreat.I
open Go.RowKit Go.Sort Go.Lib Go.Shelf Go.Proofs.YtncajaihojhkkaaGreat
attribute [local go_sem] Oper.semAt_some
set_option linter.unusedVariables false
set_option linter.unusedSimpArgs false
set_option maxRecDepth 100000

theorem below_drew2 (W : World) : Below W.heap.size W W.drew := ⟨rfl, rfl, rfl, Nat.le_refl _, fun _ _ => rfl⟩
theorem DM.down2 {w : World} {B B' bd : Nat} {sv : Value} {size first : Int} {Q : List Put} (h : DM w B bd sv size first Q) (hb : B' ≤ B) : DM w B' bd sv size first Q := ⟨h.blk, owns_mono h.row hb, Nat.le_trans hb h.base, h.may⟩
theorem pst_later {w W W' : World} {H : Nat} {A : Array Value} {bm bd : Nat} {size first : Int} {Q : List Put} {rs : List (Rn ByteArray)} (h : W.heap[H]? = some (.cells A TNames (0, 0)) ∧ Boxed W (H + 1) 4 (.bool false) ∧ (∃ vm, S.MO W (H + 2) bm vm size rs) ∧ (∃ sv, DM W (H + 2) bd sv size first Q) ∧ Below w.heap.size w W) (hb : Below W.heap.size W W') :
    W'.heap[H]? = some (.cells A TNames (0, 0)) ∧ Boxed W' (H + 1) 4 (.bool false) ∧ (∃ vm, S.MO W' (H + 2) bm vm size rs) ∧ (∃ sv, DM W' (H + 2) bd sv size first Q) ∧ Below w.heap.size w W' := by
  obtain ⟨h1, h2, ⟨vm, h3⟩, ⟨sv, h4⟩, h5⟩ := h
  exact ⟨(hb.block _ (Array.getElem?_eq_some_iff.1 h1).1).trans h1, (hb.block _ h2.lt).trans h2, ⟨vm, h3.later hb⟩, ⟨sv, h4.later hb⟩, h5.trans (hb.mono h5.size)⟩
theorem dset_not {w W : World} {H : Nat} {A : Array Value} {nm : Nat → ByteArray} {bm bd : Nat} {size first : Int} {Q : List Put} {rs : List (Rn ByteArray)} {x : ByteArray} (h : TI w W H A nm bm bd size first Q rs) {W1 : World} {lo hi : Int} (h1 : W1.heap[H]? = some (.cells A TNames (0, 0)) ∧ Boxed W1 (H + 1) 4 (.bool false) ∧ (∃ vm, S.MO W1 (H + 2) bm vm size (S.setR size rs lo hi x)) ∧ (∃ sv, DM W1 (H + 2) bd sv size first Q) ∧ Below w.heap.size w W1) (lo' hi' : Int) (v : Int) (hm : ¬ may size lo hi) (e1 : lo' = lo := by rfl) (e2 : hi' = hi := by rfl) :
    Calls Tryz.prog 11 #[.pointer (some ⟨bd, 0, none⟩), .int .i64 lo', .int .i64 hi', .int .i64 v] W1 fun e W' => e = .returned (.int .i64 21) ∧ TI w W' H A nm bm bd size first Q rs := by
  subst e1
  subst e2
  obtain ⟨a1, a2, ⟨vm, hmo⟩, ⟨sv, hd⟩, hb⟩ := h1
  have e : S.setR size rs lo' hi' x = rs := by
    unfold S.setR
    rw [if_neg (fun k => hm ⟨k.1, by omega, k.2.2⟩)]
  rw [e] at hmo
  refine (dSet_no hd lo' hi' v hm).mono ?_
  rintro e W' ⟨rfl, rfl⟩
  exact ⟨rfl, a1, a2, ⟨vm, hmo⟩, ⟨sv, hd⟩, h.rel, hb, h.hH⟩
theorem cutS_whole {size : Int} {rs : List (Rn ByteArray)} (ht : Tiles 0 size rs) : List.map (fun r : Rn ByteArray => r) rs = S.cutA rs size 0 size := by
  rw [List.map_id']
  unfold S.cutA
  have hp := ht.le
  by_cases hz : 0 < size
  · rw [if_pos (by omega), show max (0 : Int) 0 = 0 by omega, show min size size = size by omega, S.cut_full ht hz]
  · have e0 : size = 0 := by omega
    rw [if_neg (by omega)]
    subst e0
    exact ht.empty
theorem keepsO_drewN (W : World) (q : Nat) : KeepsOthers W (W.drewN q) := ⟨Nat.le_refl _, fun _ _ h _ => h⟩
theorem keepS_box {W : World} {B t : Nat} {v u : Value} (hb : Boxed W B t v) (ht : t ≠ S.TRun) : S.KeepR W (W.setCell ⟨B, 0, none⟩ u) := fun i cur fr hi => by
  refine (Below.heap_setCell _ _ _ _ (fun e => ?_)).trans hi
  have e' : i = B := e
  subst e'
  have := hi.symm.trans hb
  simp at this
  exact ht this.2.1.symm
theorem countS_any {w : World} {B bm : Nat} {v : Value} {size : Int} {rs : List (Rn ByteArray)} (h : S.MO w B bm v size rs) :
    Calls Tryz.prog 15 #[.pointer (some ⟨bm, 0, none⟩)] w fun e w' => e = .returned (.int .i64 rs.length) ∧ w' = w := by
  have c0 : w.cell? ⟨bm, 0, none⟩ = some (.bool true) := h.c 0
  obtain ⟨ao, cap, rfl⟩ := own_slice h.row
  have c2 : w.cell? ⟨bm, 2, none⟩ = some (.slice ao rs.length cap) := h.c 2
  clear h
  generalize rs.length = n at *
  go_enter Tryz.func15, Tryz.ntmps15
  go_wp2_with (go_at_call 22; refine (S.usable_at bm true _ c0).mono ?_; rintro e w9 ⟨rfl, hw9⟩; rw [hw9]; clear hw9)
  go_ret
  exact ⟨rfl, rfl⟩
theorem hid1 {p : Prop} (h : p) : Hid p := h
set_option maxHeartbeats 16000000 in
theorem lawTexts_good {A : Array Value} {nm : Nat → ByteArray} (hA : Nms A nm) (size : Int) (fi : Nat) (hf : fi < 256) (ao : Option Addr) (n cap : Nat) (l : List Put) (w : World) (HL : Hid (n = l.length)) (hn : n ≤ 1048576) (HR : Hid (Puts w ao l)) (hz0 : 0 ≤ size) (hz1 : size ≤ 1099511627776) :
    Calls Tryz.prog 3 #[.int .i64 size, .int .u8 (fi : Int), .slice ao n cap, .agg A] w fun e w' => e = .returned (.bool true) ∧ Below w.heap.size w w' := by
  refine (callsIn_wide (n := 4)).1 ?_
  have f0 : Fence.wide.fn 3 := trivial
  have f4 : Fence.wide.fn 26 := trivial
  obtain ⟨H, hH⟩ : ∃ H, w.heap.size = H := ⟨_, rfl⟩
  obtain ⟨b0, b1, b2, b3⟩ := boxes2 hA w hH
  obtain ⟨W1, hW1⟩ : ∃ W1, W1 = (w.alloc (.cells A TNames)).alloc (.cells #[.bool false] 4) := ⟨_, rfl⟩
  rw [← hW1] at b0 b1 b2 b3
  have c0 := hA.cell b0 fi hf
  have HA : Hid (Nms A nm) := hA
  have HN := S.new_any size (nm fi) W1 hz0 hz1
  have HB1 : Hid (W1.heap[H]? = some (.cells A TNames (0, 0)) ∧ Boxed W1 (H + 1) 4 (.bool false) ∧ Below w.heap.size w W1 ∧ W1.heap.size = H + 2) := ⟨b0, b1, b2, b3⟩
  have HH : Hid (w.heap.size = H) := hH
  have hf0 : (0 : Int) ≤ (fi : Int) := by omega
  have hf1 : (fi : Int) < 256 := by omega
  have hsz := hA.size
  have hAf : A[fi]'(by omega) = .string (nm fi) := (Array.getElem?_eq_some_iff.1 (hA.get fi hf)).2
  have c0' := c0
  rw [hW1, ← hH] at c0'
  rw [hW1] at HN
  clear b0 b1 b2 b3 hA c0
  refine callsIn_of_wp_marks Tryz.func3 rfl f0 ?_ rfl
  simp only [Tryz.ntmps3, List.size_toArray, List.length_cons, List.length_nil, Nat.reduceAdd, Nat.reduceSub, Array.replicate_succ, Array.replicate_zero, List.push_toArray, List.append_toArray, List.nil_append, List.cons_append]
  refine wpIn_wide.2 ?_
  go_wp2_with fail
  refine HN.mono ?_
  rintro e w1 ⟨bm, vv, rfl, hMO, hb1⟩
  rw [← hW1] at hMO hb1
  have HMO := hid1 hMO
  have hn1 : w1.heap[H]? = some (.cells A TNames (0, 0)) := (hb1.block H (by rw [HB1.out.2.2.2]; omega)).trans HB1.out.1
  have HU := number_any HA.out fi hf w1
  have HB2 := hid1 hb1
  clear HN hMO hb1 c0'
  go_wp2_with fail
  refine (num_any _ _).mono ?_
  rintro e w9 ⟨rfl, hw9⟩
  rw [hw9]
  clear hw9
  go_upto_region 4 with fail
  refine wp_region_list ?_
  simp only []
  refine wpList_plain rfl (fun K hK => ?_)
  go_simp
  refine hK _ _ ?_
  clear hK K
  refine load256 rfl _ rfl H (by first | rfl | (rw [← hH]; rfl)) A hsz hn1 ?_
  simp only [Act.put, List.setIfInBounds_toArray, List.set_cons_zero, List.set_cons_succ]
  go_wp2_with (first | (go_at_call 9; refine HU.mono ?_; rintro e w2 ⟨j0, rfl, hj0, hb⟩; have HJ := hid1 hj0; have HB3 := hid1 hb; have HD := dNew_any size (j0 : Int) w2 hz0 hz1; clear HU hb hj0) | (go_at_call 8; refine HD.mono ?_; rintro e w3 ⟨rfl, hdm, hb⟩; have HDM := hid1 hdm; have HB4 := hid1 hb; clear HD hdm hb))
  have HT0 : Hid (TI w w3 H A nm bm w2.heap.size size (j0 : Int) [] (joined [⟨0, size, nm fi⟩])) := by
    have x1 := HB1.out
    have l1 : H + 2 ≤ w1.heap.size := by have := HB2.out.size; omega
    have l2 : H + 2 ≤ w2.heap.size := by have := HB3.out.size; omega
    have hb13 : Below w1.heap.size w1 w3 := HB3.out.trans (HB4.out.mono HB3.out.size)
    have hb03 : Below W1.heap.size W1 w3 := HB2.out.trans (hb13.mono HB2.out.size)
    have hm := HMO.out.later hb13
    rw [x1.2.2.2] at hm
    exact ⟨(hb03.block H (by omega)).trans x1.1, (hb03.block (H + 1) (by omega)).trans x1.2.1, ⟨vv, hm⟩, ⟨_, DM.down2 HDM.out l2⟩, NRel.new nm size hz0 HJ.out hf, x1.2.2.1.trans (hb03.mono x1.2.2.1.size), HH.out⟩
  have HSf0 : Hid (∀ W, Below w.heap.size w W → Puts W ao l) := fun W hW => HR.out.later hW
  generalize hbd : w2.heap.size = bd at *
  generalize (j0 : Int) = first at *
  clear hbd
  go_wp2
  go_loopw [13, 14] (fun v13 _ wr => ∃ (i : Nat) (Q : List Put) (rs : List (Rn ByteArray)), i ≤ n ∧ v13 = .int .i64 i ∧ Hid (TI w wr H A nm bm bd size first Q rs) ∧ Q.length ≤ i) (fun v13 _ _ => n - (intOf v13).toNat)
  case atStart => exact ⟨0, [], _, Nat.zero_le _, rfl, HT0, Nat.zero_le _⟩
  case round =>
    obtain ⟨i, Q, rs, hi0, rfl, HT, hQ⟩ := hrel
    by_cases hlt : i < n
    · obtain ⟨⟨lo, hi, v⟩, hq⟩ : ∃ q, l[i]? = some q := ⟨_, List.getElem?_eq_getElem (by have := HL.out; omega)⟩
      obtain ⟨lb, off, rfl, d0, d1, d2⟩ := HSf0.out wr HT.out.bel i _ hq
      obtain ⟨kk, hkk, hw⟩ : ∃ kk : Nat, kk < 256 ∧ IntKind.u8.wrap v = (kk : Int) := ⟨(v % 256).toNat, by omega, by simp [IntKind.wrap, IntKind.signed, IntKind.bits]; omega⟩
      simp only at d0 d1 d2
      have HSf : Hid (∀ W, W.heap[H]? = some (.cells A TNames (0, 0)) → Below w.heap.size w W → (W.heap[H]? = some (.cells A TNames (0, 0)) ∧ W.cell? ⟨H, kk, none⟩ = some (.string (nm kk)) ∧ W.cell? ⟨lb, off + i * 3, none⟩ = some (.int .i64 lo) ∧ W.cell? ⟨lb, off + i * 3 + 1, none⟩ = some (.int .i64 hi))) := fun W h1 hW => by
        obtain ⟨b', o', e, y0, y1, _⟩ := HSf0.out W hW i _ hq
        simp only [Option.some.injEq, Addr.mk.injEq, and_true] at e
        obtain ⟨rfl, rfl⟩ := e
        exact ⟨h1, HA.out.cell h1 kk hkk, y0, y1⟩
      have HTd := hid1 (HT.out.later (below_drew2 wr))
      have hkz : (i : Int) < (n : Int) := by omega
      have hk0 : (0 : Int) ≤ (kk : Int) := by omega
      have hk1 : (kk : Int) < 256 := by omega
      have hi1 : (0 : Int) ≤ (i : Int) := by omega
      clear hq d0 d1
      by_cases hmay : may size lo hi
      · have HMay := hid1 hmay
        have hE : S.setE size lo hi = 0 := by unfold S.setE; rw [if_pos HMay.out]
        clear hmay
        go_wp2
        refine Code.wp_mono (Q := NoPanic _) NoPanic.imp ?_
        refine wp_region_held_drew (S := fun w' => w'.heap[H]? = some (.cells A TNames (0, 0)) ∧ w'.cell? ⟨H, kk, none⟩ = some (.string (nm kk)) ∧ w'.cell? ⟨lb, off + i * 3, none⟩ = some (.int .i64 lo) ∧ w'.cell? ⟨lb, off + i * 3 + 1, none⟩ = some (.int .i64 hi)) (by kernel_rfl) (HSf.out _ HTd.out.nb HTd.out.bel) ?_
        intro hHeld
        refine' wpAnyH_take (i := 0) (oi := { dst := some 56, op := Op.move (Operand.tmp 9), type := 24, pos := _, after := #[], guard := none }) (v := _) rfl (by kernel_rfl) (by kernel_rfl) (by kernel_rfl) (fun _ _ _ h => h) (Or.inl ⟨by rfl, ?hy1⟩) hHeld ?rest1
        case' hy1 =>
          intro w' hSw
          (try dsimp only at hSw)
          obtain ⟨hSw0, hSw1, hSw2, hSw3⟩ := hSw
          first | (go_simp; done) | (go_simp; with_reducible rfl)
        simp only [Act.put, List.setIfInBounds_toArray, List.set_cons_zero, List.set_cons_succ]
        refine' wpAnyH_take (i := 1) (oi := { dst := some 57, op := Op.move (Operand.tmp 2), type := 22, pos := _, after := #[], guard := none }) (v := _) rfl (by kernel_rfl) (by kernel_rfl) (by kernel_rfl) (fun _ _ _ h => h) (Or.inl ⟨by rfl, ?hy2⟩) hHeld ?rest2
        case' hy2 =>
          intro w' hSw
          (try dsimp only at hSw)
          obtain ⟨hSw0, hSw1, hSw2, hSw3⟩ := hSw
          first | (go_simp; done) | (go_simp; with_reducible rfl)
        simp only [Act.put, List.setIfInBounds_toArray, List.set_cons_zero, List.set_cons_succ]
        refine' wpAnyH_take (i := 2) (oi := { dst := some 58, op := Op.move (Operand.tmp 13), type := 3, pos := _, after := #[], guard := none }) (v := _) rfl (by kernel_rfl) (by kernel_rfl) (by kernel_rfl) (fun _ _ _ h => h) (Or.inl ⟨by rfl, ?hy3⟩) hHeld ?rest3
        case' hy3 =>
          intro w' hSw
          (try dsimp only at hSw)
          obtain ⟨hSw0, hSw1, hSw2, hSw3⟩ := hSw
          first | (go_simp; done) | (go_simp; with_reducible rfl)
        simp only [Act.put, List.setIfInBounds_toArray, List.set_cons_zero, List.set_cons_succ]
        refine' wpAnyH_take (i := 3) (oi := { dst := some 59, op := Op.indexAddr 22 (Operand.tmp 57) (Operand.tmp 58), type := 0, pos := _, after := #[{ on := 1, ground := Ground.data }, { on := 2, ground := Ground.data }], guard := none }) (v := _) rfl (by kernel_rfl) (by kernel_rfl) (by kernel_rfl) (fun _ _ _ h => h) (Or.inl ⟨by rfl, ?hy4⟩) hHeld ?rest4
        case' hy4 =>
          intro w' hSw
          (try dsimp only at hSw)
          obtain ⟨hSw0, hSw1, hSw2, hSw3⟩ := hSw
          first | (go_simp; done) | (go_simp; with_reducible rfl)
        simp only [Act.put, List.setIfInBounds_toArray, List.set_cons_zero, List.set_cons_succ]
        refine' wpAnyH_take (i := 4) (oi := { dst := some 60, op := Op.fieldAddr 36 (Operand.tmp 59) 0, type := 0, pos := _, after := #[{ on := 3, ground := Ground.data }], guard := none }) (v := _) rfl (by kernel_rfl) (by kernel_rfl) (by kernel_rfl) (fun _ _ _ h => h) (Or.inl ⟨by rfl, ?hy5⟩) hHeld ?rest5
        case' hy5 =>
          intro w' hSw
          (try dsimp only at hSw)
          obtain ⟨hSw0, hSw1, hSw2, hSw3⟩ := hSw
          first | (go_simp; done) | (go_simp; with_reducible rfl)
        simp only [Act.put, List.setIfInBounds_toArray, List.set_cons_zero, List.set_cons_succ]
        refine' wpAnyH_take (i := 5) (oi := { dst := some 61, op := Op.load 2 (Operand.tmp 60), type := 2, pos := _, after := #[{ on := 4, ground := Ground.data }], guard := none }) (v := _) rfl (by kernel_rfl) (by kernel_rfl) (by kernel_rfl) (fun _ _ _ h => h) (Or.inl ⟨by rfl, ?hy6⟩) hHeld ?rest6
        case' hy6 =>
          intro w' hSw
          (try dsimp only at hSw)
          obtain ⟨hSw0, hSw1, hSw2, hSw3⟩ := hSw
          first | (go_simp; done) | (go_simp; with_reducible rfl)
        simp only [Act.put, List.setIfInBounds_toArray, List.set_cons_zero, List.set_cons_succ]
        refine' wpAnyH_take (i := 6) (oi := { dst := some 62, op := Op.move (Operand.tmp 2), type := 22, pos := _, after := #[], guard := none }) (v := _) rfl (by kernel_rfl) (by kernel_rfl) (by kernel_rfl) (fun _ _ _ h => h) (Or.inl ⟨by rfl, ?hy7⟩) hHeld ?rest7
        case' hy7 =>
          intro w' hSw
          (try dsimp only at hSw)
          obtain ⟨hSw0, hSw1, hSw2, hSw3⟩ := hSw
          first | (go_simp; done) | (go_simp; with_reducible rfl)
        simp only [Act.put, List.setIfInBounds_toArray, List.set_cons_zero, List.set_cons_succ]
        refine' wpAnyH_take (i := 7) (oi := { dst := some 63, op := Op.move (Operand.tmp 13), type := 3, pos := _, after := #[], guard := none }) (v := _) rfl (by kernel_rfl) (by kernel_rfl) (by kernel_rfl) (fun _ _ _ h => h) (Or.inl ⟨by rfl, ?hy8⟩) hHeld ?rest8
        case' hy8 =>
          intro w' hSw
          (try dsimp only at hSw)
          obtain ⟨hSw0, hSw1, hSw2, hSw3⟩ := hSw
          first | (go_simp; done) | (go_simp; with_reducible rfl)
        simp only [Act.put, List.setIfInBounds_toArray, List.set_cons_zero, List.set_cons_succ]
        refine' wpAnyH_take (i := 8) (oi := { dst := some 64, op := Op.indexAddr 22 (Operand.tmp 62) (Operand.tmp 63), type := 0, pos := _, after := #[{ on := 6, ground := Ground.data }, { on := 7, ground := Ground.data }], guard := none }) (v := _) rfl (by kernel_rfl) (by kernel_rfl) (by kernel_rfl) (fun _ _ _ h => h) (Or.inl ⟨by rfl, ?hy9⟩) hHeld ?rest9
        case' hy9 =>
          intro w' hSw
          (try dsimp only at hSw)
          obtain ⟨hSw0, hSw1, hSw2, hSw3⟩ := hSw
          first | (go_simp; done) | (go_simp; with_reducible rfl)
        simp only [Act.put, List.setIfInBounds_toArray, List.set_cons_zero, List.set_cons_succ]
        refine' wpAnyH_take (i := 9) (oi := { dst := some 65, op := Op.fieldAddr 36 (Operand.tmp 64) 1, type := 0, pos := _, after := #[{ on := 8, ground := Ground.data }], guard := none }) (v := _) rfl (by kernel_rfl) (by kernel_rfl) (by kernel_rfl) (fun _ _ _ h => h) (Or.inl ⟨by rfl, ?hy10⟩) hHeld ?rest10
        case' hy10 =>
          intro w' hSw
          (try dsimp only at hSw)
          obtain ⟨hSw0, hSw1, hSw2, hSw3⟩ := hSw
          first | (go_simp; done) | (go_simp; with_reducible rfl)
        simp only [Act.put, List.setIfInBounds_toArray, List.set_cons_zero, List.set_cons_succ]
        refine' wpAnyH_take (i := 10) (oi := { dst := some 66, op := Op.load 2 (Operand.tmp 65), type := 2, pos := _, after := #[{ on := 9, ground := Ground.data }], guard := none }) (v := _) rfl (by kernel_rfl) (by kernel_rfl) (by kernel_rfl) (fun _ _ _ h => h) (Or.inl ⟨by rfl, ?hy11⟩) hHeld ?rest11
        case' hy11 =>
          intro w' hSw
          (try dsimp only at hSw)
          obtain ⟨hSw0, hSw1, hSw2, hSw3⟩ := hSw
          first | (go_simp; done) | (go_simp; with_reducible rfl)
        simp only [Act.put, List.setIfInBounds_toArray, List.set_cons_zero, List.set_cons_succ]
        refine' wpAnyH_take (i := 11) (oi := { dst := some 67, op := Op.move (Operand.tmp 14), type := 5, pos := _, after := #[], guard := none }) (v := _) rfl (by kernel_rfl) (by kernel_rfl) (by kernel_rfl) (fun _ _ _ h => h) (Or.inl ⟨by rfl, ?hy12⟩) hHeld ?rest12
        case' hy12 =>
          intro w' hSw
          (try dsimp only at hSw)
          obtain ⟨hSw0, hSw1, hSw2, hSw3⟩ := hSw
          first | (go_simp; done) | (go_simp; with_reducible rfl)
        simp only [Act.put, List.setIfInBounds_toArray, List.set_cons_zero, List.set_cons_succ]
        refine' wpAnyH_take (i := 12) (oi := { dst := some 68, op := Op.indexAddr 23 (Operand.tmp 7) (Operand.tmp 67), type := 0, pos := _, after := #[{ on := 11, ground := Ground.data }], guard := none }) (v := _) rfl (by kernel_rfl) (by kernel_rfl) (by kernel_rfl) (fun _ _ _ h => h) (Or.inl ⟨by rfl, ?hy13⟩) hHeld ?rest13
        case' hy13 =>
          intro w' hSw
          (try dsimp only at hSw)
          obtain ⟨hSw0, hSw1, hSw2, hSw3⟩ := hSw
          first | (go_simp; done) | (go_simp; with_reducible rfl)
        simp only [Act.put, List.setIfInBounds_toArray, List.set_cons_zero, List.set_cons_succ]
        refine' wpAnyH_take (i := 13) (oi := { dst := some 69, op := Op.load 9 (Operand.tmp 68), type := 9, pos := _, after := #[{ on := 12, ground := Ground.data }], guard := none }) (v := _) rfl (by kernel_rfl) (by kernel_rfl) (by kernel_rfl) (fun _ _ _ h => h) (Or.inl ⟨by rfl, ?hy14⟩) hHeld ?rest14
        case' hy14 =>
          intro w' hSw
          (try dsimp only at hSw)
          obtain ⟨hSw0, hSw1, hSw2, hSw3⟩ := hSw
          first | (go_simp; done) | (go_simp; with_reducible rfl)
        simp only [Act.put, List.setIfInBounds_toArray, List.set_cons_zero, List.set_cons_succ]
        refine' wpAnyH_take (i := 16) (oi := { dst := some 72, op := Op.move (Operand.tmp 11), type := 31, pos := _, after := #[], guard := none }) (v := _) rfl (by kernel_rfl) (by kernel_rfl) (by kernel_rfl) (fun _ _ _ h => h) (Or.inl ⟨by rfl, ?hy15⟩) hHeld ?rest15
        case' hy15 =>
          intro w' hSw
          (try dsimp only at hSw)
          obtain ⟨hSw0, hSw1, hSw2, hSw3⟩ := hSw
          first | (go_simp; done) | (go_simp; with_reducible rfl)
        simp only [Act.put, List.setIfInBounds_toArray, List.set_cons_zero, List.set_cons_succ]
        refine' wpAnyH_take (i := 17) (oi := { dst := some 73, op := Op.move (Operand.tmp 2), type := 22, pos := _, after := #[], guard := none }) (v := _) rfl (by kernel_rfl) (by kernel_rfl) (by kernel_rfl) (fun _ _ _ h => h) (Or.inl ⟨by rfl, ?hy16⟩) hHeld ?rest16
        case' hy16 =>
          intro w' hSw
          (try dsimp only at hSw)
          obtain ⟨hSw0, hSw1, hSw2, hSw3⟩ := hSw
          first | (go_simp; done) | (go_simp; with_reducible rfl)
        simp only [Act.put, List.setIfInBounds_toArray, List.set_cons_zero, List.set_cons_succ]
        refine' wpAnyH_take (i := 18) (oi := { dst := some 74, op := Op.move (Operand.tmp 13), type := 3, pos := _, after := #[], guard := none }) (v := _) rfl (by kernel_rfl) (by kernel_rfl) (by kernel_rfl) (fun _ _ _ h => h) (Or.inl ⟨by rfl, ?hy17⟩) hHeld ?rest17
        case' hy17 =>
          intro w' hSw
          (try dsimp only at hSw)
          obtain ⟨hSw0, hSw1, hSw2, hSw3⟩ := hSw
          first | (go_simp; done) | (go_simp; with_reducible rfl)
        simp only [Act.put, List.setIfInBounds_toArray, List.set_cons_zero, List.set_cons_succ]
        refine' wpAnyH_take (i := 19) (oi := { dst := some 75, op := Op.indexAddr 22 (Operand.tmp 73) (Operand.tmp 74), type := 0, pos := _, after := #[{ on := 17, ground := Ground.data }, { on := 18, ground := Ground.data }], guard := none }) (v := _) rfl (by kernel_rfl) (by kernel_rfl) (by kernel_rfl) (fun _ _ _ h => h) (Or.inl ⟨by rfl, ?hy18⟩) hHeld ?rest18
        case' hy18 =>
          intro w' hSw
          (try dsimp only at hSw)
          obtain ⟨hSw0, hSw1, hSw2, hSw3⟩ := hSw
          first | (go_simp; done) | (go_simp; with_reducible rfl)
        simp only [Act.put, List.setIfInBounds_toArray, List.set_cons_zero, List.set_cons_succ]
        refine' wpAnyH_take (i := 20) (oi := { dst := some 76, op := Op.fieldAddr 36 (Operand.tmp 75) 0, type := 0, pos := _, after := #[{ on := 19, ground := Ground.data }], guard := none }) (v := _) rfl (by kernel_rfl) (by kernel_rfl) (by kernel_rfl) (fun _ _ _ h => h) (Or.inl ⟨by rfl, ?hy19⟩) hHeld ?rest19
        case' hy19 =>
          intro w' hSw
          (try dsimp only at hSw)
          obtain ⟨hSw0, hSw1, hSw2, hSw3⟩ := hSw
          first | (go_simp; done) | (go_simp; with_reducible rfl)
        simp only [Act.put, List.setIfInBounds_toArray, List.set_cons_zero, List.set_cons_succ]
        refine' wpAnyH_take (i := 21) (oi := { dst := some 77, op := Op.load 2 (Operand.tmp 76), type := 2, pos := _, after := #[{ on := 20, ground := Ground.data }], guard := none }) (v := _) rfl (by kernel_rfl) (by kernel_rfl) (by kernel_rfl) (fun _ _ _ h => h) (Or.inl ⟨by rfl, ?hy20⟩) hHeld ?rest20
        case' hy20 =>
          intro w' hSw
          (try dsimp only at hSw)
          obtain ⟨hSw0, hSw1, hSw2, hSw3⟩ := hSw
          first | (go_simp; done) | (go_simp; with_reducible rfl)
        simp only [Act.put, List.setIfInBounds_toArray, List.set_cons_zero, List.set_cons_succ]
        refine' wpAnyH_take (i := 22) (oi := { dst := some 78, op := Op.move (Operand.tmp 2), type := 22, pos := _, after := #[], guard := none }) (v := _) rfl (by kernel_rfl) (by kernel_rfl) (by kernel_rfl) (fun _ _ _ h => h) (Or.inl ⟨by rfl, ?hy21⟩) hHeld ?rest21
        case' hy21 =>
          intro w' hSw
          (try dsimp only at hSw)
          obtain ⟨hSw0, hSw1, hSw2, hSw3⟩ := hSw
          first | (go_simp; done) | (go_simp; with_reducible rfl)
        simp only [Act.put, List.setIfInBounds_toArray, List.set_cons_zero, List.set_cons_succ]
        refine' wpAnyH_take (i := 23) (oi := { dst := some 79, op := Op.move (Operand.tmp 13), type := 3, pos := _, after := #[], guard := none }) (v := _) rfl (by kernel_rfl) (by kernel_rfl) (by kernel_rfl) (fun _ _ _ h => h) (Or.inl ⟨by rfl, ?hy22⟩) hHeld ?rest22
        case' hy22 =>
          intro w' hSw
          (try dsimp only at hSw)
          obtain ⟨hSw0, hSw1, hSw2, hSw3⟩ := hSw
          first | (go_simp; done) | (go_simp; with_reducible rfl)
        simp only [Act.put, List.setIfInBounds_toArray, List.set_cons_zero, List.set_cons_succ]
        refine' wpAnyH_take (i := 24) (oi := { dst := some 80, op := Op.indexAddr 22 (Operand.tmp 78) (Operand.tmp 79), type := 0, pos := _, after := #[{ on := 22, ground := Ground.data }, { on := 23, ground := Ground.data }], guard := none }) (v := _) rfl (by kernel_rfl) (by kernel_rfl) (by kernel_rfl) (fun _ _ _ h => h) (Or.inl ⟨by rfl, ?hy23⟩) hHeld ?rest23
        case' hy23 =>
          intro w' hSw
          (try dsimp only at hSw)
          obtain ⟨hSw0, hSw1, hSw2, hSw3⟩ := hSw
          first | (go_simp; done) | (go_simp; with_reducible rfl)
        simp only [Act.put, List.setIfInBounds_toArray, List.set_cons_zero, List.set_cons_succ]
        refine' wpAnyH_take (i := 25) (oi := { dst := some 81, op := Op.fieldAddr 36 (Operand.tmp 80) 1, type := 0, pos := _, after := #[{ on := 24, ground := Ground.data }], guard := none }) (v := _) rfl (by kernel_rfl) (by kernel_rfl) (by kernel_rfl) (fun _ _ _ h => h) (Or.inl ⟨by rfl, ?hy24⟩) hHeld ?rest24
        case' hy24 =>
          intro w' hSw
          (try dsimp only at hSw)
          obtain ⟨hSw0, hSw1, hSw2, hSw3⟩ := hSw
          first | (go_simp; done) | (go_simp; with_reducible rfl)
        simp only [Act.put, List.setIfInBounds_toArray, List.set_cons_zero, List.set_cons_succ]
        refine' wpAnyH_take (i := 26) (oi := { dst := some 82, op := Op.load 2 (Operand.tmp 81), type := 2, pos := _, after := #[{ on := 25, ground := Ground.data }], guard := none }) (v := _) rfl (by kernel_rfl) (by kernel_rfl) (by kernel_rfl) (fun _ _ _ h => h) (Or.inl ⟨by rfl, ?hy25⟩) hHeld ?rest25
        case' hy25 =>
          intro w' hSw
          (try dsimp only at hSw)
          obtain ⟨hSw0, hSw1, hSw2, hSw3⟩ := hSw
          first | (go_simp; done) | (go_simp; with_reducible rfl)
        simp only [Act.put, List.setIfInBounds_toArray, List.set_cons_zero, List.set_cons_succ]
        refine' wpAnyH_take (i := 27) (oi := { dst := some 83, op := Op.load 23 (Operand.tmp 7), type := 23, pos := _, after := #[], guard := none }) (v := .agg A) rfl (by kernel_rfl) (by kernel_rfl) (by kernel_rfl) (fun _ _ _ h => h) (yield256 A H (by rfl) (Operand.tmp 7) rfl rfl hsz (fun _ h => h.1)) hHeld ?rest26
        simp only [Act.put, List.setIfInBounds_toArray, List.set_cons_zero, List.set_cons_succ]
        refine' wpAnyH_take (i := 28) (oi := { dst := some 84, op := Op.move (Operand.tmp 14), type := 5, pos := _, after := #[], guard := none }) (v := _) rfl (by kernel_rfl) (by kernel_rfl) (by kernel_rfl) (fun _ _ _ h => h) (Or.inl ⟨by rfl, ?hy27⟩) hHeld ?rest27
        case' hy27 =>
          intro w' hSw
          (try dsimp only at hSw)
          obtain ⟨hSw0, hSw1, hSw2, hSw3⟩ := hSw
          first | (go_simp; done) | (go_simp; with_reducible rfl)
        simp only [Act.put, List.setIfInBounds_toArray, List.set_cons_zero, List.set_cons_succ]
        refine wpAnyH_ready (rs := [14]) (by kernel_rfl) (by simp) ?_
        refine AllReadyH.cons (o := { dst := some 70, op := Op.call { callee := Callee.value (Operand.func 10), args := #[Operand.tmp 56, Operand.tmp 61, Operand.tmp 66, Operand.tmp 69], argTypes := #[24, 2, 2, 9] }, type := 25, pos := _, after := #[{ on := 0, ground := Ground.data }, { on := 5, ground := Ground.data }, { on := 10, ground := Ground.data }, { on := 13, ground := Ground.data }], guard := none }) rfl (fun K hK => ?_) AllReadyH.nil
        go_simp
        refine Calls.mono (HTd.out.pset lo hi (nm kk)) ?_
        rintro e Wa ⟨rfl, h1⟩
        have HPa := hid1 h1
        clear h1
        go_wp2_with fail
        refine hK.out _ _ ?hS28 (fun hHeld => ?rest28)
        case hS28 => exact HSf.out _ HPa.out.1 HPa.out.2.2.2.2
        clear hK K
        refine wpAnyH_ready (rs := [15]) (by kernel_rfl) (by simp) ?_
        refine AllReadyH.cons (o := { dst := some 71, op := Op.call { callee := Callee.value (Operand.func 5), args := #[Operand.tmp 70], argTypes := #[25] }, type := 3, pos := _, after := #[{ on := 14, ground := Ground.data }, { on := 14, ground := Ground.chain }], guard := none }) rfl (fun K hK => ?_) AllReadyH.nil
        go_simp
        refine Calls.mono (num_any _ _) ?_
        rintro e W9 ⟨rfl, hw9⟩
        subst hw9
        go_wp2_with fail
        refine hK.out _ _ ?hS29 (fun hHeld => ?rest29)
        case hS29 => exact HSf.out _ HPa.out.1 HPa.out.2.2.2.2
        clear hK K
        refine wpAnyH_ready (rs := [29]) (by kernel_rfl) (by simp) ?_
        refine AllReadyH.cons (o := { dst := some 85, op := Op.call { callee := Callee.value (Operand.func 9), args := #[Operand.tmp 83, Operand.tmp 84], argTypes := #[23, 5] }, type := 3, pos := _, after := #[{ on := 27, ground := Ground.data }, { on := 28, ground := Ground.data }, { on := 15, ground := Ground.chain }], guard := none }) rfl (fun K hK => ?_) AllReadyH.nil
        go_simp
        refine Calls.mono (number_any HA.out kk hkk _) ?_
        rintro e Wb ⟨jk, rfl, hjk, hb⟩
        have HPb := hid1 (pst_later HPa.out hb)
        have HJk := hid1 hjk
        clear hb hjk
        go_wp2_with fail
        refine hK.out _ _ ?hS30 (fun hHeld => ?rest30)
        case hS30 => exact HSf.out _ HPb.out.1 HPb.out.2.2.2.2
        clear hK K
        refine wpAnyH_ready (rs := [30]) (by kernel_rfl) (by simp) ?_
        refine AllReadyH.cons (o := { dst := some 86, op := Op.call { callee := Callee.value (Operand.func 11), args := #[Operand.tmp 72, Operand.tmp 77, Operand.tmp 82, Operand.tmp 85], argTypes := #[31, 2, 2, 3] }, type := 3, pos := _, after := #[{ on := 16, ground := Ground.data }, { on := 21, ground := Ground.data }, { on := 26, ground := Ground.data }, { on := 29, ground := Ground.data }, { on := 29, ground := Ground.chain }], guard := none }) rfl (fun K hK => ?_) AllReadyH.nil
        go_simp
        refine Calls.mono (dset_after HT.out HPb.out lo hi (jk : Int) HMay.out (by omega) (HT.out.rel.set HJk.out hkk lo hi HMay.out)) ?_
        rintro e Wc ⟨rfl, h3⟩
        have HTc := hid1 h3
        clear h3
        go_wp2_with fail
        refine hK.out _ _ ?hS31 (fun hHeld => ?rest31)
        case hS31 => exact HSf.out _ HTc.out.nb HTc.out.bel
        clear hK K
        refine' wpAnyH_take (i := 31) (oi := { dst := some 87, op := Op.binOp BinOp.neq 3 (Operand.tmp 71) (Operand.tmp 86) 3, type := 4, pos := _, after := #[{ on := 15, ground := Ground.data }, { on := 30, ground := Ground.data }], guard := none }) (v := _) rfl (by kernel_rfl) (by kernel_rfl) (by kernel_rfl) (fun _ _ _ h => h) (Or.inl ⟨by rfl, ?hy32⟩) hHeld ?rest32
        case' hy32 =>
          intro w' hSw
          (try dsimp only at hSw)
          obtain ⟨hSw0, hSw1, hSw2, hSw3⟩ := hSw
          first | (go_simp; done) | (go_simp; with_reducible rfl)
        simp only [Act.put, List.setIfInBounds_toArray, List.set_cons_zero, List.set_cons_succ]
        refine wpAnyH_done (by kernel_rfl) ?_ _
        clear hHeld
        refine NoPanic.normal ?_
        go_wp2
        go_roundw
        case rel => exact ⟨i + 1, (Q ++ [(lo, hi, (jk : Int))]), (S.setR size rs lo hi (nm kk)), by omega, by go_num, HTc.out, by simp; omega⟩
        case measure => simp [intOf]; omega
      · have HMay := hid1 hmay
        have hE : S.setE size lo hi = 21 := by unfold S.setE; rw [if_neg HMay.out]
        clear hmay
        go_wp2
        refine Code.wp_mono (Q := NoPanic _) NoPanic.imp ?_
        refine wp_region_held_drew (S := fun w' => w'.heap[H]? = some (.cells A TNames (0, 0)) ∧ w'.cell? ⟨H, kk, none⟩ = some (.string (nm kk)) ∧ w'.cell? ⟨lb, off + i * 3, none⟩ = some (.int .i64 lo) ∧ w'.cell? ⟨lb, off + i * 3 + 1, none⟩ = some (.int .i64 hi)) (by kernel_rfl) (HSf.out _ HTd.out.nb HTd.out.bel) ?_
        intro hHeld
        refine' wpAnyH_take (i := 0) (oi := { dst := some 56, op := Op.move (Operand.tmp 9), type := 24, pos := _, after := #[], guard := none }) (v := _) rfl (by kernel_rfl) (by kernel_rfl) (by kernel_rfl) (fun _ _ _ h => h) (Or.inl ⟨by rfl, ?hy33⟩) hHeld ?rest33
        case' hy33 =>
          intro w' hSw
          (try dsimp only at hSw)
          obtain ⟨hSw0, hSw1, hSw2, hSw3⟩ := hSw
          first | (go_simp; done) | (go_simp; with_reducible rfl)
        simp only [Act.put, List.setIfInBounds_toArray, List.set_cons_zero, List.set_cons_succ]
        refine' wpAnyH_take (i := 1) (oi := { dst := some 57, op := Op.move (Operand.tmp 2), type := 22, pos := _, after := #[], guard := none }) (v := _) rfl (by kernel_rfl) (by kernel_rfl) (by kernel_rfl) (fun _ _ _ h => h) (Or.inl ⟨by rfl, ?hy34⟩) hHeld ?rest34
        case' hy34 =>
          intro w' hSw
          (try dsimp only at hSw)
          obtain ⟨hSw0, hSw1, hSw2, hSw3⟩ := hSw
          first | (go_simp; done) | (go_simp; with_reducible rfl)
        simp only [Act.put, List.setIfInBounds_toArray, List.set_cons_zero, List.set_cons_succ]
        refine' wpAnyH_take (i := 2) (oi := { dst := some 58, op := Op.move (Operand.tmp 13), type := 3, pos := _, after := #[], guard := none }) (v := _) rfl (by kernel_rfl) (by kernel_rfl) (by kernel_rfl) (fun _ _ _ h => h) (Or.inl ⟨by rfl, ?hy35⟩) hHeld ?rest35
        case' hy35 =>
          intro w' hSw
          (try dsimp only at hSw)
          obtain ⟨hSw0, hSw1, hSw2, hSw3⟩ := hSw
          first | (go_simp; done) | (go_simp; with_reducible rfl)
        simp only [Act.put, List.setIfInBounds_toArray, List.set_cons_zero, List.set_cons_succ]
        refine' wpAnyH_take (i := 3) (oi := { dst := some 59, op := Op.indexAddr 22 (Operand.tmp 57) (Operand.tmp 58), type := 0, pos := _, after := #[{ on := 1, ground := Ground.data }, { on := 2, ground := Ground.data }], guard := none }) (v := _) rfl (by kernel_rfl) (by kernel_rfl) (by kernel_rfl) (fun _ _ _ h => h) (Or.inl ⟨by rfl, ?hy36⟩) hHeld ?rest36
        case' hy36 =>
          intro w' hSw
          (try dsimp only at hSw)
          obtain ⟨hSw0, hSw1, hSw2, hSw3⟩ := hSw
          first | (go_simp; done) | (go_simp; with_reducible rfl)
        simp only [Act.put, List.setIfInBounds_toArray, List.set_cons_zero, List.set_cons_succ]
        refine' wpAnyH_take (i := 4) (oi := { dst := some 60, op := Op.fieldAddr 36 (Operand.tmp 59) 0, type := 0, pos := _, after := #[{ on := 3, ground := Ground.data }], guard := none }) (v := _) rfl (by kernel_rfl) (by kernel_rfl) (by kernel_rfl) (fun _ _ _ h => h) (Or.inl ⟨by rfl, ?hy37⟩) hHeld ?rest37
        case' hy37 =>
          intro w' hSw
          (try dsimp only at hSw)
          obtain ⟨hSw0, hSw1, hSw2, hSw3⟩ := hSw
          first | (go_simp; done) | (go_simp; with_reducible rfl)
        simp only [Act.put, List.setIfInBounds_toArray, List.set_cons_zero, List.set_cons_succ]
        refine' wpAnyH_take (i := 5) (oi := { dst := some 61, op := Op.load 2 (Operand.tmp 60), type := 2, pos := _, after := #[{ on := 4, ground := Ground.data }], guard := none }) (v := _) rfl (by kernel_rfl) (by kernel_rfl) (by kernel_rfl) (fun _ _ _ h => h) (Or.inl ⟨by rfl, ?hy38⟩) hHeld ?rest38
        case' hy38 =>
          intro w' hSw
          (try dsimp only at hSw)
          obtain ⟨hSw0, hSw1, hSw2, hSw3⟩ := hSw
          first | (go_simp; done) | (go_simp; with_reducible rfl)
        simp only [Act.put, List.setIfInBounds_toArray, List.set_cons_zero, List.set_cons_succ]
        refine' wpAnyH_take (i := 6) (oi := { dst := some 62, op := Op.move (Operand.tmp 2), type := 22, pos := _, after := #[], guard := none }) (v := _) rfl (by kernel_rfl) (by kernel_rfl) (by kernel_rfl) (fun _ _ _ h => h) (Or.inl ⟨by rfl, ?hy39⟩) hHeld ?rest39
        case' hy39 =>
          intro w' hSw
          (try dsimp only at hSw)
          obtain ⟨hSw0, hSw1, hSw2, hSw3⟩ := hSw
          first | (go_simp; done) | (go_simp; with_reducible rfl)
        simp only [Act.put, List.setIfInBounds_toArray, List.set_cons_zero, List.set_cons_succ]
        refine' wpAnyH_take (i := 7) (oi := { dst := some 63, op := Op.move (Operand.tmp 13), type := 3, pos := _, after := #[], guard := none }) (v := _) rfl (by kernel_rfl) (by kernel_rfl) (by kernel_rfl) (fun _ _ _ h => h) (Or.inl ⟨by rfl, ?hy40⟩) hHeld ?rest40
        case' hy40 =>
          intro w' hSw
          (try dsimp only at hSw)
          obtain ⟨hSw0, hSw1, hSw2, hSw3⟩ := hSw
          first | (go_simp; done) | (go_simp; with_reducible rfl)
        simp only [Act.put, List.setIfInBounds_toArray, List.set_cons_zero, List.set_cons_succ]
        refine' wpAnyH_take (i := 8) (oi := { dst := some 64, op := Op.indexAddr 22 (Operand.tmp 62) (Operand.tmp 63), type := 0, pos := _, after := #[{ on := 6, ground := Ground.data }, { on := 7, ground := Ground.data }], guard := none }) (v := _) rfl (by kernel_rfl) (by kernel_rfl) (by kernel_rfl) (fun _ _ _ h => h) (Or.inl ⟨by rfl, ?hy41⟩) hHeld ?rest41
        case' hy41 =>
          intro w' hSw
          (try dsimp only at hSw)
          obtain ⟨hSw0, hSw1, hSw2, hSw3⟩ := hSw
          first | (go_simp; done) | (go_simp; with_reducible rfl)
        simp only [Act.put, List.setIfInBounds_toArray, List.set_cons_zero, List.set_cons_succ]
        refine' wpAnyH_take (i := 9) (oi := { dst := some 65, op := Op.fieldAddr 36 (Operand.tmp 64) 1, type := 0, pos := _, after := #[{ on := 8, ground := Ground.data }], guard := none }) (v := _) rfl (by kernel_rfl) (by kernel_rfl) (by kernel_rfl) (fun _ _ _ h => h) (Or.inl ⟨by rfl, ?hy42⟩) hHeld ?rest42
        case' hy42 =>
          intro w' hSw
          (try dsimp only at hSw)
          obtain ⟨hSw0, hSw1, hSw2, hSw3⟩ := hSw
          first | (go_simp; done) | (go_simp; with_reducible rfl)
        simp only [Act.put, List.setIfInBounds_toArray, List.set_cons_zero, List.set_cons_succ]
        refine' wpAnyH_take (i := 10) (oi := { dst := some 66, op := Op.load 2 (Operand.tmp 65), type := 2, pos := _, after := #[{ on := 9, ground := Ground.data }], guard := none }) (v := _) rfl (by kernel_rfl) (by kernel_rfl) (by kernel_rfl) (fun _ _ _ h => h) (Or.inl ⟨by rfl, ?hy43⟩) hHeld ?rest43
        case' hy43 =>
          intro w' hSw
          (try dsimp only at hSw)
          obtain ⟨hSw0, hSw1, hSw2, hSw3⟩ := hSw
          first | (go_simp; done) | (go_simp; with_reducible rfl)
        simp only [Act.put, List.setIfInBounds_toArray, List.set_cons_zero, List.set_cons_succ]
        refine' wpAnyH_take (i := 11) (oi := { dst := some 67, op := Op.move (Operand.tmp 14), type := 5, pos := _, after := #[], guard := none }) (v := _) rfl (by kernel_rfl) (by kernel_rfl) (by kernel_rfl) (fun _ _ _ h => h) (Or.inl ⟨by rfl, ?hy44⟩) hHeld ?rest44
        case' hy44 =>
          intro w' hSw
          (try dsimp only at hSw)
          obtain ⟨hSw0, hSw1, hSw2, hSw3⟩ := hSw
          first | (go_simp; done) | (go_simp; with_reducible rfl)
        simp only [Act.put, List.setIfInBounds_toArray, List.set_cons_zero, List.set_cons_succ]
        refine' wpAnyH_take (i := 12) (oi := { dst := some 68, op := Op.indexAddr 23 (Operand.tmp 7) (Operand.tmp 67), type := 0, pos := _, after := #[{ on := 11, ground := Ground.data }], guard := none }) (v := _) rfl (by kernel_rfl) (by kernel_rfl) (by kernel_rfl) (fun _ _ _ h => h) (Or.inl ⟨by rfl, ?hy45⟩) hHeld ?rest45
        case' hy45 =>
          intro w' hSw
          (try dsimp only at hSw)
          obtain ⟨hSw0, hSw1, hSw2, hSw3⟩ := hSw
          first | (go_simp; done) | (go_simp; with_reducible rfl)
        simp only [Act.put, List.setIfInBounds_toArray, List.set_cons_zero, List.set_cons_succ]
        refine' wpAnyH_take (i := 13) (oi := { dst := some 69, op := Op.load 9 (Operand.tmp 68), type := 9, pos := _, after := #[{ on := 12, ground := Ground.data }], guard := none }) (v := _) rfl (by kernel_rfl) (by kernel_rfl) (by kernel_rfl) (fun _ _ _ h => h) (Or.inl ⟨by rfl, ?hy46⟩) hHeld ?rest46
        case' hy46 =>
          intro w' hSw
          (try dsimp only at hSw)
          obtain ⟨hSw0, hSw1, hSw2, hSw3⟩ := hSw
          first | (go_simp; done) | (go_simp; with_reducible rfl)
        simp only [Act.put, List.setIfInBounds_toArray, List.set_cons_zero, List.set_cons_succ]
        refine' wpAnyH_take (i := 16) (oi := { dst := some 72, op := Op.move (Operand.tmp 11), type := 31, pos := _, after := #[], guard := none }) (v := _) rfl (by kernel_rfl) (by kernel_rfl) (by kernel_rfl) (fun _ _ _ h => h) (Or.inl ⟨by rfl, ?hy47⟩) hHeld ?rest47
        case' hy47 =>
          intro w' hSw
          (try dsimp only at hSw)
          obtain ⟨hSw0, hSw1, hSw2, hSw3⟩ := hSw
          first | (go_simp; done) | (go_simp; with_reducible rfl)
        simp only [Act.put, List.setIfInBounds_toArray, List.set_cons_zero, List.set_cons_succ]
        refine' wpAnyH_take (i := 17) (oi := { dst := some 73, op := Op.move (Operand.tmp 2), type := 22, pos := _, after := #[], guard := none }) (v := _) rfl (by kernel_rfl) (by kernel_rfl) (by kernel_rfl) (fun _ _ _ h => h) (Or.inl ⟨by rfl, ?hy48⟩) hHeld ?rest48
        case' hy48 =>
          intro w' hSw
          (try dsimp only at hSw)
          obtain ⟨hSw0, hSw1, hSw2, hSw3⟩ := hSw
          first | (go_simp; done) | (go_simp; with_reducible rfl)
        simp only [Act.put, List.setIfInBounds_toArray, List.set_cons_zero, List.set_cons_succ]
        refine' wpAnyH_take (i := 18) (oi := { dst := some 74, op := Op.move (Operand.tmp 13), type := 3, pos := _, after := #[], guard := none }) (v := _) rfl (by kernel_rfl) (by kernel_rfl) (by kernel_rfl) (fun _ _ _ h => h) (Or.inl ⟨by rfl, ?hy49⟩) hHeld ?rest49
        case' hy49 =>
          intro w' hSw
          (try dsimp only at hSw)
          obtain ⟨hSw0, hSw1, hSw2, hSw3⟩ := hSw
          first | (go_simp; done) | (go_simp; with_reducible rfl)
        simp only [Act.put, List.setIfInBounds_toArray, List.set_cons_zero, List.set_cons_succ]
        refine' wpAnyH_take (i := 19) (oi := { dst := some 75, op := Op.indexAddr 22 (Operand.tmp 73) (Operand.tmp 74), type := 0, pos := _, after := #[{ on := 17, ground := Ground.data }, { on := 18, ground := Ground.data }], guard := none }) (v := _) rfl (by kernel_rfl) (by kernel_rfl) (by kernel_rfl) (fun _ _ _ h => h) (Or.inl ⟨by rfl, ?hy50⟩) hHeld ?rest50
        case' hy50 =>
          intro w' hSw
          (try dsimp only at hSw)
          obtain ⟨hSw0, hSw1, hSw2, hSw3⟩ := hSw
          first | (go_simp; done) | (go_simp; with_reducible rfl)
        simp only [Act.put, List.setIfInBounds_toArray, List.set_cons_zero, List.set_cons_succ]
        refine' wpAnyH_take (i := 20) (oi := { dst := some 76, op := Op.fieldAddr 36 (Operand.tmp 75) 0, type := 0, pos := _, after := #[{ on := 19, ground := Ground.data }], guard := none }) (v := _) rfl (by kernel_rfl) (by kernel_rfl) (by kernel_rfl) (fun _ _ _ h => h) (Or.inl ⟨by rfl, ?hy51⟩) hHeld ?rest51
        case' hy51 =>
          intro w' hSw
          (try dsimp only at hSw)
          obtain ⟨hSw0, hSw1, hSw2, hSw3⟩ := hSw
          first | (go_simp; done) | (go_simp; with_reducible rfl)
        simp only [Act.put, List.setIfInBounds_toArray, List.set_cons_zero, List.set_cons_succ]
        refine' wpAnyH_take (i := 21) (oi := { dst := some 77, op := Op.load 2 (Operand.tmp 76), type := 2, pos := _, after := #[{ on := 20, ground := Ground.data }], guard := none }) (v := _) rfl (by kernel_rfl) (by kernel_rfl) (by kernel_rfl) (fun _ _ _ h => h) (Or.inl ⟨by rfl, ?hy52⟩) hHeld ?rest52
        case' hy52 =>
          intro w' hSw
          (try dsimp only at hSw)
          obtain ⟨hSw0, hSw1, hSw2, hSw3⟩ := hSw
          first | (go_simp; done) | (go_simp; with_reducible rfl)
        simp only [Act.put, List.setIfInBounds_toArray, List.set_cons_zero, List.set_cons_succ]
        refine' wpAnyH_take (i := 22) (oi := { dst := some 78, op := Op.move (Operand.tmp 2), type := 22, pos := _, after := #[], guard := none }) (v := _) rfl (by kernel_rfl) (by kernel_rfl) (by kernel_rfl) (fun _ _ _ h => h) (Or.inl ⟨by rfl, ?hy53⟩) hHeld ?rest53
        case' hy53 =>
          intro w' hSw
          (try dsimp only at hSw)
          obtain ⟨hSw0, hSw1, hSw2, hSw3⟩ := hSw
          first | (go_simp; done) | (go_simp; with_reducible rfl)
        simp only [Act.put, List.setIfInBounds_toArray, List.set_cons_zero, List.set_cons_succ]
        refine' wpAnyH_take (i := 23) (oi := { dst := some 79, op := Op.move (Operand.tmp 13), type := 3, pos := _, after := #[], guard := none }) (v := _) rfl (by kernel_rfl) (by kernel_rfl) (by kernel_rfl) (fun _ _ _ h => h) (Or.inl ⟨by rfl, ?hy54⟩) hHeld ?rest54
        case' hy54 =>
          intro w' hSw
          (try dsimp only at hSw)
          obtain ⟨hSw0, hSw1, hSw2, hSw3⟩ := hSw
          first | (go_simp; done) | (go_simp; with_reducible rfl)
        simp only [Act.put, List.setIfInBounds_toArray, List.set_cons_zero, List.set_cons_succ]
        refine' wpAnyH_take (i := 24) (oi := { dst := some 80, op := Op.indexAddr 22 (Operand.tmp 78) (Operand.tmp 79), type := 0, pos := _, after := #[{ on := 22, ground := Ground.data }, { on := 23, ground := Ground.data }], guard := none }) (v := _) rfl (by kernel_rfl) (by kernel_rfl) (by kernel_rfl) (fun _ _ _ h => h) (Or.inl ⟨by rfl, ?hy55⟩) hHeld ?rest55
        case' hy55 =>
          intro w' hSw
          (try dsimp only at hSw)
          obtain ⟨hSw0, hSw1, hSw2, hSw3⟩ := hSw
          first | (go_simp; done) | (go_simp; with_reducible rfl)
        simp only [Act.put, List.setIfInBounds_toArray, List.set_cons_zero, List.set_cons_succ]
        refine' wpAnyH_take (i := 25) (oi := { dst := some 81, op := Op.fieldAddr 36 (Operand.tmp 80) 1, type := 0, pos := _, after := #[{ on := 24, ground := Ground.data }], guard := none }) (v := _) rfl (by kernel_rfl) (by kernel_rfl) (by kernel_rfl) (fun _ _ _ h => h) (Or.inl ⟨by rfl, ?hy56⟩) hHeld ?rest56
        case' hy56 =>
          intro w' hSw
          (try dsimp only at hSw)
          obtain ⟨hSw0, hSw1, hSw2, hSw3⟩ := hSw
          first | (go_simp; done) | (go_simp; with_reducible rfl)
        simp only [Act.put, List.setIfInBounds_toArray, List.set_cons_zero, List.set_cons_succ]
        refine' wpAnyH_take (i := 26) (oi := { dst := some 82, op := Op.load 2 (Operand.tmp 81), type := 2, pos := _, after := #[{ on := 25, ground := Ground.data }], guard := none }) (v := _) rfl (by kernel_rfl) (by kernel_rfl) (by kernel_rfl) (fun _ _ _ h => h) (Or.inl ⟨by rfl, ?hy57⟩) hHeld ?rest57
        case' hy57 =>
          intro w' hSw
          (try dsimp only at hSw)
          obtain ⟨hSw0, hSw1, hSw2, hSw3⟩ := hSw
          first | (go_simp; done) | (go_simp; with_reducible rfl)
        simp only [Act.put, List.setIfInBounds_toArray, List.set_cons_zero, List.set_cons_succ]
        refine' wpAnyH_take (i := 27) (oi := { dst := some 83, op := Op.load 23 (Operand.tmp 7), type := 23, pos := _, after := #[], guard := none }) (v := .agg A) rfl (by kernel_rfl) (by kernel_rfl) (by kernel_rfl) (fun _ _ _ h => h) (yield256 A H (by rfl) (Operand.tmp 7) rfl rfl hsz (fun _ h => h.1)) hHeld ?rest58
        simp only [Act.put, List.setIfInBounds_toArray, List.set_cons_zero, List.set_cons_succ]
        refine' wpAnyH_take (i := 28) (oi := { dst := some 84, op := Op.move (Operand.tmp 14), type := 5, pos := _, after := #[], guard := none }) (v := _) rfl (by kernel_rfl) (by kernel_rfl) (by kernel_rfl) (fun _ _ _ h => h) (Or.inl ⟨by rfl, ?hy59⟩) hHeld ?rest59
        case' hy59 =>
          intro w' hSw
          (try dsimp only at hSw)
          obtain ⟨hSw0, hSw1, hSw2, hSw3⟩ := hSw
          first | (go_simp; done) | (go_simp; with_reducible rfl)
        simp only [Act.put, List.setIfInBounds_toArray, List.set_cons_zero, List.set_cons_succ]
        refine wpAnyH_ready (rs := [14]) (by kernel_rfl) (by simp) ?_
        refine AllReadyH.cons (o := { dst := some 70, op := Op.call { callee := Callee.value (Operand.func 10), args := #[Operand.tmp 56, Operand.tmp 61, Operand.tmp 66, Operand.tmp 69], argTypes := #[24, 2, 2, 9] }, type := 25, pos := _, after := #[{ on := 0, ground := Ground.data }, { on := 5, ground := Ground.data }, { on := 10, ground := Ground.data }, { on := 13, ground := Ground.data }], guard := none }) rfl (fun K hK => ?_) AllReadyH.nil
        go_simp
        refine Calls.mono (HTd.out.pset lo hi (nm kk)) ?_
        rintro e Wa ⟨rfl, h1⟩
        have HPa := hid1 h1
        clear h1
        go_wp2_with fail
        refine hK.out _ _ ?hS60 (fun hHeld => ?rest60)
        case hS60 => exact HSf.out _ HPa.out.1 HPa.out.2.2.2.2
        clear hK K
        refine wpAnyH_ready (rs := [15]) (by kernel_rfl) (by simp) ?_
        refine AllReadyH.cons (o := { dst := some 71, op := Op.call { callee := Callee.value (Operand.func 5), args := #[Operand.tmp 70], argTypes := #[25] }, type := 3, pos := _, after := #[{ on := 14, ground := Ground.data }, { on := 14, ground := Ground.chain }], guard := none }) rfl (fun K hK => ?_) AllReadyH.nil
        go_simp
        refine Calls.mono (num_any _ _) ?_
        rintro e W9 ⟨rfl, hw9⟩
        subst hw9
        go_wp2_with fail
        refine hK.out _ _ ?hS61 (fun hHeld => ?rest61)
        case hS61 => exact HSf.out _ HPa.out.1 HPa.out.2.2.2.2
        clear hK K
        refine wpAnyH_ready (rs := [29]) (by kernel_rfl) (by simp) ?_
        refine AllReadyH.cons (o := { dst := some 85, op := Op.call { callee := Callee.value (Operand.func 9), args := #[Operand.tmp 83, Operand.tmp 84], argTypes := #[23, 5] }, type := 3, pos := _, after := #[{ on := 27, ground := Ground.data }, { on := 28, ground := Ground.data }, { on := 15, ground := Ground.chain }], guard := none }) rfl (fun K hK => ?_) AllReadyH.nil
        go_simp
        refine Calls.mono (number_any HA.out kk hkk _) ?_
        rintro e Wb ⟨jk, rfl, hjk, hb⟩
        have HPb := hid1 (pst_later HPa.out hb)
        have HJk := hid1 hjk
        clear hb hjk
        go_wp2_with fail
        refine hK.out _ _ ?hS62 (fun hHeld => ?rest62)
        case hS62 => exact HSf.out _ HPb.out.1 HPb.out.2.2.2.2
        clear hK K
        refine wpAnyH_ready (rs := [30]) (by kernel_rfl) (by simp) ?_
        refine AllReadyH.cons (o := { dst := some 86, op := Op.call { callee := Callee.value (Operand.func 11), args := #[Operand.tmp 72, Operand.tmp 77, Operand.tmp 82, Operand.tmp 85], argTypes := #[31, 2, 2, 3] }, type := 3, pos := _, after := #[{ on := 16, ground := Ground.data }, { on := 21, ground := Ground.data }, { on := 26, ground := Ground.data }, { on := 29, ground := Ground.data }, { on := 29, ground := Ground.chain }], guard := none }) rfl (fun K hK => ?_) AllReadyH.nil
        go_simp
        refine Calls.mono (dset_not HT.out HPb.out lo hi (jk : Int) HMay.out) ?_
        rintro e Wc ⟨rfl, h3⟩
        have HTc := hid1 h3
        clear h3
        go_wp2_with fail
        refine hK.out _ _ ?hS63 (fun hHeld => ?rest63)
        case hS63 => exact HSf.out _ HTc.out.nb HTc.out.bel
        clear hK K
        refine' wpAnyH_take (i := 31) (oi := { dst := some 87, op := Op.binOp BinOp.neq 3 (Operand.tmp 71) (Operand.tmp 86) 3, type := 4, pos := _, after := #[{ on := 15, ground := Ground.data }, { on := 30, ground := Ground.data }], guard := none }) (v := _) rfl (by kernel_rfl) (by kernel_rfl) (by kernel_rfl) (fun _ _ _ h => h) (Or.inl ⟨by rfl, ?hy64⟩) hHeld ?rest64
        case' hy64 =>
          intro w' hSw
          (try dsimp only at hSw)
          obtain ⟨hSw0, hSw1, hSw2, hSw3⟩ := hSw
          first | (go_simp; done) | (go_simp; with_reducible rfl)
        simp only [Act.put, List.setIfInBounds_toArray, List.set_cons_zero, List.set_cons_succ]
        refine wpAnyH_done (by kernel_rfl) ?_ _
        clear hHeld
        refine NoPanic.normal ?_
        go_wp2
        go_roundw
        case rel => exact ⟨i + 1, Q, rs, by omega, by go_num, HTc.out, by omega⟩
        case measure => simp [intOf]; omega
    · have e : i = n := by omega
      subst e
      have hkz : ¬ (i : Int) < (i : Int) := by omega
      obtain ⟨vm, hm⟩ := HT.out.m
      obtain ⟨sv, hd⟩ := HT.out.d
      have hQ2 : Q.length ≤ 1048576 := by omega
      have HWt := want_any hd HT.out.rel hQ2
      have qs : ∀ (w : World) (f : Fn) (a b : Array Value), (binOp .eql 42 (.func f a b) .nilFunc).run Tryz.prog w = .ok (.bool false) w := fun _ _ _ _ => rfl
      have HCp : Hid (∀ W, Below wr.heap.size wr W → Calls Tryz.prog 13 #[.pointer (some ⟨bm, 0, none⟩)] W fun e w' => ∃ bc vc, e = .returned (.pointer (some ⟨bc, 0, none⟩)) ∧ S.MO w' W.heap.size bc vc size rs ∧ Below W.heap.size W w') := fun W hW => S.copy_any (hm.later hW)
      have HM := hid1 hm
      clear hm hd hQ hQ2 HSf0
      go_wp2_with (first | (go_at_call 12; refine HWt.mono ?_; rintro e w4 ⟨v4, D, rfl, ho, hb, e1, e2⟩; obtain ⟨aw, cw, rfl⟩ := own_slice ho; have HO := hid1 ho; have HB5 := hid1 hb; have HE1 := hid1 e1; have HE2 := hid1 e2; have HBC : Hid (Below wr.heap.size wr ((w4.alloc (.cells #[.slice aw D.length cw] TEnts)).alloc (.cells #[.int .i64 0] 3))) := (hb.alloc hb.size _).alloc (by have := hb.size; simp; omega) _; clear HWt ho hb e1 e2) | (go_at_call 13; refine (HCp.out _ HBC.out).mono ?_; rintro e w6 ⟨bc, vc, rfl, hmc, hb⟩; have HMc := hid1 hmc; have HB6 := hid1 hb; clear HCp hmc hb) | (go_at_call 14; refine (S.runs_any _ _ _ _).mono ?_; rintro e w' ⟨rfl, rfl⟩))
      obtain ⟨nD, hnD⟩ : ∃ nD, D.length = nD := ⟨_, rfl⟩
      have HnD := hid1 hnD
      rw [hnD] at HO HBC HMc HB6 ⊢
      obtain ⟨W5, hW5⟩ : ∃ W5, W5 = w4.alloc (.cells #[.slice aw nD cw] TEnts) := ⟨_, rfl⟩
      have hs5 : W5.heap.size = w4.heap.size + 1 := by rw [hW5]; exact World.size_alloc w4 _
      rw [← hW5] at HBC HMc HB6
      have hb45 : Below w4.heap.size w4 W5 := by rw [hW5]; exact (Below.refl _ w4).alloc (Nat.le_refl _) _
      have hbr5 : Below wr.heap.size wr W5 := HB5.out.trans (hb45.mono HB5.out.size)
      have x5 : Boxed W5 w4.heap.size TEnts (.slice aw nD cw) := by rw [hW5]; exact Boxed.new w4 TEnts _
      have x6 : Boxed (W5.alloc (.cells #[.int .i64 0] 3)) (w4.heap.size + 1) 3 (.int .i64 0) := by
        have := Boxed.new W5 3 (.int .i64 0)
        rwa [hs5] at this
      obtain ⟨W0, hW0⟩ : ∃ W0, W0 = (((w6.alloc (.cells #[.pointer (some ⟨bc, 0, none⟩)] 24)).alloc (.cells #[.int .i64 0] 2)).alloc (.cells #[.int .i64 size] 2)) := ⟨_, rfl⟩
      have hb60 : Below w6.heap.size w6 W0 := by rw [hW0]; exact (((Below.refl _ w6).alloc (Nat.le_refl _) _).alloc (by simp) _).alloc (by simp; omega) _
      have hb50 : Below (W5.alloc (.cells #[.int .i64 0] 3)).heap.size (W5.alloc (.cells #[.int .i64 0] 3)) W0 := HB6.out.trans (hb60.mono HB6.out.size)
      have a0 : Boxed W0 (w4.heap.size + 1) 3 (.int .i64 0) := boxed_later x6 hb50
      have hB0 : Below W5.heap.size W5 W0 := ((Below.refl _ W5).alloc (Nat.le_refl _) _).trans (hb50.mono (by simp))
      have bx1 : W0.cell? ⟨w6.heap.size, 0, none⟩ = some (.pointer (some ⟨bc, 0, none⟩)) := by
        have := Boxed.new w6 24 (.pointer (some ⟨bc, 0, none⟩))
        rw [hW0]; exact ((this.alloc _).alloc _).cell
      have bx2 : W0.cell? ⟨w6.heap.size + 1, 0, none⟩ = some (.int .i64 0) := by
        have := Boxed.new (w6.alloc (.cells #[.pointer (some ⟨bc, 0, none⟩)] 24)) 2 (.int .i64 0)
        simp only [World.size_alloc] at this
        rw [hW0]; exact (this.alloc _).cell
      have bx3 : W0.cell? ⟨w6.heap.size + 2, 0, none⟩ = some (.int .i64 size) := by
        have := Boxed.new ((w6.alloc (.cells #[.pointer (some ⟨bc, 0, none⟩)] 24)).alloc (.cells #[.int .i64 0] 2)) 2 (.int .i64 size)
        simp only [World.size_alloc] at this
        rw [hW0]; exact this.cell
      have hl0 : w4.heap.size + 2 ≤ W0.heap.size := by have := a0.lt; omega
      have hseq := S.runs1_gen 3 (by omega) (fun r : Rn ByteArray => r) S.keepsRow_R (HMc.out.later hb60) 0 size bx1 bx2 bx3 rs (cutS_whole HT.out.rel.tiles) (fun _ _ _ _ _ _ _ => trivial)
      have hrl : rs.length = nD := by rw [HE1.out]; unfold nmap; rw [List.length_map]; exact hnD
      have hrlen : rs.length ≤ 1099511627776 := HM.out.len
      have HW : Hid (∀ W, Below W5.heap.size W5 W → (W.heap[H]? = some (.cells A TNames (0, 0)) ∧ Boxed W (H + 1) 4 (.bool false) ∧ Boxed W w4.heap.size TEnts (.slice aw nD cw)) ∧ (∀ k d, D[k]? = some d → ∃ g, aw = some ⟨g, 0, none⟩ ∧ W.cell? ⟨g, k * 3, none⟩ = some (.int .i64 d.lo) ∧ W.cell? ⟨g, k * 3 + 1, none⟩ = some (.int .i64 d.hi) ∧ W.cell? ⟨g, k * 3 + 2, none⟩ = some (.int .i64 d.v)) ∧ Below w.heap.size w W ∧ ∃ vm, S.MO W (H + 2) bm vm size rs) := fun W hW => by
        have hrw : Below wr.heap.size wr W := hbr5.trans (hW.mono hbr5.size)
        have ht := HT.out.later hrw
        have ho : W.ownsRow wr.heap.size TEnt 3 (.slice aw nD cw) nD (rcells E D) := owns_same HO.out (fun g e => ((hb45.trans (hW.mono hb45.size)).block g (row_lt HO.out g e).1))
        refine ⟨⟨ht.nb, ht.rb, boxed_later x5 hW⟩, fun k d hk => ?_, ht.bel, ht.m⟩
        rw [← HnD.out] at ho
        exact ent_cells ho hk
      have HB0 := hid1 hB0
      have HL0 := hid1 hl0
      rw [← hW0]
      clear bx1 bx2 bx3 x5 x6 hb60 hb50 hb45 hbr5 hW5 hW0 hnD HMc HBC HB6 HO hl0
      refine (wpIn_wide (n := 4)).1 ?_
      refine wpIn_rangeFunc_ownH rfl (by omega) (gf := 26) (lb := #[.pointer (some ⟨w6.heap.size, 0, none⟩), .pointer (some ⟨w6.heap.size + 1, 0, none⟩), .pointer (some ⟨w6.heap.size + 2, 0, none⟩)]) rfl f4 (enters_of Tryz.func26 (by kernel_rfl) rfl)
        hseq S.keepR_t (S.keepR_b (w := W0)) (Below.refl _ _) (fun _ => rfl)
        (fun (pre : List (Rn ByteArray)) W => Boxed W (w4.heap.size + 1) 3 (.int .i64 pre.length) ∧ Below W5.heap.size W5 W)
        (fun _ (pre : List (Rn ByteArray)) _ => ∃ (p : List (Rn ByteArray)) (x : Rn ByteArray), pre = p ++ [x] ∧ rs[p.length]? ≠ some x)
        (OwnFrom.and (Own.from (boxed_own (w4.heap.size + 1) 3 (fun (pre : List (Rn ByteArray)) => .int .i64 pre.length)) _) (ownFrom_below (Nat.le_refl _) (by have := HL0.out; omega)))
        (fun _ _ _ _ _ hs _ _ => hs)
        ⟨a0, hB0⟩
        (fun x a' W => ∃ Bx, W.heap[Bx]? = some (.cells #[.int .i64 x.lo, .int .i64 x.hi, .string x.v] S.TRun (0, 0)) ∧ a' = { tmps := #[.int .i64 size, .int .u8 (fi : Int), .slice ao i cap, .agg A, undef, undef, undef, .pointer (some ⟨H, 0, none⟩), .pointer (some ⟨H + 1, 0, none⟩), .pointer (some ⟨bm, 0, none⟩), .int .i64 0, .pointer (some ⟨bd, 0, none⟩), .int .i64 0, .int .i64 (i : Int), u14, .pointer (some ⟨w4.heap.size, 0, none⟩), .pointer (some ⟨w4.heap.size + 1, 0, none⟩), .func (.func 26) #[] #[.pointer (some ⟨w6.heap.size, 0, none⟩), .pointer (some ⟨w6.heap.size + 1, 0, none⟩), .pointer (some ⟨w6.heap.size + 2, 0, none⟩)], .pointer (some ⟨Bx, 0, none⟩), .tuple #[.pointer (some ⟨bm, 0, none⟩), .int .i64 0], .int .i64 size, .int .u8 (fi : Int), .pointer (some ⟨H, fi, none⟩), .string (nm fi), .tuple #[.pointer (some ⟨bm, 0, none⟩), .int .i64 0], .pointer (some ⟨bm, 0, none⟩), .int .i64 0, .int .i64 0, .int .i64 0, .bool false, undef, undef, undef, undef, undef, undef, .tuple #[.pointer (some ⟨bd, 0, none⟩), .int .i64 0], .int .i64 size, .agg A, .int .u8 (fi : Int), .int .i64 first, .tuple #[.pointer (some ⟨bd, 0, none⟩), .int .i64 0], .pointer (some ⟨bd, 0, none⟩), .int .i64 0, .int .i64 (i : Int), .slice ao i cap, .int .i64 (i : Int), .bool false, u48, u49, u50, u51, u52, u53, u54, u55, u56, u57, u58, u59, u60, u61, u62, u63, u64, u65, u66, u67, u68, u69, u70, u71, u72, u73, u74, u75, u76, u77, u78, u79, u80, u81, u82, u83, u84, u85, u86, u87, .pointer (some ⟨bd, 0, none⟩), .int .i64 size, .slice aw nD cw, .pointer (some ⟨bm, 0, none⟩), .pointer (some ⟨bc, 0, none⟩), .int .i64 size, .func (.func 26) #[] #[.pointer (some ⟨w6.heap.size, 0, none⟩), .pointer (some ⟨w6.heap.size + 1, 0, none⟩), .pointer (some ⟨w6.heap.size + 2, 0, none⟩)], .func (.func 26) #[] #[.pointer (some ⟨w6.heap.size, 0, none⟩), .pointer (some ⟨w6.heap.size + 1, 0, none⟩), .pointer (some ⟨w6.heap.size + 2, 0, none⟩)], .bool false, .func (.func 26) #[] #[.pointer (some ⟨w6.heap.size, 0, none⟩), .pointer (some ⟨w6.heap.size + 1, 0, none⟩), .pointer (some ⟨w6.heap.size + 2, 0, none⟩)], .agg #[.int .i64 x.lo, .int .i64 x.hi, .string x.v], undef, undef, undef, undef, undef, undef, undef, undef, undef, undef, undef, undef, undef, undef, undef, undef, undef, undef, undef, undef, undef, undef, undef, undef, undef, undef, undef, undef, undef, undef, undef, undef, undef, undef, undef, undef, undef, undef, undef, undef, undef, undef, undef, undef, undef, undef, undef, undef, undef, undef, undef], defers := [] })
        (fun x a' s X Y row hs hg hrow => by
          obtain ⟨Bx, hx, e⟩ := hs
          exact ⟨Bx, cells_ownI Bx _ _ _ () X Y row hx hg hrow, e⟩)
        ?assign ?body ?done ?stop
      case assign =>
        rintro l' pre x W K ⟨i0, hB⟩ hK
        gi_big_wp2
        exact hK _ _ ((KeepsOthers.alloc _ _).from _) (S.keepR_below ((Below.refl _ W).alloc (Nat.le_refl _) _)) ⟨i0.alloc _, hB.alloc hB.size _⟩ ⟨W.heap.size, heap_alloc_new W _, rfl⟩
      case stop =>
        rintro D' c pre W _ ⟨rest, hsp⟩ ⟨p, x, rfl, hnp⟩ _
        exact absurd (by rw [hsp]; simp) hnp
      case body =>
        rintro l' pre ⟨xlo, xhi, xv⟩ a' W hl ⟨r, hr⟩ ⟨i0, hB⟩ ⟨Bx, hx, rfl⟩ hlt
        simp only at hx ⊢
        obtain ⟨⟨n1, n2, n3⟩, nD1, nB, _⟩ := HW.out W hB
        obtain ⟨⟨dlo, dhi, dv⟩, hd⟩ : ∃ d, D[pre.length]? = some d := ⟨_, List.getElem?_eq_getElem (by have := HnD.out; omega)⟩
        obtain ⟨gw, rfl, y0, y1, y2⟩ := nD1 pre.length _ hd
        obtain ⟨jj, rfl, hjj, _⟩ := HE2.out _ (List.mem_of_getElem? hd)
        have hrs : rs[pre.length]? = some (⟨dlo, dhi, nm jj⟩ : Rn ByteArray) := by rw [HE1.out]; unfold nmap; rw [List.getElem?_map, hd]; rfl
        have yn := HA.out.cell n1 jj hjj
        have x0 : W.cell? ⟨Bx, 0, none⟩ = some (.int .i64 xlo) := by unfold World.cell?; simp only [hx]; rfl
        have x1 : W.cell? ⟨Bx, 1, none⟩ = some (.int .i64 xhi) := by unfold World.cell?; simp only [hx]; rfl
        have x2 : W.cell? ⟨Bx, 2, none⟩ = some (.string xv) := by unfold World.cell?; simp only [hx]; rfl
        have mixed : Tryz.prog.follows .mixedOrders = true := by kernel_rfl
        have HKF : Hid (∀ q u, KeepsFrom W0.heap.size W ((W.drewN q).setCell ⟨H + 1, 0, none⟩ u)) := fun q u => (KeepsOthers.trans (keepsO_drewN W q) (KeepsOthers.setCell (W.drewN q) _ u)).from _
        have HFin : Hid (∀ q, KeepsFrom W0.heap.size W ((W.drewN q).setCell ⟨w4.heap.size + 1, 0, none⟩ (.int .i64 (pre.length + 1))) ∧ S.KeepR W ((W.drewN q).setCell ⟨w4.heap.size + 1, 0, none⟩ (.int .i64 (pre.length + 1))) ∧ Boxed ((W.drewN q).setCell ⟨w4.heap.size + 1, 0, none⟩ (.int .i64 (pre.length + 1))) (w4.heap.size + 1) 3 (.int .i64 (pre ++ [(⟨xlo, xhi, xv⟩ : Rn ByteArray)]).length) ∧ Below W5.heap.size W5 ((W.drewN q).setCell ⟨w4.heap.size + 1, 0, none⟩ (.int .i64 (pre.length + 1)))) := fun q => by
          have j0 : Boxed (W.drewN q) (w4.heap.size + 1) 3 (.int .i64 pre.length) := i0
          have jB : Below W5.heap.size W5 (W.drewN q) := hB.trans ((below_drewW W q).mono hB.size)
          refine ⟨?_, ?_, ?_, ?_⟩
          · exact (KeepsOthers.trans (keepsO_drewN W q) (KeepsOthers.setCell (W.drewN q) _ _)).from _
          · exact S.keepR_t (B := W.drewN q) (fun _ _ _ h => h) (keepS_box j0 (by decide))
          · rw [List.length_append]; exact j0.set _
          · exact jB.grown (grownBy_setCell' _ _ _) jB.size (fun k e => by cases e; omega)
        have sc0 := i0.cell
        have if0 := i0.frozen
        have wc0 := n3.cell
        have rc0 := n2.cell
        have rf0 := n2.frozen
        have hN : pre.length + 1 ≤ 1099511627776 := by omega
        have g1 : 1 ≤ 4 - 1 - 1 := by omega
        have hk1 : (pre.length : Int) < (nD : Int) := by omega
        have hk2 : pre.length < nD := by omega
        have hk3 : (0 : Int) ≤ (pre.length : Int) := by omega
        have hk4 : ¬ (nD : Int) ≤ (pre.length : Int) := by omega
        have hk5 : decide ((nD : Int) ≤ (pre.length : Int)) = false := decide_eq_false hk4
        have hk6 : decide (nD ≤ pre.length) = false := decide_eq_false (by omega)
        have hkw : IntKind.i64.wrap ((pre.length : Int) + 1) = (pre.length : Int) + 1 := by rw [IntKind.wrap_i64]; omega
        have hj0 : (0 : Int) ≤ (jj : Int) := by omega
        have hj1 : (jj : Int) < 256 := by omega
        have HRS := hid1 hrs
        have HNO : Hid (¬ (⟨xlo, xhi, xv⟩ : Rn ByteArray) = ⟨dlo, dhi, nm jj⟩ → ∃ (p : List (Rn ByteArray)) (x : Rn ByteArray), pre ++ [(⟨xlo, xhi, xv⟩ : Rn ByteArray)] = p ++ [x] ∧ rs[p.length]? ≠ some x) := fun h => ⟨pre, _, rfl, fun e => h (by rw [hrs] at e; exact (Option.some.inj e).symm)⟩
        clear hx i0 n1 n2 n3 hr hseq hlt hd hrs nD1
        by_cases c1 : xlo = dlo
        · have d1 : (xlo != dlo) = false := by simpa using c1
          by_cases c2 : xhi = dhi
          · have d2 : (xhi != dhi) = false := by simpa using c2
            have hbq := str_beq xv (nm jj)
            by_cases c3 : xv = nm jj
            · rw [decide_eq_true c3] at hbq
              have hbn : (xv.toList != (nm jj).toList) = false := by simp [bne, hbq]
              clear c1 c2 c3
              gi_big_wp2
              refine region_quiet (by kernel_rfl) mixed (by kernel_rfl) ?_
              repeat (gi_big_quiet_step (fail))
              refine wpQuietIn_nil ?_
              intro _ hw'
              obtain ⟨nq, hw''⟩ := hw'
              subst hw''
              gi_big_wp2
              exact HFin.out _
            · rw [decide_eq_false c3] at hbq
              have hbn : (xv.toList != (nm jj).toList) = true := by simp [bne, hbq]
              have HX := hid1 (HNO.out (fun e => c3 (by cases e; rfl)))
              clear c1 c2 c3
              gi_big_wp2
              refine region_quiet (by kernel_rfl) mixed (by kernel_rfl) ?_
              repeat (gi_big_quiet_step (fail))
              refine wpQuietIn_nil ?_
              intro _ hw'
              obtain ⟨nq, hw''⟩ := hw'
              subst hw''
              gi_big_wp2
              exact ⟨HKF.out _ _, HX.out⟩
          · have d2 : (xhi != dhi) = true := by simpa using c2
            have HX := hid1 (HNO.out (fun e => c2 (by cases e; rfl)))
            clear c1 c2
            gi_big_wp2
            refine region_quiet (by kernel_rfl) mixed (by kernel_rfl) ?_
            repeat (gi_big_quiet_step (fail))
            refine wpQuietIn_nil ?_
            intro _ hw'
            obtain ⟨nq, hw''⟩ := hw'
            subst hw''
            gi_big_wp2
            exact ⟨HKF.out _ _, HX.out⟩
        · have d1 : (xlo != dlo) = true := by simpa using c1
          have HX := hid1 (HNO.out (fun e => c1 (by cases e; rfl)))
          clear c1
          gi_big_wp2
          refine region_quiet (by kernel_rfl) mixed (by kernel_rfl) ?_
          repeat (gi_big_quiet_step (fail))
          refine wpQuietIn_nil ?_
          intro _ hw'
          obtain ⟨nq, hw''⟩ := hw'
          subst hw''
          gi_big_wp2
          exact ⟨HKF.out _ _, HX.out⟩
      case done =>
        rintro D' ys W hD hys ⟨i0, hB⟩ hK
        have mixed : Tryz.prog.follows .mixedOrders = true := by kernel_rfl
        rw [hys, hrl] at i0
        have HX : Hid (∀ X, Below W.heap.size W X → Below W5.heap.size W5 X) := fun X hX => hB.trans (hX.mono hB.size)
        have HCnt : Hid (∀ X, Below W.heap.size W X → Calls Tryz.prog 15 #[.pointer (some ⟨bm, 0, none⟩)] X fun e w' => e = .returned (.int .i64 nD) ∧ w' = X) := fun X hX => by
          obtain ⟨vm', hm'⟩ := (HW.out X (HX.out X hX)).2.2.2
          have h := countS_any hm'
          rw [hrl] at h
          exact h
        have HAl : Hid (∀ X, Below W.heap.size W X → Calls Tryz.prog 7 #[] X fun e w' => e = .returned (.bool true) ∧ Below W.heap.size W w') := fun X hX => (alive_any X).mono fun e w' ⟨he, hb⟩ => ⟨he, hX.trans (hb.mono hX.size)⟩
        have HRes : Hid (∀ X, Below W.heap.size W X → X.cell? ⟨H + 1, 0, none⟩ = some (.bool false) ∧ X.frozen? ⟨H + 1, 0, none⟩ = false) := fun X hX => ⟨(HW.out X (HX.out X hX)).1.2.1.cell, (HW.out X (HX.out X hX)).1.2.1.frozen⟩
        have HCel : Hid (∀ X, Below W.heap.size W X → X.cell? ⟨w4.heap.size + 1, 0, none⟩ = some (.int .i64 nD) ∧ X.cell? ⟨w4.heap.size, 0, none⟩ = some (.slice aw nD cw)) := fun X hX => ⟨(boxed_later i0 hX).cell, (HW.out X (HX.out X hX)).1.2.2.cell⟩
        have HKd : Hid (W.heap[D']? = some (.deferred (some []))) := hK
        have HEnd : Hid (∀ X, Below W.heap.size W X → (X.setCell ⟨H + 1, 0, none⟩ (.bool true)).heap[D']? = some (.deferred (some [])) ∧ (∀ o', Boxed ((X.setCell ⟨H + 1, 0, none⟩ (.bool true)).putObj D' o') (H + 1) 4 (.bool true)) ∧ (∀ o', Below w.heap.size w ((X.setCell ⟨H + 1, 0, none⟩ (.bool true)).putObj D' o'))) := fun X hX => by
          have kX : X.heap[D']? = some (.deferred (some [])) := (hX.block D' (Array.getElem?_eq_some_iff.1 HKd.out).1).trans HKd.out
          have kz := (KeepsOthers.setCell X ⟨H + 1, 0, none⟩ (.bool true)).same D' _ kX rfl
          have bX := (HW.out X (HX.out X hX)).1.2.1.set (.bool true)
          have nB := (HW.out X (HX.out X hX)).2.2.1
          have hwl : w.heap.size = H := HH.out
          have lX : Below w.heap.size w (X.setCell ⟨H + 1, 0, none⟩ (.bool true)) := nB.grown (grownBy_setCell' _ _ _) nB.size (fun k e => by cases e; omega)
          have hD2 : w.heap.size ≤ D' := by have h1 := (HW.out W0 HB0.out).2.2.1.size; omega
          have hD3 : H + 1 < D' := by have h1 := (HW.out W0 HB0.out).1.2.1.lt; omega
          exact ⟨kz, fun o' => bX.kept (grownBy_putObj' _ _ _) (fun e => by cases e; omega), fun o' => lX.trans (belowK_b (w := w) (Nat.le_refl _) _ D' _ _ hD2 kz rfl rfl)⟩
        have hWW : Below W.heap.size W W := Below.refl _ _
        obtain ⟨t0, t1⟩ := HCel.out W hWW
        have dS : decide ((nD : Int) = (nD : Int)) = true := decide_eq_true rfl
        have HCs : Hid (∀ X v, Below W.heap.size W X → (X.setCell ⟨H + 1, 0, none⟩ v).cell? ⟨w4.heap.size + 1, 0, none⟩ = some (.int .i64 nD) ∧ (X.setCell ⟨H + 1, 0, none⟩ v).cell? ⟨w4.heap.size, 0, none⟩ = some (.slice aw nD cw)) := fun X v hX => by
          have h1 : H + 2 ≤ w4.heap.size := by
            have := HB5.out.size
            have := HT.out.rb.lt
            omega
          exact ⟨((boxed_later i0 hX).other (B' := H + 1) (by omega) v).cell, (((HW.out X (HX.out X hX)).1.2.2).other (B' := H + 1) (by omega) v).cell⟩
        clear i0 hK hseq
        gi_big_wp2
        go_wp2
        refine Code.wp_mono (Q := NoPanic _) NoPanic.imp ?_
        go_region_held3 (fun w' => w'.cell? ⟨w4.heap.size + 1, 0, none⟩ = some (.int .i64 nD) ∧ w'.cell? ⟨w4.heap.size, 0, none⟩ = some (.slice aw nD cw)) (first | exact ⟨t0, t1⟩ | exact HCel.out _ hb9 | exact HCs.out _ _ hb9 | go_keep) (first | (go_at_call 15; refine (HCnt.out _ (below_drew2 W)).mono ?_; rintro e w9 ⟨rfl, hw9⟩; rw [hw9]; clear hw9) | (go_at_call 7; refine (HAl.out _ (below_drew2 W)).mono ?_; rintro e w9 ⟨rfl, hb9⟩; obtain ⟨r1, r2⟩ := HRes.out _ hb9))
        refine NoPanic.normal ?_
        go_wp2
        obtain ⟨kz, bz, lz⟩ := HEnd.out _ hb9
        refine ⟨by simp, .inl ⟨_, _, rfl, run_takeDeferred kz, ?_⟩⟩
        exact ⟨_, res_bool rfl (bz _), rfl, lz _⟩
end Go.Proofs.YtncajaihojhkkaaGreat.I
