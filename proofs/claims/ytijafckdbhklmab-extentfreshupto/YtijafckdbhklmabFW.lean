import Derived.Test.YtijafckdbhklmabFL
namespace Go.Proofs.Ytijafckdbhklmab.I
open Go.RowKit Go.Sort Go.Lib Go.Shelf Classical
attribute [local go_sem] Oper.semAt_some
set_option linter.unusedVariables false
set_option linter.unusedSimpArgs false
set_option maxRecDepth 100000

theorem lawFresh_bad (size first : Int) (vl va vb : Value) (w : World) (hs : size < 0 ∨ 1099511627776 < size) :
    Calls Try.prog 3 #[.int .i64 size, .int .i64 first, vl, va, vb] w fun e w' => e = .returned (.bool true) ∧ Below w.heap.size w w' := by
  have HL := laid_bad size first vl w hs
  have HZ := sized_no size w hs
  have qp : (binOp .eql 23 (.pointer none) (.pointer none)).run Try.prog w = .ok (.bool true) w := rfl
  clear hs
  go_enter Try.func3, Try.ntmps3
  go_wp2_with (first | (go_at_call 9; refine HL.mono ?_; rintro e w9 ⟨rfl, hw9⟩; rw [hw9]; clear hw9) | (go_at_call 10; refine HZ.mono ?_; rintro e w9 ⟨rfl, hw9⟩; rw [hw9]; clear hw9) | (go_at_call 11; refine (alive_any _).mono ?_; rintro e wz ⟨rfl, hbz⟩))
  go_ret
  exact ⟨rfl, hbz⟩

set_option maxHeartbeats 8000000 in
theorem lawFresh_good (size first : Int) (l a b : List Put) (vl va vb : Value) (w : World) (gl : PutsA w vl l) (ga : PutsA w va a) (gb : PutsA w vb b) (hl : l.length ≤ 1048576) (hla : a.length ≤ 1048576) (hlb : b.length ≤ 1048576) (h0 : 0 ≤ size) (h1 : size ≤ 1099511627776) :
    Calls Try.prog 3 #[.int .i64 size, .int .i64 first, vl, va, vb] w fun e w' => e = .returned (.bool true) ∧ Below w.heap.size w w' := by
  have HPL : Hid (∀ W, Below w.heap.size w W → PutsA W vl l) := fun W hW => gl.later hW
  have HPA : Hid (∀ W, Below w.heap.size w W → PutsA W va a) := fun W hW => ga.later hW
  have HPB : Hid (∀ W, Below w.heap.size w W → PutsA W vb b) := fun W hW => gb.later hW
  obtain ⟨aa, ca, rfl, pa⟩ := puts_form ga
  obtain ⟨ab, cb, rfl, pb⟩ := puts_form gb
  have HL := laid_puts size first gl (by omega) h0 h1
  obtain ⟨na, hna⟩ : ∃ na, a.length = na := ⟨_, rfl⟩
  obtain ⟨nb, hnb⟩ : ∃ nb, b.length = nb := ⟨_, rfl⟩
  have HNA : Hid (a.length = na) := hna
  have HNB : Hid (b.length = nb) := hnb
  have HCA : Hid (∀ W k q, Below w.heap.size w W → a[k]? = some q → ∃ b off, aa = some ⟨b, off, none⟩ ∧ W.cell? ⟨b, off + k * 3, none⟩ = some (.int .i64 q.1) ∧ W.cell? ⟨b, off + k * 3 + 1, none⟩ = some (.int .i64 q.2.1) ∧ W.cell? ⟨b, off + k * 3 + 2, none⟩ = some (.int .i64 q.2.2)) := fun W k q hW hk => (pa.later hW) k q hk
  have HCB : Hid (∀ W k q, Below w.heap.size w W → b[k]? = some q → ∃ b off, ab = some ⟨b, off, none⟩ ∧ W.cell? ⟨b, off + k * 3, none⟩ = some (.int .i64 q.1) ∧ W.cell? ⟨b, off + k * 3 + 1, none⟩ = some (.int .i64 q.2.1) ∧ W.cell? ⟨b, off + k * 3 + 2, none⟩ = some (.int .i64 q.2.2)) := fun W k q hW hk => (pb.later hW) k q hk
  have qp : ∀ (w : World) (a : Addr), (binOp .eql 23 (.pointer (some a)) (.pointer none)).run Try.prog w = .ok (.bool false) w := fun _ _ => rfl
  rw [hna] at HPA hla
  rw [hnb] at HPB hlb
  rw [hna, hnb]
  clear gl ga gb pa pb hna hnb
  go_enter Try.func3, Try.ntmps3
  go_wp2_with (first | (go_at_call 9; refine HL.mono ?_; rintro e w1 ⟨bm, vm, rfl, hM, hb1⟩; have HCp := copy_any hM; clear HL) | (go_at_call 12; refine HCp.mono ?_; rintro e w2 ⟨bc, vc, rfl, hC, hb2⟩; have HTw : Hid (Two w w2 w.heap.size bm vm w1.heap.size bc vc size (runsL size first l) (runsL size first l)) := Two.new hM hC hb1 hb2 (Nat.le_refl _); clear HCp) | (go_at_call 13; refine (same_self HTw.out.a HTw.out.b rfl).mono ?_; rintro e w3 ⟨rfl, hb3⟩; have HTx : Hid (Two w w3 w.heap.size bm vm w1.heap.size bc vc size (runsL size first l) (runsL size first l)) := HTw.out.later hb3; clear HTw) | (go_at_call 13; refine (same_self HTx.out.b HTx.out.a rfl).mono ?_; rintro e w4 ⟨rfl, hb4⟩; have HTy : Hid (Two w w4 w.heap.size bm vm w1.heap.size bc vc size (runsL size first (l ++ a.take 0)) (runsL size first (l ++ b.take 0))) := (by show Two _ _ _ _ _ _ _ _ _ _ _; rw [List.take_zero, List.take_zero, List.append_nil]; exact HTx.out.later hb4); clear HTx))
  go_loopw [13] (fun i wr => ∃ (k : Nat) (vm vc : Value), k ≤ max na nb ∧ i = .int .i64 k ∧ Hid (Two w wr w.heap.size bm vm w1.heap.size bc vc size (runsL size first (l ++ a.take k)) (runsL size first (l ++ b.take k)))) (fun i _ => max na nb - (intOf i).toNat)
  case atStart => exact ⟨0, vm, vc, Nat.zero_le _, rfl, HTy⟩
  case round =>
    obtain ⟨k, vm, vc, hk, rfl, HTk⟩ := hrel
    by_cases hka : (k : Int) < (na : Int)
    · by_cases hkb : (k : Int) < (nb : Int)
      · skip
        obtain ⟨qa, hqa⟩ : ∃ q, a[k]? = some q := ⟨_, List.getElem?_eq_getElem (by have := HNA.out; omega)⟩
        obtain ⟨ba0, offa, rfl, d0, d1, d2⟩ := HCA.out wr k qa HTk.out.bel hqa
        have HSa : Hid (∀ m, Calls Try.prog 14 #[.pointer (some ⟨bm, 0, none⟩), .int .i64 qa.1, .int .i64 qa.2.1, .int .i64 qa.2.2] (wr.drewN m) fun e w' => e = .returned (.int .i64 (setE size qa.1 qa.2.1)) ∧ ∃ v', Two w w' w.heap.size bm v' w1.heap.size bc vc size (runsL size first (l ++ a.take (k + 1))) (runsL size first (l ++ b.take k))) := fun m => by
          rw [runsL_take size first l a hqa]
          exact (HTk.out.later (below_drewW wr m)).setA qa.1 qa.2.1 qa.2.2
        have HKa : Hid (∀ W, Below w.heap.size w W → W.cell? ⟨ba0, offa + k * 3, none⟩ = some (.int .i64 qa.1) ∧ W.cell? ⟨ba0, offa + k * 3 + 1, none⟩ = some (.int .i64 qa.2.1) ∧ W.cell? ⟨ba0, offa + k * 3 + 2, none⟩ = some (.int .i64 qa.2.2)) := fun W hW => by
          obtain ⟨b', off', e, z0, z1, z2⟩ := HCA.out W k qa hW hqa
          simp only [Option.some.injEq, Addr.mk.injEq, and_true] at e
          obtain ⟨rfl, rfl⟩ := e
          exact ⟨z0, z1, z2⟩
        clear hqa
        go_wp2
        go_region_held3 (fun w' => w'.cell? ⟨ba0, offa + k * 3, none⟩ = some (.int .i64 qa.1) ∧ w'.cell? ⟨ba0, offa + k * 3 + 1, none⟩ = some (.int .i64 qa.2.1) ∧ w'.cell? ⟨ba0, offa + k * 3 + 2, none⟩ = some (.int .i64 qa.2.2)) (first | go_keep | exact ⟨s0, s1, s2⟩) (first | (go_at_call 14; refine (HSa.out _).mono ?_; rintro e wa1 ⟨rfl, va1, hTa1⟩; obtain ⟨s0, s1, s2⟩ := HKa.out wa1 hTa1.bel))
        have HTa1 : Hid (Two w wa1 w.heap.size bm va1 w1.heap.size bc vc size (runsL size first (l ++ a.take (k + 1))) (runsL size first (l ++ b.take k))) := hTa1
        clear hTa1 HSa HKa d0 d1 d2 s0 s1 s2
        obtain ⟨qb, hqb⟩ : ∃ q, b[k]? = some q := ⟨_, List.getElem?_eq_getElem (by have := HNB.out; omega)⟩
        obtain ⟨bb0, offb, rfl, d0, d1, d2⟩ := HCB.out wa1 k qb HTa1.out.bel hqb
        have HSb : Hid (∀ m, Calls Try.prog 14 #[.pointer (some ⟨bc, 0, none⟩), .int .i64 qb.1, .int .i64 qb.2.1, .int .i64 qb.2.2] (wa1.drewN m) fun e w' => e = .returned (.int .i64 (setE size qb.1 qb.2.1)) ∧ ∃ v', Two w w' w.heap.size bm va1 w1.heap.size bc v' size (runsL size first (l ++ a.take (k + 1))) (runsL size first (l ++ b.take (k + 1)))) := fun m => by
          rw [runsL_take size first l b hqb]
          exact (HTa1.out.later (below_drewW wa1 m)).setB qb.1 qb.2.1 qb.2.2
        have HKb : Hid (∀ W, Below w.heap.size w W → W.cell? ⟨bb0, offb + k * 3, none⟩ = some (.int .i64 qb.1) ∧ W.cell? ⟨bb0, offb + k * 3 + 1, none⟩ = some (.int .i64 qb.2.1) ∧ W.cell? ⟨bb0, offb + k * 3 + 2, none⟩ = some (.int .i64 qb.2.2)) := fun W hW => by
          obtain ⟨b', off', e, z0, z1, z2⟩ := HCB.out W k qb hW hqb
          simp only [Option.some.injEq, Addr.mk.injEq, and_true] at e
          obtain ⟨rfl, rfl⟩ := e
          exact ⟨z0, z1, z2⟩
        clear hqb
        go_wp2
        go_region_held3 (fun w' => w'.cell? ⟨bb0, offb + k * 3, none⟩ = some (.int .i64 qb.1) ∧ w'.cell? ⟨bb0, offb + k * 3 + 1, none⟩ = some (.int .i64 qb.2.1) ∧ w'.cell? ⟨bb0, offb + k * 3 + 2, none⟩ = some (.int .i64 qb.2.2)) (first | go_keep | exact ⟨s0, s1, s2⟩) (first | (go_at_call 14; refine (HSb.out _).mono ?_; rintro e wb1 ⟨rfl, vb1, hTb1⟩; obtain ⟨s0, s1, s2⟩ := HKb.out wb1 hTb1.bel))
        have HTb1 : Hid (Two w wb1 w.heap.size bm va1 w1.heap.size bc vb1 size (runsL size first (l ++ a.take (k + 1))) (runsL size first (l ++ b.take (k + 1)))) := hTb1
        clear hTb1 HSb HKb d0 d1 d2 s0 s1 s2
        go_wp2
        go_roundw
        case rel => exact ⟨k + 1, va1, vb1, by omega, by go_num, HTb1⟩
        case measure => simp [intOf]; omega
      · have HOb : Hid (b.take (k + 1) = b.take k) := take_over (by have := HNB.out; omega)
        obtain ⟨qa, hqa⟩ : ∃ q, a[k]? = some q := ⟨_, List.getElem?_eq_getElem (by have := HNA.out; omega)⟩
        obtain ⟨ba0, offa, rfl, d0, d1, d2⟩ := HCA.out wr k qa HTk.out.bel hqa
        have HSa : Hid (∀ m, Calls Try.prog 14 #[.pointer (some ⟨bm, 0, none⟩), .int .i64 qa.1, .int .i64 qa.2.1, .int .i64 qa.2.2] (wr.drewN m) fun e w' => e = .returned (.int .i64 (setE size qa.1 qa.2.1)) ∧ ∃ v', Two w w' w.heap.size bm v' w1.heap.size bc vc size (runsL size first (l ++ a.take (k + 1))) (runsL size first (l ++ b.take k))) := fun m => by
          rw [runsL_take size first l a hqa]
          exact (HTk.out.later (below_drewW wr m)).setA qa.1 qa.2.1 qa.2.2
        have HKa : Hid (∀ W, Below w.heap.size w W → W.cell? ⟨ba0, offa + k * 3, none⟩ = some (.int .i64 qa.1) ∧ W.cell? ⟨ba0, offa + k * 3 + 1, none⟩ = some (.int .i64 qa.2.1) ∧ W.cell? ⟨ba0, offa + k * 3 + 2, none⟩ = some (.int .i64 qa.2.2)) := fun W hW => by
          obtain ⟨b', off', e, z0, z1, z2⟩ := HCA.out W k qa hW hqa
          simp only [Option.some.injEq, Addr.mk.injEq, and_true] at e
          obtain ⟨rfl, rfl⟩ := e
          exact ⟨z0, z1, z2⟩
        clear hqa
        go_wp2
        go_region_held3 (fun w' => w'.cell? ⟨ba0, offa + k * 3, none⟩ = some (.int .i64 qa.1) ∧ w'.cell? ⟨ba0, offa + k * 3 + 1, none⟩ = some (.int .i64 qa.2.1) ∧ w'.cell? ⟨ba0, offa + k * 3 + 2, none⟩ = some (.int .i64 qa.2.2)) (first | go_keep | exact ⟨s0, s1, s2⟩) (first | (go_at_call 14; refine (HSa.out _).mono ?_; rintro e wa1 ⟨rfl, va1, hTa1⟩; obtain ⟨s0, s1, s2⟩ := HKa.out wa1 hTa1.bel))
        have HTa1 : Hid (Two w wa1 w.heap.size bm va1 w1.heap.size bc vc size (runsL size first (l ++ a.take (k + 1))) (runsL size first (l ++ b.take k))) := hTa1
        clear hTa1 HSa HKa d0 d1 d2 s0 s1 s2
        rw [← HOb.out] at HTa1
        go_wp2
        go_roundw
        case rel => exact ⟨k + 1, va1, vc, by omega, by go_num, HTa1⟩
        case measure => simp [intOf]; omega
    · by_cases hkb : (k : Int) < (nb : Int)
      · have HOa : Hid (a.take (k + 1) = a.take k) := take_over (by have := HNA.out; omega)
        rw [← HOa.out] at HTk
        obtain ⟨qb, hqb⟩ : ∃ q, b[k]? = some q := ⟨_, List.getElem?_eq_getElem (by have := HNB.out; omega)⟩
        obtain ⟨bb0, offb, rfl, d0, d1, d2⟩ := HCB.out wr k qb HTk.out.bel hqb
        have HSb : Hid (∀ m, Calls Try.prog 14 #[.pointer (some ⟨bc, 0, none⟩), .int .i64 qb.1, .int .i64 qb.2.1, .int .i64 qb.2.2] (wr.drewN m) fun e w' => e = .returned (.int .i64 (setE size qb.1 qb.2.1)) ∧ ∃ v', Two w w' w.heap.size bm vm w1.heap.size bc v' size (runsL size first (l ++ a.take (k + 1))) (runsL size first (l ++ b.take (k + 1)))) := fun m => by
          rw [runsL_take size first l b hqb]
          exact (HTk.out.later (below_drewW wr m)).setB qb.1 qb.2.1 qb.2.2
        have HKb : Hid (∀ W, Below w.heap.size w W → W.cell? ⟨bb0, offb + k * 3, none⟩ = some (.int .i64 qb.1) ∧ W.cell? ⟨bb0, offb + k * 3 + 1, none⟩ = some (.int .i64 qb.2.1) ∧ W.cell? ⟨bb0, offb + k * 3 + 2, none⟩ = some (.int .i64 qb.2.2)) := fun W hW => by
          obtain ⟨b', off', e, z0, z1, z2⟩ := HCB.out W k qb hW hqb
          simp only [Option.some.injEq, Addr.mk.injEq, and_true] at e
          obtain ⟨rfl, rfl⟩ := e
          exact ⟨z0, z1, z2⟩
        clear hqb
        go_wp2
        go_region_held3 (fun w' => w'.cell? ⟨bb0, offb + k * 3, none⟩ = some (.int .i64 qb.1) ∧ w'.cell? ⟨bb0, offb + k * 3 + 1, none⟩ = some (.int .i64 qb.2.1) ∧ w'.cell? ⟨bb0, offb + k * 3 + 2, none⟩ = some (.int .i64 qb.2.2)) (first | go_keep | exact ⟨s0, s1, s2⟩) (first | (go_at_call 14; refine (HSb.out _).mono ?_; rintro e wb1 ⟨rfl, vb1, hTb1⟩; obtain ⟨s0, s1, s2⟩ := HKb.out wb1 hTb1.bel))
        have HTb1 : Hid (Two w wb1 w.heap.size bm vm w1.heap.size bc vb1 size (runsL size first (l ++ a.take (k + 1))) (runsL size first (l ++ b.take (k + 1)))) := hTb1
        clear hTb1 HSb HKb d0 d1 d2 s0 s1 s2
        go_wp2
        go_roundw
        case rel => exact ⟨k + 1, vm, vb1, by omega, by go_num, HTb1⟩
        case measure => simp [intOf]; omega
      · have HEA : Hid (a.take k = a) := List.take_of_length_le (by have := HNA.out; omega)
        have HEB : Hid (b.take k = b) := List.take_of_length_le (by have := HNB.out; omega)
        rw [HEA.out, HEB.out] at HTk
        have bS : Below w.heap.size w wr := HTk.out.bel
        have hlA := HNA.out
        have hlB := HNB.out
        obtain ⟨d, hd⟩ : ∃ d, d = decide (runsL size first (l ++ a) = runsL size first (l ++ b)) := ⟨_, rfl⟩
        have HD : Hid (d = decide (runsL size first (l ++ a) = runsL size first (l ++ b))) := hd
        have qd : ∀ W : World, (binOp .eql 4 (.bool d) (.bool d)).run Try.prog W = .ok (.bool true) W := by cases d <;> exact fun _ => rfl
        clear hd
        go_wp2_with (first | (at_builtin; refine wpList_append_puts (by rfl) (.const (.slice none 0 0)) (.tmp 100) (by rfl) wr.heap.size (.slice none 0 0) 0 [] (by rfl) (World.ownsRow_nil _ _ _ _) vl l (by rfl) (HPL.out _ bS) (by omega) (by simp) ?_; intro vA wA hoA hgA; have bA : Below wr.heap.size wr wA := (Below.refl _ wr).grown hgA (Nat.le_refl _) (fun q e => none_own e)) | (at_builtin; refine wpList_append_puts (by rfl) (.tmp 101) (.tmp 102) (by rfl) wr.heap.size vA _ _ (by rfl) hoA (.slice aa na ca) a (by rfl) (HPA.out _ (bS.trans (bA.mono bS.size))) (by omega) bA.size ?_; intro vB wB hoB hgB; have bB : Below wr.heap.size wr wB := bA.grown hgB bA.size (fun q e => (hoA.lt q e).1); have hoC : wB.ownsRow wr.heap.size TPut 3 vB (l ++ a).length (qcells (l ++ a)) := (by simpa [qcells_append] using hoB)) | (go_at_call 9; fail))
        refine (laid_row size first hoC (by simp; omega) h0 h1).mono ?_
        rintro e wx ⟨bx, vx, rfl, mX, blX⟩
        have bX : Below wr.heap.size wr wx := bB.trans (blX.mono bB.size)
        have bSX : Below w.heap.size w wx := bS.trans (bX.mono bS.size)
        clear hoC hoB hgB hoA hgA
        go_wp2_with (first | (at_builtin; refine wpList_append_puts (by rfl) (.const (.slice none 0 0)) (.tmp 107) (by rfl) wx.heap.size (.slice none 0 0) 0 [] (by rfl) (World.ownsRow_nil _ _ _ _) vl l (by rfl) (HPL.out _ bSX) (by omega) (by simp) ?_; intro vD wD hoD hgD; have bD : Below wx.heap.size wx wD := (Below.refl _ wx).grown hgD (Nat.le_refl _) (fun q e => none_own e)) | (at_builtin; refine wpList_append_puts (by rfl) (.tmp 108) (.tmp 109) (by rfl) wx.heap.size vD _ _ (by rfl) hoD (.slice ab nb cb) b (by rfl) (HPB.out _ (bSX.trans (bD.mono bSX.size))) (by omega) bD.size ?_; intro vE wE hoE hgE; have bE : Below wx.heap.size wx wE := bD.grown hgE bD.size (fun q e => (hoD.lt q e).1); have hoF : wE.ownsRow wx.heap.size TPut 3 vE (l ++ b).length (qcells (l ++ b)) := (by simpa [qcells_append] using hoE)) | (go_at_call 9; fail))
        refine (laid_row size first hoF (by simp; omega) h0 h1).mono ?_
        rintro e wy ⟨by_, vy, rfl, mY, blY⟩
        have bXY : Below wx.heap.size wx wy := bE.trans (blY.mono bE.size)
        have bRY : Below wr.heap.size wr wy := bX.trans (bXY.mono bX.size)
        have HF : Hid (∀ W, Below wy.heap.size wy W → MO W w.heap.size bm vm size (runsL size first (l ++ a)) ∧ MO W w1.heap.size bc vc size (runsL size first (l ++ b)) ∧ MO W wB.heap.size bx vx size (runsL size first (l ++ a)) ∧ MO W wE.heap.size by_ vy size (runsL size first (l ++ b)) ∧ Below w.heap.size w W) := (fun W hW => ⟨(HTk.out.a.later bRY).later hW, (HTk.out.b.later bRY).later hW, (mX.later bXY).later hW, mY.later hW, (bS.trans (bRY.mono bS.size)).trans (hW.mono (Nat.le_trans bS.size bRY.size))⟩)
        clear hoF hoE hgE hoD hgD
        go_wp2_with (go_at_call 13; fail)
        refine (same_self (HF.out _ (Below.refl _ _)).1 (HF.out _ (Below.refl _ _)).2.2.1 rfl).mono ?_
        rintro e s1 ⟨rfl, bs1⟩
        go_wp2_with (go_at_call 13; fail)
        refine (same_self (HF.out _ bs1).2.1 (HF.out _ bs1).2.2.2.1 rfl).mono ?_
        rintro e s2 ⟨rfl, q2⟩
        have bs2 : Below wy.heap.size wy s2 := bs1.trans (q2.mono bs1.size)
        go_wp2_with (go_at_call 13; fail)
        refine (same_any (HF.out _ bs2).1 (HF.out _ bs2).2.1).mono ?_
        rw [← HD.out]
        rintro e s3 ⟨rfl, q3⟩
        have bs3 : Below wy.heap.size wy s3 := bs2.trans (q3.mono bs2.size)
        go_wp2_with (go_at_call 13; fail)
        refine (same_any (HF.out _ bs3).2.2.1 (HF.out _ bs3).2.2.2.1).mono ?_
        rw [← HD.out]
        rintro e s4 ⟨rfl, q4⟩
        have bs4 : Below wy.heap.size wy s4 := bs3.trans (q4.mono bs3.size)
        go_wp2_with (go_at_call 11; fail)
        refine (alive_any _).mono ?_
        rintro e wz ⟨rfl, hbz⟩
        have bwz : Below w.heap.size w wz := (HF.out _ bs4).2.2.2.2.trans (hbz.mono (HF.out _ bs4).2.2.2.2.size)
        go_wp2
        go_ret
        exact ⟨rfl, bwz⟩
theorem lawFresh_any (size first : Int) (l a b : List Put) (vl va vb : Value) (w : World) (gl : PutsA w vl l) (ga : PutsA w va a) (gb : PutsA w vb b) (hl : l.length ≤ 1048576) (hla : a.length ≤ 1048576) (hlb : b.length ≤ 1048576) :
    Calls Try.prog 3 #[.int .i64 size, .int .i64 first, vl, va, vb] w fun e w' => e = .returned (.bool true) ∧ Below w.heap.size w w' := by
  by_cases hs : 0 ≤ size ∧ size ≤ 1099511627776
  · exact lawFresh_good size first l a b vl va vb w gl ga gb hl hla hlb hs.1 hs.2
  · exact lawFresh_bad size first vl va vb w (by omega)
end Go.Proofs.Ytijafckdbhklmab.I
