import Derived.Test.YtjkoambfecmglaaJH
namespace Go.Proofs.Ytjkoambfecmglaa
open Go.RowKit
set_option linter.unusedVariables false
set_option linter.unusedSimpArgs false
set_option maxRecDepth 100000
theorem owns_bools {W : World} {B m : Nat} (hB : B ≤ W.heap.size) (hm : m ≤ 1099511627776) : (W.alloc (.cells (Array.replicate m (Value.bool false)) 4)).ownsRow B 4 1 (.slice (some ⟨W.heap.size, 0, none⟩) m m) m ((List.replicate m false).map Value.bool) :=
  ⟨by simp, .inr ⟨W.heap.size, m, _, rfl, hB, heap_new _ _, Nat.le_refl _, by unfold maxLen; omega, by simp, by simp⟩⟩
theorem wm_new {V W1 : World} {n nc m oc g : Nat} {oa co : Option Addr} {bs : List Nat} {pl : List Bool} (hW : Below V.heap.size V W1) (hco : W1.ownsRow V.heap.size 5 1 (.slice co n nc) n (bs.map bv)) (hpl : W1.ownsRow V.heap.size 4 1 (.slice (some ⟨g, 0, none⟩) m m) m (pl.map Value.bool)) (hne : ∀ x, (Value.slice co n nc).ownBlock = some x → x ≠ g) (hbs : bs.length = n) (hlt : ∀ x ∈ bs, x < 256) (hO : 0 < m → ∀ a, oa = some a → a.block < V.heap.size) :
    Wm (W1.alloc (.cells #[.slice oa m oc, .slice co n nc, .slice (some ⟨g, 0, none⟩) m m, .slice none 0 0] 61)) V.heap.size W1.heap.size oa m oc co n nc bs (some ⟨g, 0, none⟩) m pl none 0 [] ∧ Below V.heap.size V (W1.alloc (.cells #[.slice oa m oc, .slice co n nc, .slice (some ⟨g, 0, none⟩) m m, .slice none 0 0] 61)) := by
  refine ⟨⟨heap_new _ _, hW.size, owns_far hco (World.grownBy_alloc W1 _ none) (by simp), hbs, hlt, owns_far hpl (World.grownBy_alloc W1 _ none) (by simp), ⟨fun h => by simp at h⟩, Nat.le_refl _, ?_, ?_, ?_, ?_, hO⟩, hW.alloc hW.size _⟩
  · intro e; have := (owns_in hco e).2; omega
  · intro e; have := (owns_in hpl e).2; omega
  · intro x h1 h2; cases h2; exact hne _ h1 rfl
  · intro a e; cases e
theorem Try.info3 : (Try.prog.info? 3).map (fun i => (i.zero, i.size, i.bytes)) = some (some (.int .i64 0), 1, 8) := by kernel_rfl
/-- one more is owed -/
theorem Wm.push {W X W3 : World} {B P m oc n nc pc dc dc' i : Nat} {oa na pa wa wa' : Option Addr} {bs : List Nat} {pl : List Bool} {ow : List Nat} (h : Wm W B P oa m oc na n nc bs pa pc pl wa dc ow) (ho : W.ownsRow B 3 1 (.slice wa ow.length dc) ow.length (ow.map iv)) (hX : Below W.heap.size W X) (hg : X.grownBy W3 (Value.slice wa ow.length dc).ownBlock) (ho3 : W3.ownsRow B 3 1 (.slice wa' (ow.length + 1) dc') (ow.length + 1) (ow.map iv ++ [iv i])) (hfr : Fresh X (.slice wa ow.length dc) (.slice wa' (ow.length + 1) dc')) :
    Wm (W3.setCell ⟨P, 3, none⟩ (.slice wa' (ow.length + 1) dc')) B P oa m oc na n nc bs pa pc pl wa' dc' (ow ++ [i]) ∧ (W3.setCell ⟨P, 3, none⟩ (.slice wa' (ow.length + 1) dc')).ownsRow B 3 1 (.slice wa' (ow ++ [i]).length dc') (ow ++ [i]).length ((ow ++ [i]).map iv) ∧ Below B W (W3.setCell ⟨P, 3, none⟩ (.slice wa' (ow.length + 1) dc')) := by
  have hPW : P < W.heap.size := block_lt h.blk
  have hPne : some P ≠ (Value.slice wa ow.length dc).ownBlock := fun e => by
    cases wa with
    | none => cases e
    | some a => exact (h.apW a rfl).1 (Option.some.inj e).symm
  have hP3 : W3.heap[P]? = W.heap[P]? := (hg.block P (Nat.lt_of_lt_of_le hPW hX.size) hPne).trans (hX.block _ hPW)
  have hnew : ∀ g, (Value.slice wa' (ow.length + 1) dc').ownBlock = some g → g ≠ P := fun g e => by
    rcases hfr with h1 | ⟨g', h1, h2⟩
    · rw [h1] at e; intro e2; subst e2; exact hPne e.symm
    · rw [h1] at e; cases e; have := hX.size; omega
  have hob : (W3.setCell ⟨P, 3, none⟩ (.slice wa' (ow.length + 1) dc')).ownsRow B 3 1 (.slice wa' (ow ++ [i]).length dc') (ow ++ [i]).length ((ow ++ [i]).map iv) := by
    have := owns_same ho3 (w' := W3.setCell ⟨P, 3, none⟩ (.slice wa' (ow.length + 1) dc')) (fun g e => Below.heap_setCell _ _ _ _ (fun e2 => hnew g e e2))
    simpa using this
  refine ⟨h.re ?_ ?_ ?_ hob ?_, hob, ?_⟩
  · have := heap_setCell_same W3 P 3 _ 61 (.slice wa' (ow.length + 1) dc') (hP3.trans h.blk)
    simpa using this
  · intro g h1 h2 h3
    rw [Below.heap_setCell _ _ _ _ (fun e => h2 e), hg.block g (Nat.lt_of_lt_of_le h1 hX.size) (fun e => by
      cases wa with
      | none => cases e
      | some a => exact h3 a rfl (Option.some.inj e).symm), hX.block _ h1]
  · rw [World.size_setCell]; exact Nat.le_trans hX.size hg.size
  · intro a e
    subst e
    rcases hfr with h1 | ⟨g', h1, h2⟩
    · left
      cases wa with
      | none => cases h1
      | some a0 => exact ⟨a0, rfl, (Option.some.inj h1).symm⟩
    · right
      cases h1
      exact Nat.le_trans hX.size h2
  · have hBW : B ≤ W.heap.size := Nat.le_trans h.hP (Nat.le_of_lt hPW)
    have h1 : Below B W X := hX.mono hBW
    have h2 : Below B W W3 := h1.grown hg (Nat.le_trans hBW hX.size) (fun k e => (owns_in ho e).1)
    exact h2.setCell (p := ⟨P, 3, none⟩) h.hP _
/-- what is owed is sorted: the walk stands -/
theorem Wm.sorts {W : World} {B P m oc n nc pc dc bx : Nat} {oa na pa wa : Option Addr} {bs : List Nat} {pl : List Bool} {l : List Opv} {i : Nat} (h : Wm W B P oa m oc na n nc bs pa pc pl wa dc (owOf l i)) (ho : W.ownsRow B 3 1 (.slice wa (owOf l i).length dc) (owOf l i).length ((owOf l i).map iv)) (hm : l.length = m) (hs : m ≤ 1099511627776) (hi : i = l.length) (hO : OpsR W oa l) (hbx : W.cell? ⟨bx, 0, none⟩ = some (.slice oa m oc)) (hbB : bx < B) :
    Calls Try.prog 44 #[.slice wa (owOf l i).length dc, .func (.func 45) #[] #[.pointer (some ⟨bx, 0, none⟩)]] W fun e w' => e = .returned (.tuple #[]) ∧ ∃ ow : List Nat, WkS l [] (List.replicate l.length false) ow ∧ Wm w' B P oa m oc na n nc bs pa pc pl wa dc ow ∧ Below B W w' := by
  subst hi
  have hBW : B ≤ W.heap.size := Nat.le_trans h.hP (Nat.le_of_lt (block_lt h.blk))
  rcases Nat.eq_zero_or_pos (owOf l l.length).length with h0 | h0
  · have he : owOf l l.length = [] := List.eq_nil_of_length_eq_zero h0
    have hS := AnyF.slices_SortFunc_none (P := Try.prog) (ρ := Try.sortL_ren) { Try.sortL with } wa dc (.func (.func 45) #[] #[.pointer (some ⟨bx, 0, none⟩)]) W
    change Calls Try.prog 44 _ _ _ at hS
    rw [h0]
    refine hS.mono ?_
    rintro e w' ⟨he2, rfl⟩
    exact ⟨he2, _, WkS.start (List.Perm.refl _) (by rw [he]; exact List.Pairwise.nil), h, Below.refl _ _⟩
  · obtain ⟨blk, e0, hBb, _, _⟩ := own_some ho h0
    subst e0
    have hlp : 0 < m := by have := owOf_len l l.length; omega
    obtain ⟨p0, hp0⟩ : ∃ p, l[0]? = some p := ⟨_, List.getElem?_eq_getElem (by omega)⟩
    obtain ⟨ob, oo, e1, _⟩ := ops_at hO hp0
    subst e1
    have hob : ob < B := h.apO hlp _ rfl
    refine (sort_any W B blk _ dc m oc ob oo bx l (owOf l l.length) ho rfl h0 (by have := owOf_len l l.length; omega) hm (fun k hk => by have := (owOf_mem.1 hk).1; omega) hO hbx (by omega) (by omega)).mono ?_
    rintro e w' ⟨he, ow', hp, hsrt, hown, hgr⟩
    have hlen : ow'.length = (owOf l l.length).length := hp.length_eq
    refine ⟨he, ow', WkS.start hp hsrt, h.re ?_ ?_ hgr.size ?_ ?_, (Below.refl B W).grown hgr hBW (fun k e => by cases e; exact hBb)⟩
    · rw [hgr.block P (block_lt h.blk) (fun e => (h.apW _ rfl).1 (Option.some.inj e).symm), h.blk, hlen]
    · intro g h1 h2 h3
      exact hgr.block g h1 (fun e => h3 _ rfl (Option.some.inj e).symm)
    · rw [hlen]; exact hown
    · intro a e; exact .inl ⟨a, e, rfl⟩
set_option maxHeartbeats 16000000 in
/-- a walk begins -/
theorem begin_any (fa oa : Option Addr) (n fc m oc : Nat) (first : List Nat) (l : List Opv) (w : World) (hb : BRow w fa fc first) (hn : first.length = n) (h : OpsR w oa l) (hm : l.length = m) (hs : m ≤ 1099511627776) (hns : n ≤ 4096) :
    Calls Try.prog 25 #[.slice fa n fc, .slice oa m oc] w fun e w' => ∃ P na nc pa pc wa dc ow, e = .returned (.pointer (some ⟨P, 0, none⟩)) ∧ Below w.heap.size w w' ∧ Wm w' (w.heap.size + 1) P oa m oc na n nc first pa pc (List.replicate m false) wa dc ow ∧ WkS l [] (List.replicate m false) ow := by
  have HV0 : Hid (Below w.heap.size w (w.alloc (.cells #[.slice oa m oc] 23))) := (Below.refl _ w).alloc (Nat.le_refl _) _
  have HX0 : Hid ((w.alloc (.cells #[.slice oa m oc] 23)).cell? ⟨w.heap.size, 0, none⟩ = some (.slice oa m oc)) := blk_at (heap_new _ _) 0
  obtain ⟨V, hV⟩ : ∃ V, V = w.alloc (.cells #[.slice oa m oc] 23) := ⟨_, rfl⟩
  rw [← hV] at HV0 HX0
  have HX : Hid (V.cell? ⟨w.heap.size, 0, none⟩ = some (.slice oa m oc)) := HX0.out
  have HSz : Hid (V.heap.size = w.heap.size + 1) := by show _ = _; rw [hV, World.size_alloc]
  have HL : Hid (w.heap.size < V.heap.size) := by show _ < _; rw [HSz.out]; exact Nat.lt_succ_self _
  have HR : Hid (∀ U, Below V.heap.size V U → BRow U fa fc first) := fun U hU => (hb.later HV0.out).later hU
  have HO : Hid (∀ U, Below V.heap.size V U → OpsR U oa l) := fun U hU => (h.later HV0.out).later hU
  have HN : Hid (first.length = n) := hn
  have HM : Hid (l.length = m ∧ m ≤ 1099511627776) := ⟨hm, hs⟩
  have HLt : Hid (∀ x ∈ first, x < 256) := hb.lt
  have HOb : Hid (0 < m → ∀ a, oa = some a → a.block < V.heap.size) := fun hm0 a e => by
    obtain ⟨b, off, e1, hc⟩ := h.at_ (by rintro rfl; simp at hm; omega)
    rw [e] at e1; cases e1
    have := World.block_lt_of_cell? _ _ (hc 0 (by omega) 0 _ rfl)
    exact Nat.lt_trans this HL.out
  have HVd : Hid (Below V.heap.size V V.drew) := ⟨rfl, rfl, rfl, Nat.le_refl _, fun _ _ => rfl⟩
  clear hb hn h hm hs HX0
  go_enter Try.func25, Try.ntmps25
  go_wp2_with fail
  rw [← hV]
  clear hV
  refine wp_region_held_drew (S := (fun w' => w'.cell? ⟨w.heap.size, 0, none⟩ = some (.slice oa m oc))) (by kernel_rfl) ?_ (fun hHeld => ?_)
  · exact HX.out
  refine wpAnyH_take (i := 0) (oi := { dst := some 8, op := Op.load 23 (Operand.tmp 3), type := 23, pos := _, after := #[], guard := none }) (v := ?_) rfl (by kernel_rfl) (by kernel_rfl) (by kernel_rfl) (fun _ _ _ h => h) (Or.inl ⟨by rfl, ?_⟩) (by assumption) ?_
  rotate_left
  · (intro w hSw; (try dsimp only at hSw); go_simp) <;> with_reducible rfl
  try simp only [Act.put, List.setIfInBounds_toArray, List.set_cons_zero, List.set_cons_succ]
  refine wpAnyH_take (i := 1) (oi := { dst := some 9, op := Op.move (Operand.tmp 0), type := 22, pos := _, after := #[], guard := none }) (v := ?_) rfl (by kernel_rfl) (by kernel_rfl) (by kernel_rfl) (fun _ _ _ h => h) (Or.inl ⟨by rfl, ?_⟩) (by assumption) ?_
  rotate_left
  · (intro w hSw; (try dsimp only at hSw); go_simp) <;> with_reducible rfl
  try simp only [Act.put, List.setIfInBounds_toArray, List.set_cons_zero, List.set_cons_succ]
  refine wpAnyH_take (i := 3) (oi := { dst := some 11, op := Op.load 23 (Operand.tmp 3), type := 23, pos := _, after := #[], guard := none }) (v := ?_) rfl (by kernel_rfl) (by kernel_rfl) (by kernel_rfl) (fun _ _ _ h => h) (Or.inl ⟨by rfl, ?_⟩) (by assumption) ?_
  rotate_left
  · (intro w hSw; (try dsimp only at hSw); go_simp) <;> with_reducible rfl
  try simp only [Act.put, List.setIfInBounds_toArray, List.set_cons_zero, List.set_cons_succ]
  refine wpAnyH_take (i := 4) (oi := { dst := some 12, op := Op.call { callee := Callee.builtin Builtin.len, args := #[Operand.tmp 11], argTypes := #[23] }, type := 3, pos := _, after := _, guard := none }) (v := ?_) rfl (by kernel_rfl) (by kernel_rfl) (by kernel_rfl) (fun _ _ _ h => h) (Or.inl ⟨by rfl, ?_⟩) (by assumption) ?_
  rotate_left
  · (intro w hSw; (try dsimp only at hSw); go_simp) <;> with_reducible rfl
  try simp only [Act.put, List.setIfInBounds_toArray, List.set_cons_zero, List.set_cons_succ]
  refine wpAnyH_ready (rs := [2, 5]) (by kernel_rfl) (by simp) ?_
  refine AllReadyH.cons (o := { dst := some 10, op := Op.call { callee := Callee.value (Operand.func 42), args := #[Operand.tmp 9], argTypes := #[22] }, type := 22, pos := _, after := _, guard := none }) rfl (fun K hK => ?_) (AllReadyH.cons (o := { dst := some 13, op := Op.makeSlice 53 (Operand.tmp 12) (Operand.tmp 12), type := 53, pos := _, after := _, guard := none }) rfl (fun K hK => ?_) AllReadyH.nil)
  · skip
    go_simp
    go_at_call 42
    refine (clone_any fa fc n first _ (HR.out _ HVd.out) HN.out).mono ?_
    rintro ex W1 ⟨co, cc, rfl, ho1, hb1⟩
    have HO1 : Hid (W1.ownsRow V.heap.size 5 1 (.slice co n cc) n (first.map bv)) := ho1
    have HB1 : Hid (Below V.heap.size V W1) := HVd.out.trans hb1
    clear ho1 hb1
    try go_simp
    clear hHeld
    refine hK.out _ _ ?_ (fun hHeld => ?_)
    · (rw [World.cell?_of_block (a := ⟨w.heap.size, 0, none⟩) (HB1.out.block _ HL.out)]; exact HX.out)
    clear hK K
    try simp only [Act.put, List.setIfInBounds_toArray, List.set_cons_zero, List.set_cons_succ]
    refine wpAnyH_ready (rs := [5]) (by kernel_rfl) (by simp) ?_
    refine AllReadyH.cons (o := { dst := some 13, op := Op.makeSlice 53 (Operand.tmp 12) (Operand.tmp 12), type := 53, pos := _, after := _, guard := none }) rfl (fun K hK => ?_) AllReadyH.nil
    have hmk := run_bools W1 HM.out.2
    go_simp
    have HB2 : Hid (Below V.heap.size V (W1.alloc (.cells (Array.replicate m (Value.bool false)) 4))) := HB1.out.alloc HB1.out.size _
    try go_simp
    clear hHeld
    refine hK.out _ _ ?_ (fun hHeld => ?_)
    · (rw [World.cell?_of_block (a := ⟨w.heap.size, 0, none⟩) (HB2.out.block _ HL.out)]; exact HX.out)
    clear hK K
    try simp only [Act.put, List.setIfInBounds_toArray, List.set_cons_zero, List.set_cons_succ]
    clear hmk
    refine wpAnyH_take (i := 6) (oi := { dst := some 14, op := Op.build 61 #[(0, Operand.tmp 8), (1, Operand.tmp 10), (2, Operand.tmp 13)], type := 61, pos := _, after := _, guard := none }) (v := ?_) rfl (by kernel_rfl) (by kernel_rfl) (by kernel_rfl) (fun _ _ _ h => h) (Or.inl ⟨by rfl, ?_⟩) (by assumption) ?_
    rotate_left
    · (intro w hSw; (try dsimp only at hSw); go_simp) <;> with_reducible rfl
    try simp only [Act.put, List.setIfInBounds_toArray, List.set_cons_zero, List.set_cons_succ]
    refine wpAnyH_ready (rs := [7]) (by kernel_rfl) (by simp) ?_
    refine AllReadyH.cons (o := { dst := some 15, op := Op.box 61 (Operand.tmp 14), type := 56, pos := _, after := _, guard := none }) rfl (fun K hK => ?_) AllReadyH.nil
    go_simp
    obtain ⟨HW1, HW2⟩ : (Wm ((W1.alloc (.cells (Array.replicate m (Value.bool false)) 4)).alloc (.cells #[.slice oa m oc, .slice co n cc, .slice (some ⟨W1.heap.size, 0, none⟩) m m, .slice none 0 0] 61)) V.heap.size (W1.heap.size + 1) oa m oc co n cc first (some ⟨W1.heap.size, 0, none⟩) m (List.replicate m false) none 0 []) ∧ (Below V.heap.size V ((W1.alloc (.cells (Array.replicate m (Value.bool false)) 4)).alloc (.cells #[.slice oa m oc, .slice co n cc, .slice (some ⟨W1.heap.size, 0, none⟩) m m, .slice none 0 0] 61))) := by
      have := wm_new (oa := oa) (oc := oc) HB2.out (owns_far HO1.out (World.grownBy_alloc W1 _ none) (by simp)) (owns_bools HB1.out.size HM.out.2) (fun x hx e => by have := (owns_in HO1.out hx).2; omega) HN.out HLt.out HOb.out
      rw [World.size_alloc] at this
      exact this
    try go_simp
    clear hHeld
    refine hK.out _ _ ?_ (fun hHeld => ?_)
    · (rw [World.cell?_of_block (a := ⟨w.heap.size, 0, none⟩) (HW2.block _ HL.out)]; exact HX.out)
    clear hK K
    try simp only [Act.put, List.setIfInBounds_toArray, List.set_cons_zero, List.set_cons_succ]
    refine wpAnyH_take (i := 8) (oi := { dst := some 5, op := Op.assign (Operand.tmp 15), type := 56, pos := _, after := _, guard := none }) (v := ?_) rfl (by kernel_rfl) (by kernel_rfl) (by kernel_rfl) (fun _ _ _ h => h) (Or.inl ⟨by rfl, ?_⟩) (by assumption) ?_
    rotate_left
    · (intro w hSw; (try dsimp only at hSw); go_simp) <;> with_reducible rfl
    try simp only [Act.put, List.setIfInBounds_toArray, List.set_cons_zero, List.set_cons_succ]
    refine wpAnyH_done (by kernel_rfl) ?_ _
    have cx : ((W1.alloc (.cells (Array.replicate m (Value.bool false)) 4)).alloc (.cells #[.slice oa m oc, .slice co n cc, .slice (some ⟨W1.heap.size, 0, none⟩) m m, .slice none 0 0] 61)).cell? ⟨w.heap.size, 0, none⟩ = some (.slice oa m oc) := by (rw [World.cell?_of_block (a := ⟨w.heap.size, 0, none⟩) (HW2.block _ HL.out)]; exact HX.out)
    have HW1h : Hid _ := HW1
    have HW2h : Hid _ := HW2
    clear HW1 HW2
    go_wp2_with fail
    go_loopw [18] (fun xv wr => ∃ (i : Nat) (wa : Option Addr) (dc : Nat), i ≤ m ∧ xv = .int .i64 (i : Int) ∧ Hid (Wm wr V.heap.size (W1.heap.size + 1) oa m oc co n cc first (some ⟨W1.heap.size, 0, none⟩) m (List.replicate m false) wa dc (owOf l i) ∧ wr.ownsRow V.heap.size 3 1 (.slice wa (owOf l i).length dc) (owOf l i).length ((owOf l i).map iv) ∧ Below V.heap.size V wr)) (fun xv _ => m - (intOf xv).toNat)
    case atStart =>
      have e0 : owOf l 0 = [] := by simp [owOf]
      refine ⟨0, none, 0, Nat.zero_le _, rfl, ?_⟩
      show _ ∧ _ ∧ _
      rw [e0]
      exact ⟨HW1h.out, ⟨rfl, .inl ⟨rfl, rfl⟩⟩, HW2h.out⟩
    case round =>
      obtain ⟨i, wa, dc, hi, rfl, HQ⟩ := hrel
      clear cx HW1h HW2h
      obtain ⟨d, hd⟩ : ∃ d, (owOf l i).length = d := ⟨_, rfl⟩
      have HD : Hid ((owOf l i).length = d ∧ d ≤ 1099511627776) := ⟨hd, by have := owOf_len l i; have := HM.out.2; omega⟩
      have hmx : m ≤ 1099511627776 := HM.out.2
      have hdm : d ≤ m := by have := owOf_len l i; omega
      by_cases hlt : i < m
      · have n9 : decide ((i : Int) < (m : Int)) = true := decide_eq_true (by omega)
        have ii0 : (0 : Int) ≤ (i : Int) := by omega
        have ii9 : (i : Int) < (m : Int) := by omega
        obtain ⟨o, ho⟩ : ∃ o, l[i]? = some o := ⟨_, List.getElem?_eq_getElem (by rw [HM.out.1]; exact hlt)⟩
        have HOo : Hid (l[i]? = some o) := ho
        obtain ⟨b, off, e1, hc2⟩ := ops_at (HO.out wr HQ.out.2.2) ho
        subst e1
        have c0 : wr.cell? ⟨b, off + i * 7, none⟩ = some (.int .i64 o.k) := hc2 0 _ rfl
        have c1 : wr.cell? ⟨b, off + i * 7 + 1, none⟩ = some (.int .i64 o.fr) := hc2 1 _ rfl
        have c2 : wr.cell? ⟨b, off + i * 7 + 2, none⟩ = some (.int .i64 o.to_) := hc2 2 _ rfl
        have c3 : wr.cell? ⟨b, off + i * 7 + 3, none⟩ = some (.int .i64 o.off) := hc2 3 _ rfl
        have c4 : wr.cell? ⟨b, off + i * 7 + 4, none⟩ = some (.int .i64 o.len) := hc2 4 _ rfl
        have c5 : wr.cell? ⟨b, off + i * 7 + 5, none⟩ = some (.slice o.da o.n o.dc) := hc2 5 _ rfl
        have c6 : wr.cell? ⟨b, off + i * 7 + 6, none⟩ = some (.bool o.sy) := hc2 6 _ rfl
        have HA : Hid (∀ U, Calls Try.prog 43 #[.agg #[.int .i64 o.k, .int .i64 o.fr, .int .i64 o.to_, .int .i64 o.off, .int .i64 o.len, .slice o.da o.n o.dc, .bool o.sy]] U fun e w' => e = .returned (.bool o.ans) ∧ Below U.heap.size U w') := fun U => answered_any o U
        have HS : Hid (owOf l (i + 1) = if o.ans then owOf l i ++ [i] else owOf l i) := owOf_succ ho
        clear hc2 ho hd
        go_wp2_with fail
        refine (HA.out _).mono ?_
        rintro e W2 ⟨rfl, hb2⟩
        have hA : Below wr.heap.size wr (wr.alloc (.cells #[.int .i64 o.k, .int .i64 o.fr, .int .i64 o.to_, .int .i64 o.off, .int .i64 o.len, .slice o.da o.n o.dc, .bool o.sy] 50)) := (Below.refl _ wr).alloc (Nat.le_refl _) _
        have HB2 : Hid (Below wr.heap.size wr W2) := hA.trans (hb2.mono hA.size)
        clear hA hb2 c0 c1 c2 c3 c4 c5 c6
        cases ha : o.ans with
        | false =>
          have HS2 : Hid (owOf l (i + 1) = owOf l i) := by have := HS.out; rw [ha] at this; exact this
          go_wp2
          go_roundw
          case rel =>
            refine ⟨i + 1, wa, dc, by omega, by go_num, ?_⟩
            show _ ∧ _ ∧ _
            rw [HS2.out]
            exact ⟨HQ.out.1.later HB2.out, owns_same HQ.out.2.1 (fun g e => HB2.out.block _ (owns_in HQ.out.2.1 e).2), HQ.out.2.2.trans (HB2.out.mono HQ.out.2.2.size)⟩
          case measure => simp [intOf]; omega
        | true =>
          have HS2 : Hid (owOf l (i + 1) = owOf l i ++ [i]) := by have := HS.out; rw [ha] at this; exact this
          have HW2 : Hid (Wm W2 V.heap.size (W1.heap.size + 1) (some ⟨b, off, none⟩) m oc co n cc first (some ⟨W1.heap.size, 0, none⟩) m (List.replicate m false) wa dc (owOf l i)) := HQ.out.1.later HB2.out
          have HO2 : Hid (W2.ownsRow V.heap.size 3 1 (.slice wa (owOf l i).length dc) (owOf l i).length ((owOf l i).map iv)) := owns_same HQ.out.2.1 (fun g e => HB2.out.block _ (owns_in HQ.out.2.1 e).2)
          have k3 : W2.cell? ⟨(W1.heap.size + 1), 3, none⟩ = some (.slice wa d dc) := by have := HW2.out.c3; rw [HD.out.1] at this; exact this
          have HX2 : Hid (Below W2.heap.size W2 (W2.alloc (.cells #[.int .i64 (i : Int)] 3))) := (Below.refl _ _).alloc (Nat.le_refl _) _
          have HO3 : Hid ((W2.alloc (.cells #[.int .i64 (i : Int)] 3)).ownsRow V.heap.size 3 1 (.slice wa d dc) d ((owOf l i).map iv)) := by
            have := owns_far HO2.out (World.grownBy_alloc W2 (.cells #[.int .i64 (i : Int)] 3) none) (by simp)
            rw [HD.out.1] at this; exact this
          have HNw : Hid (∀ ad, some (⟨W2.heap.size, 0, none⟩ : Addr) = some ad → ∀ j u, [Value.int .i64 (i : Int)][j]? = some u → (W2.alloc (.cells #[.int .i64 (i : Int)] 3)).cell? (ad.add j) = some u) := by
            rintro ad e j u hu
            cases e
            rcases j with _ | j
            · cases hu
              exact blk_at (heap_new _ _) 0
            · simp at hu
          obtain ⟨i0, hi0, hz0, hz1, hz2⟩ := info_parts Try.info3
          have HBg : Hid (V.heap.size ≤ W2.heap.size + 1) := Nat.le_succ_of_le (Nat.le_trans HQ.out.2.2.size HB2.out.size)
          go_wp2_with (at_builtin; refine wpList_append_two _ rfl _ _ 24 rfl V.heap.size 3 i0 (.int .i64 0) 8 Try.underlying24 hi0 hz0 hz1 hz2 rfl (.slice wa d dc) d ((owOf l i).map iv) rfl HO3.out (some ⟨W2.heap.size, 0, none⟩) 1 1 [.int .i64 (i : Int)] rfl (fun e => by cases e) rfl HNw.out (by simp [Value.oneCell']) (by have := HD.out.2; unfold maxLen; omega) (by have := HD.out.2; omega) (by rw [World.size_alloc]; exact HBg.out) ?_)
          intro v3 W3 ho3 hg3 hfr3
          obtain ⟨wa3, dc3, e3⟩ : ∃ wa3 dc3, v3 = .slice wa3 (d + 1) dc3 := by
            rcases ho3.2 with ⟨_, h1⟩ | ⟨g, c, cur, h1, _⟩
            · omega
            · exact ⟨_, _, h1⟩
          subst e3
          have HP := HW2.out.push (i := i) HO2.out HX2.out (by rw [HD.out.1]; exact hg3) (by rw [HD.out.1]; exact ho3) (by rw [HD.out.1]; exact hfr3)
          rw [HD.out.1] at HP
          have HPh : Hid _ := HP
          have k4 : W3.cell? ⟨(W1.heap.size + 1), 3, none⟩ = some (.slice wa d dc) := hg3.cell (cell_later HX2.out k3) (fun e => by
            cases wa with
            | none => cases e
            | some a => exact (HW2.out.apW a rfl).1 (Option.some.inj e).symm)
          have k5 : W3.frozen? ⟨(W1.heap.size + 1), 3, none⟩ = false := by
            have h1 : (W1.heap.size + 1) < W2.heap.size := block_lt HW2.out.blk
            rw [World.frozen?_of_block (a := ⟨(W1.heap.size + 1), 3, none⟩) (hg3.block _ (by rw [World.size_alloc]; exact Nat.lt_succ_of_lt h1) (fun e => by
              cases wa with
              | none => cases e
              | some a => exact (HW2.out.apW a rfl).1 (Option.some.inj e).symm))]
            rw [World.frozen?_of_block (a := ⟨(W1.heap.size + 1), 3, none⟩) (HX2.out.block _ h1)]
            exact HW2.out.f3
          clear ho3 hg3 hfr3 HP k3
          go_wp2
          go_roundw
          case rel =>
            refine ⟨i + 1, wa3, dc3, by omega, by go_num, ?_⟩
            show _ ∧ _ ∧ _
            rw [HS2.out]
            exact ⟨HPh.out.1, HPh.out.2.1, (HQ.out.2.2.trans (HB2.out.mono HQ.out.2.2.size)).trans HPh.out.2.2⟩
          case measure => simp [intOf]; omega
      · have n9 : decide ((i : Int) < (m : Int)) = false := decide_eq_false (by omega)
        obtain rfl : i = m := by omega
        have hmf : ∀ (fn : Fn) (first cap : Array Value) (w : World), (Instr.makeFunc fn first cap).run Try.prog w = .ok (.func fn first cap) w := fun _ _ _ _ => rfl
        have k3 : wr.cell? ⟨(W1.heap.size + 1), 3, none⟩ = some (.slice wa d dc) := by have := HQ.out.1.c3; rw [HD.out.1] at this; exact this
        have hbx : wr.cell? ⟨w.heap.size, 0, none⟩ = some (.slice oa i oc) := by rw [World.cell?_of_block (a := ⟨w.heap.size, 0, none⟩) (HQ.out.2.2.block _ HL.out)]; exact HX.out
        have HSo : Hid (Calls Try.prog 44 #[.slice wa d dc, .func (.func 45) #[] #[.pointer (some ⟨w.heap.size, 0, none⟩)]] wr fun e w' => e = .returned (.tuple #[]) ∧ ∃ ow : List Nat, WkS l [] (List.replicate i false) ow ∧ Wm w' V.heap.size (W1.heap.size + 1) oa i oc co n cc first (some ⟨W1.heap.size, 0, none⟩) i (List.replicate i false) wa dc ow ∧ Below V.heap.size V w') := by
          have := HQ.out.1.sorts HQ.out.2.1 HM.out.1 HM.out.2 (by rw [HM.out.1]) (HO.out wr HQ.out.2.2) hbx HL.out
          rw [HD.out.1] at this
          exact this.mono fun e w' ⟨he, ow, h1, h2, h3⟩ => ⟨he, ow, by rw [HM.out.1] at h1; exact h1, h2, HQ.out.2.2.trans h3⟩
        clear hd hbx
        go_wp2_with fail
        refine HSo.out.mono ?_
        rintro e W5 ⟨rfl, ow, h1, h2, h3⟩
        have HFin : Hid (WkS l [] (List.replicate i false) ow ∧ Wm W5 V.heap.size (W1.heap.size + 1) oa i oc co n cc first (some ⟨W1.heap.size, 0, none⟩) i (List.replicate i false) wa dc ow ∧ Below V.heap.size V W5) := ⟨h1, h2, h3⟩
        clear h1 h2 h3 HSo
        go_wp2
        go_ret
        exact ⟨(W1.heap.size + 1), co, cc, (some ⟨W1.heap.size, 0, none⟩), i, wa, dc, ow, rfl, HV0.out.trans (HFin.out.2.2.mono (Nat.le_of_lt HL.out)), by rw [← HSz.out]; exact HFin.out.2.1, HFin.out.1⟩
  · skip
    have hmk := run_bools V.drew HM.out.2
    go_simp
    have HBm : Hid (Below V.heap.size V (V.alloc (.cells (Array.replicate m (Value.bool false)) 4)).drew) := ((Below.refl _ V).alloc (Nat.le_refl _) _).trans ⟨rfl, rfl, rfl, Nat.le_refl _, fun _ _ => rfl⟩
    have h9 : (V.alloc (.cells (Array.replicate m (Value.bool false)) 4)).drew.heap.size = V.heap.size + 1 := World.size_alloc _ _
    try go_simp
    clear hHeld
    refine hK.out _ _ ?_ (fun hHeld => ?_)
    · (rw [World.cell?_of_block (a := ⟨w.heap.size, 0, none⟩) (HBm.out.block _ HL.out)]; exact HX.out)
    clear hK K
    try simp only [Act.put, List.setIfInBounds_toArray, List.set_cons_zero, List.set_cons_succ]
    clear hmk
    refine wpAnyH_ready (rs := [2]) (by kernel_rfl) (by simp) ?_
    refine AllReadyH.cons (o := { dst := some 10, op := Op.call { callee := Callee.value (Operand.func 42), args := #[Operand.tmp 9], argTypes := #[22] }, type := 22, pos := _, after := _, guard := none }) rfl (fun K hK => ?_) AllReadyH.nil
    go_simp
    go_at_call 42
    refine (clone_any fa fc n first _ (HR.out _ HBm.out) HN.out).mono ?_
    rintro ex W1 ⟨co, cc, rfl, ho1, hb1⟩
    have HO1 : Hid (W1.ownsRow (V.heap.size + 1) 5 1 (.slice co n cc) n (first.map bv)) := by have := ho1; rw [h9] at this; exact this
    have HB1 : Hid (Below V.heap.size V W1) := HBm.out.trans (hb1.mono (by rw [h9]; exact Nat.le_succ _))
    have HP1 : Hid (W1.ownsRow V.heap.size 4 1 (.slice (some ⟨V.heap.size, 0, none⟩) m m) m ((List.replicate m false).map Value.bool)) := owns_same (owns_bools (W := V) (Nat.le_refl _) HM.out.2) (fun g e => by cases e; exact hb1.block _ (by rw [h9]; exact Nat.lt_succ_self _))
    clear ho1 hb1 h9
    try go_simp
    clear hHeld
    refine hK.out _ _ ?_ (fun hHeld => ?_)
    · (rw [World.cell?_of_block (a := ⟨w.heap.size, 0, none⟩) (HB1.out.block _ HL.out)]; exact HX.out)
    clear hK K
    try simp only [Act.put, List.setIfInBounds_toArray, List.set_cons_zero, List.set_cons_succ]
    refine wpAnyH_take (i := 6) (oi := { dst := some 14, op := Op.build 61 #[(0, Operand.tmp 8), (1, Operand.tmp 10), (2, Operand.tmp 13)], type := 61, pos := _, after := _, guard := none }) (v := ?_) rfl (by kernel_rfl) (by kernel_rfl) (by kernel_rfl) (fun _ _ _ h => h) (Or.inl ⟨by rfl, ?_⟩) (by assumption) ?_
    rotate_left
    · (intro w hSw; (try dsimp only at hSw); go_simp) <;> with_reducible rfl
    try simp only [Act.put, List.setIfInBounds_toArray, List.set_cons_zero, List.set_cons_succ]
    refine wpAnyH_ready (rs := [7]) (by kernel_rfl) (by simp) ?_
    refine AllReadyH.cons (o := { dst := some 15, op := Op.box 61 (Operand.tmp 14), type := 56, pos := _, after := _, guard := none }) rfl (fun K hK => ?_) AllReadyH.nil
    go_simp
    obtain ⟨HW1, HW2⟩ : (Wm (W1.alloc (.cells #[.slice oa m oc, .slice co n cc, .slice (some ⟨V.heap.size, 0, none⟩) m m, .slice none 0 0] 61)) V.heap.size W1.heap.size oa m oc co n cc first (some ⟨V.heap.size, 0, none⟩) m (List.replicate m false) none 0 []) ∧ (Below V.heap.size V (W1.alloc (.cells #[.slice oa m oc, .slice co n cc, .slice (some ⟨V.heap.size, 0, none⟩) m m, .slice none 0 0] 61))) :=
      wm_new (oa := oa) (oc := oc) HB1.out (owns_mono HO1.out (Nat.le_succ _)) HP1.out (fun x hx e => by have := (owns_in HO1.out hx).1; omega) HN.out HLt.out HOb.out
    try go_simp
    clear hHeld
    refine hK.out _ _ ?_ (fun hHeld => ?_)
    · (rw [World.cell?_of_block (a := ⟨w.heap.size, 0, none⟩) (HW2.block _ HL.out)]; exact HX.out)
    clear hK K
    try simp only [Act.put, List.setIfInBounds_toArray, List.set_cons_zero, List.set_cons_succ]
    refine wpAnyH_take (i := 8) (oi := { dst := some 5, op := Op.assign (Operand.tmp 15), type := 56, pos := _, after := _, guard := none }) (v := ?_) rfl (by kernel_rfl) (by kernel_rfl) (by kernel_rfl) (fun _ _ _ h => h) (Or.inl ⟨by rfl, ?_⟩) (by assumption) ?_
    rotate_left
    · (intro w hSw; (try dsimp only at hSw); go_simp) <;> with_reducible rfl
    try simp only [Act.put, List.setIfInBounds_toArray, List.set_cons_zero, List.set_cons_succ]
    refine wpAnyH_done (by kernel_rfl) ?_ _
    have cx : (W1.alloc (.cells #[.slice oa m oc, .slice co n cc, .slice (some ⟨V.heap.size, 0, none⟩) m m, .slice none 0 0] 61)).cell? ⟨w.heap.size, 0, none⟩ = some (.slice oa m oc) := by (rw [World.cell?_of_block (a := ⟨w.heap.size, 0, none⟩) (HW2.block _ HL.out)]; exact HX.out)
    have HW1h : Hid _ := HW1
    have HW2h : Hid _ := HW2
    clear HW1 HW2
    go_wp2_with fail
    go_loopw [18] (fun xv wr => ∃ (i : Nat) (wa : Option Addr) (dc : Nat), i ≤ m ∧ xv = .int .i64 (i : Int) ∧ Hid (Wm wr V.heap.size W1.heap.size oa m oc co n cc first (some ⟨V.heap.size, 0, none⟩) m (List.replicate m false) wa dc (owOf l i) ∧ wr.ownsRow V.heap.size 3 1 (.slice wa (owOf l i).length dc) (owOf l i).length ((owOf l i).map iv) ∧ Below V.heap.size V wr)) (fun xv _ => m - (intOf xv).toNat)
    case atStart =>
      have e0 : owOf l 0 = [] := by simp [owOf]
      refine ⟨0, none, 0, Nat.zero_le _, rfl, ?_⟩
      show _ ∧ _ ∧ _
      rw [e0]
      exact ⟨HW1h.out, ⟨rfl, .inl ⟨rfl, rfl⟩⟩, HW2h.out⟩
    case round =>
      obtain ⟨i, wa, dc, hi, rfl, HQ⟩ := hrel
      clear cx HW1h HW2h
      obtain ⟨d, hd⟩ : ∃ d, (owOf l i).length = d := ⟨_, rfl⟩
      have HD : Hid ((owOf l i).length = d ∧ d ≤ 1099511627776) := ⟨hd, by have := owOf_len l i; have := HM.out.2; omega⟩
      have hmx : m ≤ 1099511627776 := HM.out.2
      have hdm : d ≤ m := by have := owOf_len l i; omega
      by_cases hlt : i < m
      · have n9 : decide ((i : Int) < (m : Int)) = true := decide_eq_true (by omega)
        have ii0 : (0 : Int) ≤ (i : Int) := by omega
        have ii9 : (i : Int) < (m : Int) := by omega
        obtain ⟨o, ho⟩ : ∃ o, l[i]? = some o := ⟨_, List.getElem?_eq_getElem (by rw [HM.out.1]; exact hlt)⟩
        have HOo : Hid (l[i]? = some o) := ho
        obtain ⟨b, off, e1, hc2⟩ := ops_at (HO.out wr HQ.out.2.2) ho
        subst e1
        have c0 : wr.cell? ⟨b, off + i * 7, none⟩ = some (.int .i64 o.k) := hc2 0 _ rfl
        have c1 : wr.cell? ⟨b, off + i * 7 + 1, none⟩ = some (.int .i64 o.fr) := hc2 1 _ rfl
        have c2 : wr.cell? ⟨b, off + i * 7 + 2, none⟩ = some (.int .i64 o.to_) := hc2 2 _ rfl
        have c3 : wr.cell? ⟨b, off + i * 7 + 3, none⟩ = some (.int .i64 o.off) := hc2 3 _ rfl
        have c4 : wr.cell? ⟨b, off + i * 7 + 4, none⟩ = some (.int .i64 o.len) := hc2 4 _ rfl
        have c5 : wr.cell? ⟨b, off + i * 7 + 5, none⟩ = some (.slice o.da o.n o.dc) := hc2 5 _ rfl
        have c6 : wr.cell? ⟨b, off + i * 7 + 6, none⟩ = some (.bool o.sy) := hc2 6 _ rfl
        have HA : Hid (∀ U, Calls Try.prog 43 #[.agg #[.int .i64 o.k, .int .i64 o.fr, .int .i64 o.to_, .int .i64 o.off, .int .i64 o.len, .slice o.da o.n o.dc, .bool o.sy]] U fun e w' => e = .returned (.bool o.ans) ∧ Below U.heap.size U w') := fun U => answered_any o U
        have HS : Hid (owOf l (i + 1) = if o.ans then owOf l i ++ [i] else owOf l i) := owOf_succ ho
        clear hc2 ho hd
        go_wp2_with fail
        refine (HA.out _).mono ?_
        rintro e W2 ⟨rfl, hb2⟩
        have hA : Below wr.heap.size wr (wr.alloc (.cells #[.int .i64 o.k, .int .i64 o.fr, .int .i64 o.to_, .int .i64 o.off, .int .i64 o.len, .slice o.da o.n o.dc, .bool o.sy] 50)) := (Below.refl _ wr).alloc (Nat.le_refl _) _
        have HB2 : Hid (Below wr.heap.size wr W2) := hA.trans (hb2.mono hA.size)
        clear hA hb2 c0 c1 c2 c3 c4 c5 c6
        cases ha : o.ans with
        | false =>
          have HS2 : Hid (owOf l (i + 1) = owOf l i) := by have := HS.out; rw [ha] at this; exact this
          go_wp2
          go_roundw
          case rel =>
            refine ⟨i + 1, wa, dc, by omega, by go_num, ?_⟩
            show _ ∧ _ ∧ _
            rw [HS2.out]
            exact ⟨HQ.out.1.later HB2.out, owns_same HQ.out.2.1 (fun g e => HB2.out.block _ (owns_in HQ.out.2.1 e).2), HQ.out.2.2.trans (HB2.out.mono HQ.out.2.2.size)⟩
          case measure => simp [intOf]; omega
        | true =>
          have HS2 : Hid (owOf l (i + 1) = owOf l i ++ [i]) := by have := HS.out; rw [ha] at this; exact this
          have HW2 : Hid (Wm W2 V.heap.size W1.heap.size (some ⟨b, off, none⟩) m oc co n cc first (some ⟨V.heap.size, 0, none⟩) m (List.replicate m false) wa dc (owOf l i)) := HQ.out.1.later HB2.out
          have HO2 : Hid (W2.ownsRow V.heap.size 3 1 (.slice wa (owOf l i).length dc) (owOf l i).length ((owOf l i).map iv)) := owns_same HQ.out.2.1 (fun g e => HB2.out.block _ (owns_in HQ.out.2.1 e).2)
          have k3 : W2.cell? ⟨W1.heap.size, 3, none⟩ = some (.slice wa d dc) := by have := HW2.out.c3; rw [HD.out.1] at this; exact this
          have HX2 : Hid (Below W2.heap.size W2 (W2.alloc (.cells #[.int .i64 (i : Int)] 3))) := (Below.refl _ _).alloc (Nat.le_refl _) _
          have HO3 : Hid ((W2.alloc (.cells #[.int .i64 (i : Int)] 3)).ownsRow V.heap.size 3 1 (.slice wa d dc) d ((owOf l i).map iv)) := by
            have := owns_far HO2.out (World.grownBy_alloc W2 (.cells #[.int .i64 (i : Int)] 3) none) (by simp)
            rw [HD.out.1] at this; exact this
          have HNw : Hid (∀ ad, some (⟨W2.heap.size, 0, none⟩ : Addr) = some ad → ∀ j u, [Value.int .i64 (i : Int)][j]? = some u → (W2.alloc (.cells #[.int .i64 (i : Int)] 3)).cell? (ad.add j) = some u) := by
            rintro ad e j u hu
            cases e
            rcases j with _ | j
            · cases hu
              exact blk_at (heap_new _ _) 0
            · simp at hu
          obtain ⟨i0, hi0, hz0, hz1, hz2⟩ := info_parts Try.info3
          have HBg : Hid (V.heap.size ≤ W2.heap.size + 1) := Nat.le_succ_of_le (Nat.le_trans HQ.out.2.2.size HB2.out.size)
          go_wp2_with (at_builtin; refine wpList_append_two _ rfl _ _ 24 rfl V.heap.size 3 i0 (.int .i64 0) 8 Try.underlying24 hi0 hz0 hz1 hz2 rfl (.slice wa d dc) d ((owOf l i).map iv) rfl HO3.out (some ⟨W2.heap.size, 0, none⟩) 1 1 [.int .i64 (i : Int)] rfl (fun e => by cases e) rfl HNw.out (by simp [Value.oneCell']) (by have := HD.out.2; unfold maxLen; omega) (by have := HD.out.2; omega) (by rw [World.size_alloc]; exact HBg.out) ?_)
          intro v3 W3 ho3 hg3 hfr3
          obtain ⟨wa3, dc3, e3⟩ : ∃ wa3 dc3, v3 = .slice wa3 (d + 1) dc3 := by
            rcases ho3.2 with ⟨_, h1⟩ | ⟨g, c, cur, h1, _⟩
            · omega
            · exact ⟨_, _, h1⟩
          subst e3
          have HP := HW2.out.push (i := i) HO2.out HX2.out (by rw [HD.out.1]; exact hg3) (by rw [HD.out.1]; exact ho3) (by rw [HD.out.1]; exact hfr3)
          rw [HD.out.1] at HP
          have HPh : Hid _ := HP
          have k4 : W3.cell? ⟨W1.heap.size, 3, none⟩ = some (.slice wa d dc) := hg3.cell (cell_later HX2.out k3) (fun e => by
            cases wa with
            | none => cases e
            | some a => exact (HW2.out.apW a rfl).1 (Option.some.inj e).symm)
          have k5 : W3.frozen? ⟨W1.heap.size, 3, none⟩ = false := by
            have h1 : W1.heap.size < W2.heap.size := block_lt HW2.out.blk
            rw [World.frozen?_of_block (a := ⟨W1.heap.size, 3, none⟩) (hg3.block _ (by rw [World.size_alloc]; exact Nat.lt_succ_of_lt h1) (fun e => by
              cases wa with
              | none => cases e
              | some a => exact (HW2.out.apW a rfl).1 (Option.some.inj e).symm))]
            rw [World.frozen?_of_block (a := ⟨W1.heap.size, 3, none⟩) (HX2.out.block _ h1)]
            exact HW2.out.f3
          clear ho3 hg3 hfr3 HP k3
          go_wp2
          go_roundw
          case rel =>
            refine ⟨i + 1, wa3, dc3, by omega, by go_num, ?_⟩
            show _ ∧ _ ∧ _
            rw [HS2.out]
            exact ⟨HPh.out.1, HPh.out.2.1, (HQ.out.2.2.trans (HB2.out.mono HQ.out.2.2.size)).trans HPh.out.2.2⟩
          case measure => simp [intOf]; omega
      · have n9 : decide ((i : Int) < (m : Int)) = false := decide_eq_false (by omega)
        obtain rfl : i = m := by omega
        have hmf : ∀ (fn : Fn) (first cap : Array Value) (w : World), (Instr.makeFunc fn first cap).run Try.prog w = .ok (.func fn first cap) w := fun _ _ _ _ => rfl
        have k3 : wr.cell? ⟨W1.heap.size, 3, none⟩ = some (.slice wa d dc) := by have := HQ.out.1.c3; rw [HD.out.1] at this; exact this
        have hbx : wr.cell? ⟨w.heap.size, 0, none⟩ = some (.slice oa i oc) := by rw [World.cell?_of_block (a := ⟨w.heap.size, 0, none⟩) (HQ.out.2.2.block _ HL.out)]; exact HX.out
        have HSo : Hid (Calls Try.prog 44 #[.slice wa d dc, .func (.func 45) #[] #[.pointer (some ⟨w.heap.size, 0, none⟩)]] wr fun e w' => e = .returned (.tuple #[]) ∧ ∃ ow : List Nat, WkS l [] (List.replicate i false) ow ∧ Wm w' V.heap.size W1.heap.size oa i oc co n cc first (some ⟨V.heap.size, 0, none⟩) i (List.replicate i false) wa dc ow ∧ Below V.heap.size V w') := by
          have := HQ.out.1.sorts HQ.out.2.1 HM.out.1 HM.out.2 (by rw [HM.out.1]) (HO.out wr HQ.out.2.2) hbx HL.out
          rw [HD.out.1] at this
          exact this.mono fun e w' ⟨he, ow, h1, h2, h3⟩ => ⟨he, ow, by rw [HM.out.1] at h1; exact h1, h2, HQ.out.2.2.trans h3⟩
        clear hd hbx
        go_wp2_with fail
        refine HSo.out.mono ?_
        rintro e W5 ⟨rfl, ow, h1, h2, h3⟩
        have HFin : Hid (WkS l [] (List.replicate i false) ow ∧ Wm W5 V.heap.size W1.heap.size oa i oc co n cc first (some ⟨V.heap.size, 0, none⟩) i (List.replicate i false) wa dc ow ∧ Below V.heap.size V W5) := ⟨h1, h2, h3⟩
        clear h1 h2 h3 HSo
        go_wp2
        go_ret
        exact ⟨W1.heap.size, co, cc, (some ⟨V.heap.size, 0, none⟩), i, wa, dc, ow, rfl, HV0.out.trans (HFin.out.2.2.mono (Nat.le_of_lt HL.out)), by rw [← HSz.out]; exact HFin.out.2.1, HFin.out.1⟩
end Go.Proofs.Ytjkoambfecmglaa
