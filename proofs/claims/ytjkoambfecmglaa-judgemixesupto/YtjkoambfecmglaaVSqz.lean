import Derived.Test.YtjkoambfecmglaaVSpz
namespace Go.Proofs.Ytjkoambfecmglaa
open Go.RowKit Go.Maps
set_option linter.unusedVariables false
set_option linter.unusedSimpArgs false
set_option maxRecDepth 100000
/-- the same operation, its data elsewhere -/
def Sib (p q : Opv) : Prop := q = ⟨p.k, p.fr, p.to_, p.off, p.len, q.da, p.n, q.dc, p.sy⟩
set_option maxHeartbeats 32000000 in
/-- the same operations are the same -/
theorem sameOps_any (oa ob : Option Addr) (m oc oc2 : Nat) (l l2 : List Opv) (dss : List (List Nat)) (w : World) (hm : l.length = m) (hm2 : l2.length = m) (hs : m ≤ 1099511627776) (h : OpsD w oa l dss) (h2 : OpsD w ob l2 dss) (hq : ∀ (k : Nat) (p q : Opv), l[k]? = some p → l2[k]? = some q → Sib p q) :
    Calls Try.prog 14 #[.slice oa m oc, .slice ob m oc2] w fun e w' => e = .returned (.bool true) ∧ Below w.heap.size w w' := by
  have HD : Hid (OpsD w oa l dss ∧ OpsD w ob l2 dss ∧ l.length = m ∧ l2.length = m ∧ ∀ (k : Nat) (p q : Opv), l[k]? = some p → l2[k]? = some q → Sib p q) := ⟨h, h2, hm, hm2, hq⟩
  clear h h2 hm hm2 hq
  go_enter Try.func14, Try.ntmps14
  go_wp2
  go_loopw [5] (fun xv wr => ∃ (i : Nat), i ≤ m ∧ xv = .int .i64 (i : Int) ∧ Hid (Below w.heap.size w wr)) (fun xv _ => m - (intOf xv).toNat)
  case atStart => exact ⟨0, Nat.zero_le _, rfl, Below.refl _ _⟩
  case round =>
    obtain ⟨i, hi, rfl, HB⟩ := hrel
    by_cases hlt : i < m
    · have n9 : decide ((i : Int) < (m : Int)) = true := decide_eq_true (by omega)
      have ii0 : (0 : Int) ≤ (i : Int) := by omega
      have ii9 : (i : Int) < (m : Int) := by omega
      obtain ⟨p, hp⟩ : ∃ p, l[i]? = some p := ⟨_, List.getElem?_eq_getElem (by rw [HD.out.2.2.1]; exact hlt)⟩
      obtain ⟨p2, hp2⟩ : ∃ p2, l2[i]? = some p2 := ⟨_, List.getElem?_eq_getElem (by rw [HD.out.2.2.2.1]; exact hlt)⟩
      have hsib := HD.out.2.2.2.2 i p p2 hp hp2
      obtain ⟨b, o, e1, hc⟩ := ops_at (HD.out.1.ops.later HB.out) hp
      obtain ⟨b2, o2, e2, hc2⟩ := ops_at (HD.out.2.1.ops.later HB.out) hp2
      obtain ⟨ds, hds⟩ : ∃ ds, dss[i]? = some ds := ⟨_, List.getElem?_eq_getElem (by rw [HD.out.1.len, HD.out.2.2.1]; exact hlt)⟩
      obtain ⟨hr1, hr2⟩ := HD.out.1.row i p ds hp hds
      obtain ⟨hr3, hr4⟩ := HD.out.2.1.row i p2 ds hp2 hds
      obtain ⟨ka, fra, ta, offa, lena, da, na, dc, sya⟩ := p
      obtain ⟨k, fr, t, off, len, da2, n, dc2, sy⟩ := p2
      unfold Sib at hsib
      injection hsib with g1 g2 g3 g4 g5 g6 g7 g8 g9
      simp only at g1 g2 g3 g4 g5 g7 g9
      subst g1 g2 g3 g4 g5 g7 g9
      subst e1 e2
      have HSx : Hid (∀ V, Below wr.heap.size wr V → (fun w' => w'.cell? ⟨b, o + i * 7, none⟩ = some (.int .i64 k) ∧ w'.cell? ⟨b, o + i * 7 + 1, none⟩ = some (.int .i64 fr) ∧ w'.cell? ⟨b, o + i * 7 + 2, none⟩ = some (.int .i64 t) ∧ w'.cell? ⟨b, o + i * 7 + 3, none⟩ = some (.int .i64 off) ∧ w'.cell? ⟨b, o + i * 7 + 4, none⟩ = some (.int .i64 len) ∧ w'.cell? ⟨b, o + i * 7 + 5, none⟩ = some (.slice da n dc) ∧ w'.cell? ⟨b, o + i * 7 + 6, none⟩ = some (.bool sy) ∧ w'.cell? ⟨b2, o2 + i * 7, none⟩ = some (.int .i64 k) ∧ w'.cell? ⟨b2, o2 + i * 7 + 1, none⟩ = some (.int .i64 fr) ∧ w'.cell? ⟨b2, o2 + i * 7 + 2, none⟩ = some (.int .i64 t) ∧ w'.cell? ⟨b2, o2 + i * 7 + 3, none⟩ = some (.int .i64 off) ∧ w'.cell? ⟨b2, o2 + i * 7 + 4, none⟩ = some (.int .i64 len) ∧ w'.cell? ⟨b2, o2 + i * 7 + 5, none⟩ = some (.slice da2 n dc2) ∧ w'.cell? ⟨b2, o2 + i * 7 + 6, none⟩ = some (.bool sy)) V) := fun V hV => by
        refine ⟨cell_later hV (hc 0 _ rfl), cell_later hV (hc 1 _ rfl), cell_later hV (hc 2 _ rfl), cell_later hV (hc 3 _ rfl), cell_later hV (hc 4 _ rfl), cell_later hV (hc 5 _ rfl), cell_later hV (hc 6 _ rfl), cell_later hV (hc2 0 _ rfl), cell_later hV (hc2 1 _ rfl), cell_later hV (hc2 2 _ rfl), cell_later hV (hc2 3 _ rfl), cell_later hV (hc2 4 _ rfl), cell_later hV (hc2 5 _ rfl), cell_later hV (hc2 6 _ rfl)⟩
      have HBr : Hid (Below wr.heap.size wr wr.drew) := ⟨rfl, rfl, rfl, Nat.le_refl _, fun _ _ => rfl⟩
      have HSm : Hid (∀ V, Below wr.heap.size wr V → Calls Try.prog 13 #[.slice da n dc, .slice da2 n dc2] V fun e w' => e = .returned (.bool true) ∧ ∃ q, w' = V.drewN q) := fun V hV => by
        have hbv := HB.out.trans (hV.mono HB.out.size)
        have := same_any da da2 dc dc2 ds ds V (hr1.later hbv) (hr3.later hbv)
        rw [hr2] at this
        refine this.mono ?_
        rintro e w' ⟨rfl, hq⟩
        exact ⟨by simp, hq⟩
      clear hp hp2 hc hc2 hds hr1 hr2 hr3 hr4 g6 g8
      go_wp2_with fail
      refine wp_region_held_drew (S := (fun w' => w'.cell? ⟨b, o + i * 7, none⟩ = some (.int .i64 k) ∧ w'.cell? ⟨b, o + i * 7 + 1, none⟩ = some (.int .i64 fr) ∧ w'.cell? ⟨b, o + i * 7 + 2, none⟩ = some (.int .i64 t) ∧ w'.cell? ⟨b, o + i * 7 + 3, none⟩ = some (.int .i64 off) ∧ w'.cell? ⟨b, o + i * 7 + 4, none⟩ = some (.int .i64 len) ∧ w'.cell? ⟨b, o + i * 7 + 5, none⟩ = some (.slice da n dc) ∧ w'.cell? ⟨b, o + i * 7 + 6, none⟩ = some (.bool sy) ∧ w'.cell? ⟨b2, o2 + i * 7, none⟩ = some (.int .i64 k) ∧ w'.cell? ⟨b2, o2 + i * 7 + 1, none⟩ = some (.int .i64 fr) ∧ w'.cell? ⟨b2, o2 + i * 7 + 2, none⟩ = some (.int .i64 t) ∧ w'.cell? ⟨b2, o2 + i * 7 + 3, none⟩ = some (.int .i64 off) ∧ w'.cell? ⟨b2, o2 + i * 7 + 4, none⟩ = some (.int .i64 len) ∧ w'.cell? ⟨b2, o2 + i * 7 + 5, none⟩ = some (.slice da2 n dc2) ∧ w'.cell? ⟨b2, o2 + i * 7 + 6, none⟩ = some (.bool sy))) (by kernel_rfl) ?_ (fun hHeld => ?_)
      · exact HSx.out _ HBr.out
      refine wpAnyH_take (i := 0) (oi := { dst := some 20, op := Op.move (Operand.tmp 0), type := 23, pos := _, after := #[], guard := none }) (v := ?_) rfl (by kernel_rfl) (by kernel_rfl) (by kernel_rfl) (fun _ _ _ h => h) (Or.inl ⟨by rfl, ?_⟩) (by assumption) ?_
      rotate_left
      · (intro w hSw; (try dsimp only at hSw); go_simp) <;> with_reducible rfl
      try simp only [Act.put, List.setIfInBounds_toArray, List.set_cons_zero, List.set_cons_succ]
      refine wpAnyH_take (i := 1) (oi := { dst := some 21, op := Op.move (Operand.tmp 5), type := 3, pos := _, after := #[], guard := none }) (v := ?_) rfl (by kernel_rfl) (by kernel_rfl) (by kernel_rfl) (fun _ _ _ h => h) (Or.inl ⟨by rfl, ?_⟩) (by assumption) ?_
      rotate_left
      · (intro w hSw; (try dsimp only at hSw); go_simp) <;> with_reducible rfl
      try simp only [Act.put, List.setIfInBounds_toArray, List.set_cons_zero, List.set_cons_succ]
      refine wpAnyH_take (i := 2) (oi := { dst := some 22, op := Op.indexAddr 23 (Operand.tmp 20) (Operand.tmp 21), type := 0, pos := _, after := #[{ on := 0, ground := Ground.data }, { on := 1, ground := Ground.data }], guard := none }) (v := ?_) rfl (by kernel_rfl) (by kernel_rfl) (by kernel_rfl) (fun _ _ _ h => h) (Or.inl ⟨by rfl, ?_⟩) (by assumption) ?_
      rotate_left
      · (intro w hSw; (try dsimp only at hSw); go_simp) <;> with_reducible rfl
      try simp only [Act.put, List.setIfInBounds_toArray, List.set_cons_zero, List.set_cons_succ]
      refine wpAnyH_take (i := 3) (oi := { dst := some 23, op := Op.load 50 (Operand.tmp 22), type := 50, pos := _, after := #[{ on := 2, ground := Ground.data }], guard := none }) (v := ?_) rfl (by kernel_rfl) (by kernel_rfl) (by kernel_rfl) (fun _ _ _ h => h) (Or.inl ⟨by rfl, ?_⟩) (by assumption) ?_
      rotate_left
      · (intro w hSw; (try dsimp only at hSw); go_simp) <;> with_reducible rfl
      try simp only [Act.put, List.setIfInBounds_toArray, List.set_cons_zero, List.set_cons_succ]
      refine wpAnyH_take (i := 4) (oi := { dst := some 24, op := Op.move (Operand.tmp 1), type := 23, pos := _, after := #[{ on := 10, ground := Ground.gcOnly Departure.lateStores }], guard := none }) (v := ?_) rfl (by kernel_rfl) (by kernel_rfl) (by kernel_rfl) (fun _ _ _ h => h) (Or.inl ⟨by rfl, ?_⟩) (by assumption) ?_
      rotate_left
      · (intro w hSw; (try dsimp only at hSw); go_simp) <;> with_reducible rfl
      try simp only [Act.put, List.setIfInBounds_toArray, List.set_cons_zero, List.set_cons_succ]
      refine wpAnyH_take (i := 5) (oi := { dst := some 25, op := Op.move (Operand.tmp 5), type := 3, pos := _, after := #[{ on := 10, ground := Ground.gcOnly Departure.lateStores }], guard := none }) (v := ?_) rfl (by kernel_rfl) (by kernel_rfl) (by kernel_rfl) (fun _ _ _ h => h) (Or.inl ⟨by rfl, ?_⟩) (by assumption) ?_
      rotate_left
      · (intro w hSw; (try dsimp only at hSw); go_simp) <;> with_reducible rfl
      try simp only [Act.put, List.setIfInBounds_toArray, List.set_cons_zero, List.set_cons_succ]
      refine wpAnyH_take (i := 6) (oi := { dst := some 26, op := Op.indexAddr 23 (Operand.tmp 24) (Operand.tmp 25), type := 0, pos := _, after := #[{ on := 4, ground := Ground.data }, { on := 5, ground := Ground.data }, { on := 10, ground := Ground.gcOnly Departure.lateStores }], guard := none }) (v := ?_) rfl (by kernel_rfl) (by kernel_rfl) (by kernel_rfl) (fun _ _ _ h => h) (Or.inl ⟨by rfl, ?_⟩) (by assumption) ?_
      rotate_left
      · (intro w hSw; (try dsimp only at hSw); go_simp) <;> with_reducible rfl
      try simp only [Act.put, List.setIfInBounds_toArray, List.set_cons_zero, List.set_cons_succ]
      refine wpAnyH_take (i := 7) (oi := { dst := some 27, op := Op.load 50 (Operand.tmp 26), type := 50, pos := _, after := #[{ on := 6, ground := Ground.data }, { on := 10, ground := Ground.gcOnly Departure.lateStores }], guard := none }) (v := ?_) rfl (by kernel_rfl) (by kernel_rfl) (by kernel_rfl) (fun _ _ _ h => h) (Or.inl ⟨by rfl, ?_⟩) (by assumption) ?_
      rotate_left
      · (intro w hSw; (try dsimp only at hSw); go_simp) <;> with_reducible rfl
      try simp only [Act.put, List.setIfInBounds_toArray, List.set_cons_zero, List.set_cons_succ]
      refine wpAnyH_ready (rs := [8, 9]) (by kernel_rfl) (by simp) ?_
      refine AllReadyH.cons (o := { dst := some 6, op := Op.alloc 50, type := 0, pos := _, after := #[], guard := none }) rfl (fun K hK => ?_) (AllReadyH.cons (o := { dst := some 7, op := Op.alloc 50, type := 0, pos := _, after := #[], guard := none }) rfl (fun K hK => ?_) AllReadyH.nil)
      · go_simp
        skip
        try go_simp
        clear hHeld
        refine hK.out _ _ ?_ (fun hHeld => ?_)
        · exact HSx.out _ (by first | exact (Below.refl _ _) | exact ⟨rfl, rfl, rfl, Nat.le_refl _, fun _ _ => rfl⟩ | exact (((Below.refl _ _).alloc (Nat.le_refl _) _).trans ⟨rfl, rfl, rfl, Nat.le_refl _, fun _ _ => rfl⟩) | exact ((((Below.refl _ _).alloc (Nat.le_refl _) _).alloc (by rw [World.size_alloc]; exact Nat.le_succ _) _).trans ⟨rfl, rfl, rfl, Nat.le_refl _, fun _ _ => rfl⟩))
        clear hK K
        try simp only [Act.put, List.setIfInBounds_toArray, List.set_cons_zero, List.set_cons_succ]
        refine wpAnyH_ready (rs := [9]) (by kernel_rfl) (by simp) ?_
        refine AllReadyH.cons (o := { dst := some 7, op := Op.alloc 50, type := 0, pos := _, after := #[], guard := none }) rfl (fun K hK => ?_) AllReadyH.nil
        go_simp
        skip
        try go_simp
        clear hHeld
        refine hK.out _ _ ?_ (fun hHeld => ?_)
        · exact HSx.out _ (by first | exact (Below.refl _ _) | exact ⟨rfl, rfl, rfl, Nat.le_refl _, fun _ _ => rfl⟩ | exact (((Below.refl _ _).alloc (Nat.le_refl _) _).trans ⟨rfl, rfl, rfl, Nat.le_refl _, fun _ _ => rfl⟩) | exact ((((Below.refl _ _).alloc (Nat.le_refl _) _).alloc (by rw [World.size_alloc]; exact Nat.le_succ _) _).trans ⟨rfl, rfl, rfl, Nat.le_refl _, fun _ _ => rfl⟩))
        clear hK K
        try simp only [Act.put, List.setIfInBounds_toArray, List.set_cons_zero, List.set_cons_succ]
        refine wpAnyH_ready (rs := [10]) (by kernel_rfl) (by simp) ?_
        refine AllReadyH.cons (o := { dst := none, op := Op.store 50 (Operand.tmp 6) (Operand.tmp 23), type := 0, pos := _, after := #[{ on := 8, ground := Ground.data }, { on := 3, ground := Ground.data }, { on := 0, ground := Ground.phase }, { on := 1, ground := Ground.phase }, { on := 2, ground := Ground.phase }, { on := 3, ground := Ground.phase }, { on := 4, ground := Ground.textOnly Departure.lateStores }, { on := 5, ground := Ground.textOnly Departure.lateStores }, { on := 6, ground := Ground.textOnly Departure.lateStores }, { on := 7, ground := Ground.textOnly Departure.lateStores }, { on := 8, ground := Ground.phase }, { on := 9, ground := Ground.phase }], guard := none }) rfl (fun K hK => ?_) AllReadyH.nil
        go_simp
        skip
        try go_simp
        clear hHeld
        refine hK.out _ _ ?_ (fun hHeld => ?_)
        · exact HSx.out _ (by first | exact (Below.refl _ _) | exact ⟨rfl, rfl, rfl, Nat.le_refl _, fun _ _ => rfl⟩ | exact (((Below.refl _ _).alloc (Nat.le_refl _) _).trans ⟨rfl, rfl, rfl, Nat.le_refl _, fun _ _ => rfl⟩) | exact ((((Below.refl _ _).alloc (Nat.le_refl _) _).alloc (by rw [World.size_alloc]; exact Nat.le_succ _) _).trans ⟨rfl, rfl, rfl, Nat.le_refl _, fun _ _ => rfl⟩))
        clear hK K
        try simp only [Act.put, List.setIfInBounds_toArray, List.set_cons_zero, List.set_cons_succ]
        refine wpAnyH_ready (rs := [11]) (by kernel_rfl) (by simp) ?_
        refine AllReadyH.cons (o := { dst := none, op := Op.store 50 (Operand.tmp 7) (Operand.tmp 27), type := 0, pos := _, after := #[{ on := 9, ground := Ground.data }, { on := 7, ground := Ground.data }, { on := 10, ground := Ground.chain }, { on := 0, ground := Ground.phase }, { on := 1, ground := Ground.phase }, { on := 2, ground := Ground.phase }, { on := 3, ground := Ground.phase }, { on := 4, ground := Ground.phase }, { on := 5, ground := Ground.phase }, { on := 6, ground := Ground.phase }, { on := 7, ground := Ground.phase }, { on := 8, ground := Ground.phase }, { on := 9, ground := Ground.phase }, { on := 10, ground := Ground.phase }], guard := none }) rfl (fun K hK => ?_) AllReadyH.nil
        go_simp
        skip
        try go_simp
        clear hHeld
        refine hK.out _ _ ?_ (fun hHeld => ?_)
        · exact HSx.out _ (by first | exact (Below.refl _ _) | exact ⟨rfl, rfl, rfl, Nat.le_refl _, fun _ _ => rfl⟩ | exact (((Below.refl _ _).alloc (Nat.le_refl _) _).trans ⟨rfl, rfl, rfl, Nat.le_refl _, fun _ _ => rfl⟩) | exact ((((Below.refl _ _).alloc (Nat.le_refl _) _).alloc (by rw [World.size_alloc]; exact Nat.le_succ _) _).trans ⟨rfl, rfl, rfl, Nat.le_refl _, fun _ _ => rfl⟩))
        clear hK K
        try simp only [Act.put, List.setIfInBounds_toArray, List.set_cons_zero, List.set_cons_succ]
        refine wpAnyH_done (by kernel_rfl) ?_ _
        clear hHeld
        go_wp2_with fail
        refine (HSm.out _ (by first | exact (Below.refl _ _) | exact ⟨rfl, rfl, rfl, Nat.le_refl _, fun _ _ => rfl⟩ | exact (((Below.refl _ _).alloc (Nat.le_refl _) _).trans ⟨rfl, rfl, rfl, Nat.le_refl _, fun _ _ => rfl⟩) | exact ((((Below.refl _ _).alloc (Nat.le_refl _) _).alloc (by rw [World.size_alloc]; exact Nat.le_succ _) _).trans ⟨rfl, rfl, rfl, Nat.le_refl _, fun _ _ => rfl⟩))).mono ?_
        rintro e W5 ⟨rfl, q, hq⟩
        have HB5 : Hid (Below wr.heap.size wr W5 ∧ W5.heap[wr.heap.size]? = some (.cells #[.int .i64 k, .int .i64 fr, .int .i64 t, .int .i64 off, .int .i64 len, .slice da n dc, .bool sy] 50 (0, 0)) ∧ W5.heap[wr.heap.size + 1]? = some (.cells #[.int .i64 k, .int .i64 fr, .int .i64 t, .int .i64 off, .int .i64 len, .slice da2 n dc2, .bool sy] 50 (0, 0))) := by
          subst hq
          refine ⟨Below.trans (b := ((wr.alloc (.cells #[.int .i64 k, .int .i64 fr, .int .i64 t, .int .i64 off, .int .i64 len, .slice da n dc, .bool sy] 50)).alloc (.cells #[.int .i64 k, .int .i64 fr, .int .i64 t, .int .i64 off, .int .i64 len, .slice da2 n dc2, .bool sy] 50)).drew) (by first | exact (Below.refl _ _) | exact ⟨rfl, rfl, rfl, Nat.le_refl _, fun _ _ => rfl⟩ | exact (((Below.refl _ _).alloc (Nat.le_refl _) _).trans ⟨rfl, rfl, rfl, Nat.le_refl _, fun _ _ => rfl⟩) | exact ((((Below.refl _ _).alloc (Nat.le_refl _) _).alloc (by rw [World.size_alloc]; exact Nat.le_succ _) _).trans ⟨rfl, rfl, rfl, Nat.le_refl _, fun _ _ => rfl⟩)) ⟨rfl, rfl, rfl, Nat.le_refl _, fun _ _ => rfl⟩, ?_, ?_⟩
          · have h9 : ((wr.alloc (.cells #[.int .i64 k, .int .i64 fr, .int .i64 t, .int .i64 off, .int .i64 len, .slice da n dc, .bool sy] 50)).alloc (.cells #[.int .i64 k, .int .i64 fr, .int .i64 t, .int .i64 off, .int .i64 len, .slice da2 n dc2, .bool sy] 50)).heap[wr.heap.size]? = some (.cells #[.int .i64 k, .int .i64 fr, .int .i64 t, .int .i64 off, .int .i64 len, .slice da n dc, .bool sy] 50 (0, 0)) := old_at (heap_new _ _)
            exact h9
          · have h9 : ((wr.alloc (.cells #[.int .i64 k, .int .i64 fr, .int .i64 t, .int .i64 off, .int .i64 len, .slice da n dc, .bool sy] 50)).alloc (.cells #[.int .i64 k, .int .i64 fr, .int .i64 t, .int .i64 off, .int .i64 len, .slice da2 n dc2, .bool sy] 50)).heap[wr.heap.size + 1]? = some (.cells #[.int .i64 k, .int .i64 fr, .int .i64 t, .int .i64 off, .int .i64 len, .slice da2 n dc2, .bool sy] 50 (0, 0)) := new_at _ _ _ (World.size_alloc _ _)
            exact h9
        have c0 : W5.cell? ⟨wr.heap.size, 0, none⟩ = some (.int .i64 k) := blk_at HB5.out.2.1 0
        have c1 : W5.cell? ⟨wr.heap.size, 1, none⟩ = some (.int .i64 fr) := blk_at HB5.out.2.1 1
        have c2 : W5.cell? ⟨wr.heap.size, 2, none⟩ = some (.int .i64 t) := blk_at HB5.out.2.1 2
        have c3 : W5.cell? ⟨wr.heap.size, 3, none⟩ = some (.int .i64 off) := blk_at HB5.out.2.1 3
        have c4 : W5.cell? ⟨wr.heap.size, 4, none⟩ = some (.int .i64 len) := blk_at HB5.out.2.1 4
        have c5 : W5.cell? ⟨wr.heap.size, 5, none⟩ = some (.slice da n dc) := blk_at HB5.out.2.1 5
        have c6 : W5.cell? ⟨wr.heap.size, 6, none⟩ = some (.bool sy) := blk_at HB5.out.2.1 6
        have d0 : W5.cell? ⟨wr.heap.size + 1, 0, none⟩ = some (.int .i64 k) := blk_at HB5.out.2.2 0
        have d1 : W5.cell? ⟨wr.heap.size + 1, 1, none⟩ = some (.int .i64 fr) := blk_at HB5.out.2.2 1
        have d2 : W5.cell? ⟨wr.heap.size + 1, 2, none⟩ = some (.int .i64 t) := blk_at HB5.out.2.2 2
        have d3 : W5.cell? ⟨wr.heap.size + 1, 3, none⟩ = some (.int .i64 off) := blk_at HB5.out.2.2 3
        have d4 : W5.cell? ⟨wr.heap.size + 1, 4, none⟩ = some (.int .i64 len) := blk_at HB5.out.2.2 4
        have d5 : W5.cell? ⟨wr.heap.size + 1, 5, none⟩ = some (.slice da2 n dc2) := blk_at HB5.out.2.2 5
        have d6 : W5.cell? ⟨wr.heap.size + 1, 6, none⟩ = some (.bool sy) := blk_at HB5.out.2.2 6
        have HBe : Hid (Below w.heap.size w W5) := HB.out.trans (HB5.out.1.mono HB.out.size)
        clear hq HB5 HSx HSm
        go_wp2_with fail
        go_roundw
        case rel => exact ⟨i + 1, by omega, by go_num, HBe.out⟩
        case measure => simp [intOf]; omega
      · go_simp
        skip
        try go_simp
        clear hHeld
        refine hK.out _ _ ?_ (fun hHeld => ?_)
        · exact HSx.out _ (by first | exact (Below.refl _ _) | exact ⟨rfl, rfl, rfl, Nat.le_refl _, fun _ _ => rfl⟩ | exact (((Below.refl _ _).alloc (Nat.le_refl _) _).trans ⟨rfl, rfl, rfl, Nat.le_refl _, fun _ _ => rfl⟩) | exact ((((Below.refl _ _).alloc (Nat.le_refl _) _).alloc (by rw [World.size_alloc]; exact Nat.le_succ _) _).trans ⟨rfl, rfl, rfl, Nat.le_refl _, fun _ _ => rfl⟩))
        clear hK K
        try simp only [Act.put, List.setIfInBounds_toArray, List.set_cons_zero, List.set_cons_succ]
        refine wpAnyH_ready (rs := [8]) (by kernel_rfl) (by simp) ?_
        refine AllReadyH.cons (o := { dst := some 6, op := Op.alloc 50, type := 0, pos := _, after := #[], guard := none }) rfl (fun K hK => ?_) AllReadyH.nil
        go_simp
        skip
        try go_simp
        clear hHeld
        refine hK.out _ _ ?_ (fun hHeld => ?_)
        · exact HSx.out _ (by first | exact (Below.refl _ _) | exact ⟨rfl, rfl, rfl, Nat.le_refl _, fun _ _ => rfl⟩ | exact (((Below.refl _ _).alloc (Nat.le_refl _) _).trans ⟨rfl, rfl, rfl, Nat.le_refl _, fun _ _ => rfl⟩) | exact ((((Below.refl _ _).alloc (Nat.le_refl _) _).alloc (by rw [World.size_alloc]; exact Nat.le_succ _) _).trans ⟨rfl, rfl, rfl, Nat.le_refl _, fun _ _ => rfl⟩))
        clear hK K
        try simp only [Act.put, List.setIfInBounds_toArray, List.set_cons_zero, List.set_cons_succ]
        refine wpAnyH_ready (rs := [10]) (by kernel_rfl) (by simp) ?_
        refine AllReadyH.cons (o := { dst := none, op := Op.store 50 (Operand.tmp 6) (Operand.tmp 23), type := 0, pos := _, after := #[{ on := 8, ground := Ground.data }, { on := 3, ground := Ground.data }, { on := 0, ground := Ground.phase }, { on := 1, ground := Ground.phase }, { on := 2, ground := Ground.phase }, { on := 3, ground := Ground.phase }, { on := 4, ground := Ground.textOnly Departure.lateStores }, { on := 5, ground := Ground.textOnly Departure.lateStores }, { on := 6, ground := Ground.textOnly Departure.lateStores }, { on := 7, ground := Ground.textOnly Departure.lateStores }, { on := 8, ground := Ground.phase }, { on := 9, ground := Ground.phase }], guard := none }) rfl (fun K hK => ?_) AllReadyH.nil
        go_simp
        skip
        try go_simp
        clear hHeld
        refine hK.out _ _ ?_ (fun hHeld => ?_)
        · exact HSx.out _ (by first | exact (Below.refl _ _) | exact ⟨rfl, rfl, rfl, Nat.le_refl _, fun _ _ => rfl⟩ | exact (((Below.refl _ _).alloc (Nat.le_refl _) _).trans ⟨rfl, rfl, rfl, Nat.le_refl _, fun _ _ => rfl⟩) | exact ((((Below.refl _ _).alloc (Nat.le_refl _) _).alloc (by rw [World.size_alloc]; exact Nat.le_succ _) _).trans ⟨rfl, rfl, rfl, Nat.le_refl _, fun _ _ => rfl⟩))
        clear hK K
        try simp only [Act.put, List.setIfInBounds_toArray, List.set_cons_zero, List.set_cons_succ]
        refine wpAnyH_ready (rs := [11]) (by kernel_rfl) (by simp) ?_
        refine AllReadyH.cons (o := { dst := none, op := Op.store 50 (Operand.tmp 7) (Operand.tmp 27), type := 0, pos := _, after := #[{ on := 9, ground := Ground.data }, { on := 7, ground := Ground.data }, { on := 10, ground := Ground.chain }, { on := 0, ground := Ground.phase }, { on := 1, ground := Ground.phase }, { on := 2, ground := Ground.phase }, { on := 3, ground := Ground.phase }, { on := 4, ground := Ground.phase }, { on := 5, ground := Ground.phase }, { on := 6, ground := Ground.phase }, { on := 7, ground := Ground.phase }, { on := 8, ground := Ground.phase }, { on := 9, ground := Ground.phase }, { on := 10, ground := Ground.phase }], guard := none }) rfl (fun K hK => ?_) AllReadyH.nil
        go_simp
        skip
        try go_simp
        clear hHeld
        refine hK.out _ _ ?_ (fun hHeld => ?_)
        · exact HSx.out _ (by first | exact (Below.refl _ _) | exact ⟨rfl, rfl, rfl, Nat.le_refl _, fun _ _ => rfl⟩ | exact (((Below.refl _ _).alloc (Nat.le_refl _) _).trans ⟨rfl, rfl, rfl, Nat.le_refl _, fun _ _ => rfl⟩) | exact ((((Below.refl _ _).alloc (Nat.le_refl _) _).alloc (by rw [World.size_alloc]; exact Nat.le_succ _) _).trans ⟨rfl, rfl, rfl, Nat.le_refl _, fun _ _ => rfl⟩))
        clear hK K
        try simp only [Act.put, List.setIfInBounds_toArray, List.set_cons_zero, List.set_cons_succ]
        refine wpAnyH_done (by kernel_rfl) ?_ _
        clear hHeld
        go_wp2_with fail
        refine (HSm.out _ (by first | exact (Below.refl _ _) | exact ⟨rfl, rfl, rfl, Nat.le_refl _, fun _ _ => rfl⟩ | exact (((Below.refl _ _).alloc (Nat.le_refl _) _).trans ⟨rfl, rfl, rfl, Nat.le_refl _, fun _ _ => rfl⟩) | exact ((((Below.refl _ _).alloc (Nat.le_refl _) _).alloc (by rw [World.size_alloc]; exact Nat.le_succ _) _).trans ⟨rfl, rfl, rfl, Nat.le_refl _, fun _ _ => rfl⟩))).mono ?_
        rintro e W5 ⟨rfl, q, hq⟩
        have HB5 : Hid (Below wr.heap.size wr W5 ∧ W5.heap[wr.heap.size]? = some (.cells #[.int .i64 k, .int .i64 fr, .int .i64 t, .int .i64 off, .int .i64 len, .slice da2 n dc2, .bool sy] 50 (0, 0)) ∧ W5.heap[wr.heap.size + 1]? = some (.cells #[.int .i64 k, .int .i64 fr, .int .i64 t, .int .i64 off, .int .i64 len, .slice da n dc, .bool sy] 50 (0, 0))) := by
          subst hq
          refine ⟨Below.trans (b := ((wr.alloc (.cells #[.int .i64 k, .int .i64 fr, .int .i64 t, .int .i64 off, .int .i64 len, .slice da2 n dc2, .bool sy] 50)).alloc (.cells #[.int .i64 k, .int .i64 fr, .int .i64 t, .int .i64 off, .int .i64 len, .slice da n dc, .bool sy] 50)).drew) (by first | exact (Below.refl _ _) | exact ⟨rfl, rfl, rfl, Nat.le_refl _, fun _ _ => rfl⟩ | exact (((Below.refl _ _).alloc (Nat.le_refl _) _).trans ⟨rfl, rfl, rfl, Nat.le_refl _, fun _ _ => rfl⟩) | exact ((((Below.refl _ _).alloc (Nat.le_refl _) _).alloc (by rw [World.size_alloc]; exact Nat.le_succ _) _).trans ⟨rfl, rfl, rfl, Nat.le_refl _, fun _ _ => rfl⟩)) ⟨rfl, rfl, rfl, Nat.le_refl _, fun _ _ => rfl⟩, ?_, ?_⟩
          · have h9 : ((wr.alloc (.cells #[.int .i64 k, .int .i64 fr, .int .i64 t, .int .i64 off, .int .i64 len, .slice da2 n dc2, .bool sy] 50)).alloc (.cells #[.int .i64 k, .int .i64 fr, .int .i64 t, .int .i64 off, .int .i64 len, .slice da n dc, .bool sy] 50)).heap[wr.heap.size]? = some (.cells #[.int .i64 k, .int .i64 fr, .int .i64 t, .int .i64 off, .int .i64 len, .slice da2 n dc2, .bool sy] 50 (0, 0)) := old_at (heap_new _ _)
            exact h9
          · have h9 : ((wr.alloc (.cells #[.int .i64 k, .int .i64 fr, .int .i64 t, .int .i64 off, .int .i64 len, .slice da2 n dc2, .bool sy] 50)).alloc (.cells #[.int .i64 k, .int .i64 fr, .int .i64 t, .int .i64 off, .int .i64 len, .slice da n dc, .bool sy] 50)).heap[wr.heap.size + 1]? = some (.cells #[.int .i64 k, .int .i64 fr, .int .i64 t, .int .i64 off, .int .i64 len, .slice da n dc, .bool sy] 50 (0, 0)) := new_at _ _ _ (World.size_alloc _ _)
            exact h9
        have c0 : W5.cell? ⟨wr.heap.size, 0, none⟩ = some (.int .i64 k) := blk_at HB5.out.2.1 0
        have c1 : W5.cell? ⟨wr.heap.size, 1, none⟩ = some (.int .i64 fr) := blk_at HB5.out.2.1 1
        have c2 : W5.cell? ⟨wr.heap.size, 2, none⟩ = some (.int .i64 t) := blk_at HB5.out.2.1 2
        have c3 : W5.cell? ⟨wr.heap.size, 3, none⟩ = some (.int .i64 off) := blk_at HB5.out.2.1 3
        have c4 : W5.cell? ⟨wr.heap.size, 4, none⟩ = some (.int .i64 len) := blk_at HB5.out.2.1 4
        have c5 : W5.cell? ⟨wr.heap.size, 5, none⟩ = some (.slice da2 n dc2) := blk_at HB5.out.2.1 5
        have c6 : W5.cell? ⟨wr.heap.size, 6, none⟩ = some (.bool sy) := blk_at HB5.out.2.1 6
        have d0 : W5.cell? ⟨wr.heap.size + 1, 0, none⟩ = some (.int .i64 k) := blk_at HB5.out.2.2 0
        have d1 : W5.cell? ⟨wr.heap.size + 1, 1, none⟩ = some (.int .i64 fr) := blk_at HB5.out.2.2 1
        have d2 : W5.cell? ⟨wr.heap.size + 1, 2, none⟩ = some (.int .i64 t) := blk_at HB5.out.2.2 2
        have d3 : W5.cell? ⟨wr.heap.size + 1, 3, none⟩ = some (.int .i64 off) := blk_at HB5.out.2.2 3
        have d4 : W5.cell? ⟨wr.heap.size + 1, 4, none⟩ = some (.int .i64 len) := blk_at HB5.out.2.2 4
        have d5 : W5.cell? ⟨wr.heap.size + 1, 5, none⟩ = some (.slice da n dc) := blk_at HB5.out.2.2 5
        have d6 : W5.cell? ⟨wr.heap.size + 1, 6, none⟩ = some (.bool sy) := blk_at HB5.out.2.2 6
        have HBe : Hid (Below w.heap.size w W5) := HB.out.trans (HB5.out.1.mono HB.out.size)
        clear hq HB5 HSx HSm
        go_wp2_with fail
        go_roundw
        case rel => exact ⟨i + 1, by omega, by go_num, HBe.out⟩
        case measure => simp [intOf]; omega

    · have n9 : decide ((i : Int) < (m : Int)) = false := decide_eq_false (by omega)
      go_wp2_with fail
      go_ret
      exact ⟨rfl, HB.out⟩
end Go.Proofs.Ytjkoambfecmglaa
