import Derived.Test.YtjkoambfecmglaaVG
import Derived.Deep.RegionHeld3
namespace Go.Proofs.Ytjkoambfecmglaa
open Go.RowKit
set_option linter.unusedVariables false
set_option linter.unusedSimpArgs false
set_option maxRecDepth 100000
set_option maxHeartbeats 16000000 in
/-- something is owed: what lacks is told by the foremost -/
theorem lacks_some {W : World} {P m oc e dc wb wo ob oo k : Nat} (p q : Opv) (h0 : W.cell? ⟨P, 0, none⟩ = some (.slice (some ⟨ob, oo, none⟩) m oc)) (h3 : W.cell? ⟨P, 3, none⟩ = some (.slice (some ⟨wb, wo, none⟩) e dc)) (he : 0 < e) (hk : W.cell? ⟨wb, wo, none⟩ = some (.int .i64 (k : Int))) (hkm : k < m) (hc : ∀ j v, q.cells[j]? = some v → W.cell? ⟨ob, oo + k * 7 + j, none⟩ = some v) :
    Calls Try.prog 47 #[.pointer (some ⟨P, 0, none⟩), .agg p.cells] W fun ex w' => ex = .returned (.bool (q.bef p)) ∧ Below W.heap.size W w' := by
  have HB : Hid (Below W.heap.size W (W.alloc (.cells p.cells 50))) := (Below.refl _ W).alloc (Nat.le_refl _) _
  have HC : Hid (∀ w', Below W.heap.size W w' → (∀ j v, p.cells[j]? = some v → w'.cell? ⟨W.heap.size, j, none⟩ = some v) → w'.cell? ⟨P, 0, none⟩ = some (.slice (some ⟨ob, oo, none⟩) m oc) ∧ w'.cell? ⟨P, 3, none⟩ = some (.slice (some ⟨wb, wo, none⟩) e dc) ∧ w'.cell? ⟨wb, wo, none⟩ = some (.int .i64 (k : Int)) ∧ w'.cell? ⟨ob, oo + k * 7, none⟩ = some (.int .i64 q.k) ∧ w'.cell? ⟨ob, oo + k * 7 + 1, none⟩ = some (.int .i64 q.fr) ∧ w'.cell? ⟨ob, oo + k * 7 + 2, none⟩ = some (.int .i64 q.to_) ∧ w'.cell? ⟨ob, oo + k * 7 + 3, none⟩ = some (.int .i64 q.off) ∧ w'.cell? ⟨ob, oo + k * 7 + 4, none⟩ = some (.int .i64 q.len) ∧ w'.cell? ⟨ob, oo + k * 7 + 5, none⟩ = some (.slice q.da q.n q.dc) ∧ w'.cell? ⟨ob, oo + k * 7 + 6, none⟩ = some (.bool q.sy) ∧ w'.cell? ⟨W.heap.size, 0, none⟩ = some (.int .i64 p.k) ∧ w'.cell? ⟨W.heap.size, 1, none⟩ = some (.int .i64 p.fr) ∧ w'.cell? ⟨W.heap.size, 2, none⟩ = some (.int .i64 p.to_) ∧ w'.cell? ⟨W.heap.size, 3, none⟩ = some (.int .i64 p.off) ∧ w'.cell? ⟨W.heap.size, 4, none⟩ = some (.int .i64 p.len) ∧ w'.cell? ⟨W.heap.size, 5, none⟩ = some (.slice p.da p.n p.dc) ∧ w'.cell? ⟨W.heap.size, 6, none⟩ = some (.bool p.sy)) := fun w' hb hj =>
    ⟨cell_later hb h0, cell_later hb h3, cell_later hb hk, cell_later hb (hc 0 _ rfl), cell_later hb (hc 1 _ rfl), cell_later hb (hc 2 _ rfl), cell_later hb (hc 3 _ rfl), cell_later hb (hc 4 _ rfl), cell_later hb (hc 5 _ rfl), cell_later hb (hc 6 _ rfl), hj 0 _ rfl, hj 1 _ rfl, hj 2 _ rfl, hj 3 _ rfl, hj 4 _ rfl, hj 5 _ rfl, hj 6 _ rfl⟩
  have HX : Hid (∀ j v, p.cells[j]? = some v → (W.alloc (.cells p.cells 50)).cell? ⟨W.heap.size, j, none⟩ = some v) := fun j v hv => by
    rw [blk_at (heap_new _ _) j]; exact hv
  clear h0 h3 hk hc
  obtain ⟨V, hV⟩ : ∃ V, V = W.alloc (.cells p.cells 50) := ⟨_, rfl⟩
  rw [← hV] at HB HX
  have HL : Hid (W.heap.size < V.heap.size) := by show W.heap.size < V.heap.size; rw [hV]; simp
  have n1 : decide ((0 : Int) < (e : Int)) = true := by simp; omega
  have n3 : decide (0 < e) = true := by simp; omega
  have n2 : (0 : Int) < (e : Int) := by omega
  have kk0 : (0 : Int) ≤ (k : Int) := by omega
  have kk9 : (k : Int) < (m : Int) := by omega
  have HN : Hid (∀ U, Calls Try.prog 54 #[.agg #[.int .i64 q.k, .int .i64 q.fr, .int .i64 q.to_, .int .i64 q.off, .int .i64 q.len, .slice q.da q.n q.dc, .bool q.sy], .agg #[.int .i64 p.k, .int .i64 p.fr, .int .i64 p.to_, .int .i64 p.off, .int .i64 p.len, .slice p.da p.n p.dc, .bool p.sy]] U fun e w' => e = .returned (.bool (q.bef p)) ∧ Below U.heap.size U w') := fun U => before_any q p U
  obtain ⟨c, hc9⟩ : ∃ c, q.bef p = c := ⟨_, rfl⟩
  rw [hc9] at HN ⊢
  clear hc9
  have HBd : Hid (Below W.heap.size W V.drew) := HB.out.trans ⟨rfl, rfl, rfl, Nat.le_refl _, fun _ _ => rfl⟩
  go_enter Try.func47, Try.ntmps47
  go_wp2_with fail
  rw [← hV]
  clear hV
  refine wp_region_held_drew (S := (fun w' => w'.cell? ⟨P, 0, none⟩ = some (.slice (some ⟨ob, oo, none⟩) m oc) ∧ w'.cell? ⟨P, 3, none⟩ = some (.slice (some ⟨wb, wo, none⟩) e dc) ∧ w'.cell? ⟨wb, wo, none⟩ = some (.int .i64 (k : Int)) ∧ w'.cell? ⟨ob, oo + k * 7, none⟩ = some (.int .i64 q.k) ∧ w'.cell? ⟨ob, oo + k * 7 + 1, none⟩ = some (.int .i64 q.fr) ∧ w'.cell? ⟨ob, oo + k * 7 + 2, none⟩ = some (.int .i64 q.to_) ∧ w'.cell? ⟨ob, oo + k * 7 + 3, none⟩ = some (.int .i64 q.off) ∧ w'.cell? ⟨ob, oo + k * 7 + 4, none⟩ = some (.int .i64 q.len) ∧ w'.cell? ⟨ob, oo + k * 7 + 5, none⟩ = some (.slice q.da q.n q.dc) ∧ w'.cell? ⟨ob, oo + k * 7 + 6, none⟩ = some (.bool q.sy) ∧ w'.cell? ⟨W.heap.size, 0, none⟩ = some (.int .i64 p.k) ∧ w'.cell? ⟨W.heap.size, 1, none⟩ = some (.int .i64 p.fr) ∧ w'.cell? ⟨W.heap.size, 2, none⟩ = some (.int .i64 p.to_) ∧ w'.cell? ⟨W.heap.size, 3, none⟩ = some (.int .i64 p.off) ∧ w'.cell? ⟨W.heap.size, 4, none⟩ = some (.int .i64 p.len) ∧ w'.cell? ⟨W.heap.size, 5, none⟩ = some (.slice p.da p.n p.dc) ∧ w'.cell? ⟨W.heap.size, 6, none⟩ = some (.bool p.sy))) (by kernel_rfl) ?_ (fun hHeld => ?_)
  · exact HC.out _ HBd.out HX.out
  refine wpAnyH_take (i := 0) (oi := { dst := some 5, op := Op.move (Operand.tmp 0), type := 56, pos := _, after := #[], guard := none }) (v := ?_) rfl (by kernel_rfl) (by kernel_rfl) (by kernel_rfl) (fun _ _ _ h => h) (Or.inl ⟨by rfl, ?_⟩) (by assumption) ?_
  rotate_left
  · (intro w hSw; (try dsimp only at hSw); go_simp) <;> with_reducible rfl
  try simp only [Act.put, List.setIfInBounds_toArray, List.set_cons_zero, List.set_cons_succ]
  refine wpAnyH_take (i := 1) (oi := { dst := some 6, op := Op.nilCheck (Operand.tmp 5), type := 0, pos := _, after := #[{ on := 0, ground := Ground.data }], guard := none }) (v := ?_) rfl (by kernel_rfl) (by kernel_rfl) (by kernel_rfl) (fun _ _ _ h => h) (Or.inl ⟨by rfl, ?_⟩) (by assumption) ?_
  rotate_left
  · (intro w hSw; (try dsimp only at hSw); go_simp) <;> with_reducible rfl
  try simp only [Act.put, List.setIfInBounds_toArray, List.set_cons_zero, List.set_cons_succ]
  refine wpAnyH_take (i := 2) (oi := { dst := some 7, op := Op.fieldAddr 61 (Operand.tmp 6) 3, type := 0, pos := _, after := #[{ on := 1, ground := Ground.data }], guard := none }) (v := ?_) rfl (by kernel_rfl) (by kernel_rfl) (by kernel_rfl) (fun _ _ _ h => h) (Or.inl ⟨by rfl, ?_⟩) (by assumption) ?_
  rotate_left
  · (intro w hSw; (try dsimp only at hSw); go_simp) <;> with_reducible rfl
  try simp only [Act.put, List.setIfInBounds_toArray, List.set_cons_zero, List.set_cons_succ]
  refine wpAnyH_take (i := 3) (oi := { dst := some 8, op := Op.load 24 (Operand.tmp 7), type := 24, pos := _, after := #[{ on := 2, ground := Ground.data }], guard := none }) (v := ?_) rfl (by kernel_rfl) (by kernel_rfl) (by kernel_rfl) (fun _ _ _ h => h) (Or.inl ⟨by rfl, ?_⟩) (by assumption) ?_
  rotate_left
  · (intro w hSw; (try dsimp only at hSw); go_simp) <;> with_reducible rfl
  try simp only [Act.put, List.setIfInBounds_toArray, List.set_cons_zero, List.set_cons_succ]
  refine wpAnyH_take (i := 4) (oi := { dst := some 9, op := Op.call { callee := Callee.builtin Builtin.len, args := #[Operand.tmp 8], argTypes := #[24] }, type := 3, pos := _, after := #[{ on := 3, ground := Ground.data }], guard := none }) (v := ?_) rfl (by kernel_rfl) (by kernel_rfl) (by kernel_rfl) (fun _ _ _ h => h) (Or.inl ⟨by rfl, ?_⟩) (by assumption) ?_
  rotate_left
  · (intro w hSw; (try dsimp only at hSw); go_simp) <;> with_reducible rfl
  try simp only [Act.put, List.setIfInBounds_toArray, List.set_cons_zero, List.set_cons_succ]
  refine wpAnyH_take (i := 5) (oi := { dst := some 10, op := Op.binOp BinOp.gtr 3 (Operand.tmp 9) (Operand.const (Value.int IntKind.i64 0)) 3, type := 4, pos := _, after := #[{ on := 4, ground := Ground.data }], guard := none }) (v := ?_) rfl (by kernel_rfl) (by kernel_rfl) (by kernel_rfl) (fun _ _ _ h => h) (Or.inl ⟨by rfl, ?_⟩) (by assumption) ?_
  rotate_left
  · (intro w hSw; (try dsimp only at hSw); go_simp) <;> with_reducible rfl
  try simp only [Act.put, List.setIfInBounds_toArray, List.set_cons_zero, List.set_cons_succ]
  refine wpAnyH_take (i := 6) (oi := { dst := some 11, op := Op.move (Operand.tmp 10), type := 4, pos := _, after := #[{ on := 5, ground := Ground.data }], guard := none }) (v := ?_) rfl (by kernel_rfl) (by kernel_rfl) (by kernel_rfl) (fun _ _ _ h => h) (Or.inl ⟨by rfl, ?_⟩) (by assumption) ?_
  rotate_left
  · (intro w hSw; (try dsimp only at hSw); go_simp) <;> with_reducible rfl
  try simp only [Act.put, List.setIfInBounds_toArray, List.set_cons_zero, List.set_cons_succ]
  refine wpAnyH_take (i := 7) (oi := { dst := some 12, op := Op.move (Operand.tmp 0), type := 56, pos := _, after := #[{ on := 6, ground := Ground.guard }], guard := some (6, true) }) (v := ?_) rfl (by kernel_rfl) (by kernel_rfl) (by kernel_rfl) (fun _ _ _ h => h) (Or.inl ⟨by rfl, ?_⟩) (by assumption) ?_
  rotate_left
  · (intro w hSw; (try dsimp only at hSw); go_simp) <;> with_reducible rfl
  try simp only [Act.put, List.setIfInBounds_toArray, List.set_cons_zero, List.set_cons_succ]
  refine wpAnyH_take (i := 8) (oi := { dst := some 13, op := Op.nilCheck (Operand.tmp 12), type := 0, pos := _, after := #[{ on := 7, ground := Ground.data }, { on := 6, ground := Ground.guard }], guard := some (6, true) }) (v := ?_) rfl (by kernel_rfl) (by kernel_rfl) (by kernel_rfl) (fun _ _ _ h => h) (Or.inl ⟨by rfl, ?_⟩) (by assumption) ?_
  rotate_left
  · (intro w hSw; (try dsimp only at hSw); go_simp) <;> with_reducible rfl
  try simp only [Act.put, List.setIfInBounds_toArray, List.set_cons_zero, List.set_cons_succ]
  refine wpAnyH_take (i := 9) (oi := { dst := some 14, op := Op.fieldAddr 61 (Operand.tmp 13) 0, type := 0, pos := _, after := #[{ on := 8, ground := Ground.data }, { on := 6, ground := Ground.guard }], guard := some (6, true) }) (v := ?_) rfl (by kernel_rfl) (by kernel_rfl) (by kernel_rfl) (fun _ _ _ h => h) (Or.inl ⟨by rfl, ?_⟩) (by assumption) ?_
  rotate_left
  · (intro w hSw; (try dsimp only at hSw); go_simp) <;> with_reducible rfl
  try simp only [Act.put, List.setIfInBounds_toArray, List.set_cons_zero, List.set_cons_succ]
  refine wpAnyH_take (i := 10) (oi := { dst := some 15, op := Op.load 23 (Operand.tmp 14), type := 23, pos := _, after := #[{ on := 9, ground := Ground.data }, { on := 6, ground := Ground.guard }], guard := some (6, true) }) (v := ?_) rfl (by kernel_rfl) (by kernel_rfl) (by kernel_rfl) (fun _ _ _ h => h) (Or.inl ⟨by rfl, ?_⟩) (by assumption) ?_
  rotate_left
  · (intro w hSw; (try dsimp only at hSw); go_simp) <;> with_reducible rfl
  try simp only [Act.put, List.setIfInBounds_toArray, List.set_cons_zero, List.set_cons_succ]
  refine wpAnyH_take (i := 11) (oi := { dst := some 16, op := Op.move (Operand.tmp 0), type := 56, pos := _, after := #[{ on := 6, ground := Ground.guard }], guard := some (6, true) }) (v := ?_) rfl (by kernel_rfl) (by kernel_rfl) (by kernel_rfl) (fun _ _ _ h => h) (Or.inl ⟨by rfl, ?_⟩) (by assumption) ?_
  rotate_left
  · (intro w hSw; (try dsimp only at hSw); go_simp) <;> with_reducible rfl
  try simp only [Act.put, List.setIfInBounds_toArray, List.set_cons_zero, List.set_cons_succ]
  refine wpAnyH_take (i := 12) (oi := { dst := some 17, op := Op.nilCheck (Operand.tmp 16), type := 0, pos := _, after := #[{ on := 11, ground := Ground.data }, { on := 6, ground := Ground.guard }], guard := some (6, true) }) (v := ?_) rfl (by kernel_rfl) (by kernel_rfl) (by kernel_rfl) (fun _ _ _ h => h) (Or.inl ⟨by rfl, ?_⟩) (by assumption) ?_
  rotate_left
  · (intro w hSw; (try dsimp only at hSw); go_simp) <;> with_reducible rfl
  try simp only [Act.put, List.setIfInBounds_toArray, List.set_cons_zero, List.set_cons_succ]
  refine wpAnyH_take (i := 13) (oi := { dst := some 18, op := Op.fieldAddr 61 (Operand.tmp 17) 3, type := 0, pos := _, after := #[{ on := 12, ground := Ground.data }, { on := 6, ground := Ground.guard }], guard := some (6, true) }) (v := ?_) rfl (by kernel_rfl) (by kernel_rfl) (by kernel_rfl) (fun _ _ _ h => h) (Or.inl ⟨by rfl, ?_⟩) (by assumption) ?_
  rotate_left
  · (intro w hSw; (try dsimp only at hSw); go_simp) <;> with_reducible rfl
  try simp only [Act.put, List.setIfInBounds_toArray, List.set_cons_zero, List.set_cons_succ]
  refine wpAnyH_take (i := 14) (oi := { dst := some 19, op := Op.load 24 (Operand.tmp 18), type := 24, pos := _, after := #[{ on := 13, ground := Ground.data }, { on := 6, ground := Ground.guard }], guard := some (6, true) }) (v := ?_) rfl (by kernel_rfl) (by kernel_rfl) (by kernel_rfl) (fun _ _ _ h => h) (Or.inl ⟨by rfl, ?_⟩) (by assumption) ?_
  rotate_left
  · (intro w hSw; (try dsimp only at hSw); go_simp) <;> with_reducible rfl
  try simp only [Act.put, List.setIfInBounds_toArray, List.set_cons_zero, List.set_cons_succ]
  refine wpAnyH_take (i := 15) (oi := { dst := some 20, op := Op.indexAddr 24 (Operand.tmp 19) (Operand.const (Value.int IntKind.i64 0)), type := 0, pos := _, after := #[{ on := 14, ground := Ground.data }, { on := 6, ground := Ground.guard }], guard := some (6, true) }) (v := ?_) rfl (by kernel_rfl) (by kernel_rfl) (by kernel_rfl) (fun _ _ _ h => h) (Or.inl ⟨by rfl, ?_⟩) (by assumption) ?_
  rotate_left
  · (intro w hSw; (try dsimp only at hSw); go_simp) <;> with_reducible rfl
  try simp only [Act.put, List.setIfInBounds_toArray, List.set_cons_zero, List.set_cons_succ]
  refine wpAnyH_take (i := 16) (oi := { dst := some 21, op := Op.load 3 (Operand.tmp 20), type := 3, pos := _, after := #[{ on := 15, ground := Ground.data }, { on := 6, ground := Ground.guard }], guard := some (6, true) }) (v := ?_) rfl (by kernel_rfl) (by kernel_rfl) (by kernel_rfl) (fun _ _ _ h => h) (Or.inl ⟨by rfl, ?_⟩) (by assumption) ?_
  rotate_left
  · (intro w hSw; (try dsimp only at hSw); go_simp) <;> with_reducible rfl
  try simp only [Act.put, List.setIfInBounds_toArray, List.set_cons_zero, List.set_cons_succ]
  refine wpAnyH_take (i := 17) (oi := { dst := some 22, op := Op.indexAddr 23 (Operand.tmp 15) (Operand.tmp 21), type := 0, pos := _, after := #[{ on := 10, ground := Ground.data }, { on := 16, ground := Ground.data }, { on := 6, ground := Ground.guard }], guard := some (6, true) }) (v := ?_) rfl (by kernel_rfl) (by kernel_rfl) (by kernel_rfl) (fun _ _ _ h => h) (Or.inl ⟨by rfl, ?_⟩) (by assumption) ?_
  rotate_left
  · (intro w hSw; (try dsimp only at hSw); go_simp) <;> with_reducible rfl
  try simp only [Act.put, List.setIfInBounds_toArray, List.set_cons_zero, List.set_cons_succ]
  refine wpAnyH_take (i := 18) (oi := { dst := some 23, op := Op.load 50 (Operand.tmp 22), type := 50, pos := _, after := #[{ on := 17, ground := Ground.data }, { on := 6, ground := Ground.guard }], guard := some (6, true) }) (v := ?_) rfl (by kernel_rfl) (by kernel_rfl) (by kernel_rfl) (fun _ _ _ h => h) (Or.inl ⟨by rfl, ?_⟩) (by assumption) ?_
  rotate_left
  · (intro w hSw; (try dsimp only at hSw); go_simp) <;> with_reducible rfl
  try simp only [Act.put, List.setIfInBounds_toArray, List.set_cons_zero, List.set_cons_succ]
  refine wpAnyH_take (i := 19) (oi := { dst := some 24, op := Op.load 50 (Operand.tmp 3), type := 50, pos := _, after := #[{ on := 6, ground := Ground.guard }], guard := some (6, true) }) (v := ?_) rfl (by kernel_rfl) (by kernel_rfl) (by kernel_rfl) (fun _ _ _ h => h) (Or.inl ⟨by rfl, ?_⟩) (by assumption) ?_
  rotate_left
  · (intro w hSw; (try dsimp only at hSw); go_simp) <;> with_reducible rfl
  try simp only [Act.put, List.setIfInBounds_toArray, List.set_cons_zero, List.set_cons_succ]
  refine wpAnyH_ready (rs := [20]) (by kernel_rfl) (by simp) ?_
  refine AllReadyH.cons (o := { dst := some 25, op := Op.call { callee := Callee.value (Operand.func 54), args := #[Operand.tmp 23, Operand.tmp 24], argTypes := #[50, 50] }, type := 4, pos := _, after := #[{ on := 18, ground := Ground.data }, { on := 19, ground := Ground.data }, { on := 6, ground := Ground.chain }, { on := 6, ground := Ground.guard }], guard := some (6, true) }) rfl (fun K hK => ?_) AllReadyH.nil
  go_simp
  go_at_call 54
  refine (HN.out _).mono ?_
  rintro ex W1 ⟨rfl, hb1⟩
  have HB1 : Hid (Below W.heap.size W W1) := HBd.out.trans (hb1.mono HBd.out.size)
  have HX1 : Hid (∀ j v, p.cells[j]? = some v → W1.cell? ⟨W.heap.size, j, none⟩ = some v) := fun j v hv => by rw [World.cell?_of_block (hb1.block _ HL.out)]; exact HX.out j v hv
  clear hb1
  try go_simp
  refine hK.out _ _ ?_ (fun hHeld => ?_)
  · exact HC.out _ HB1.out HX1.out
  clear hK K
  try simp only [Act.put, List.setIfInBounds_toArray, List.set_cons_zero, List.set_cons_succ]
  refine wpAnyH_take (i := 21) (oi := { dst := some 26, op := Op.pick (Operand.tmp 11) (Operand.tmp 25) (Operand.const (Value.bool false)), type := 4, pos := _, after := #[{ on := 6, ground := Ground.data }, { on := 20, ground := Ground.data }], guard := none }) (v := ?_) rfl (by kernel_rfl) (by kernel_rfl) (by kernel_rfl) (fun _ _ _ h => h) (Or.inl ⟨by rfl, ?_⟩) (by assumption) ?_
  rotate_left
  · (intro w hSw; (try dsimp only at hSw); go_simp) <;> with_reducible rfl
  try simp only [Act.put, List.setIfInBounds_toArray, List.set_cons_zero, List.set_cons_succ]
  refine wpAnyH_take (i := 22) (oi := { dst := some 4, op := Op.assign (Operand.tmp 26), type := 4, pos := _, after := #[{ on := 21, ground := Ground.data }, { on := 20, ground := Ground.chain }, { on := 0, ground := Ground.phase }, { on := 1, ground := Ground.phase }, { on := 2, ground := Ground.phase }, { on := 3, ground := Ground.phase }, { on := 4, ground := Ground.phase }, { on := 5, ground := Ground.phase }, { on := 6, ground := Ground.phase }, { on := 7, ground := Ground.phase }, { on := 8, ground := Ground.phase }, { on := 9, ground := Ground.phase }, { on := 10, ground := Ground.phase }, { on := 11, ground := Ground.phase }, { on := 12, ground := Ground.phase }, { on := 13, ground := Ground.phase }, { on := 14, ground := Ground.phase }, { on := 15, ground := Ground.phase }, { on := 16, ground := Ground.phase }, { on := 17, ground := Ground.phase }, { on := 18, ground := Ground.phase }, { on := 19, ground := Ground.phase }, { on := 20, ground := Ground.phase }, { on := 21, ground := Ground.phase }], guard := none }) (v := ?_) rfl (by kernel_rfl) (by kernel_rfl) (by kernel_rfl) (fun _ _ _ h => h) (Or.inl ⟨by rfl, ?_⟩) (by assumption) ?_
  rotate_left
  · (intro w hSw; (try dsimp only at hSw); go_simp) <;> with_reducible rfl
  try simp only [Act.put, List.setIfInBounds_toArray, List.set_cons_zero, List.set_cons_succ]
  refine wpAnyH_done (by kernel_rfl) ?_ _
  go_wp2
  go_ret
  exact ⟨rfl, HB1.out⟩
end Go.Proofs.Ytjkoambfecmglaa
