import Derived.Test.YtjkoambfecmglaaJC
namespace Go.Proofs.Ytjkoambfecmglaa
open Go.RowKit Go.Maps
set_option linter.unusedVariables false
set_option linter.unusedSimpArgs false
set_option maxRecDepth 100000
set_option maxHeartbeats 16000000 in
/-- it was played -/
theorem leads_done (W : World) (B Q m oc A gh hc gv vc n r N ob oo d k E : Nat) (ah : List Nat) (L : List Lv) (M : DataW Unit) (q : Opv) (hv : Lv) (h : Sm W B Q (some ⟨ob, oo, none⟩) m oc A gh hc ah gv vc n L r N M) (hkm : k < m) (hm : m ≤ 10) (hns : n ≤ 4096) (hc7 : ∀ j v, q.cells[j]? = some v → W.cell? ⟨ob, oo + k * 7 + j, none⟩ = some v) (hE : ah[k]? = some E) (hEl : E < 65536) (hd : L[d]? = some hv) (hDl : hv.D < 65536) (hs : Sub (2 ^ k) hv.D = true) :
    Calls Try.prog 56 #[.pointer (some ⟨Q, 0, none⟩), .pointer (some ⟨gv, d * 3, none⟩), .pointer (some ⟨gv, (d + 1) * 3, none⟩), .int .i64 (k : Int)] W fun e w' => e = .returned (.bool false) ∧ Below W.heap.size W w' := by
  have q0 := h.q0
  have HB : Hid (Below W.heap.size W (W.alloc (.cells #[.int .i64 q.k, .int .i64 q.fr, .int .i64 q.to_, .int .i64 q.off, .int .i64 q.len, .slice q.da q.n q.dc, .bool q.sy] 50))) := (Below.refl _ W).alloc (Nat.le_refl _) _
  have HX : Hid (∀ j v, (#[.int .i64 q.k, .int .i64 q.fr, .int .i64 q.to_, .int .i64 q.off, .int .i64 q.len, .slice q.da q.n q.dc, .bool q.sy] : Array Value)[j]? = some v → (W.alloc (.cells #[.int .i64 q.k, .int .i64 q.fr, .int .i64 q.to_, .int .i64 q.off, .int .i64 q.len, .slice q.da q.n q.dc, .bool q.sy] 50)).cell? ⟨W.heap.size, j, none⟩ = some v) := fun j v hv => by
    rw [blk_at (heap_new _ _) j]; exact hv
  have HC : Hid (∀ w' : World, Below W.heap.size W w' → (∀ j v, (#[.int .i64 q.k, .int .i64 q.fr, .int .i64 q.to_, .int .i64 q.off, .int .i64 q.len, .slice q.da q.n q.dc, .bool q.sy] : Array Value)[j]? = some v → w'.cell? ⟨W.heap.size, j, none⟩ = some v) → w'.cell? ⟨Q, 2, none⟩ = some (.slice (some ⟨gh, 0, none⟩) m hc) ∧ w'.cell? ⟨gv, d * 3, none⟩ = some (.int .u16 (hv.D : Int)) ∧ w'.cell? ⟨gv, d * 3 + 1, none⟩ = some (.slice hv.a n hv.c) ∧ w'.cell? ⟨gh, k, none⟩ = some (.int .u16 (E : Int)) ∧ w'.cell? ⟨W.heap.size, 0, none⟩ = some (.int .i64 q.k) ∧ w'.cell? ⟨W.heap.size, 1, none⟩ = some (.int .i64 q.fr) ∧ w'.cell? ⟨W.heap.size, 2, none⟩ = some (.int .i64 q.to_) ∧ w'.cell? ⟨W.heap.size, 3, none⟩ = some (.int .i64 q.off) ∧ w'.cell? ⟨W.heap.size, 4, none⟩ = some (.int .i64 q.len) ∧ w'.cell? ⟨W.heap.size, 5, none⟩ = some (.slice q.da q.n q.dc) ∧ w'.cell? ⟨W.heap.size, 6, none⟩ = some (.bool q.sy)) := fun w' hb hj =>
    ⟨cell_later hb h.q2, cell_later hb (h.lvc hd (c := 0) (by decide)), cell_later hb (h.lvc hd (c := 1) (by decide)), cell_later hb (h.ahc hE), hj 0 _ rfl, hj 1 _ rfl, hj 2 _ rfl, hj 3 _ rfl, hj 4 _ rfl, hj 5 _ rfl, hj 6 _ rfl⟩
  have c0 : W.cell? ⟨ob, oo + k * 7, none⟩ = some (.int .i64 q.k) := hc7 0 _ rfl
  have c1 : W.cell? ⟨ob, oo + k * 7 + 1, none⟩ = some (.int .i64 q.fr) := hc7 1 _ rfl
  have c2 : W.cell? ⟨ob, oo + k * 7 + 2, none⟩ = some (.int .i64 q.to_) := hc7 2 _ rfl
  have c3 : W.cell? ⟨ob, oo + k * 7 + 3, none⟩ = some (.int .i64 q.off) := hc7 3 _ rfl
  have c4 : W.cell? ⟨ob, oo + k * 7 + 4, none⟩ = some (.int .i64 q.len) := hc7 4 _ rfl
  have c5 : W.cell? ⟨ob, oo + k * 7 + 5, none⟩ = some (.slice q.da q.n q.dc) := hc7 5 _ rfl
  have c6 : W.cell? ⟨ob, oo + k * 7 + 6, none⟩ = some (.bool q.sy) := hc7 6 _ rfl
  have kk0 : (0 : Int) ≤ (k : Int) := by omega
  have kk9 : (k : Int) < (m : Int) := by omega
  have HO := fun U => only_any k (by omega) U
  have HP2 : Hid ((2 ^ k : Nat) < 65536) := Nat.lt_of_lt_of_le (Nat.pow_lt_pow_right (by decide) (show k < 16 by omega)) (by decide)
  obtain ⟨X, hX⟩ : ∃ X : Nat, 2 ^ k = X := ⟨_, rfl⟩
  rw [hX] at HP2 hs
  have HO2 : ∀ U : World, Calls Try.prog 53 #[.int .i64 (k : Int)] U fun e w' => e = .returned (.int .u16 (X : Int)) ∧ w' = U := fun U => by have := HO U; rwa [hX] at this
  have HH := fun U => holds_any hv.D X hDl HP2.out U
  have HH2 := fun U => holds_any hv.D E hDl hEl U
  rw [hs] at HH
  obtain ⟨V, hV⟩ : ∃ V, V = W.alloc (.cells #[.int .i64 q.k, .int .i64 q.fr, .int .i64 q.to_, .int .i64 q.off, .int .i64 q.len, .slice q.da q.n q.dc, .bool q.sy] 50) := ⟨_, rfl⟩
  rw [← hV] at HB HX
  have HL : Hid (W.heap.size < V.heap.size) := by show W.heap.size < V.heap.size; rw [hV]; simp
  have HBd : Hid (Below W.heap.size W V.drew) := HB.out.trans ⟨rfl, rfl, rfl, Nat.le_refl _, fun _ _ => rfl⟩
  clear h hc7 hd hE
  go_enter Try.func56, Try.ntmps56
  go_wp2_with fail
  rw [← hV]
  clear hV c0 c1 c2 c3 c4 c5 c6 q0
  refine wp_region_held_drew (S := (fun w' => w'.cell? ⟨Q, 2, none⟩ = some (.slice (some ⟨gh, 0, none⟩) m hc) ∧ w'.cell? ⟨gv, d * 3, none⟩ = some (.int .u16 (hv.D : Int)) ∧ w'.cell? ⟨gv, d * 3 + 1, none⟩ = some (.slice hv.a n hv.c) ∧ w'.cell? ⟨gh, k, none⟩ = some (.int .u16 (E : Int)) ∧ w'.cell? ⟨W.heap.size, 0, none⟩ = some (.int .i64 q.k) ∧ w'.cell? ⟨W.heap.size, 1, none⟩ = some (.int .i64 q.fr) ∧ w'.cell? ⟨W.heap.size, 2, none⟩ = some (.int .i64 q.to_) ∧ w'.cell? ⟨W.heap.size, 3, none⟩ = some (.int .i64 q.off) ∧ w'.cell? ⟨W.heap.size, 4, none⟩ = some (.int .i64 q.len) ∧ w'.cell? ⟨W.heap.size, 5, none⟩ = some (.slice q.da q.n q.dc) ∧ w'.cell? ⟨W.heap.size, 6, none⟩ = some (.bool q.sy))) (by kernel_rfl) ?_ (fun hHeld => ?_)
  · exact HC.out _ HBd.out HX.out
  refine wpAnyH_take (i := 0) (oi := { dst := some 19, op := Op.move (Operand.tmp 1), type := 98, pos := _, after := #[], guard := none }) (v := ?_) rfl (by kernel_rfl) (by kernel_rfl) (by kernel_rfl) (fun _ _ _ h => h) (Or.inl ⟨by rfl, ?_⟩) (by assumption) ?_
  rotate_left
  · (intro w hSw; (try dsimp only at hSw); go_simp) <;> with_reducible rfl
  try simp only [Act.put, List.setIfInBounds_toArray, List.set_cons_zero, List.set_cons_succ]
  refine wpAnyH_take (i := 1) (oi := { dst := some 20, op := Op.nilCheck (Operand.tmp 19), type := 0, pos := _, after := _, guard := none }) (v := ?_) rfl (by kernel_rfl) (by kernel_rfl) (by kernel_rfl) (fun _ _ _ h => h) (Or.inl ⟨by rfl, ?_⟩) (by assumption) ?_
  rotate_left
  · (intro w hSw; (try dsimp only at hSw); go_simp) <;> with_reducible rfl
  try simp only [Act.put, List.setIfInBounds_toArray, List.set_cons_zero, List.set_cons_succ]
  refine wpAnyH_take (i := 2) (oi := { dst := some 21, op := Op.fieldAddr 97 (Operand.tmp 20) 0, type := 0, pos := _, after := _, guard := none }) (v := ?_) rfl (by kernel_rfl) (by kernel_rfl) (by kernel_rfl) (fun _ _ _ h => h) (Or.inl ⟨by rfl, ?_⟩) (by assumption) ?_
  rotate_left
  · (intro w hSw; (try dsimp only at hSw); go_simp) <;> with_reducible rfl
  try simp only [Act.put, List.setIfInBounds_toArray, List.set_cons_zero, List.set_cons_succ]
  refine wpAnyH_take (i := 3) (oi := { dst := some 22, op := Op.load 91 (Operand.tmp 21), type := 91, pos := _, after := _, guard := none }) (v := ?_) rfl (by kernel_rfl) (by kernel_rfl) (by kernel_rfl) (fun _ _ _ h => h) (Or.inl ⟨by rfl, ?_⟩) (by assumption) ?_
  rotate_left
  · (intro w hSw; (try dsimp only at hSw); go_simp) <;> with_reducible rfl
  try simp only [Act.put, List.setIfInBounds_toArray, List.set_cons_zero, List.set_cons_succ]
  refine wpAnyH_take (i := 4) (oi := { dst := some 23, op := Op.move (Operand.tmp 3), type := 3, pos := _, after := #[], guard := none }) (v := ?_) rfl (by kernel_rfl) (by kernel_rfl) (by kernel_rfl) (fun _ _ _ h => h) (Or.inl ⟨by rfl, ?_⟩) (by assumption) ?_
  rotate_left
  · (intro w hSw; (try dsimp only at hSw); go_simp) <;> with_reducible rfl
  try simp only [Act.put, List.setIfInBounds_toArray, List.set_cons_zero, List.set_cons_succ]
  refine wpAnyH_ready (rs := [5]) (by kernel_rfl) (by simp) ?_
  refine AllReadyH.cons (o := { dst := some 24, op := Op.call { callee := Callee.value (Operand.func 53), args := #[Operand.tmp 23], argTypes := #[3] }, type := 91, pos := _, after := _, guard := none }) rfl (fun K hK => ?_) AllReadyH.nil
  go_simp
  go_at_call 53
  refine (HO2 _).mono ?_
  rintro ex w9 ⟨rfl, rfl⟩
  try go_simp
  clear hHeld
  refine hK.out _ _ ?_ (fun hHeld => ?_)
  · exact HC.out _ HBd.out HX.out
  clear hK K
  try simp only [Act.put, List.setIfInBounds_toArray, List.set_cons_zero, List.set_cons_succ]
  refine wpAnyH_ready (rs := [6]) (by kernel_rfl) (by simp) ?_
  refine AllReadyH.cons (o := { dst := some 25, op := Op.call { callee := Callee.value (Operand.func 55), args := #[Operand.tmp 22, Operand.tmp 24], argTypes := #[91, 91] }, type := 4, pos := _, after := _, guard := none }) rfl (fun K hK => ?_) AllReadyH.nil
  go_simp
  go_at_call 55
  refine (HH _).mono ?_
  rintro ex w9 ⟨rfl, rfl⟩
  try go_simp
  clear hHeld
  refine hK.out _ _ ?_ (fun hHeld => ?_)
  · exact HC.out _ HBd.out HX.out
  clear hK K
  try simp only [Act.put, List.setIfInBounds_toArray, List.set_cons_zero, List.set_cons_succ]
  refine wpAnyH_take (i := 7) (oi := { dst := some 26, op := Op.move (Operand.tmp 25), type := 4, pos := _, after := _, guard := none }) (v := ?_) rfl (by kernel_rfl) (by kernel_rfl) (by kernel_rfl) (fun _ _ _ h => h) (Or.inl ⟨by rfl, ?_⟩) (by assumption) ?_
  rotate_left
  · (intro w hSw; (try dsimp only at hSw); go_simp) <;> with_reducible rfl
  try simp only [Act.put, List.setIfInBounds_toArray, List.set_cons_zero, List.set_cons_succ]
  refine wpAnyH_take (i := 8) (oi := { dst := some 27, op := Op.move (Operand.tmp 1), type := 98, pos := _, after := _, guard := some (7, false) }) (v := undef) rfl (by kernel_rfl) (by kernel_rfl) (by kernel_rfl) (fun _ _ _ h => h) (Or.inr ⟨by rfl, rfl⟩) (by assumption) ?_
  try simp only [Act.put, List.setIfInBounds_toArray, List.set_cons_zero, List.set_cons_succ]
  refine wpAnyH_take (i := 9) (oi := { dst := some 28, op := Op.nilCheck (Operand.tmp 27), type := 0, pos := _, after := _, guard := some (7, false) }) (v := undef) rfl (by kernel_rfl) (by kernel_rfl) (by kernel_rfl) (fun _ _ _ h => h) (Or.inr ⟨by rfl, rfl⟩) (by assumption) ?_
  try simp only [Act.put, List.setIfInBounds_toArray, List.set_cons_zero, List.set_cons_succ]
  refine wpAnyH_take (i := 10) (oi := { dst := some 29, op := Op.fieldAddr 97 (Operand.tmp 28) 0, type := 0, pos := _, after := _, guard := some (7, false) }) (v := undef) rfl (by kernel_rfl) (by kernel_rfl) (by kernel_rfl) (fun _ _ _ h => h) (Or.inr ⟨by rfl, rfl⟩) (by assumption) ?_
  try simp only [Act.put, List.setIfInBounds_toArray, List.set_cons_zero, List.set_cons_succ]
  refine wpAnyH_take (i := 11) (oi := { dst := some 30, op := Op.load 91 (Operand.tmp 29), type := 91, pos := _, after := _, guard := some (7, false) }) (v := undef) rfl (by kernel_rfl) (by kernel_rfl) (by kernel_rfl) (fun _ _ _ h => h) (Or.inr ⟨by rfl, rfl⟩) (by assumption) ?_
  try simp only [Act.put, List.setIfInBounds_toArray, List.set_cons_zero, List.set_cons_succ]
  refine wpAnyH_take (i := 12) (oi := { dst := some 31, op := Op.move (Operand.tmp 0), type := 68, pos := _, after := _, guard := some (7, false) }) (v := undef) rfl (by kernel_rfl) (by kernel_rfl) (by kernel_rfl) (fun _ _ _ h => h) (Or.inr ⟨by rfl, rfl⟩) (by assumption) ?_
  try simp only [Act.put, List.setIfInBounds_toArray, List.set_cons_zero, List.set_cons_succ]
  refine wpAnyH_take (i := 13) (oi := { dst := some 32, op := Op.nilCheck (Operand.tmp 31), type := 0, pos := _, after := _, guard := some (7, false) }) (v := undef) rfl (by kernel_rfl) (by kernel_rfl) (by kernel_rfl) (fun _ _ _ h => h) (Or.inr ⟨by rfl, rfl⟩) (by assumption) ?_
  try simp only [Act.put, List.setIfInBounds_toArray, List.set_cons_zero, List.set_cons_succ]
  refine wpAnyH_take (i := 14) (oi := { dst := some 33, op := Op.fieldAddr 94 (Operand.tmp 32) 2, type := 0, pos := _, after := _, guard := some (7, false) }) (v := undef) rfl (by kernel_rfl) (by kernel_rfl) (by kernel_rfl) (fun _ _ _ h => h) (Or.inr ⟨by rfl, rfl⟩) (by assumption) ?_
  try simp only [Act.put, List.setIfInBounds_toArray, List.set_cons_zero, List.set_cons_succ]
  refine wpAnyH_take (i := 15) (oi := { dst := some 34, op := Op.load 88 (Operand.tmp 33), type := 88, pos := _, after := _, guard := some (7, false) }) (v := undef) rfl (by kernel_rfl) (by kernel_rfl) (by kernel_rfl) (fun _ _ _ h => h) (Or.inr ⟨by rfl, rfl⟩) (by assumption) ?_
  try simp only [Act.put, List.setIfInBounds_toArray, List.set_cons_zero, List.set_cons_succ]
  refine wpAnyH_take (i := 16) (oi := { dst := some 35, op := Op.move (Operand.tmp 3), type := 3, pos := _, after := _, guard := some (7, false) }) (v := undef) rfl (by kernel_rfl) (by kernel_rfl) (by kernel_rfl) (fun _ _ _ h => h) (Or.inr ⟨by rfl, rfl⟩) (by assumption) ?_
  try simp only [Act.put, List.setIfInBounds_toArray, List.set_cons_zero, List.set_cons_succ]
  refine wpAnyH_take (i := 17) (oi := { dst := some 36, op := Op.indexAddr 88 (Operand.tmp 34) (Operand.tmp 35), type := 0, pos := _, after := _, guard := some (7, false) }) (v := undef) rfl (by kernel_rfl) (by kernel_rfl) (by kernel_rfl) (fun _ _ _ h => h) (Or.inr ⟨by rfl, rfl⟩) (by assumption) ?_
  try simp only [Act.put, List.setIfInBounds_toArray, List.set_cons_zero, List.set_cons_succ]
  refine wpAnyH_take (i := 18) (oi := { dst := some 37, op := Op.load 91 (Operand.tmp 36), type := 91, pos := _, after := _, guard := some (7, false) }) (v := undef) rfl (by kernel_rfl) (by kernel_rfl) (by kernel_rfl) (fun _ _ _ h => h) (Or.inr ⟨by rfl, rfl⟩) (by assumption) ?_
  try simp only [Act.put, List.setIfInBounds_toArray, List.set_cons_zero, List.set_cons_succ]
  refine wpAnyH_take (i := 19) (oi := { dst := some 38, op := Op.call { callee := Callee.value (Operand.func 55), args := #[Operand.tmp 30, Operand.tmp 37], argTypes := #[91, 91] }, type := 4, pos := _, after := _, guard := some (7, false) }) (v := undef) rfl (by kernel_rfl) (by kernel_rfl) (by kernel_rfl) (fun _ _ _ h => h) (Or.inr ⟨by rfl, rfl⟩) (by assumption) ?_
  try simp only [Act.put, List.setIfInBounds_toArray, List.set_cons_zero, List.set_cons_succ]
  refine wpAnyH_take (i := 20) (oi := { dst := some 39, op := Op.unOp UnOp.not 4 (Operand.tmp 38), type := 4, pos := _, after := _, guard := some (7, false) }) (v := undef) rfl (by kernel_rfl) (by kernel_rfl) (by kernel_rfl) (fun _ _ _ h => h) (Or.inr ⟨by rfl, rfl⟩) (by assumption) ?_
  try simp only [Act.put, List.setIfInBounds_toArray, List.set_cons_zero, List.set_cons_succ]
  refine wpAnyH_take (i := 21) (oi := { dst := some 40, op := Op.pick (Operand.tmp 26) (Operand.const (Value.bool true)) (Operand.tmp 39), type := 4, pos := _, after := _, guard := none }) (v := ?_) rfl (by kernel_rfl) (by kernel_rfl) (by kernel_rfl) (fun _ _ _ h => h) (Or.inl ⟨by rfl, ?_⟩) (by assumption) ?_
  rotate_left
  · (intro w hSw; (try dsimp only at hSw); go_simp) <;> with_reducible rfl
  try simp only [Act.put, List.setIfInBounds_toArray, List.set_cons_zero, List.set_cons_succ]
  refine wpAnyH_take (i := 22) (oi := { dst := some 41, op := Op.move (Operand.tmp 40), type := 4, pos := _, after := _, guard := none }) (v := ?_) rfl (by kernel_rfl) (by kernel_rfl) (by kernel_rfl) (fun _ _ _ h => h) (Or.inl ⟨by rfl, ?_⟩) (by assumption) ?_
  rotate_left
  · (intro w hSw; (try dsimp only at hSw); go_simp) <;> with_reducible rfl
  try simp only [Act.put, List.setIfInBounds_toArray, List.set_cons_zero, List.set_cons_succ]
  refine wpAnyH_take (i := 23) (oi := { dst := some 42, op := Op.move (Operand.tmp 1), type := 98, pos := _, after := _, guard := some (22, false) }) (v := undef) rfl (by kernel_rfl) (by kernel_rfl) (by kernel_rfl) (fun _ _ _ h => h) (Or.inr ⟨by rfl, rfl⟩) (by assumption) ?_
  try simp only [Act.put, List.setIfInBounds_toArray, List.set_cons_zero, List.set_cons_succ]
  refine wpAnyH_take (i := 24) (oi := { dst := some 43, op := Op.nilCheck (Operand.tmp 42), type := 0, pos := _, after := _, guard := some (22, false) }) (v := undef) rfl (by kernel_rfl) (by kernel_rfl) (by kernel_rfl) (fun _ _ _ h => h) (Or.inr ⟨by rfl, rfl⟩) (by assumption) ?_
  try simp only [Act.put, List.setIfInBounds_toArray, List.set_cons_zero, List.set_cons_succ]
  refine wpAnyH_take (i := 25) (oi := { dst := some 44, op := Op.fieldAddr 97 (Operand.tmp 43) 1, type := 0, pos := _, after := _, guard := some (22, false) }) (v := undef) rfl (by kernel_rfl) (by kernel_rfl) (by kernel_rfl) (fun _ _ _ h => h) (Or.inr ⟨by rfl, rfl⟩) (by assumption) ?_
  try simp only [Act.put, List.setIfInBounds_toArray, List.set_cons_zero, List.set_cons_succ]
  refine wpAnyH_take (i := 26) (oi := { dst := some 45, op := Op.load 59 (Operand.tmp 44), type := 59, pos := _, after := _, guard := some (22, false) }) (v := undef) rfl (by kernel_rfl) (by kernel_rfl) (by kernel_rfl) (fun _ _ _ h => h) (Or.inr ⟨by rfl, rfl⟩) (by assumption) ?_
  try simp only [Act.put, List.setIfInBounds_toArray, List.set_cons_zero, List.set_cons_succ]
  refine wpAnyH_take (i := 27) (oi := { dst := some 46, op := Op.load 50 (Operand.tmp 9), type := 50, pos := _, after := _, guard := some (22, false) }) (v := undef) rfl (by kernel_rfl) (by kernel_rfl) (by kernel_rfl) (fun _ _ _ h => h) (Or.inr ⟨by rfl, rfl⟩) (by assumption) ?_
  try simp only [Act.put, List.setIfInBounds_toArray, List.set_cons_zero, List.set_cons_succ]
  refine wpAnyH_take (i := 28) (oi := { dst := some 47, op := Op.call { callee := Callee.value (Operand.func 48), args := #[Operand.tmp 45, Operand.tmp 46], argTypes := #[59, 50] }, type := 4, pos := _, after := _, guard := some (22, false) }) (v := undef) rfl (by kernel_rfl) (by kernel_rfl) (by kernel_rfl) (fun _ _ _ h => h) (Or.inr ⟨by rfl, rfl⟩) (by assumption) ?_
  try simp only [Act.put, List.setIfInBounds_toArray, List.set_cons_zero, List.set_cons_succ]
  refine wpAnyH_take (i := 29) (oi := { dst := some 48, op := Op.unOp UnOp.not 4 (Operand.tmp 47), type := 4, pos := _, after := _, guard := some (22, false) }) (v := undef) rfl (by kernel_rfl) (by kernel_rfl) (by kernel_rfl) (fun _ _ _ h => h) (Or.inr ⟨by rfl, rfl⟩) (by assumption) ?_
  try simp only [Act.put, List.setIfInBounds_toArray, List.set_cons_zero, List.set_cons_succ]
  refine wpAnyH_take (i := 30) (oi := { dst := some 49, op := Op.pick (Operand.tmp 41) (Operand.const (Value.bool true)) (Operand.tmp 48), type := 4, pos := _, after := _, guard := none }) (v := ?_) rfl (by kernel_rfl) (by kernel_rfl) (by kernel_rfl) (fun _ _ _ h => h) (Or.inl ⟨by rfl, ?_⟩) (by assumption) ?_
  rotate_left
  · (intro w hSw; (try dsimp only at hSw); go_simp) <;> with_reducible rfl
  try simp only [Act.put, List.setIfInBounds_toArray, List.set_cons_zero, List.set_cons_succ]
  refine wpAnyH_done (by kernel_rfl) ?_ _
  go_wp2
  go_ret
  exact ⟨rfl, HBd.out⟩
set_option maxHeartbeats 16000000 in
/-- one that is before it was not played -/
theorem leads_early (W : World) (B Q m oc A gh hc gv vc n r N ob oo d k E : Nat) (ah : List Nat) (L : List Lv) (M : DataW Unit) (q : Opv) (hv : Lv) (h : Sm W B Q (some ⟨ob, oo, none⟩) m oc A gh hc ah gv vc n L r N M) (hkm : k < m) (hm : m ≤ 10) (hns : n ≤ 4096) (hc7 : ∀ j v, q.cells[j]? = some v → W.cell? ⟨ob, oo + k * 7 + j, none⟩ = some v) (hE : ah[k]? = some E) (hEl : E < 65536) (hd : L[d]? = some hv) (hDl : hv.D < 65536) (hs : Sub (2 ^ k) hv.D = false) (hs2 : Sub E hv.D = false) :
    Calls Try.prog 56 #[.pointer (some ⟨Q, 0, none⟩), .pointer (some ⟨gv, d * 3, none⟩), .pointer (some ⟨gv, (d + 1) * 3, none⟩), .int .i64 (k : Int)] W fun e w' => e = .returned (.bool false) ∧ Below W.heap.size W w' := by
  have q0 := h.q0
  have HB : Hid (Below W.heap.size W (W.alloc (.cells #[.int .i64 q.k, .int .i64 q.fr, .int .i64 q.to_, .int .i64 q.off, .int .i64 q.len, .slice q.da q.n q.dc, .bool q.sy] 50))) := (Below.refl _ W).alloc (Nat.le_refl _) _
  have HX : Hid (∀ j v, (#[.int .i64 q.k, .int .i64 q.fr, .int .i64 q.to_, .int .i64 q.off, .int .i64 q.len, .slice q.da q.n q.dc, .bool q.sy] : Array Value)[j]? = some v → (W.alloc (.cells #[.int .i64 q.k, .int .i64 q.fr, .int .i64 q.to_, .int .i64 q.off, .int .i64 q.len, .slice q.da q.n q.dc, .bool q.sy] 50)).cell? ⟨W.heap.size, j, none⟩ = some v) := fun j v hv => by
    rw [blk_at (heap_new _ _) j]; exact hv
  have HC : Hid (∀ w' : World, Below W.heap.size W w' → (∀ j v, (#[.int .i64 q.k, .int .i64 q.fr, .int .i64 q.to_, .int .i64 q.off, .int .i64 q.len, .slice q.da q.n q.dc, .bool q.sy] : Array Value)[j]? = some v → w'.cell? ⟨W.heap.size, j, none⟩ = some v) → w'.cell? ⟨Q, 2, none⟩ = some (.slice (some ⟨gh, 0, none⟩) m hc) ∧ w'.cell? ⟨gv, d * 3, none⟩ = some (.int .u16 (hv.D : Int)) ∧ w'.cell? ⟨gv, d * 3 + 1, none⟩ = some (.slice hv.a n hv.c) ∧ w'.cell? ⟨gh, k, none⟩ = some (.int .u16 (E : Int)) ∧ w'.cell? ⟨W.heap.size, 0, none⟩ = some (.int .i64 q.k) ∧ w'.cell? ⟨W.heap.size, 1, none⟩ = some (.int .i64 q.fr) ∧ w'.cell? ⟨W.heap.size, 2, none⟩ = some (.int .i64 q.to_) ∧ w'.cell? ⟨W.heap.size, 3, none⟩ = some (.int .i64 q.off) ∧ w'.cell? ⟨W.heap.size, 4, none⟩ = some (.int .i64 q.len) ∧ w'.cell? ⟨W.heap.size, 5, none⟩ = some (.slice q.da q.n q.dc) ∧ w'.cell? ⟨W.heap.size, 6, none⟩ = some (.bool q.sy)) := fun w' hb hj =>
    ⟨cell_later hb h.q2, cell_later hb (h.lvc hd (c := 0) (by decide)), cell_later hb (h.lvc hd (c := 1) (by decide)), cell_later hb (h.ahc hE), hj 0 _ rfl, hj 1 _ rfl, hj 2 _ rfl, hj 3 _ rfl, hj 4 _ rfl, hj 5 _ rfl, hj 6 _ rfl⟩
  have c0 : W.cell? ⟨ob, oo + k * 7, none⟩ = some (.int .i64 q.k) := hc7 0 _ rfl
  have c1 : W.cell? ⟨ob, oo + k * 7 + 1, none⟩ = some (.int .i64 q.fr) := hc7 1 _ rfl
  have c2 : W.cell? ⟨ob, oo + k * 7 + 2, none⟩ = some (.int .i64 q.to_) := hc7 2 _ rfl
  have c3 : W.cell? ⟨ob, oo + k * 7 + 3, none⟩ = some (.int .i64 q.off) := hc7 3 _ rfl
  have c4 : W.cell? ⟨ob, oo + k * 7 + 4, none⟩ = some (.int .i64 q.len) := hc7 4 _ rfl
  have c5 : W.cell? ⟨ob, oo + k * 7 + 5, none⟩ = some (.slice q.da q.n q.dc) := hc7 5 _ rfl
  have c6 : W.cell? ⟨ob, oo + k * 7 + 6, none⟩ = some (.bool q.sy) := hc7 6 _ rfl
  have kk0 : (0 : Int) ≤ (k : Int) := by omega
  have kk9 : (k : Int) < (m : Int) := by omega
  have HO := fun U => only_any k (by omega) U
  have HP2 : Hid ((2 ^ k : Nat) < 65536) := Nat.lt_of_lt_of_le (Nat.pow_lt_pow_right (by decide) (show k < 16 by omega)) (by decide)
  obtain ⟨X, hX⟩ : ∃ X : Nat, 2 ^ k = X := ⟨_, rfl⟩
  rw [hX] at HP2 hs
  have HO2 : ∀ U : World, Calls Try.prog 53 #[.int .i64 (k : Int)] U fun e w' => e = .returned (.int .u16 (X : Int)) ∧ w' = U := fun U => by have := HO U; rwa [hX] at this
  have HH := fun U => holds_any hv.D X hDl HP2.out U
  have HH2 := fun U => holds_any hv.D E hDl hEl U
  rw [hs] at HH
  rw [hs2] at HH2
  obtain ⟨V, hV⟩ : ∃ V, V = W.alloc (.cells #[.int .i64 q.k, .int .i64 q.fr, .int .i64 q.to_, .int .i64 q.off, .int .i64 q.len, .slice q.da q.n q.dc, .bool q.sy] 50) := ⟨_, rfl⟩
  rw [← hV] at HB HX
  have HL : Hid (W.heap.size < V.heap.size) := by show W.heap.size < V.heap.size; rw [hV]; simp
  have HBd : Hid (Below W.heap.size W V.drew) := HB.out.trans ⟨rfl, rfl, rfl, Nat.le_refl _, fun _ _ => rfl⟩
  clear h hc7 hd hE
  go_enter Try.func56, Try.ntmps56
  go_wp2_with fail
  rw [← hV]
  clear hV c0 c1 c2 c3 c4 c5 c6 q0
  refine wp_region_held_drew (S := (fun w' => w'.cell? ⟨Q, 2, none⟩ = some (.slice (some ⟨gh, 0, none⟩) m hc) ∧ w'.cell? ⟨gv, d * 3, none⟩ = some (.int .u16 (hv.D : Int)) ∧ w'.cell? ⟨gv, d * 3 + 1, none⟩ = some (.slice hv.a n hv.c) ∧ w'.cell? ⟨gh, k, none⟩ = some (.int .u16 (E : Int)) ∧ w'.cell? ⟨W.heap.size, 0, none⟩ = some (.int .i64 q.k) ∧ w'.cell? ⟨W.heap.size, 1, none⟩ = some (.int .i64 q.fr) ∧ w'.cell? ⟨W.heap.size, 2, none⟩ = some (.int .i64 q.to_) ∧ w'.cell? ⟨W.heap.size, 3, none⟩ = some (.int .i64 q.off) ∧ w'.cell? ⟨W.heap.size, 4, none⟩ = some (.int .i64 q.len) ∧ w'.cell? ⟨W.heap.size, 5, none⟩ = some (.slice q.da q.n q.dc) ∧ w'.cell? ⟨W.heap.size, 6, none⟩ = some (.bool q.sy))) (by kernel_rfl) ?_ (fun hHeld => ?_)
  · exact HC.out _ HBd.out HX.out
  refine wpAnyH_take (i := 0) (oi := { dst := some 19, op := Op.move (Operand.tmp 1), type := 98, pos := _, after := #[], guard := none }) (v := ?_) rfl (by kernel_rfl) (by kernel_rfl) (by kernel_rfl) (fun _ _ _ h => h) (Or.inl ⟨by rfl, ?_⟩) (by assumption) ?_
  rotate_left
  · (intro w hSw; (try dsimp only at hSw); go_simp) <;> with_reducible rfl
  try simp only [Act.put, List.setIfInBounds_toArray, List.set_cons_zero, List.set_cons_succ]
  refine wpAnyH_take (i := 1) (oi := { dst := some 20, op := Op.nilCheck (Operand.tmp 19), type := 0, pos := _, after := _, guard := none }) (v := ?_) rfl (by kernel_rfl) (by kernel_rfl) (by kernel_rfl) (fun _ _ _ h => h) (Or.inl ⟨by rfl, ?_⟩) (by assumption) ?_
  rotate_left
  · (intro w hSw; (try dsimp only at hSw); go_simp) <;> with_reducible rfl
  try simp only [Act.put, List.setIfInBounds_toArray, List.set_cons_zero, List.set_cons_succ]
  refine wpAnyH_take (i := 2) (oi := { dst := some 21, op := Op.fieldAddr 97 (Operand.tmp 20) 0, type := 0, pos := _, after := _, guard := none }) (v := ?_) rfl (by kernel_rfl) (by kernel_rfl) (by kernel_rfl) (fun _ _ _ h => h) (Or.inl ⟨by rfl, ?_⟩) (by assumption) ?_
  rotate_left
  · (intro w hSw; (try dsimp only at hSw); go_simp) <;> with_reducible rfl
  try simp only [Act.put, List.setIfInBounds_toArray, List.set_cons_zero, List.set_cons_succ]
  refine wpAnyH_take (i := 3) (oi := { dst := some 22, op := Op.load 91 (Operand.tmp 21), type := 91, pos := _, after := _, guard := none }) (v := ?_) rfl (by kernel_rfl) (by kernel_rfl) (by kernel_rfl) (fun _ _ _ h => h) (Or.inl ⟨by rfl, ?_⟩) (by assumption) ?_
  rotate_left
  · (intro w hSw; (try dsimp only at hSw); go_simp) <;> with_reducible rfl
  try simp only [Act.put, List.setIfInBounds_toArray, List.set_cons_zero, List.set_cons_succ]
  refine wpAnyH_take (i := 4) (oi := { dst := some 23, op := Op.move (Operand.tmp 3), type := 3, pos := _, after := #[], guard := none }) (v := ?_) rfl (by kernel_rfl) (by kernel_rfl) (by kernel_rfl) (fun _ _ _ h => h) (Or.inl ⟨by rfl, ?_⟩) (by assumption) ?_
  rotate_left
  · (intro w hSw; (try dsimp only at hSw); go_simp) <;> with_reducible rfl
  try simp only [Act.put, List.setIfInBounds_toArray, List.set_cons_zero, List.set_cons_succ]
  refine wpAnyH_ready (rs := [5]) (by kernel_rfl) (by simp) ?_
  refine AllReadyH.cons (o := { dst := some 24, op := Op.call { callee := Callee.value (Operand.func 53), args := #[Operand.tmp 23], argTypes := #[3] }, type := 91, pos := _, after := _, guard := none }) rfl (fun K hK => ?_) AllReadyH.nil
  go_simp
  go_at_call 53
  refine (HO2 _).mono ?_
  rintro ex w9 ⟨rfl, rfl⟩
  try go_simp
  clear hHeld
  refine hK.out _ _ ?_ (fun hHeld => ?_)
  · exact HC.out _ HBd.out HX.out
  clear hK K
  try simp only [Act.put, List.setIfInBounds_toArray, List.set_cons_zero, List.set_cons_succ]
  refine wpAnyH_ready (rs := [6]) (by kernel_rfl) (by simp) ?_
  refine AllReadyH.cons (o := { dst := some 25, op := Op.call { callee := Callee.value (Operand.func 55), args := #[Operand.tmp 22, Operand.tmp 24], argTypes := #[91, 91] }, type := 4, pos := _, after := _, guard := none }) rfl (fun K hK => ?_) AllReadyH.nil
  go_simp
  go_at_call 55
  refine (HH _).mono ?_
  rintro ex w9 ⟨rfl, rfl⟩
  try go_simp
  clear hHeld
  refine hK.out _ _ ?_ (fun hHeld => ?_)
  · exact HC.out _ HBd.out HX.out
  clear hK K
  try simp only [Act.put, List.setIfInBounds_toArray, List.set_cons_zero, List.set_cons_succ]
  refine wpAnyH_take (i := 7) (oi := { dst := some 26, op := Op.move (Operand.tmp 25), type := 4, pos := _, after := _, guard := none }) (v := ?_) rfl (by kernel_rfl) (by kernel_rfl) (by kernel_rfl) (fun _ _ _ h => h) (Or.inl ⟨by rfl, ?_⟩) (by assumption) ?_
  rotate_left
  · (intro w hSw; (try dsimp only at hSw); go_simp) <;> with_reducible rfl
  try simp only [Act.put, List.setIfInBounds_toArray, List.set_cons_zero, List.set_cons_succ]
  refine wpAnyH_take (i := 8) (oi := { dst := some 27, op := Op.move (Operand.tmp 1), type := 98, pos := _, after := _, guard := some (7, false) }) (v := ?_) rfl (by kernel_rfl) (by kernel_rfl) (by kernel_rfl) (fun _ _ _ h => h) (Or.inl ⟨by rfl, ?_⟩) (by assumption) ?_
  rotate_left
  · (intro w hSw; (try dsimp only at hSw); go_simp) <;> with_reducible rfl
  try simp only [Act.put, List.setIfInBounds_toArray, List.set_cons_zero, List.set_cons_succ]
  refine wpAnyH_take (i := 9) (oi := { dst := some 28, op := Op.nilCheck (Operand.tmp 27), type := 0, pos := _, after := _, guard := some (7, false) }) (v := ?_) rfl (by kernel_rfl) (by kernel_rfl) (by kernel_rfl) (fun _ _ _ h => h) (Or.inl ⟨by rfl, ?_⟩) (by assumption) ?_
  rotate_left
  · (intro w hSw; (try dsimp only at hSw); go_simp) <;> with_reducible rfl
  try simp only [Act.put, List.setIfInBounds_toArray, List.set_cons_zero, List.set_cons_succ]
  refine wpAnyH_take (i := 10) (oi := { dst := some 29, op := Op.fieldAddr 97 (Operand.tmp 28) 0, type := 0, pos := _, after := _, guard := some (7, false) }) (v := ?_) rfl (by kernel_rfl) (by kernel_rfl) (by kernel_rfl) (fun _ _ _ h => h) (Or.inl ⟨by rfl, ?_⟩) (by assumption) ?_
  rotate_left
  · (intro w hSw; (try dsimp only at hSw); go_simp) <;> with_reducible rfl
  try simp only [Act.put, List.setIfInBounds_toArray, List.set_cons_zero, List.set_cons_succ]
  refine wpAnyH_take (i := 11) (oi := { dst := some 30, op := Op.load 91 (Operand.tmp 29), type := 91, pos := _, after := _, guard := some (7, false) }) (v := ?_) rfl (by kernel_rfl) (by kernel_rfl) (by kernel_rfl) (fun _ _ _ h => h) (Or.inl ⟨by rfl, ?_⟩) (by assumption) ?_
  rotate_left
  · (intro w hSw; (try dsimp only at hSw); go_simp) <;> with_reducible rfl
  try simp only [Act.put, List.setIfInBounds_toArray, List.set_cons_zero, List.set_cons_succ]
  refine wpAnyH_take (i := 12) (oi := { dst := some 31, op := Op.move (Operand.tmp 0), type := 68, pos := _, after := _, guard := some (7, false) }) (v := ?_) rfl (by kernel_rfl) (by kernel_rfl) (by kernel_rfl) (fun _ _ _ h => h) (Or.inl ⟨by rfl, ?_⟩) (by assumption) ?_
  rotate_left
  · (intro w hSw; (try dsimp only at hSw); go_simp) <;> with_reducible rfl
  try simp only [Act.put, List.setIfInBounds_toArray, List.set_cons_zero, List.set_cons_succ]
  refine wpAnyH_take (i := 13) (oi := { dst := some 32, op := Op.nilCheck (Operand.tmp 31), type := 0, pos := _, after := _, guard := some (7, false) }) (v := ?_) rfl (by kernel_rfl) (by kernel_rfl) (by kernel_rfl) (fun _ _ _ h => h) (Or.inl ⟨by rfl, ?_⟩) (by assumption) ?_
  rotate_left
  · (intro w hSw; (try dsimp only at hSw); go_simp) <;> with_reducible rfl
  try simp only [Act.put, List.setIfInBounds_toArray, List.set_cons_zero, List.set_cons_succ]
  refine wpAnyH_take (i := 14) (oi := { dst := some 33, op := Op.fieldAddr 94 (Operand.tmp 32) 2, type := 0, pos := _, after := _, guard := some (7, false) }) (v := ?_) rfl (by kernel_rfl) (by kernel_rfl) (by kernel_rfl) (fun _ _ _ h => h) (Or.inl ⟨by rfl, ?_⟩) (by assumption) ?_
  rotate_left
  · (intro w hSw; (try dsimp only at hSw); go_simp) <;> with_reducible rfl
  try simp only [Act.put, List.setIfInBounds_toArray, List.set_cons_zero, List.set_cons_succ]
  refine wpAnyH_take (i := 15) (oi := { dst := some 34, op := Op.load 88 (Operand.tmp 33), type := 88, pos := _, after := _, guard := some (7, false) }) (v := ?_) rfl (by kernel_rfl) (by kernel_rfl) (by kernel_rfl) (fun _ _ _ h => h) (Or.inl ⟨by rfl, ?_⟩) (by assumption) ?_
  rotate_left
  · (intro w hSw; (try dsimp only at hSw); go_simp) <;> with_reducible rfl
  try simp only [Act.put, List.setIfInBounds_toArray, List.set_cons_zero, List.set_cons_succ]
  refine wpAnyH_take (i := 16) (oi := { dst := some 35, op := Op.move (Operand.tmp 3), type := 3, pos := _, after := _, guard := some (7, false) }) (v := ?_) rfl (by kernel_rfl) (by kernel_rfl) (by kernel_rfl) (fun _ _ _ h => h) (Or.inl ⟨by rfl, ?_⟩) (by assumption) ?_
  rotate_left
  · (intro w hSw; (try dsimp only at hSw); go_simp) <;> with_reducible rfl
  try simp only [Act.put, List.setIfInBounds_toArray, List.set_cons_zero, List.set_cons_succ]
  refine wpAnyH_take (i := 17) (oi := { dst := some 36, op := Op.indexAddr 88 (Operand.tmp 34) (Operand.tmp 35), type := 0, pos := _, after := _, guard := some (7, false) }) (v := ?_) rfl (by kernel_rfl) (by kernel_rfl) (by kernel_rfl) (fun _ _ _ h => h) (Or.inl ⟨by rfl, ?_⟩) (by assumption) ?_
  rotate_left
  · (intro w hSw; (try dsimp only at hSw); go_simp) <;> with_reducible rfl
  try simp only [Act.put, List.setIfInBounds_toArray, List.set_cons_zero, List.set_cons_succ]
  refine wpAnyH_take (i := 18) (oi := { dst := some 37, op := Op.load 91 (Operand.tmp 36), type := 91, pos := _, after := _, guard := some (7, false) }) (v := ?_) rfl (by kernel_rfl) (by kernel_rfl) (by kernel_rfl) (fun _ _ _ h => h) (Or.inl ⟨by rfl, ?_⟩) (by assumption) ?_
  rotate_left
  · (intro w hSw; (try dsimp only at hSw); go_simp) <;> with_reducible rfl
  try simp only [Act.put, List.setIfInBounds_toArray, List.set_cons_zero, List.set_cons_succ]
  refine wpAnyH_ready (rs := [19]) (by kernel_rfl) (by simp) ?_
  refine AllReadyH.cons (o := { dst := some 38, op := Op.call { callee := Callee.value (Operand.func 55), args := #[Operand.tmp 30, Operand.tmp 37], argTypes := #[91, 91] }, type := 4, pos := _, after := _, guard := some (7, false) }) rfl (fun K hK => ?_) AllReadyH.nil
  go_simp
  go_at_call 55
  refine (HH2 _).mono ?_
  rintro ex w9 ⟨rfl, rfl⟩
  try go_simp
  clear hHeld
  refine hK.out _ _ ?_ (fun hHeld => ?_)
  · exact HC.out _ HBd.out HX.out
  clear hK K
  try simp only [Act.put, List.setIfInBounds_toArray, List.set_cons_zero, List.set_cons_succ]
  refine wpAnyH_take (i := 20) (oi := { dst := some 39, op := Op.unOp UnOp.not 4 (Operand.tmp 38), type := 4, pos := _, after := _, guard := some (7, false) }) (v := ?_) rfl (by kernel_rfl) (by kernel_rfl) (by kernel_rfl) (fun _ _ _ h => h) (Or.inl ⟨by rfl, ?_⟩) (by assumption) ?_
  rotate_left
  · (intro w hSw; (try dsimp only at hSw); go_simp) <;> with_reducible rfl
  try simp only [Act.put, List.setIfInBounds_toArray, List.set_cons_zero, List.set_cons_succ]
  refine wpAnyH_take (i := 21) (oi := { dst := some 40, op := Op.pick (Operand.tmp 26) (Operand.const (Value.bool true)) (Operand.tmp 39), type := 4, pos := _, after := _, guard := none }) (v := ?_) rfl (by kernel_rfl) (by kernel_rfl) (by kernel_rfl) (fun _ _ _ h => h) (Or.inl ⟨by rfl, ?_⟩) (by assumption) ?_
  rotate_left
  · (intro w hSw; (try dsimp only at hSw); go_simp) <;> with_reducible rfl
  try simp only [Act.put, List.setIfInBounds_toArray, List.set_cons_zero, List.set_cons_succ]
  refine wpAnyH_take (i := 22) (oi := { dst := some 41, op := Op.move (Operand.tmp 40), type := 4, pos := _, after := _, guard := none }) (v := ?_) rfl (by kernel_rfl) (by kernel_rfl) (by kernel_rfl) (fun _ _ _ h => h) (Or.inl ⟨by rfl, ?_⟩) (by assumption) ?_
  rotate_left
  · (intro w hSw; (try dsimp only at hSw); go_simp) <;> with_reducible rfl
  try simp only [Act.put, List.setIfInBounds_toArray, List.set_cons_zero, List.set_cons_succ]
  refine wpAnyH_take (i := 23) (oi := { dst := some 42, op := Op.move (Operand.tmp 1), type := 98, pos := _, after := _, guard := some (22, false) }) (v := undef) rfl (by kernel_rfl) (by kernel_rfl) (by kernel_rfl) (fun _ _ _ h => h) (Or.inr ⟨by rfl, rfl⟩) (by assumption) ?_
  try simp only [Act.put, List.setIfInBounds_toArray, List.set_cons_zero, List.set_cons_succ]
  refine wpAnyH_take (i := 24) (oi := { dst := some 43, op := Op.nilCheck (Operand.tmp 42), type := 0, pos := _, after := _, guard := some (22, false) }) (v := undef) rfl (by kernel_rfl) (by kernel_rfl) (by kernel_rfl) (fun _ _ _ h => h) (Or.inr ⟨by rfl, rfl⟩) (by assumption) ?_
  try simp only [Act.put, List.setIfInBounds_toArray, List.set_cons_zero, List.set_cons_succ]
  refine wpAnyH_take (i := 25) (oi := { dst := some 44, op := Op.fieldAddr 97 (Operand.tmp 43) 1, type := 0, pos := _, after := _, guard := some (22, false) }) (v := undef) rfl (by kernel_rfl) (by kernel_rfl) (by kernel_rfl) (fun _ _ _ h => h) (Or.inr ⟨by rfl, rfl⟩) (by assumption) ?_
  try simp only [Act.put, List.setIfInBounds_toArray, List.set_cons_zero, List.set_cons_succ]
  refine wpAnyH_take (i := 26) (oi := { dst := some 45, op := Op.load 59 (Operand.tmp 44), type := 59, pos := _, after := _, guard := some (22, false) }) (v := undef) rfl (by kernel_rfl) (by kernel_rfl) (by kernel_rfl) (fun _ _ _ h => h) (Or.inr ⟨by rfl, rfl⟩) (by assumption) ?_
  try simp only [Act.put, List.setIfInBounds_toArray, List.set_cons_zero, List.set_cons_succ]
  refine wpAnyH_take (i := 27) (oi := { dst := some 46, op := Op.load 50 (Operand.tmp 9), type := 50, pos := _, after := _, guard := some (22, false) }) (v := undef) rfl (by kernel_rfl) (by kernel_rfl) (by kernel_rfl) (fun _ _ _ h => h) (Or.inr ⟨by rfl, rfl⟩) (by assumption) ?_
  try simp only [Act.put, List.setIfInBounds_toArray, List.set_cons_zero, List.set_cons_succ]
  refine wpAnyH_take (i := 28) (oi := { dst := some 47, op := Op.call { callee := Callee.value (Operand.func 48), args := #[Operand.tmp 45, Operand.tmp 46], argTypes := #[59, 50] }, type := 4, pos := _, after := _, guard := some (22, false) }) (v := undef) rfl (by kernel_rfl) (by kernel_rfl) (by kernel_rfl) (fun _ _ _ h => h) (Or.inr ⟨by rfl, rfl⟩) (by assumption) ?_
  try simp only [Act.put, List.setIfInBounds_toArray, List.set_cons_zero, List.set_cons_succ]
  refine wpAnyH_take (i := 29) (oi := { dst := some 48, op := Op.unOp UnOp.not 4 (Operand.tmp 47), type := 4, pos := _, after := _, guard := some (22, false) }) (v := undef) rfl (by kernel_rfl) (by kernel_rfl) (by kernel_rfl) (fun _ _ _ h => h) (Or.inr ⟨by rfl, rfl⟩) (by assumption) ?_
  try simp only [Act.put, List.setIfInBounds_toArray, List.set_cons_zero, List.set_cons_succ]
  refine wpAnyH_take (i := 30) (oi := { dst := some 49, op := Op.pick (Operand.tmp 41) (Operand.const (Value.bool true)) (Operand.tmp 48), type := 4, pos := _, after := _, guard := none }) (v := ?_) rfl (by kernel_rfl) (by kernel_rfl) (by kernel_rfl) (fun _ _ _ h => h) (Or.inl ⟨by rfl, ?_⟩) (by assumption) ?_
  rotate_left
  · (intro w hSw; (try dsimp only at hSw); go_simp) <;> with_reducible rfl
  try simp only [Act.put, List.setIfInBounds_toArray, List.set_cons_zero, List.set_cons_succ]
  refine wpAnyH_done (by kernel_rfl) ?_ _
  go_wp2
  go_ret
  exact ⟨rfl, HBd.out⟩
set_option maxHeartbeats 16000000 in
/-- it does not fit -/
theorem leads_misfit (W : World) (B Q m oc A gh hc gv vc n r N ob oo d k E : Nat) (ah : List Nat) (L : List Lv) (M : DataW Unit) (q : Opv) (hv : Lv) (h : Sm W B Q (some ⟨ob, oo, none⟩) m oc A gh hc ah gv vc n L r N M) (hkm : k < m) (hm : m ≤ 10) (hns : n ≤ 4096) (hc7 : ∀ j v, q.cells[j]? = some v → W.cell? ⟨ob, oo + k * 7 + j, none⟩ = some v) (hE : ah[k]? = some E) (hEl : E < 65536) (hd : L[d]? = some hv) (hDl : hv.D < 65536) (hs : Sub (2 ^ k) hv.D = false) (hs2 : Sub E hv.D = true) (hf : ∀ U, Below W.heap.size W U → Calls Try.prog 48 #[.slice hv.a n hv.c, .agg q.cells] U fun e w' => e = .returned (.bool false) ∧ Below U.heap.size U w') :
    Calls Try.prog 56 #[.pointer (some ⟨Q, 0, none⟩), .pointer (some ⟨gv, d * 3, none⟩), .pointer (some ⟨gv, (d + 1) * 3, none⟩), .int .i64 (k : Int)] W fun e w' => e = .returned (.bool false) ∧ Below W.heap.size W w' := by
  have HF : Hid (∀ U, Below W.heap.size W U → Calls Try.prog 48 #[.slice hv.a n hv.c, .agg #[.int .i64 q.k, .int .i64 q.fr, .int .i64 q.to_, .int .i64 q.off, .int .i64 q.len, .slice q.da q.n q.dc, .bool q.sy]] U fun e w' => e = .returned (.bool false) ∧ Below U.heap.size U w') := hf
  have q0 := h.q0
  have HB : Hid (Below W.heap.size W (W.alloc (.cells #[.int .i64 q.k, .int .i64 q.fr, .int .i64 q.to_, .int .i64 q.off, .int .i64 q.len, .slice q.da q.n q.dc, .bool q.sy] 50))) := (Below.refl _ W).alloc (Nat.le_refl _) _
  have HX : Hid (∀ j v, (#[.int .i64 q.k, .int .i64 q.fr, .int .i64 q.to_, .int .i64 q.off, .int .i64 q.len, .slice q.da q.n q.dc, .bool q.sy] : Array Value)[j]? = some v → (W.alloc (.cells #[.int .i64 q.k, .int .i64 q.fr, .int .i64 q.to_, .int .i64 q.off, .int .i64 q.len, .slice q.da q.n q.dc, .bool q.sy] 50)).cell? ⟨W.heap.size, j, none⟩ = some v) := fun j v hv => by
    rw [blk_at (heap_new _ _) j]; exact hv
  have HC : Hid (∀ w' : World, Below W.heap.size W w' → (∀ j v, (#[.int .i64 q.k, .int .i64 q.fr, .int .i64 q.to_, .int .i64 q.off, .int .i64 q.len, .slice q.da q.n q.dc, .bool q.sy] : Array Value)[j]? = some v → w'.cell? ⟨W.heap.size, j, none⟩ = some v) → w'.cell? ⟨Q, 2, none⟩ = some (.slice (some ⟨gh, 0, none⟩) m hc) ∧ w'.cell? ⟨gv, d * 3, none⟩ = some (.int .u16 (hv.D : Int)) ∧ w'.cell? ⟨gv, d * 3 + 1, none⟩ = some (.slice hv.a n hv.c) ∧ w'.cell? ⟨gh, k, none⟩ = some (.int .u16 (E : Int)) ∧ w'.cell? ⟨W.heap.size, 0, none⟩ = some (.int .i64 q.k) ∧ w'.cell? ⟨W.heap.size, 1, none⟩ = some (.int .i64 q.fr) ∧ w'.cell? ⟨W.heap.size, 2, none⟩ = some (.int .i64 q.to_) ∧ w'.cell? ⟨W.heap.size, 3, none⟩ = some (.int .i64 q.off) ∧ w'.cell? ⟨W.heap.size, 4, none⟩ = some (.int .i64 q.len) ∧ w'.cell? ⟨W.heap.size, 5, none⟩ = some (.slice q.da q.n q.dc) ∧ w'.cell? ⟨W.heap.size, 6, none⟩ = some (.bool q.sy)) := fun w' hb hj =>
    ⟨cell_later hb h.q2, cell_later hb (h.lvc hd (c := 0) (by decide)), cell_later hb (h.lvc hd (c := 1) (by decide)), cell_later hb (h.ahc hE), hj 0 _ rfl, hj 1 _ rfl, hj 2 _ rfl, hj 3 _ rfl, hj 4 _ rfl, hj 5 _ rfl, hj 6 _ rfl⟩
  have c0 : W.cell? ⟨ob, oo + k * 7, none⟩ = some (.int .i64 q.k) := hc7 0 _ rfl
  have c1 : W.cell? ⟨ob, oo + k * 7 + 1, none⟩ = some (.int .i64 q.fr) := hc7 1 _ rfl
  have c2 : W.cell? ⟨ob, oo + k * 7 + 2, none⟩ = some (.int .i64 q.to_) := hc7 2 _ rfl
  have c3 : W.cell? ⟨ob, oo + k * 7 + 3, none⟩ = some (.int .i64 q.off) := hc7 3 _ rfl
  have c4 : W.cell? ⟨ob, oo + k * 7 + 4, none⟩ = some (.int .i64 q.len) := hc7 4 _ rfl
  have c5 : W.cell? ⟨ob, oo + k * 7 + 5, none⟩ = some (.slice q.da q.n q.dc) := hc7 5 _ rfl
  have c6 : W.cell? ⟨ob, oo + k * 7 + 6, none⟩ = some (.bool q.sy) := hc7 6 _ rfl
  have kk0 : (0 : Int) ≤ (k : Int) := by omega
  have kk9 : (k : Int) < (m : Int) := by omega
  have HO := fun U => only_any k (by omega) U
  have HP2 : Hid ((2 ^ k : Nat) < 65536) := Nat.lt_of_lt_of_le (Nat.pow_lt_pow_right (by decide) (show k < 16 by omega)) (by decide)
  obtain ⟨X, hX⟩ : ∃ X : Nat, 2 ^ k = X := ⟨_, rfl⟩
  rw [hX] at HP2 hs
  have HO2 : ∀ U : World, Calls Try.prog 53 #[.int .i64 (k : Int)] U fun e w' => e = .returned (.int .u16 (X : Int)) ∧ w' = U := fun U => by have := HO U; rwa [hX] at this
  have HH := fun U => holds_any hv.D X hDl HP2.out U
  have HH2 := fun U => holds_any hv.D E hDl hEl U
  rw [hs] at HH
  rw [hs2] at HH2
  obtain ⟨V, hV⟩ : ∃ V, V = W.alloc (.cells #[.int .i64 q.k, .int .i64 q.fr, .int .i64 q.to_, .int .i64 q.off, .int .i64 q.len, .slice q.da q.n q.dc, .bool q.sy] 50) := ⟨_, rfl⟩
  rw [← hV] at HB HX
  have HL : Hid (W.heap.size < V.heap.size) := by show W.heap.size < V.heap.size; rw [hV]; simp
  have HBd : Hid (Below W.heap.size W V.drew) := HB.out.trans ⟨rfl, rfl, rfl, Nat.le_refl _, fun _ _ => rfl⟩
  clear h hc7 hd hE hf
  go_enter Try.func56, Try.ntmps56
  go_wp2_with fail
  rw [← hV]
  clear hV c0 c1 c2 c3 c4 c5 c6 q0
  refine wp_region_held_drew (S := (fun w' => w'.cell? ⟨Q, 2, none⟩ = some (.slice (some ⟨gh, 0, none⟩) m hc) ∧ w'.cell? ⟨gv, d * 3, none⟩ = some (.int .u16 (hv.D : Int)) ∧ w'.cell? ⟨gv, d * 3 + 1, none⟩ = some (.slice hv.a n hv.c) ∧ w'.cell? ⟨gh, k, none⟩ = some (.int .u16 (E : Int)) ∧ w'.cell? ⟨W.heap.size, 0, none⟩ = some (.int .i64 q.k) ∧ w'.cell? ⟨W.heap.size, 1, none⟩ = some (.int .i64 q.fr) ∧ w'.cell? ⟨W.heap.size, 2, none⟩ = some (.int .i64 q.to_) ∧ w'.cell? ⟨W.heap.size, 3, none⟩ = some (.int .i64 q.off) ∧ w'.cell? ⟨W.heap.size, 4, none⟩ = some (.int .i64 q.len) ∧ w'.cell? ⟨W.heap.size, 5, none⟩ = some (.slice q.da q.n q.dc) ∧ w'.cell? ⟨W.heap.size, 6, none⟩ = some (.bool q.sy))) (by kernel_rfl) ?_ (fun hHeld => ?_)
  · exact HC.out _ HBd.out HX.out
  refine wpAnyH_take (i := 0) (oi := { dst := some 19, op := Op.move (Operand.tmp 1), type := 98, pos := _, after := #[], guard := none }) (v := ?_) rfl (by kernel_rfl) (by kernel_rfl) (by kernel_rfl) (fun _ _ _ h => h) (Or.inl ⟨by rfl, ?_⟩) (by assumption) ?_
  rotate_left
  · (intro w hSw; (try dsimp only at hSw); go_simp) <;> with_reducible rfl
  try simp only [Act.put, List.setIfInBounds_toArray, List.set_cons_zero, List.set_cons_succ]
  refine wpAnyH_take (i := 1) (oi := { dst := some 20, op := Op.nilCheck (Operand.tmp 19), type := 0, pos := _, after := _, guard := none }) (v := ?_) rfl (by kernel_rfl) (by kernel_rfl) (by kernel_rfl) (fun _ _ _ h => h) (Or.inl ⟨by rfl, ?_⟩) (by assumption) ?_
  rotate_left
  · (intro w hSw; (try dsimp only at hSw); go_simp) <;> with_reducible rfl
  try simp only [Act.put, List.setIfInBounds_toArray, List.set_cons_zero, List.set_cons_succ]
  refine wpAnyH_take (i := 2) (oi := { dst := some 21, op := Op.fieldAddr 97 (Operand.tmp 20) 0, type := 0, pos := _, after := _, guard := none }) (v := ?_) rfl (by kernel_rfl) (by kernel_rfl) (by kernel_rfl) (fun _ _ _ h => h) (Or.inl ⟨by rfl, ?_⟩) (by assumption) ?_
  rotate_left
  · (intro w hSw; (try dsimp only at hSw); go_simp) <;> with_reducible rfl
  try simp only [Act.put, List.setIfInBounds_toArray, List.set_cons_zero, List.set_cons_succ]
  refine wpAnyH_take (i := 3) (oi := { dst := some 22, op := Op.load 91 (Operand.tmp 21), type := 91, pos := _, after := _, guard := none }) (v := ?_) rfl (by kernel_rfl) (by kernel_rfl) (by kernel_rfl) (fun _ _ _ h => h) (Or.inl ⟨by rfl, ?_⟩) (by assumption) ?_
  rotate_left
  · (intro w hSw; (try dsimp only at hSw); go_simp) <;> with_reducible rfl
  try simp only [Act.put, List.setIfInBounds_toArray, List.set_cons_zero, List.set_cons_succ]
  refine wpAnyH_take (i := 4) (oi := { dst := some 23, op := Op.move (Operand.tmp 3), type := 3, pos := _, after := #[], guard := none }) (v := ?_) rfl (by kernel_rfl) (by kernel_rfl) (by kernel_rfl) (fun _ _ _ h => h) (Or.inl ⟨by rfl, ?_⟩) (by assumption) ?_
  rotate_left
  · (intro w hSw; (try dsimp only at hSw); go_simp) <;> with_reducible rfl
  try simp only [Act.put, List.setIfInBounds_toArray, List.set_cons_zero, List.set_cons_succ]
  refine wpAnyH_ready (rs := [5]) (by kernel_rfl) (by simp) ?_
  refine AllReadyH.cons (o := { dst := some 24, op := Op.call { callee := Callee.value (Operand.func 53), args := #[Operand.tmp 23], argTypes := #[3] }, type := 91, pos := _, after := _, guard := none }) rfl (fun K hK => ?_) AllReadyH.nil
  go_simp
  go_at_call 53
  refine (HO2 _).mono ?_
  rintro ex w9 ⟨rfl, rfl⟩
  try go_simp
  clear hHeld
  refine hK.out _ _ ?_ (fun hHeld => ?_)
  · exact HC.out _ HBd.out HX.out
  clear hK K
  try simp only [Act.put, List.setIfInBounds_toArray, List.set_cons_zero, List.set_cons_succ]
  refine wpAnyH_ready (rs := [6]) (by kernel_rfl) (by simp) ?_
  refine AllReadyH.cons (o := { dst := some 25, op := Op.call { callee := Callee.value (Operand.func 55), args := #[Operand.tmp 22, Operand.tmp 24], argTypes := #[91, 91] }, type := 4, pos := _, after := _, guard := none }) rfl (fun K hK => ?_) AllReadyH.nil
  go_simp
  go_at_call 55
  refine (HH _).mono ?_
  rintro ex w9 ⟨rfl, rfl⟩
  try go_simp
  clear hHeld
  refine hK.out _ _ ?_ (fun hHeld => ?_)
  · exact HC.out _ HBd.out HX.out
  clear hK K
  try simp only [Act.put, List.setIfInBounds_toArray, List.set_cons_zero, List.set_cons_succ]
  refine wpAnyH_take (i := 7) (oi := { dst := some 26, op := Op.move (Operand.tmp 25), type := 4, pos := _, after := _, guard := none }) (v := ?_) rfl (by kernel_rfl) (by kernel_rfl) (by kernel_rfl) (fun _ _ _ h => h) (Or.inl ⟨by rfl, ?_⟩) (by assumption) ?_
  rotate_left
  · (intro w hSw; (try dsimp only at hSw); go_simp) <;> with_reducible rfl
  try simp only [Act.put, List.setIfInBounds_toArray, List.set_cons_zero, List.set_cons_succ]
  refine wpAnyH_take (i := 8) (oi := { dst := some 27, op := Op.move (Operand.tmp 1), type := 98, pos := _, after := _, guard := some (7, false) }) (v := ?_) rfl (by kernel_rfl) (by kernel_rfl) (by kernel_rfl) (fun _ _ _ h => h) (Or.inl ⟨by rfl, ?_⟩) (by assumption) ?_
  rotate_left
  · (intro w hSw; (try dsimp only at hSw); go_simp) <;> with_reducible rfl
  try simp only [Act.put, List.setIfInBounds_toArray, List.set_cons_zero, List.set_cons_succ]
  refine wpAnyH_take (i := 9) (oi := { dst := some 28, op := Op.nilCheck (Operand.tmp 27), type := 0, pos := _, after := _, guard := some (7, false) }) (v := ?_) rfl (by kernel_rfl) (by kernel_rfl) (by kernel_rfl) (fun _ _ _ h => h) (Or.inl ⟨by rfl, ?_⟩) (by assumption) ?_
  rotate_left
  · (intro w hSw; (try dsimp only at hSw); go_simp) <;> with_reducible rfl
  try simp only [Act.put, List.setIfInBounds_toArray, List.set_cons_zero, List.set_cons_succ]
  refine wpAnyH_take (i := 10) (oi := { dst := some 29, op := Op.fieldAddr 97 (Operand.tmp 28) 0, type := 0, pos := _, after := _, guard := some (7, false) }) (v := ?_) rfl (by kernel_rfl) (by kernel_rfl) (by kernel_rfl) (fun _ _ _ h => h) (Or.inl ⟨by rfl, ?_⟩) (by assumption) ?_
  rotate_left
  · (intro w hSw; (try dsimp only at hSw); go_simp) <;> with_reducible rfl
  try simp only [Act.put, List.setIfInBounds_toArray, List.set_cons_zero, List.set_cons_succ]
  refine wpAnyH_take (i := 11) (oi := { dst := some 30, op := Op.load 91 (Operand.tmp 29), type := 91, pos := _, after := _, guard := some (7, false) }) (v := ?_) rfl (by kernel_rfl) (by kernel_rfl) (by kernel_rfl) (fun _ _ _ h => h) (Or.inl ⟨by rfl, ?_⟩) (by assumption) ?_
  rotate_left
  · (intro w hSw; (try dsimp only at hSw); go_simp) <;> with_reducible rfl
  try simp only [Act.put, List.setIfInBounds_toArray, List.set_cons_zero, List.set_cons_succ]
  refine wpAnyH_take (i := 12) (oi := { dst := some 31, op := Op.move (Operand.tmp 0), type := 68, pos := _, after := _, guard := some (7, false) }) (v := ?_) rfl (by kernel_rfl) (by kernel_rfl) (by kernel_rfl) (fun _ _ _ h => h) (Or.inl ⟨by rfl, ?_⟩) (by assumption) ?_
  rotate_left
  · (intro w hSw; (try dsimp only at hSw); go_simp) <;> with_reducible rfl
  try simp only [Act.put, List.setIfInBounds_toArray, List.set_cons_zero, List.set_cons_succ]
  refine wpAnyH_take (i := 13) (oi := { dst := some 32, op := Op.nilCheck (Operand.tmp 31), type := 0, pos := _, after := _, guard := some (7, false) }) (v := ?_) rfl (by kernel_rfl) (by kernel_rfl) (by kernel_rfl) (fun _ _ _ h => h) (Or.inl ⟨by rfl, ?_⟩) (by assumption) ?_
  rotate_left
  · (intro w hSw; (try dsimp only at hSw); go_simp) <;> with_reducible rfl
  try simp only [Act.put, List.setIfInBounds_toArray, List.set_cons_zero, List.set_cons_succ]
  refine wpAnyH_take (i := 14) (oi := { dst := some 33, op := Op.fieldAddr 94 (Operand.tmp 32) 2, type := 0, pos := _, after := _, guard := some (7, false) }) (v := ?_) rfl (by kernel_rfl) (by kernel_rfl) (by kernel_rfl) (fun _ _ _ h => h) (Or.inl ⟨by rfl, ?_⟩) (by assumption) ?_
  rotate_left
  · (intro w hSw; (try dsimp only at hSw); go_simp) <;> with_reducible rfl
  try simp only [Act.put, List.setIfInBounds_toArray, List.set_cons_zero, List.set_cons_succ]
  refine wpAnyH_take (i := 15) (oi := { dst := some 34, op := Op.load 88 (Operand.tmp 33), type := 88, pos := _, after := _, guard := some (7, false) }) (v := ?_) rfl (by kernel_rfl) (by kernel_rfl) (by kernel_rfl) (fun _ _ _ h => h) (Or.inl ⟨by rfl, ?_⟩) (by assumption) ?_
  rotate_left
  · (intro w hSw; (try dsimp only at hSw); go_simp) <;> with_reducible rfl
  try simp only [Act.put, List.setIfInBounds_toArray, List.set_cons_zero, List.set_cons_succ]
  refine wpAnyH_take (i := 16) (oi := { dst := some 35, op := Op.move (Operand.tmp 3), type := 3, pos := _, after := _, guard := some (7, false) }) (v := ?_) rfl (by kernel_rfl) (by kernel_rfl) (by kernel_rfl) (fun _ _ _ h => h) (Or.inl ⟨by rfl, ?_⟩) (by assumption) ?_
  rotate_left
  · (intro w hSw; (try dsimp only at hSw); go_simp) <;> with_reducible rfl
  try simp only [Act.put, List.setIfInBounds_toArray, List.set_cons_zero, List.set_cons_succ]
  refine wpAnyH_take (i := 17) (oi := { dst := some 36, op := Op.indexAddr 88 (Operand.tmp 34) (Operand.tmp 35), type := 0, pos := _, after := _, guard := some (7, false) }) (v := ?_) rfl (by kernel_rfl) (by kernel_rfl) (by kernel_rfl) (fun _ _ _ h => h) (Or.inl ⟨by rfl, ?_⟩) (by assumption) ?_
  rotate_left
  · (intro w hSw; (try dsimp only at hSw); go_simp) <;> with_reducible rfl
  try simp only [Act.put, List.setIfInBounds_toArray, List.set_cons_zero, List.set_cons_succ]
  refine wpAnyH_take (i := 18) (oi := { dst := some 37, op := Op.load 91 (Operand.tmp 36), type := 91, pos := _, after := _, guard := some (7, false) }) (v := ?_) rfl (by kernel_rfl) (by kernel_rfl) (by kernel_rfl) (fun _ _ _ h => h) (Or.inl ⟨by rfl, ?_⟩) (by assumption) ?_
  rotate_left
  · (intro w hSw; (try dsimp only at hSw); go_simp) <;> with_reducible rfl
  try simp only [Act.put, List.setIfInBounds_toArray, List.set_cons_zero, List.set_cons_succ]
  refine wpAnyH_ready (rs := [19]) (by kernel_rfl) (by simp) ?_
  refine AllReadyH.cons (o := { dst := some 38, op := Op.call { callee := Callee.value (Operand.func 55), args := #[Operand.tmp 30, Operand.tmp 37], argTypes := #[91, 91] }, type := 4, pos := _, after := _, guard := some (7, false) }) rfl (fun K hK => ?_) AllReadyH.nil
  go_simp
  go_at_call 55
  refine (HH2 _).mono ?_
  rintro ex w9 ⟨rfl, rfl⟩
  try go_simp
  clear hHeld
  refine hK.out _ _ ?_ (fun hHeld => ?_)
  · exact HC.out _ HBd.out HX.out
  clear hK K
  try simp only [Act.put, List.setIfInBounds_toArray, List.set_cons_zero, List.set_cons_succ]
  refine wpAnyH_take (i := 20) (oi := { dst := some 39, op := Op.unOp UnOp.not 4 (Operand.tmp 38), type := 4, pos := _, after := _, guard := some (7, false) }) (v := ?_) rfl (by kernel_rfl) (by kernel_rfl) (by kernel_rfl) (fun _ _ _ h => h) (Or.inl ⟨by rfl, ?_⟩) (by assumption) ?_
  rotate_left
  · (intro w hSw; (try dsimp only at hSw); go_simp) <;> with_reducible rfl
  try simp only [Act.put, List.setIfInBounds_toArray, List.set_cons_zero, List.set_cons_succ]
  refine wpAnyH_take (i := 21) (oi := { dst := some 40, op := Op.pick (Operand.tmp 26) (Operand.const (Value.bool true)) (Operand.tmp 39), type := 4, pos := _, after := _, guard := none }) (v := ?_) rfl (by kernel_rfl) (by kernel_rfl) (by kernel_rfl) (fun _ _ _ h => h) (Or.inl ⟨by rfl, ?_⟩) (by assumption) ?_
  rotate_left
  · (intro w hSw; (try dsimp only at hSw); go_simp) <;> with_reducible rfl
  try simp only [Act.put, List.setIfInBounds_toArray, List.set_cons_zero, List.set_cons_succ]
  refine wpAnyH_take (i := 22) (oi := { dst := some 41, op := Op.move (Operand.tmp 40), type := 4, pos := _, after := _, guard := none }) (v := ?_) rfl (by kernel_rfl) (by kernel_rfl) (by kernel_rfl) (fun _ _ _ h => h) (Or.inl ⟨by rfl, ?_⟩) (by assumption) ?_
  rotate_left
  · (intro w hSw; (try dsimp only at hSw); go_simp) <;> with_reducible rfl
  try simp only [Act.put, List.setIfInBounds_toArray, List.set_cons_zero, List.set_cons_succ]
  refine wpAnyH_take (i := 23) (oi := { dst := some 42, op := Op.move (Operand.tmp 1), type := 98, pos := _, after := _, guard := some (22, false) }) (v := ?_) rfl (by kernel_rfl) (by kernel_rfl) (by kernel_rfl) (fun _ _ _ h => h) (Or.inl ⟨by rfl, ?_⟩) (by assumption) ?_
  rotate_left
  · (intro w hSw; (try dsimp only at hSw); go_simp) <;> with_reducible rfl
  try simp only [Act.put, List.setIfInBounds_toArray, List.set_cons_zero, List.set_cons_succ]
  refine wpAnyH_take (i := 24) (oi := { dst := some 43, op := Op.nilCheck (Operand.tmp 42), type := 0, pos := _, after := _, guard := some (22, false) }) (v := ?_) rfl (by kernel_rfl) (by kernel_rfl) (by kernel_rfl) (fun _ _ _ h => h) (Or.inl ⟨by rfl, ?_⟩) (by assumption) ?_
  rotate_left
  · (intro w hSw; (try dsimp only at hSw); go_simp) <;> with_reducible rfl
  try simp only [Act.put, List.setIfInBounds_toArray, List.set_cons_zero, List.set_cons_succ]
  refine wpAnyH_take (i := 25) (oi := { dst := some 44, op := Op.fieldAddr 97 (Operand.tmp 43) 1, type := 0, pos := _, after := _, guard := some (22, false) }) (v := ?_) rfl (by kernel_rfl) (by kernel_rfl) (by kernel_rfl) (fun _ _ _ h => h) (Or.inl ⟨by rfl, ?_⟩) (by assumption) ?_
  rotate_left
  · (intro w hSw; (try dsimp only at hSw); go_simp) <;> with_reducible rfl
  try simp only [Act.put, List.setIfInBounds_toArray, List.set_cons_zero, List.set_cons_succ]
  refine wpAnyH_take (i := 26) (oi := { dst := some 45, op := Op.load 59 (Operand.tmp 44), type := 59, pos := _, after := _, guard := some (22, false) }) (v := ?_) rfl (by kernel_rfl) (by kernel_rfl) (by kernel_rfl) (fun _ _ _ h => h) (Or.inl ⟨by rfl, ?_⟩) (by assumption) ?_
  rotate_left
  · (intro w hSw; (try dsimp only at hSw); go_simp) <;> with_reducible rfl
  try simp only [Act.put, List.setIfInBounds_toArray, List.set_cons_zero, List.set_cons_succ]
  refine wpAnyH_take (i := 27) (oi := { dst := some 46, op := Op.load 50 (Operand.tmp 9), type := 50, pos := _, after := _, guard := some (22, false) }) (v := ?_) rfl (by kernel_rfl) (by kernel_rfl) (by kernel_rfl) (fun _ _ _ h => h) (Or.inl ⟨by rfl, ?_⟩) (by assumption) ?_
  rotate_left
  · (intro w hSw; (try dsimp only at hSw); go_simp) <;> with_reducible rfl
  try simp only [Act.put, List.setIfInBounds_toArray, List.set_cons_zero, List.set_cons_succ]
  refine wpAnyH_ready (rs := [28]) (by kernel_rfl) (by simp) ?_
  refine AllReadyH.cons (o := { dst := some 47, op := Op.call { callee := Callee.value (Operand.func 48), args := #[Operand.tmp 45, Operand.tmp 46], argTypes := #[59, 50] }, type := 4, pos := _, after := _, guard := some (22, false) }) rfl (fun K hK => ?_) AllReadyH.nil
  go_simp
  go_at_call 48
  refine (HF.out _ HBd.out).mono ?_
  rintro ex W1 ⟨rfl, hb1⟩
  have HB1 : Hid (Below W.heap.size W W1) := HBd.out.trans (hb1.mono HBd.out.size)
  have HX1 : Hid (∀ j v, (#[.int .i64 q.k, .int .i64 q.fr, .int .i64 q.to_, .int .i64 q.off, .int .i64 q.len, .slice q.da q.n q.dc, .bool q.sy] : Array Value)[j]? = some v → W1.cell? ⟨W.heap.size, j, none⟩ = some v) := fun j v hv => by rw [World.cell?_of_block (hb1.block _ HL.out)]; exact HX.out j v hv
  have HB1v : Hid (Below V.heap.size V W1) := (⟨rfl, rfl, rfl, Nat.le_refl _, fun _ _ => rfl⟩ : Below V.heap.size V V.drew).trans hb1
  clear hb1
  try go_simp
  clear hHeld
  refine hK.out _ _ ?_ (fun hHeld => ?_)
  · exact HC.out _ HB1.out HX1.out
  clear hK K
  try simp only [Act.put, List.setIfInBounds_toArray, List.set_cons_zero, List.set_cons_succ]
  refine wpAnyH_take (i := 29) (oi := { dst := some 48, op := Op.unOp UnOp.not 4 (Operand.tmp 47), type := 4, pos := _, after := _, guard := some (22, false) }) (v := ?_) rfl (by kernel_rfl) (by kernel_rfl) (by kernel_rfl) (fun _ _ _ h => h) (Or.inl ⟨by rfl, ?_⟩) (by assumption) ?_
  rotate_left
  · (intro w hSw; (try dsimp only at hSw); go_simp) <;> with_reducible rfl
  try simp only [Act.put, List.setIfInBounds_toArray, List.set_cons_zero, List.set_cons_succ]
  refine wpAnyH_take (i := 30) (oi := { dst := some 49, op := Op.pick (Operand.tmp 41) (Operand.const (Value.bool true)) (Operand.tmp 48), type := 4, pos := _, after := _, guard := none }) (v := ?_) rfl (by kernel_rfl) (by kernel_rfl) (by kernel_rfl) (fun _ _ _ h => h) (Or.inl ⟨by rfl, ?_⟩) (by assumption) ?_
  rotate_left
  · (intro w hSw; (try dsimp only at hSw); go_simp) <;> with_reducible rfl
  try simp only [Act.put, List.setIfInBounds_toArray, List.set_cons_zero, List.set_cons_succ]
  refine wpAnyH_done (by kernel_rfl) ?_ _
  go_wp2
  go_ret
  exact ⟨rfl, HB1.out⟩
end Go.Proofs.Ytjkoambfecmglaa
