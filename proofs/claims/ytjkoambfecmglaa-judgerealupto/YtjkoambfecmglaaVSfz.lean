import Derived.Test.YtjkoambfecmglaaVSez
import Derived.Laws.IdiomCopy
namespace Go.Proofs.Ytjkoambfecmglaa
open Go.RowKit Go.Maps
set_option linter.unusedVariables false
set_option linter.unusedSimpArgs false
set_option maxRecDepth 100000
/-- the bytes of one level are laid over those of another -/
theorem copy_now {W : World} {B Q m oc A gh hc gv vc n r N i j : Nat} {oa : Option Addr} {ah : List Nat} {L : List Lv} {M : DataW Unit} {u v : Lv} (h : Sm W B Q oa m oc A gh hc ah gv vc n L r N M) (hns : n ≤ 4096) (hi : L[i]? = some u) (hj : L[j]? = some v) :
    ∃ U, (Builtin.copy_ #[59, 59] 3 #[.slice v.a n v.c, .slice u.a n u.c]).run Try.prog W = .ok (goInt n) U ∧ Sm U B Q oa m oc A gh hc ah gv vc n (L.set j { v with bs := u.bs }) r N M ∧ W.grownBy U (v.sl n).ownBlock := by
  obtain ⟨hu1, hu2, hu3⟩ := h.now i u hi
  obtain ⟨hv1, hv2, hv3⟩ := h.now j v hj
  by_cases h0 : n = 0
  · subst h0
    have e1 : v.bs = [] := List.eq_nil_of_length_eq_zero hv2
    have e2 : u.bs = [] := List.eq_nil_of_length_eq_zero hu2
    refine ⟨W, run_copy_none W _ _ _ 5 v.a u.a _ _ _ _ Try.underlying59 (by rfl) (by simp), ?_, World.grownBy.refl _ _⟩
    exact h.row hj (by rw [e2, ← e1]; exact hv1) (World.grownBy.refl _ _) hu2 hu3
  · obtain ⟨g, e1, hBg, hc1, hf1⟩ := own_some hv1 (by omega)
    obtain ⟨g2, e2, _, hc2, _⟩ := own_some hu1 (by omega)
    have e1' : v.sl n = .slice (some ⟨g, 0, none⟩) n v.c := by show Value.slice v.a n v.c = _; rw [e1]
    have hv1' := hv1
    rw [e1'] at hv1'
    obtain ⟨h1, h2⟩ := own_setCells (u.bs.map bv) 0 hv1' (by rw [List.length_map, hu2]; omega)
    rw [List.length_map, hu2, List.take_zero, List.nil_append, Nat.zero_add, List.drop_of_length_le (by rw [List.length_map, hv2]; exact Nat.le_refl _), List.append_nil] at h1
    have hrun := run_copy_cells (P := Try.prog) W 59 59 3 5 g 0 n v.c ⟨g2, 0, none⟩ n u.c (u.bs.map bv) Try.underlying59 (by rfl) (by rw [List.length_map, hu2]; show n = min n n; omega) (fun k x hk => by
      have hkl := (List.getElem?_eq_some_iff.1 hk).1
      rw [List.length_map, hu2] at hkl
      rw [add_plain, Nat.zero_add, hc2 k hkl]; exact hk) (fun k hk => by
      rw [List.length_map, hu2] at hk
      rw [Nat.zero_add, hc1 k hk, List.getElem?_map, List.getElem?_eq_getElem (by omega)]; rfl) (fun k _ => hf1 _) (fun x hx => by
      obtain ⟨y, _, rfl⟩ := List.mem_map.1 hx; rfl)
    rw [List.length_map, hu2] at hrun
    refine ⟨W.setCells g 0 (u.bs.map bv), ?_, ?_, ?_⟩
    · rw [e1, e2]; exact hrun
    · refine h.row hj ?_ ?_ hu2 hu3
      · rw [e1']; exact h1
      · rw [e1']; exact h2
    · rw [e1']; exact h2
theorem conv_dev {W : World} {ao : Option Addr} {cap n : Nat} {l : List Nat} (h : BRow W ao cap l) (hn : l.length = n) : (convert 59 9 (.slice ao n cap)).run Try.prog W = .ok (.string (bstr l)) W := by
  have h1 := conv_row h hn
  rw [run_convert_bytes_string W 22 9 5 _ _ _ Try.underlying22 Try.underlying5 Try.underlying9] at h1
  rw [run_convert_bytes_string W 59 9 5 _ _ _ Try.underlying59 Try.underlying5 Try.underlying9]
  exact h1
theorem zeroUnit (W : World) : (zeroValue 101).run Try.prog W = .ok (.agg #[]) W := by
  first
    | exact Try.zeroValue101 W
    | simp [Try.zeroValue101]
theorem Sm.box {W U : World} {B Q m oc A gh hc gv vc n r N : Nat} {oa : Option Addr} {ah : List Nat} {L : List Lv} {M : DataW Unit} (h : Sm W B Q oa m oc A gh hc ah gv vc n L r N M) {g : Nat} {v : Lv} {j : Nat} (hj : L[j]? = some v) (hg : W.grownBy U (v.sl n).ownBlock) (hb : ∃ cs, W.heap[g]? = some (.cells cs 50 (0, 0))) : U.heap[g]? = W.heap[g]? := by
  obtain ⟨cs, hb⟩ := hb
  exact hg.block g (block_lt hb) (fun e => by
    obtain ⟨_, cu, hcu⟩ := h.nob hj e.symm
    rw [hb] at hcu; cases hcu)
set_option maxHeartbeats 32000000 in
/-- an operation leads on, or is known to lead nowhere -/
theorem leads_yes (W : World) (B Q m oc A gh hc gv vc n r N ob oo d k E : Nat) (ah : List Nat) (L : List Lv) (M : DataW Unit) (q : Opv) (hv : Lv) (h : Sm W B Q (some ⟨ob, oo, none⟩) m oc A gh hc ah gv vc n L r N M) (hkm : k < m) (hm : m ≤ 10) (hns : n ≤ 4096) (hc7 : ∀ j v, q.cells[j]? = some v → W.cell? ⟨ob, oo + k * 7 + j, none⟩ = some v) (hE : ah[k]? = some E) (hEl : E < 65536) (hd : L[d]? = some hv) (hDl : hv.D < 65536) (bl : Lv) (hbl : L[d + 1]? = some bl) (ds : List Nat) (hDat : ∀ U, Below B W U → BRow U q.da q.dc ds) (hdn : ds.length = q.n) (hq : q.may n = true) (hBW : B ≤ W.heap.size) (hs : Sub (2 ^ k) hv.D = false) (hs2 : Sub E hv.D = true) (hf : ∀ U, Below W.heap.size W U → Calls Try.prog 48 #[.slice hv.a n hv.c, .agg q.cells] U fun e w' => e = .returned (.bool true) ∧ Below U.heap.size U w') :
    Calls Try.prog 56 #[.pointer (some ⟨Q, 0, none⟩), .pointer (some ⟨gv, d * 3, none⟩), .pointer (some ⟨gv, (d + 1) * 3, none⟩), .int .i64 (k : Int)] W fun e w' => e = .returned (.bool (!has M (kl (hv.D ||| 2 ^ k) (q.eff hv.bs ds)))) ∧ Below B W w' ∧ Sm w' B Q (some ⟨ob, oo, none⟩) m oc A gh hc ah gv vc n (L.set (d + 1) { bl with D := hv.D ||| 2 ^ k, x := 0, bs := q.eff hv.bs ds }) r N M := by
  have HF : Hid (∀ U, Below W.heap.size W U → Calls Try.prog 48 #[.slice hv.a n hv.c, .agg #[.int .i64 q.k, .int .i64 q.fr, .int .i64 q.to_, .int .i64 q.off, .int .i64 q.len, .slice q.da q.n q.dc, .bool q.sy]] U fun e w' => e = .returned (.bool true) ∧ Below U.heap.size U w') := hf
  have q0 := h.q0
  have HB : Hid (Below W.heap.size W (W.alloc (.cells #[.int .i64 q.k, .int .i64 q.fr, .int .i64 q.to_, .int .i64 q.off, .int .i64 q.len, .slice q.da q.n q.dc, .bool q.sy] 50))) := (Below.refl _ W).alloc (Nat.le_refl _) _
  have HX : Hid (∀ j v, (#[.int .i64 q.k, .int .i64 q.fr, .int .i64 q.to_, .int .i64 q.off, .int .i64 q.len, .slice q.da q.n q.dc, .bool q.sy] : Array Value)[j]? = some v → (W.alloc (.cells #[.int .i64 q.k, .int .i64 q.fr, .int .i64 q.to_, .int .i64 q.off, .int .i64 q.len, .slice q.da q.n q.dc, .bool q.sy] 50)).cell? ⟨W.heap.size, j, none⟩ = some v) := fun j v hv => by
    rw [blk_at (heap_new _ _) j]; exact hv
  have HC : Hid (∀ w' : World, Below W.heap.size W w' → (∀ j v, (#[.int .i64 q.k, .int .i64 q.fr, .int .i64 q.to_, .int .i64 q.off, .int .i64 q.len, .slice q.da q.n q.dc, .bool q.sy] : Array Value)[j]? = some v → w'.cell? ⟨W.heap.size, j, none⟩ = some v) → w'.cell? ⟨Q, 2, none⟩ = some (.slice (some ⟨gh, 0, none⟩) m hc) ∧ w'.cell? ⟨gv, d * 3, none⟩ = some (.int .u16 (hv.D : Int)) ∧ w'.cell? ⟨gv, d * 3 + 1, none⟩ = some (.slice hv.a n hv.c) ∧ w'.cell? ⟨gh, k, none⟩ = some (.int .u16 (E : Int)) ∧ w'.cell? ⟨W.heap.size, 0, none⟩ = some (.int .i64 q.k) ∧ w'.cell? ⟨W.heap.size, 1, none⟩ = some (.int .i64 q.fr) ∧ w'.cell? ⟨W.heap.size, 2, none⟩ = some (.int .i64 q.to_) ∧ w'.cell? ⟨W.heap.size, 3, none⟩ = some (.int .i64 q.off) ∧ w'.cell? ⟨W.heap.size, 4, none⟩ = some (.int .i64 q.len) ∧ w'.cell? ⟨W.heap.size, 5, none⟩ = some (.slice q.da q.n q.dc) ∧ w'.cell? ⟨W.heap.size, 6, none⟩ = some (.bool q.sy)) := fun w' hb hj =>
    ⟨cell_later hb h.q2, cell_later hb (h.lvc hd (c := 0) (by decide)), cell_later hb (h.lvc hd (c := 1) (by decide)), cell_later hb (h.ahc hE), hj 0 _ rfl, hj 1 _ rfl, hj 2 _ rfl, hj 3 _ rfl, hj 4 _ rfl, hj 5 _ rfl, hj 6 _ rfl⟩
  have c0 : W.cell? ⟨ob, oo + k * 7, none⟩ = some (.int .i64 q.k) := hc7 0 _ rfl
  have c1 : W.cell? ⟨ob, oo + k * 7 + 1, none⟩ = some (.int .i64 q.fr) := hc7 1 _ rfl
  have c2 : W.cell? ⟨ob, oo + k * 7 + 2, none⟩ = some (.int .i64 q.to_) := hc7 2 _ rfl
  have c3 : W.cell? ⟨ob, oo + k * 7 + 3, none⟩ = some (.int .i64 q.off) := hc7 3 _ rfl
  have c4 : W.cell? ⟨ob, oo + k * 7 + 4, none⟩ = some (.int .i64 q.len) := hc7 4 _ rfl
  have c5 : W.cell? ⟨ob, oo + k * 7 + 5, none⟩ = some (.slice q.da q.n q.dc) := hc7 5 _ rfl
  have c6 : W.cell? ⟨ob, oo + k * 7 + 6, none⟩ = some (.bool q.sy) := hc7 6 _ rfl
  have kk0 : (0 : Int) ≤ (k : Int) := by omega
  have kk9 : (k : Int) < (m : Int) := by omega
  have HO := fun U => only_any k (by omega) U
  have HP2 : Hid ((2 ^ k : Nat) < 65536) := Nat.lt_of_lt_of_le (Nat.pow_lt_pow_right (by decide) (show k < 16 by omega)) (by decide)
  obtain ⟨X, hX⟩ : ∃ X : Nat, 2 ^ k = X := ⟨_, rfl⟩
  rw [hX] at HP2 hs ⊢
  have HO2 : ∀ U : World, Calls Try.prog 53 #[.int .i64 (k : Int)] U fun e w' => e = .returned (.int .u16 (X : Int)) ∧ w' = U := fun U => by have := HO U; rwa [hX] at this
  have HH := fun U => holds_any hv.D X hDl HP2.out U
  have HH2 := fun U => holds_any hv.D E hDl hEl U
  rw [hs] at HH
  rw [hs2] at HH2
  obtain ⟨e, he⟩ : ∃ e, (d + 1) * 3 = e := ⟨_, rfl⟩
  have HEe : Hid ((d + 1) * 3 = e) := he
  rw [he]
  obtain ⟨Y, hY⟩ : ∃ Y, hv.D ||| X = Y := ⟨_, rfl⟩
  have HY : Hid (hv.D ||| X = Y ∧ Y < 65536) := ⟨hY, by rw [← hY]; exact Nat.or_lt_two_pow (n := 16) hDl HP2.out⟩
  have hor : bits BinOp.or IntKind.u16 (hv.D : Int) (X : Int) = (Y : Int) := by rw [u16_or_nat _ _ hDl HP2.out, hY]
  rw [hY]
  obtain ⟨bst, hbst⟩ : ∃ bst, bstr (q.eff hv.bs ds) = bst := ⟨_, rfl⟩
  obtain ⟨lost, hlost⟩ : ∃ lost, has M (kl Y (q.eff hv.bs ds)) = lost := ⟨_, rfl⟩
  rw [hlost]
  have HBst : Hid (bstr (q.eff hv.bs ds) = bst ∧ has M (kl Y (q.eff hv.bs ds)) = lost) := ⟨hbst, hlost⟩
  clear hbst hlost
  have HSm : Hid (Sm W B Q (some ⟨ob, oo, none⟩) m oc A gh hc ah gv vc n L r N M ∧ L[d]? = some hv ∧ L[d + 1]? = some bl) := ⟨h, hd, hbl⟩
  have HDat : Hid (∀ U, Below B W U → BRow U q.da q.dc ds) := hDat
  have HN5 : Hid ((q.eff hv.bs ds).length = n ∧ ∀ x ∈ q.eff hv.bs ds, x < 256) := ⟨eff_len hq (h.now d hv hd).2.1 hdn, eff_lt (h.now d hv hd).2.2 (hDat W (Below.refl _ _)).lt⟩
  have HBB : Hid (B ≤ W.heap.size) := hBW
  obtain ⟨V, hV⟩ : ∃ V, V = W.alloc (.cells #[.int .i64 q.k, .int .i64 q.fr, .int .i64 q.to_, .int .i64 q.off, .int .i64 q.len, .slice q.da q.n q.dc, .bool q.sy] 50) := ⟨_, rfl⟩
  rw [← hV] at HB HX
  have HL : Hid (W.heap.size < V.heap.size) := by show W.heap.size < V.heap.size; rw [hV]; simp
  have HBd : Hid (Below W.heap.size W V.drew) := HB.out.trans ⟨rfl, rfl, rfl, Nat.le_refl _, fun _ _ => rfl⟩
  have HVb : Hid (V.heap[W.heap.size]? = some (.cells #[.int .i64 q.k, .int .i64 q.fr, .int .i64 q.to_, .int .i64 q.off, .int .i64 q.len, .slice q.da q.n q.dc, .bool q.sy] 50 (0, 0))) := by show V.heap[W.heap.size]? = _; rw [hV]; exact heap_new _ _
  clear h hc7 hd hE hf hY he hbl hDat
  go_enter Try.func56, Try.ntmps56
  go_wp2_with fail
  rw [← hV]
  clear hV c0 c1 c2 c3 c4 c5 c6 q0
  refine wp_region_held_drew (S := (fun w' => w'.cell? ⟨Q, 2, none⟩ = some (.slice (some ⟨gh, 0, none⟩) m hc) ∧ w'.cell? ⟨gv, d * 3, none⟩ = some (.int .u16 (hv.D : Int)) ∧ w'.cell? ⟨gv, d * 3 + 1, none⟩ = some (.slice hv.a n hv.c) ∧ w'.cell? ⟨gh, k, none⟩ = some (.int .u16 (E : Int)) ∧ w'.cell? ⟨W.heap.size, 0, none⟩ = some (.int .i64 q.k) ∧ w'.cell? ⟨W.heap.size, 1, none⟩ = some (.int .i64 q.fr) ∧ w'.cell? ⟨W.heap.size, 2, none⟩ = some (.int .i64 q.to_) ∧ w'.cell? ⟨W.heap.size, 3, none⟩ = some (.int .i64 q.off) ∧ w'.cell? ⟨W.heap.size, 4, none⟩ = some (.int .i64 q.len) ∧ w'.cell? ⟨W.heap.size, 5, none⟩ = some (.slice q.da q.n q.dc) ∧ w'.cell? ⟨W.heap.size, 6, none⟩ = some (.bool q.sy))) (by kernel_rfl) ?_ (fun hHeld => ?_)
  · exact HC.out _ HBd.out HX.out
  refine wpAnyH_take (i := 0) (oi := { dst := some 19, op := Op.move (Operand.tmp 1), type := 98, pos := _, after := #[], guard := none }) (v := ?_) rfl (by kernel_rfl) (by kernel_rfl) (by kernel_rfl) (fun _ _ _ h => h) (Or.inl ⟨by rfl, ?_⟩) (by assumption) ?_
  rotate_left
  · (intro w hSw; (try dsimp only at hSw); go_simp) <;> with_reducible rfl
  try simp only [Act.put, List.setIfInBounds_toArray, List.set_cons_zero, List.set_cons_succ]
  refine wpAnyH_take (i := 1) (oi := { dst := some 20, op := Op.nilCheck (Operand.tmp 19), type := 0, pos := _, after := _, guard := none }) (v := ?_) rfl (by kernel_rfl) (by kernel_rfl) (by kernel_rfl) (fun _ _ _ h => h) (Or.inl ⟨by rfl, ?_⟩) (by assumption) ?_
  rotate_left
  · (intro w hSw; (try dsimp only at hSw); go_simp) <;> with_reducible rfl
  try simp only [Act.put, List.setIfInBounds_toArray, List.set_cons_zero, List.set_cons_succ]
  refine wpAnyH_take (i := 2) (oi := { dst := some 21, op := Op.fieldAddr 97 (Operand.tmp 20) 0, type := 0, pos := _, after := _, guard := none }) (v := ?_) rfl (by kernel_rfl) (by kernel_rfl) (by kernel_rfl) (fun _ _ _ h => h) (Or.inl ⟨by rfl, ?_⟩) (by assumption) ?_
  rotate_left
  · (intro w hSw; (try dsimp only at hSw); go_simp) <;> with_reducible rfl
  try simp only [Act.put, List.setIfInBounds_toArray, List.set_cons_zero, List.set_cons_succ]
  refine wpAnyH_take (i := 3) (oi := { dst := some 22, op := Op.load 91 (Operand.tmp 21), type := 91, pos := _, after := _, guard := none }) (v := ?_) rfl (by kernel_rfl) (by kernel_rfl) (by kernel_rfl) (fun _ _ _ h => h) (Or.inl ⟨by rfl, ?_⟩) (by assumption) ?_
  rotate_left
  · (intro w hSw; (try dsimp only at hSw); go_simp) <;> with_reducible rfl
  try simp only [Act.put, List.setIfInBounds_toArray, List.set_cons_zero, List.set_cons_succ]
  refine wpAnyH_take (i := 4) (oi := { dst := some 23, op := Op.move (Operand.tmp 3), type := 3, pos := _, after := #[], guard := none }) (v := ?_) rfl (by kernel_rfl) (by kernel_rfl) (by kernel_rfl) (fun _ _ _ h => h) (Or.inl ⟨by rfl, ?_⟩) (by assumption) ?_
  rotate_left
  · (intro w hSw; (try dsimp only at hSw); go_simp) <;> with_reducible rfl
  try simp only [Act.put, List.setIfInBounds_toArray, List.set_cons_zero, List.set_cons_succ]
  refine wpAnyH_ready (rs := [5]) (by kernel_rfl) (by simp) ?_
  refine AllReadyH.cons (o := { dst := some 24, op := Op.call { callee := Callee.value (Operand.func 53), args := #[Operand.tmp 23], argTypes := #[3] }, type := 91, pos := _, after := _, guard := none }) rfl (fun K hK => ?_) AllReadyH.nil
  go_simp
  go_at_call 53
  refine (HO2 _).mono ?_
  rintro ex w9 ⟨rfl, rfl⟩
  try go_simp
  clear hHeld
  refine hK.out _ _ ?_ (fun hHeld => ?_)
  · exact HC.out _ HBd.out HX.out
  clear hK K
  try simp only [Act.put, List.setIfInBounds_toArray, List.set_cons_zero, List.set_cons_succ]
  refine wpAnyH_ready (rs := [6]) (by kernel_rfl) (by simp) ?_
  refine AllReadyH.cons (o := { dst := some 25, op := Op.call { callee := Callee.value (Operand.func 55), args := #[Operand.tmp 22, Operand.tmp 24], argTypes := #[91, 91] }, type := 4, pos := _, after := _, guard := none }) rfl (fun K hK => ?_) AllReadyH.nil
  go_simp
  go_at_call 55
  refine (HH _).mono ?_
  rintro ex w9 ⟨rfl, rfl⟩
  try go_simp
  clear hHeld
  refine hK.out _ _ ?_ (fun hHeld => ?_)
  · exact HC.out _ HBd.out HX.out
  clear hK K
  try simp only [Act.put, List.setIfInBounds_toArray, List.set_cons_zero, List.set_cons_succ]
  refine wpAnyH_take (i := 7) (oi := { dst := some 26, op := Op.move (Operand.tmp 25), type := 4, pos := _, after := _, guard := none }) (v := ?_) rfl (by kernel_rfl) (by kernel_rfl) (by kernel_rfl) (fun _ _ _ h => h) (Or.inl ⟨by rfl, ?_⟩) (by assumption) ?_
  rotate_left
  · (intro w hSw; (try dsimp only at hSw); go_simp) <;> with_reducible rfl
  try simp only [Act.put, List.setIfInBounds_toArray, List.set_cons_zero, List.set_cons_succ]
  refine wpAnyH_take (i := 8) (oi := { dst := some 27, op := Op.move (Operand.tmp 1), type := 98, pos := _, after := _, guard := some (7, false) }) (v := ?_) rfl (by kernel_rfl) (by kernel_rfl) (by kernel_rfl) (fun _ _ _ h => h) (Or.inl ⟨by rfl, ?_⟩) (by assumption) ?_
  rotate_left
  · (intro w hSw; (try dsimp only at hSw); go_simp) <;> with_reducible rfl
  try simp only [Act.put, List.setIfInBounds_toArray, List.set_cons_zero, List.set_cons_succ]
  refine wpAnyH_take (i := 9) (oi := { dst := some 28, op := Op.nilCheck (Operand.tmp 27), type := 0, pos := _, after := _, guard := some (7, false) }) (v := ?_) rfl (by kernel_rfl) (by kernel_rfl) (by kernel_rfl) (fun _ _ _ h => h) (Or.inl ⟨by rfl, ?_⟩) (by assumption) ?_
  rotate_left
  · (intro w hSw; (try dsimp only at hSw); go_simp) <;> with_reducible rfl
  try simp only [Act.put, List.setIfInBounds_toArray, List.set_cons_zero, List.set_cons_succ]
  refine wpAnyH_take (i := 10) (oi := { dst := some 29, op := Op.fieldAddr 97 (Operand.tmp 28) 0, type := 0, pos := _, after := _, guard := some (7, false) }) (v := ?_) rfl (by kernel_rfl) (by kernel_rfl) (by kernel_rfl) (fun _ _ _ h => h) (Or.inl ⟨by rfl, ?_⟩) (by assumption) ?_
  rotate_left
  · (intro w hSw; (try dsimp only at hSw); go_simp) <;> with_reducible rfl
  try simp only [Act.put, List.setIfInBounds_toArray, List.set_cons_zero, List.set_cons_succ]
  refine wpAnyH_take (i := 11) (oi := { dst := some 30, op := Op.load 91 (Operand.tmp 29), type := 91, pos := _, after := _, guard := some (7, false) }) (v := ?_) rfl (by kernel_rfl) (by kernel_rfl) (by kernel_rfl) (fun _ _ _ h => h) (Or.inl ⟨by rfl, ?_⟩) (by assumption) ?_
  rotate_left
  · (intro w hSw; (try dsimp only at hSw); go_simp) <;> with_reducible rfl
  try simp only [Act.put, List.setIfInBounds_toArray, List.set_cons_zero, List.set_cons_succ]
  refine wpAnyH_take (i := 12) (oi := { dst := some 31, op := Op.move (Operand.tmp 0), type := 68, pos := _, after := _, guard := some (7, false) }) (v := ?_) rfl (by kernel_rfl) (by kernel_rfl) (by kernel_rfl) (fun _ _ _ h => h) (Or.inl ⟨by rfl, ?_⟩) (by assumption) ?_
  rotate_left
  · (intro w hSw; (try dsimp only at hSw); go_simp) <;> with_reducible rfl
  try simp only [Act.put, List.setIfInBounds_toArray, List.set_cons_zero, List.set_cons_succ]
  refine wpAnyH_take (i := 13) (oi := { dst := some 32, op := Op.nilCheck (Operand.tmp 31), type := 0, pos := _, after := _, guard := some (7, false) }) (v := ?_) rfl (by kernel_rfl) (by kernel_rfl) (by kernel_rfl) (fun _ _ _ h => h) (Or.inl ⟨by rfl, ?_⟩) (by assumption) ?_
  rotate_left
  · (intro w hSw; (try dsimp only at hSw); go_simp) <;> with_reducible rfl
  try simp only [Act.put, List.setIfInBounds_toArray, List.set_cons_zero, List.set_cons_succ]
  refine wpAnyH_take (i := 14) (oi := { dst := some 33, op := Op.fieldAddr 94 (Operand.tmp 32) 2, type := 0, pos := _, after := _, guard := some (7, false) }) (v := ?_) rfl (by kernel_rfl) (by kernel_rfl) (by kernel_rfl) (fun _ _ _ h => h) (Or.inl ⟨by rfl, ?_⟩) (by assumption) ?_
  rotate_left
  · (intro w hSw; (try dsimp only at hSw); go_simp) <;> with_reducible rfl
  try simp only [Act.put, List.setIfInBounds_toArray, List.set_cons_zero, List.set_cons_succ]
  refine wpAnyH_take (i := 15) (oi := { dst := some 34, op := Op.load 88 (Operand.tmp 33), type := 88, pos := _, after := _, guard := some (7, false) }) (v := ?_) rfl (by kernel_rfl) (by kernel_rfl) (by kernel_rfl) (fun _ _ _ h => h) (Or.inl ⟨by rfl, ?_⟩) (by assumption) ?_
  rotate_left
  · (intro w hSw; (try dsimp only at hSw); go_simp) <;> with_reducible rfl
  try simp only [Act.put, List.setIfInBounds_toArray, List.set_cons_zero, List.set_cons_succ]
  refine wpAnyH_take (i := 16) (oi := { dst := some 35, op := Op.move (Operand.tmp 3), type := 3, pos := _, after := _, guard := some (7, false) }) (v := ?_) rfl (by kernel_rfl) (by kernel_rfl) (by kernel_rfl) (fun _ _ _ h => h) (Or.inl ⟨by rfl, ?_⟩) (by assumption) ?_
  rotate_left
  · (intro w hSw; (try dsimp only at hSw); go_simp) <;> with_reducible rfl
  try simp only [Act.put, List.setIfInBounds_toArray, List.set_cons_zero, List.set_cons_succ]
  refine wpAnyH_take (i := 17) (oi := { dst := some 36, op := Op.indexAddr 88 (Operand.tmp 34) (Operand.tmp 35), type := 0, pos := _, after := _, guard := some (7, false) }) (v := ?_) rfl (by kernel_rfl) (by kernel_rfl) (by kernel_rfl) (fun _ _ _ h => h) (Or.inl ⟨by rfl, ?_⟩) (by assumption) ?_
  rotate_left
  · (intro w hSw; (try dsimp only at hSw); go_simp) <;> with_reducible rfl
  try simp only [Act.put, List.setIfInBounds_toArray, List.set_cons_zero, List.set_cons_succ]
  refine wpAnyH_take (i := 18) (oi := { dst := some 37, op := Op.load 91 (Operand.tmp 36), type := 91, pos := _, after := _, guard := some (7, false) }) (v := ?_) rfl (by kernel_rfl) (by kernel_rfl) (by kernel_rfl) (fun _ _ _ h => h) (Or.inl ⟨by rfl, ?_⟩) (by assumption) ?_
  rotate_left
  · (intro w hSw; (try dsimp only at hSw); go_simp) <;> with_reducible rfl
  try simp only [Act.put, List.setIfInBounds_toArray, List.set_cons_zero, List.set_cons_succ]
  refine wpAnyH_ready (rs := [19]) (by kernel_rfl) (by simp) ?_
  refine AllReadyH.cons (o := { dst := some 38, op := Op.call { callee := Callee.value (Operand.func 55), args := #[Operand.tmp 30, Operand.tmp 37], argTypes := #[91, 91] }, type := 4, pos := _, after := _, guard := some (7, false) }) rfl (fun K hK => ?_) AllReadyH.nil
  go_simp
  go_at_call 55
  refine (HH2 _).mono ?_
  rintro ex w9 ⟨rfl, rfl⟩
  try go_simp
  clear hHeld
  refine hK.out _ _ ?_ (fun hHeld => ?_)
  · exact HC.out _ HBd.out HX.out
  clear hK K
  try simp only [Act.put, List.setIfInBounds_toArray, List.set_cons_zero, List.set_cons_succ]
  refine wpAnyH_take (i := 20) (oi := { dst := some 39, op := Op.unOp UnOp.not 4 (Operand.tmp 38), type := 4, pos := _, after := _, guard := some (7, false) }) (v := ?_) rfl (by kernel_rfl) (by kernel_rfl) (by kernel_rfl) (fun _ _ _ h => h) (Or.inl ⟨by rfl, ?_⟩) (by assumption) ?_
  rotate_left
  · (intro w hSw; (try dsimp only at hSw); go_simp) <;> with_reducible rfl
  try simp only [Act.put, List.setIfInBounds_toArray, List.set_cons_zero, List.set_cons_succ]
  refine wpAnyH_take (i := 21) (oi := { dst := some 40, op := Op.pick (Operand.tmp 26) (Operand.const (Value.bool true)) (Operand.tmp 39), type := 4, pos := _, after := _, guard := none }) (v := ?_) rfl (by kernel_rfl) (by kernel_rfl) (by kernel_rfl) (fun _ _ _ h => h) (Or.inl ⟨by rfl, ?_⟩) (by assumption) ?_
  rotate_left
  · (intro w hSw; (try dsimp only at hSw); go_simp) <;> with_reducible rfl
  try simp only [Act.put, List.setIfInBounds_toArray, List.set_cons_zero, List.set_cons_succ]
  refine wpAnyH_take (i := 22) (oi := { dst := some 41, op := Op.move (Operand.tmp 40), type := 4, pos := _, after := _, guard := none }) (v := ?_) rfl (by kernel_rfl) (by kernel_rfl) (by kernel_rfl) (fun _ _ _ h => h) (Or.inl ⟨by rfl, ?_⟩) (by assumption) ?_
  rotate_left
  · (intro w hSw; (try dsimp only at hSw); go_simp) <;> with_reducible rfl
  try simp only [Act.put, List.setIfInBounds_toArray, List.set_cons_zero, List.set_cons_succ]
  refine wpAnyH_take (i := 23) (oi := { dst := some 42, op := Op.move (Operand.tmp 1), type := 98, pos := _, after := _, guard := some (22, false) }) (v := ?_) rfl (by kernel_rfl) (by kernel_rfl) (by kernel_rfl) (fun _ _ _ h => h) (Or.inl ⟨by rfl, ?_⟩) (by assumption) ?_
  rotate_left
  · (intro w hSw; (try dsimp only at hSw); go_simp) <;> with_reducible rfl
  try simp only [Act.put, List.setIfInBounds_toArray, List.set_cons_zero, List.set_cons_succ]
  refine wpAnyH_take (i := 24) (oi := { dst := some 43, op := Op.nilCheck (Operand.tmp 42), type := 0, pos := _, after := _, guard := some (22, false) }) (v := ?_) rfl (by kernel_rfl) (by kernel_rfl) (by kernel_rfl) (fun _ _ _ h => h) (Or.inl ⟨by rfl, ?_⟩) (by assumption) ?_
  rotate_left
  · (intro w hSw; (try dsimp only at hSw); go_simp) <;> with_reducible rfl
  try simp only [Act.put, List.setIfInBounds_toArray, List.set_cons_zero, List.set_cons_succ]
  refine wpAnyH_take (i := 25) (oi := { dst := some 44, op := Op.fieldAddr 97 (Operand.tmp 43) 1, type := 0, pos := _, after := _, guard := some (22, false) }) (v := ?_) rfl (by kernel_rfl) (by kernel_rfl) (by kernel_rfl) (fun _ _ _ h => h) (Or.inl ⟨by rfl, ?_⟩) (by assumption) ?_
  rotate_left
  · (intro w hSw; (try dsimp only at hSw); go_simp) <;> with_reducible rfl
  try simp only [Act.put, List.setIfInBounds_toArray, List.set_cons_zero, List.set_cons_succ]
  refine wpAnyH_take (i := 26) (oi := { dst := some 45, op := Op.load 59 (Operand.tmp 44), type := 59, pos := _, after := _, guard := some (22, false) }) (v := ?_) rfl (by kernel_rfl) (by kernel_rfl) (by kernel_rfl) (fun _ _ _ h => h) (Or.inl ⟨by rfl, ?_⟩) (by assumption) ?_
  rotate_left
  · (intro w hSw; (try dsimp only at hSw); go_simp) <;> with_reducible rfl
  try simp only [Act.put, List.setIfInBounds_toArray, List.set_cons_zero, List.set_cons_succ]
  refine wpAnyH_take (i := 27) (oi := { dst := some 46, op := Op.load 50 (Operand.tmp 9), type := 50, pos := _, after := _, guard := some (22, false) }) (v := ?_) rfl (by kernel_rfl) (by kernel_rfl) (by kernel_rfl) (fun _ _ _ h => h) (Or.inl ⟨by rfl, ?_⟩) (by assumption) ?_
  rotate_left
  · (intro w hSw; (try dsimp only at hSw); go_simp) <;> with_reducible rfl
  try simp only [Act.put, List.setIfInBounds_toArray, List.set_cons_zero, List.set_cons_succ]
  refine wpAnyH_ready (rs := [28]) (by kernel_rfl) (by simp) ?_
  refine AllReadyH.cons (o := { dst := some 47, op := Op.call { callee := Callee.value (Operand.func 48), args := #[Operand.tmp 45, Operand.tmp 46], argTypes := #[59, 50] }, type := 4, pos := _, after := _, guard := some (22, false) }) rfl (fun K hK => ?_) AllReadyH.nil
  go_simp
  go_at_call 48
  refine (HF.out _ HBd.out).mono ?_
  rintro ex W1 ⟨rfl, hb1⟩
  have HB1 : Hid (Below W.heap.size W W1) := HBd.out.trans (hb1.mono HBd.out.size)
  have HX1 : Hid (∀ j v, (#[.int .i64 q.k, .int .i64 q.fr, .int .i64 q.to_, .int .i64 q.off, .int .i64 q.len, .slice q.da q.n q.dc, .bool q.sy] : Array Value)[j]? = some v → W1.cell? ⟨W.heap.size, j, none⟩ = some v) := fun j v hv => by rw [World.cell?_of_block (hb1.block _ HL.out)]; exact HX.out j v hv
  have HB1v : Hid (Below V.heap.size V W1) := (⟨rfl, rfl, rfl, Nat.le_refl _, fun _ _ => rfl⟩ : Below V.heap.size V V.drew).trans hb1
  clear hb1
  try go_simp
  clear hHeld
  refine hK.out _ _ ?_ (fun hHeld => ?_)
  · exact HC.out _ HB1.out HX1.out
  clear hK K
  try simp only [Act.put, List.setIfInBounds_toArray, List.set_cons_zero, List.set_cons_succ]
  refine wpAnyH_take (i := 29) (oi := { dst := some 48, op := Op.unOp UnOp.not 4 (Operand.tmp 47), type := 4, pos := _, after := _, guard := some (22, false) }) (v := ?_) rfl (by kernel_rfl) (by kernel_rfl) (by kernel_rfl) (fun _ _ _ h => h) (Or.inl ⟨by rfl, ?_⟩) (by assumption) ?_
  rotate_left
  · (intro w hSw; (try dsimp only at hSw); go_simp) <;> with_reducible rfl
  try simp only [Act.put, List.setIfInBounds_toArray, List.set_cons_zero, List.set_cons_succ]
  refine wpAnyH_take (i := 30) (oi := { dst := some 49, op := Op.pick (Operand.tmp 41) (Operand.const (Value.bool true)) (Operand.tmp 48), type := 4, pos := _, after := _, guard := none }) (v := ?_) rfl (by kernel_rfl) (by kernel_rfl) (by kernel_rfl) (fun _ _ _ h => h) (Or.inl ⟨by rfl, ?_⟩) (by assumption) ?_
  rotate_left
  · (intro w hSw; (try dsimp only at hSw); go_simp) <;> with_reducible rfl
  try simp only [Act.put, List.setIfInBounds_toArray, List.set_cons_zero, List.set_cons_succ]
  refine wpAnyH_done (by kernel_rfl) ?_ _
  clear hHeld
  go_wp2_with fail
  have HS2 : Hid (Sm W1 B Q (some ⟨ob, oo, none⟩) m oc A gh hc ah gv vc n L r N M) := HSm.out.1.later HB1.out
  have HBx2 : Hid (W1.heap[W.heap.size]? = some (.cells #[.int .i64 q.k, .int .i64 q.fr, .int .i64 q.to_, .int .i64 q.off, .int .i64 q.len, .slice q.da q.n q.dc, .bool q.sy] 50 (0, 0))) := (HB1v.out.block _ HL.out).trans HVb.out
  obtain ⟨U3, hU3⟩ : ∃ U3, U3 = ((W1.setCell ⟨gv, e, none⟩ (.int .u16 (Y : Int))).setCell ⟨gv, e + 2, none⟩ (.int .i64 0)).drew := ⟨_, rfl⟩
  have HS3 : Hid (Sm (W1.setCell ⟨gv, e, none⟩ (.int .u16 (Y : Int))) B Q (some ⟨ob, oo, none⟩) m oc A gh hc ah gv vc n (L.set (d + 1) { bl with D := Y }) r N M) := by
    have := HS2.out.put (c := 0) (v' := { bl with D := Y }) (x := sv Y) HSm.out.2.2 (by decide) rfl rfl rfl
    rw [HEe.out] at this; exact this
  have HdL : Hid (d + 1 < L.length) := (List.getElem?_eq_some_iff.1 HSm.out.2.2).1
  have HS4 : Hid (Sm U3 B Q (some ⟨ob, oo, none⟩) m oc A gh hc ah gv vc n (L.set (d + 1) { bl with D := Y, x := 0 }) r N M) := by
    have := HS3.out.put (j := d + 1) (c := 2) (v := { bl with D := Y }) (v' := { bl with D := Y, x := 0 }) (x := .int .i64 0) (List.getElem?_set_self HdL.out) (by decide) rfl rfl rfl
    rw [HEe.out, List.set_set] at this
    have h9 := this.later (V := U3) (by rw [hU3]; exact ⟨rfl, rfl, rfl, Nat.le_refl _, fun _ _ => rfl⟩)
    exact h9
  have HB3 : Hid (Below B W U3) := by
    show Below B W U3
    rw [hU3]
    exact ((((HB1.out.mono HBB.out).setCell (p := ⟨gv, e, none⟩) HS2.out.gvb.1 _)).setCell (p := ⟨gv, e + 2, none⟩) HS2.out.gvb.1 _).trans ⟨rfl, rfl, rfl, Nat.le_refl _, fun _ _ => rfl⟩
  have Hz3 : Hid (W.heap.size ≤ U3.heap.size) := by
    show W.heap.size ≤ U3.heap.size
    have h9 : U3.heap.size = W1.heap.size := by
      rw [hU3]
      show ((W1.setCell ⟨gv, e, none⟩ (.int .u16 (Y : Int))).setCell ⟨gv, e + 2, none⟩ (.int .i64 0)).heap.size = _
      rw [World.size_setCell, World.size_setCell]
    rw [h9]; exact HB1.out.size
  have HBx3 : Hid (U3.heap[W.heap.size]? = some (.cells #[.int .i64 q.k, .int .i64 q.fr, .int .i64 q.to_, .int .i64 q.off, .int .i64 q.len, .slice q.da q.n q.dc, .bool q.sy] 50 (0, 0))) := by
    have hne : W.heap.size ≠ gv := fun e0 => by
      obtain ⟨_, cu, hcu⟩ := HSm.out.1.gvb
      have := block_lt hcu; omega
    show U3.heap[W.heap.size]? = _
    rw [hU3]
    show ((W1.setCell ⟨gv, e, none⟩ (.int .u16 (Y : Int))).setCell ⟨gv, e + 2, none⟩ (.int .i64 0)).heap[W.heap.size]? = _
    rw [Below.heap_setCell _ _ _ _ hne, Below.heap_setCell _ _ _ _ hne]
    exact HBx2.out
  have s1 : W1.cell? ⟨gv, e, none⟩ = some (.int .u16 (bl.D : Int)) := by have := HS2.out.lvc HSm.out.2.2 (c := 0) (by decide); rw [HEe.out] at this; exact this
  have s2 : W1.frozen? ⟨gv, e, none⟩ = false := HS2.out.lvf e
  have s3 : W1.cell? ⟨gv, e + 2, none⟩ = some (.int .i64 (bl.x : Int)) := by have := HS2.out.lvc HSm.out.2.2 (c := 2) (by decide); rw [HEe.out] at this; exact this
  have s4 : W1.frozen? ⟨gv, e + 2, none⟩ = false := HS2.out.lvf _
  have HD4 : Hid ((W1.setCell ⟨gv, e, none⟩ (.int .u16 (Y : Int))).cell? ⟨gv, d * 3, none⟩ = some (.int .u16 (hv.D : Int)) ∧ U3.cell? ⟨gv, d * 3, none⟩ = some (.int .u16 (hv.D : Int))) := ⟨HS3.out.lvc (j := d) (v := hv) (by rw [List.getElem?_set_ne (by omega)]; exact HSm.out.2.1) (c := 0) (by decide), HS4.out.lvc (j := d) (v := hv) (by rw [List.getElem?_set_ne (by omega)]; exact HSm.out.2.1) (c := 0) (by decide)⟩
  have HU3 : Hid (U3 = ((W1.setCell ⟨gv, e, none⟩ (.int .u16 (Y : Int))).setCell ⟨gv, e + 2, none⟩ (.int .i64 0)).drew) := hU3
  clear hU3
  refine wp_region_held_drew (S := (fun w' => w'.cell? ⟨gv, d * 3, none⟩ = some (.int .u16 (hv.D : Int)))) (by kernel_rfl) ?_ (fun hHeld => ?_)
  · exact HS2.out.lvc HSm.out.2.1 (c := 0) (by decide)
  refine wpAnyH_take (i := 0) (oi := { dst := some 50, op := Op.move (Operand.tmp 2), type := 98, pos := _, after := #[], guard := none }) (v := ?_) rfl (by kernel_rfl) (by kernel_rfl) (by kernel_rfl) (fun _ _ _ h => h) (Or.inl ⟨by rfl, ?_⟩) (by assumption) ?_
  rotate_left
  · (intro w hSw; (try dsimp only at hSw); go_simp) <;> with_reducible rfl
  try simp only [Act.put, List.setIfInBounds_toArray, List.set_cons_zero, List.set_cons_succ]
  refine wpAnyH_take (i := 1) (oi := { dst := some 51, op := Op.move (Operand.tmp 2), type := 98, pos := _, after := _, guard := none }) (v := ?_) rfl (by kernel_rfl) (by kernel_rfl) (by kernel_rfl) (fun _ _ _ h => h) (Or.inl ⟨by rfl, ?_⟩) (by assumption) ?_
  rotate_left
  · (intro w hSw; (try dsimp only at hSw); go_simp) <;> with_reducible rfl
  try simp only [Act.put, List.setIfInBounds_toArray, List.set_cons_zero, List.set_cons_succ]
  refine wpAnyH_take (i := 2) (oi := { dst := some 52, op := Op.move (Operand.tmp 1), type := 98, pos := _, after := #[], guard := none }) (v := ?_) rfl (by kernel_rfl) (by kernel_rfl) (by kernel_rfl) (fun _ _ _ h => h) (Or.inl ⟨by rfl, ?_⟩) (by assumption) ?_
  rotate_left
  · (intro w hSw; (try dsimp only at hSw); go_simp) <;> with_reducible rfl
  try simp only [Act.put, List.setIfInBounds_toArray, List.set_cons_zero, List.set_cons_succ]
  refine wpAnyH_take (i := 3) (oi := { dst := some 53, op := Op.nilCheck (Operand.tmp 52), type := 0, pos := _, after := _, guard := none }) (v := ?_) rfl (by kernel_rfl) (by kernel_rfl) (by kernel_rfl) (fun _ _ _ h => h) (Or.inl ⟨by rfl, ?_⟩) (by assumption) ?_
  rotate_left
  · (intro w hSw; (try dsimp only at hSw); go_simp) <;> with_reducible rfl
  try simp only [Act.put, List.setIfInBounds_toArray, List.set_cons_zero, List.set_cons_succ]
  refine wpAnyH_take (i := 4) (oi := { dst := some 54, op := Op.fieldAddr 97 (Operand.tmp 53) 0, type := 0, pos := _, after := _, guard := none }) (v := ?_) rfl (by kernel_rfl) (by kernel_rfl) (by kernel_rfl) (fun _ _ _ h => h) (Or.inl ⟨by rfl, ?_⟩) (by assumption) ?_
  rotate_left
  · (intro w hSw; (try dsimp only at hSw); go_simp) <;> with_reducible rfl
  try simp only [Act.put, List.setIfInBounds_toArray, List.set_cons_zero, List.set_cons_succ]
  refine wpAnyH_take (i := 5) (oi := { dst := some 55, op := Op.load 91 (Operand.tmp 54), type := 91, pos := _, after := _, guard := none }) (v := ?_) rfl (by kernel_rfl) (by kernel_rfl) (by kernel_rfl) (fun _ _ _ h => h) (Or.inl ⟨by rfl, ?_⟩) (by assumption) ?_
  rotate_left
  · (intro w hSw; (try dsimp only at hSw); go_simp) <;> with_reducible rfl
  try simp only [Act.put, List.setIfInBounds_toArray, List.set_cons_zero, List.set_cons_succ]
  refine wpAnyH_take (i := 6) (oi := { dst := some 56, op := Op.move (Operand.tmp 3), type := 3, pos := _, after := #[], guard := none }) (v := ?_) rfl (by kernel_rfl) (by kernel_rfl) (by kernel_rfl) (fun _ _ _ h => h) (Or.inl ⟨by rfl, ?_⟩) (by assumption) ?_
  rotate_left
  · (intro w hSw; (try dsimp only at hSw); go_simp) <;> with_reducible rfl
  try simp only [Act.put, List.setIfInBounds_toArray, List.set_cons_zero, List.set_cons_succ]
  refine wpAnyH_ready (rs := [7]) (by kernel_rfl) (by simp) ?_
  refine AllReadyH.cons (o := { dst := some 57, op := Op.call { callee := Callee.value (Operand.func 53), args := #[Operand.tmp 56], argTypes := #[3] }, type := 91, pos := _, after := _, guard := none }) rfl (fun K hK => ?_) AllReadyH.nil
  go_simp
  go_at_call 53
  refine (HO2 _).mono ?_
  rintro ex w9 ⟨rfl, rfl⟩
  try go_simp
  clear hHeld
  refine hK.out _ _ ?_ (fun hHeld => ?_)
  · exact HS2.out.lvc HSm.out.2.1 (c := 0) (by decide)
  clear hK K
  try simp only [Act.put, List.setIfInBounds_toArray, List.set_cons_zero, List.set_cons_succ]
  refine wpAnyH_take (i := 8) (oi := { dst := some 58, op := Op.binOp BinOp.or 91 (Operand.tmp 55) (Operand.tmp 57) 91, type := 91, pos := _, after := _, guard := none }) (v := ?_) rfl (by kernel_rfl) (by kernel_rfl) (by kernel_rfl) (fun _ _ _ h => h) (Or.inl ⟨by rfl, ?_⟩) (by assumption) ?_
  rotate_left
  · (intro w hSw; (try dsimp only at hSw); go_simp) <;> with_reducible rfl
  try simp only [Act.put, List.setIfInBounds_toArray, List.set_cons_zero, List.set_cons_succ]
  refine wpAnyH_take (i := 9) (oi := { dst := some 59, op := Op.nilCheck (Operand.tmp 50), type := 0, pos := _, after := _, guard := none }) (v := ?_) rfl (by kernel_rfl) (by kernel_rfl) (by kernel_rfl) (fun _ _ _ h => h) (Or.inl ⟨by rfl, ?_⟩) (by assumption) ?_
  rotate_left
  · (intro w hSw; (try dsimp only at hSw); go_simp) <;> with_reducible rfl
  try simp only [Act.put, List.setIfInBounds_toArray, List.set_cons_zero, List.set_cons_succ]
  refine wpAnyH_take (i := 10) (oi := { dst := some 60, op := Op.fieldAddr 97 (Operand.tmp 59) 0, type := 0, pos := _, after := _, guard := none }) (v := ?_) rfl (by kernel_rfl) (by kernel_rfl) (by kernel_rfl) (fun _ _ _ h => h) (Or.inl ⟨by rfl, ?_⟩) (by assumption) ?_
  rotate_left
  · (intro w hSw; (try dsimp only at hSw); go_simp) <;> with_reducible rfl
  try simp only [Act.put, List.setIfInBounds_toArray, List.set_cons_zero, List.set_cons_succ]
  refine wpAnyH_ready (rs := [11]) (by kernel_rfl) (by simp) ?_
  refine AllReadyH.cons (o := { dst := none, op := Op.store 91 (Operand.tmp 60) (Operand.tmp 58), type := 0, pos := _, after := _, guard := none }) rfl (fun K hK => ?_) AllReadyH.nil
  go_simp
  skip
  try go_simp
  clear hHeld
  refine hK.out _ _ ?_ (fun hHeld => ?_)
  · exact HD4.out.1
  clear hK K
  try simp only [Act.put, List.setIfInBounds_toArray, List.set_cons_zero, List.set_cons_succ]
  refine wpAnyH_take (i := 12) (oi := { dst := some 61, op := Op.nilCheck (Operand.tmp 51), type := 0, pos := _, after := _, guard := none }) (v := ?_) rfl (by kernel_rfl) (by kernel_rfl) (by kernel_rfl) (fun _ _ _ h => h) (Or.inl ⟨by rfl, ?_⟩) (by assumption) ?_
  rotate_left
  · (intro w hSw; (try dsimp only at hSw); go_simp) <;> with_reducible rfl
  try simp only [Act.put, List.setIfInBounds_toArray, List.set_cons_zero, List.set_cons_succ]
  refine wpAnyH_take (i := 13) (oi := { dst := some 62, op := Op.fieldAddr 97 (Operand.tmp 61) 2, type := 0, pos := _, after := _, guard := none }) (v := ?_) rfl (by kernel_rfl) (by kernel_rfl) (by kernel_rfl) (fun _ _ _ h => h) (Or.inl ⟨by rfl, ?_⟩) (by assumption) ?_
  rotate_left
  · (intro w hSw; (try dsimp only at hSw); go_simp) <;> with_reducible rfl
  try simp only [Act.put, List.setIfInBounds_toArray, List.set_cons_zero, List.set_cons_succ]
  refine wpAnyH_ready (rs := [14]) (by kernel_rfl) (by simp) ?_
  refine AllReadyH.cons (o := { dst := none, op := Op.store 3 (Operand.tmp 62) (Operand.const (Value.int IntKind.i64 0)), type := 0, pos := _, after := _, guard := none }) rfl (fun K hK => ?_) AllReadyH.nil
  go_simp
  skip
  try go_simp
  clear hHeld
  refine hK.out _ _ ?_ (fun hHeld => ?_)
  · (rw [← HU3.out]; exact HD4.out.2)
  clear hK K
  try simp only [Act.put, List.setIfInBounds_toArray, List.set_cons_zero, List.set_cons_succ]
  refine wpAnyH_done (by kernel_rfl) ?_ _
  clear hHeld s1 s2 s3 s4 hor
  rw [← HU3.out]
  have HL3 : Hid ((L.set (d + 1) { bl with D := Y, x := 0 })[d]? = some hv) := by show _ = _; rw [List.getElem?_set_ne (by omega)]; exact HSm.out.2.1
  have HL3b : Hid ((L.set (d + 1) { bl with D := Y, x := 0 })[d + 1]? = some { bl with D := Y, x := 0 }) := List.getElem?_set_self HdL.out
  have HS3d : Hid (Sm U3.drew B Q (some ⟨ob, oo, none⟩) m oc A gh hc ah gv vc n (L.set (d + 1) { bl with D := Y, x := 0 }) r N M) := HS4.out.later ⟨rfl, rfl, rfl, Nat.le_refl _, fun _ _ => rfl⟩
  obtain ⟨U4, hrun, hS4, hg4⟩ := copy_now HS3d.out hns HL3.out HL3b.out
  rw [List.set_set] at hS4
  have HL4 : Hid ((L.set (d + 1) { bl with D := Y, x := 0, bs := hv.bs })[d + 1]? = some { bl with D := Y, x := 0, bs := hv.bs }) := List.getElem?_set_self HdL.out
  have HSm4 : Hid (Sm U4.drew B Q (some ⟨ob, oo, none⟩) m oc A gh hc ah gv vc n (L.set (d + 1) { bl with D := Y, x := 0, bs := hv.bs }) r N M ∧ Below B W U4.drew ∧ W.heap.size ≤ U4.drew.heap.size) :=
    ⟨hS4.later ⟨rfl, rfl, rfl, Nat.le_refl _, fun _ _ => rfl⟩, (Below.grown (w := U3.drew) (HB3.out.trans ⟨rfl, rfl, rfl, Nat.le_refl _, fun _ _ => rfl⟩) hg4 (Nat.le_trans HBB.out Hz3.out) (fun g e => (HS3d.out.nob HL3b.out e).1)).trans ⟨rfl, rfl, rfl, Nat.le_refl _, fun _ _ => rfl⟩, Nat.le_trans Hz3.out hg4.size⟩
  have HS40 : Hid (Sm U4 B Q (some ⟨ob, oo, none⟩) m oc A gh hc ah gv vc n (L.set (d + 1) { bl with D := Y, x := 0, bs := hv.bs }) r N M) := hS4
  have HBx4 : Hid (U4.drew.heap[W.heap.size]? = some (.cells #[.int .i64 q.k, .int .i64 q.fr, .int .i64 q.to_, .int .i64 q.off, .int .i64 q.len, .slice q.da q.n q.dc, .bool q.sy] 50 (0, 0))) := (HS3d.out.box HL3b.out hg4 ⟨_, HBx3.out⟩).trans HBx3.out
  clear hS4 hg4
  go_wp2_with fail
  refine wp_region_held_drew (S := (fun w' => w'.cell? ⟨gv, e + 1, none⟩ = some (.slice bl.a n bl.c) ∧ w'.cell? ⟨gv, d * 3 + 1, none⟩ = some (.slice hv.a n hv.c))) (by kernel_rfl) ?_ (fun hHeld => ?_)
  · (have h6 := HS3d.out.lvc HL3b.out (c := 1) (by decide); rw [HEe.out] at h6; exact ⟨h6, HS3d.out.lvc HL3.out (c := 1) (by decide)⟩)
  refine wpAnyH_take (i := 0) (oi := { dst := some 63, op := Op.move (Operand.tmp 2), type := 98, pos := _, after := #[], guard := none }) (v := ?_) rfl (by kernel_rfl) (by kernel_rfl) (by kernel_rfl) (fun _ _ _ h => h) (Or.inl ⟨by rfl, ?_⟩) (by assumption) ?_
  rotate_left
  · (intro w hSw; (try dsimp only at hSw); go_simp) <;> with_reducible rfl
  try simp only [Act.put, List.setIfInBounds_toArray, List.set_cons_zero, List.set_cons_succ]
  refine wpAnyH_take (i := 1) (oi := { dst := some 64, op := Op.nilCheck (Operand.tmp 63), type := 0, pos := _, after := _, guard := none }) (v := ?_) rfl (by kernel_rfl) (by kernel_rfl) (by kernel_rfl) (fun _ _ _ h => h) (Or.inl ⟨by rfl, ?_⟩) (by assumption) ?_
  rotate_left
  · (intro w hSw; (try dsimp only at hSw); go_simp) <;> with_reducible rfl
  try simp only [Act.put, List.setIfInBounds_toArray, List.set_cons_zero, List.set_cons_succ]
  refine wpAnyH_take (i := 2) (oi := { dst := some 65, op := Op.fieldAddr 97 (Operand.tmp 64) 1, type := 0, pos := _, after := _, guard := none }) (v := ?_) rfl (by kernel_rfl) (by kernel_rfl) (by kernel_rfl) (fun _ _ _ h => h) (Or.inl ⟨by rfl, ?_⟩) (by assumption) ?_
  rotate_left
  · (intro w hSw; (try dsimp only at hSw); go_simp) <;> with_reducible rfl
  try simp only [Act.put, List.setIfInBounds_toArray, List.set_cons_zero, List.set_cons_succ]
  refine wpAnyH_take (i := 3) (oi := { dst := some 66, op := Op.load 59 (Operand.tmp 65), type := 59, pos := _, after := _, guard := none }) (v := ?_) rfl (by kernel_rfl) (by kernel_rfl) (by kernel_rfl) (fun _ _ _ h => h) (Or.inl ⟨by rfl, ?_⟩) (by assumption) ?_
  rotate_left
  · (intro w hSw; (try dsimp only at hSw); go_simp) <;> with_reducible rfl
  try simp only [Act.put, List.setIfInBounds_toArray, List.set_cons_zero, List.set_cons_succ]
  refine wpAnyH_take (i := 4) (oi := { dst := some 67, op := Op.move (Operand.tmp 1), type := 98, pos := _, after := #[], guard := none }) (v := ?_) rfl (by kernel_rfl) (by kernel_rfl) (by kernel_rfl) (fun _ _ _ h => h) (Or.inl ⟨by rfl, ?_⟩) (by assumption) ?_
  rotate_left
  · (intro w hSw; (try dsimp only at hSw); go_simp) <;> with_reducible rfl
  try simp only [Act.put, List.setIfInBounds_toArray, List.set_cons_zero, List.set_cons_succ]
  refine wpAnyH_take (i := 5) (oi := { dst := some 68, op := Op.nilCheck (Operand.tmp 67), type := 0, pos := _, after := _, guard := none }) (v := ?_) rfl (by kernel_rfl) (by kernel_rfl) (by kernel_rfl) (fun _ _ _ h => h) (Or.inl ⟨by rfl, ?_⟩) (by assumption) ?_
  rotate_left
  · (intro w hSw; (try dsimp only at hSw); go_simp) <;> with_reducible rfl
  try simp only [Act.put, List.setIfInBounds_toArray, List.set_cons_zero, List.set_cons_succ]
  refine wpAnyH_take (i := 6) (oi := { dst := some 69, op := Op.fieldAddr 97 (Operand.tmp 68) 1, type := 0, pos := _, after := _, guard := none }) (v := ?_) rfl (by kernel_rfl) (by kernel_rfl) (by kernel_rfl) (fun _ _ _ h => h) (Or.inl ⟨by rfl, ?_⟩) (by assumption) ?_
  rotate_left
  · (intro w hSw; (try dsimp only at hSw); go_simp) <;> with_reducible rfl
  try simp only [Act.put, List.setIfInBounds_toArray, List.set_cons_zero, List.set_cons_succ]
  refine wpAnyH_take (i := 7) (oi := { dst := some 70, op := Op.load 59 (Operand.tmp 69), type := 59, pos := _, after := _, guard := none }) (v := ?_) rfl (by kernel_rfl) (by kernel_rfl) (by kernel_rfl) (fun _ _ _ h => h) (Or.inl ⟨by rfl, ?_⟩) (by assumption) ?_
  rotate_left
  · (intro w hSw; (try dsimp only at hSw); go_simp) <;> with_reducible rfl
  try simp only [Act.put, List.setIfInBounds_toArray, List.set_cons_zero, List.set_cons_succ]
  refine wpAnyH_ready (rs := [8]) (by kernel_rfl) (by simp) ?_
  refine AllReadyH.cons (o := { dst := some 71, op := Op.call { callee := Callee.builtin Builtin.copy, args := #[Operand.tmp 66, Operand.tmp 70], argTypes := #[59, 59] }, type := 3, pos := _, after := _, guard := none }) rfl (fun K hK => ?_) AllReadyH.nil
  go_simp
  skip
  try go_simp
  clear hHeld
  refine hK.out _ _ ?_ (fun hHeld => ?_)
  · (have h6 := HS40.out.lvc HL4.out (c := 1) (by decide); rw [HEe.out] at h6; exact ⟨h6, HS40.out.lvc (j := d) (v := hv) (by rw [List.getElem?_set_ne (by omega)]; exact HSm.out.2.1) (c := 1) (by decide)⟩)
  clear hK K
  try simp only [Act.put, List.setIfInBounds_toArray, List.set_cons_zero, List.set_cons_succ]
  refine wpAnyH_done (by kernel_rfl) ?_ _
  clear hHeld hrun
  have HPl : Hid (Calls Try.prog 49 #[.slice bl.a n bl.c, .agg #[.int .i64 q.k, .int .i64 q.fr, .int .i64 q.to_, .int .i64 q.off, .int .i64 q.len, .slice q.da q.n q.dc, .bool q.sy]] U4.drew fun e w' => e = .returned (.tuple #[]) ∧ w'.ownsRow B 5 1 (.slice bl.a n bl.c) n ((q.eff hv.bs ds).map bv) ∧ U4.drew.grownBy w' (Value.slice bl.a n bl.c).ownBlock) := play_any bl.a B n bl.c q hv.bs ds U4.drew (HSm4.out.1.now (d + 1) _ HL4.out).1 (HSm4.out.1.now (d + 1) _ HL4.out).2.1 (HDat.out _ HSm4.out.2.1) hdn hq hns
  go_wp2_with fail
  refine wp_region_held_drew (S := (fun w' => w'.cell? ⟨gv, e + 1, none⟩ = some (.slice bl.a n bl.c) ∧ w'.cell? ⟨W.heap.size, 0, none⟩ = some (.int .i64 q.k) ∧ w'.cell? ⟨W.heap.size, 1, none⟩ = some (.int .i64 q.fr) ∧ w'.cell? ⟨W.heap.size, 2, none⟩ = some (.int .i64 q.to_) ∧ w'.cell? ⟨W.heap.size, 3, none⟩ = some (.int .i64 q.off) ∧ w'.cell? ⟨W.heap.size, 4, none⟩ = some (.int .i64 q.len) ∧ w'.cell? ⟨W.heap.size, 5, none⟩ = some (.slice q.da q.n q.dc) ∧ w'.cell? ⟨W.heap.size, 6, none⟩ = some (.bool q.sy))) (by kernel_rfl) ?_ (fun hHeld => ?_)
  · (have h6 := HSm4.out.1.lvc HL4.out (c := 1) (by decide); rw [HEe.out] at h6; exact ⟨h6, blk_at HBx4.out 0, blk_at HBx4.out 1, blk_at HBx4.out 2, blk_at HBx4.out 3, blk_at HBx4.out 4, blk_at HBx4.out 5, blk_at HBx4.out 6⟩)
  refine wpAnyH_take (i := 0) (oi := { dst := some 72, op := Op.move (Operand.tmp 2), type := 98, pos := _, after := #[], guard := none }) (v := ?_) rfl (by kernel_rfl) (by kernel_rfl) (by kernel_rfl) (fun _ _ _ h => h) (Or.inl ⟨by rfl, ?_⟩) (by assumption) ?_
  rotate_left
  · (intro w hSw; (try dsimp only at hSw); go_simp) <;> with_reducible rfl
  try simp only [Act.put, List.setIfInBounds_toArray, List.set_cons_zero, List.set_cons_succ]
  refine wpAnyH_take (i := 1) (oi := { dst := some 73, op := Op.nilCheck (Operand.tmp 72), type := 0, pos := _, after := _, guard := none }) (v := ?_) rfl (by kernel_rfl) (by kernel_rfl) (by kernel_rfl) (fun _ _ _ h => h) (Or.inl ⟨by rfl, ?_⟩) (by assumption) ?_
  rotate_left
  · (intro w hSw; (try dsimp only at hSw); go_simp) <;> with_reducible rfl
  try simp only [Act.put, List.setIfInBounds_toArray, List.set_cons_zero, List.set_cons_succ]
  refine wpAnyH_take (i := 2) (oi := { dst := some 74, op := Op.fieldAddr 97 (Operand.tmp 73) 1, type := 0, pos := _, after := _, guard := none }) (v := ?_) rfl (by kernel_rfl) (by kernel_rfl) (by kernel_rfl) (fun _ _ _ h => h) (Or.inl ⟨by rfl, ?_⟩) (by assumption) ?_
  rotate_left
  · (intro w hSw; (try dsimp only at hSw); go_simp) <;> with_reducible rfl
  try simp only [Act.put, List.setIfInBounds_toArray, List.set_cons_zero, List.set_cons_succ]
  refine wpAnyH_take (i := 3) (oi := { dst := some 75, op := Op.load 59 (Operand.tmp 74), type := 59, pos := _, after := _, guard := none }) (v := ?_) rfl (by kernel_rfl) (by kernel_rfl) (by kernel_rfl) (fun _ _ _ h => h) (Or.inl ⟨by rfl, ?_⟩) (by assumption) ?_
  rotate_left
  · (intro w hSw; (try dsimp only at hSw); go_simp) <;> with_reducible rfl
  try simp only [Act.put, List.setIfInBounds_toArray, List.set_cons_zero, List.set_cons_succ]
  refine wpAnyH_take (i := 4) (oi := { dst := some 76, op := Op.load 50 (Operand.tmp 9), type := 50, pos := _, after := #[], guard := none }) (v := ?_) rfl (by kernel_rfl) (by kernel_rfl) (by kernel_rfl) (fun _ _ _ h => h) (Or.inl ⟨by rfl, ?_⟩) (by assumption) ?_
  rotate_left
  · (intro w hSw; (try dsimp only at hSw); go_simp) <;> with_reducible rfl
  try simp only [Act.put, List.setIfInBounds_toArray, List.set_cons_zero, List.set_cons_succ]
  refine wpAnyH_ready (rs := [5]) (by kernel_rfl) (by simp) ?_
  refine AllReadyH.cons (o := { dst := some 77, op := Op.call { callee := Callee.value (Operand.func 49), args := #[Operand.tmp 75, Operand.tmp 76], argTypes := #[59, 50] }, type := 0, pos := _, after := _, guard := none }) rfl (fun K hK => ?_) AllReadyH.nil
  go_simp
  go_at_call 49
  refine (HPl.out).mono ?_
  rintro ex W5 ⟨rfl, ho5, hg5⟩
  have HSm5 : Hid (Sm W5 B Q (some ⟨ob, oo, none⟩) m oc A gh hc ah gv vc n (L.set (d + 1) { bl with D := Y, x := 0, bs := q.eff hv.bs ds }) r N M ∧ Below B W W5) := by
    have h1 := HSm4.out.1.row (v := { bl with D := Y, x := 0, bs := hv.bs }) HL4.out ho5 hg5 HN5.out.1 HN5.out.2
    rw [List.set_set] at h1
    exact ⟨h1, HSm4.out.2.1.grown hg5 (Nat.le_trans HBB.out HSm4.out.2.2) (fun g e => (HSm4.out.1.nob (v := { bl with D := Y, x := 0, bs := hv.bs }) HL4.out e).1)⟩
  have HX5 : Hid (∀ j v, (#[.int .i64 q.k, .int .i64 q.fr, .int .i64 q.to_, .int .i64 q.off, .int .i64 q.len, .slice q.da q.n q.dc, .bool q.sy] : Array Value)[j]? = some v → W5.cell? ⟨W.heap.size, j, none⟩ = some v) := fun j v hx => by
    rw [blk_at (show W5.heap[W.heap.size]? = some (.cells #[.int .i64 q.k, .int .i64 q.fr, .int .i64 q.to_, .int .i64 q.off, .int .i64 q.len, .slice q.da q.n q.dc, .bool q.sy] 50 (0, 0)) from (HSm4.out.1.box (v := { bl with D := Y, x := 0, bs := hv.bs }) HL4.out hg5 ⟨_, HBx4.out⟩).trans HBx4.out) j]; exact hx
  clear ho5 hg5
  try go_simp
  clear hHeld
  refine hK.out _ _ ?_ (fun hHeld => ?_)
  · (have h6 := HSm5.out.1.lvc (v := { bl with D := Y, x := 0, bs := q.eff hv.bs ds }) (List.getElem?_set_self HdL.out) (c := 1) (by decide); rw [HEe.out] at h6; exact ⟨h6, HX5.out 0 _ rfl, HX5.out 1 _ rfl, HX5.out 2 _ rfl, HX5.out 3 _ rfl, HX5.out 4 _ rfl, HX5.out 5 _ rfl, HX5.out 6 _ rfl⟩)
  clear hK K
  try simp only [Act.put, List.setIfInBounds_toArray, List.set_cons_zero, List.set_cons_succ]
  refine wpAnyH_done (by kernel_rfl) ?_ _
  clear hHeld
  have HL5 : Hid ((L.set (d + 1) { bl with D := Y, x := 0, bs := q.eff hv.bs ds })[d + 1]? = some { bl with D := Y, x := 0, bs := q.eff hv.bs ds }) := List.getElem?_set_self HdL.out
  have HS7 : Hid (∀ w' : World, Below W5.heap.size W5 w' → w'.cell? ⟨Q, 4, none⟩ = some (.map (some r)) ∧ w'.cell? ⟨gv, e, none⟩ = some (.int .u16 (Y : Int)) ∧ w'.cell? ⟨gv, e + 1, none⟩ = some (.slice bl.a n bl.c) ∧ (convert 59 9 (.slice bl.a n bl.c)).run Try.prog w' = .ok (.string bst) w' ∧ (Instr.lookup TMp (.map (some r)) (.agg #[.int .u16 (Y : Int), .string bst]) true).run Try.prog w' = .ok (.tuple #[.agg #[], .bool lost]) w') := fun w' hb => by
    have h5 := HSm5.out.1.later hb
    have h6 := h5.lvc HL5.out (c := 0) (by decide)
    have h7 := h5.lvc HL5.out (c := 1) (by decide)
    rw [HEe.out] at h6 h7
    refine ⟨h5.q4, h6, h7, ?_, ?_⟩
    · rw [← HBst.out.1]; exact conv_dev (h5.brow hns HL5.out) HN5.out.1
    · obtain ⟨v, ps, hv1, hv2⟩ := h5.mp.look_ok keyed Try.underlying89 (z := .agg #[]) (zd := .lit (.bool true)) (zp := []) (by exact zeroUnit w') rfl (key_some HY.out.2 (by rw [HN5.out.1]; exact hns))
      rw [unitE_some hv2, HBst.out.2] at hv1
      rw [← HBst.out.1]; exact hv1
  have HB7 : Hid (Below W5.heap.size W5 W5.drew) := ⟨rfl, rfl, rfl, Nat.le_refl _, fun _ _ => rfl⟩
  have HB8 : Hid (Below W5.heap.size W5 (W5.alloc (.cells #[] 101)).drew) := ((Below.refl _ W5).alloc (Nat.le_refl _) _).trans ⟨rfl, rfl, rfl, Nat.le_refl _, fun _ _ => rfl⟩
  have HBW5 : Hid (B ≤ W5.heap.size) := Nat.le_trans HBB.out HSm5.out.2.size
  go_wp2_with fail
  refine wp_region_held_drew (S := (fun w' => w'.cell? ⟨Q, 4, none⟩ = some (.map (some r)) ∧ w'.cell? ⟨gv, e, none⟩ = some (.int .u16 (Y : Int)) ∧ w'.cell? ⟨gv, e + 1, none⟩ = some (.slice bl.a n bl.c) ∧ (convert 59 9 (.slice bl.a n bl.c)).run Try.prog w' = .ok (.string bst) w' ∧ (Instr.lookup TMp (.map (some r)) (.agg #[.int .u16 (Y : Int), .string bst]) true).run Try.prog w' = .ok (.tuple #[.agg #[], .bool lost]) w')) (by kernel_rfl) ?_ (fun hHeld => ?_)
  · exact HS7.out _ HB7.out
  refine wpAnyH_take (i := 0) (oi := { dst := some 79, op := Op.move (Operand.tmp 0), type := 68, pos := _, after := #[], guard := none }) (v := ?_) rfl (by kernel_rfl) (by kernel_rfl) (by kernel_rfl) (fun _ _ _ h => h) (Or.inl ⟨by rfl, ?_⟩) (by assumption) ?_
  rotate_left
  · (intro w hSw; (try dsimp only at hSw); go_simp) <;> with_reducible rfl
  try simp only [Act.put, List.setIfInBounds_toArray, List.set_cons_zero, List.set_cons_succ]
  refine wpAnyH_take (i := 1) (oi := { dst := some 80, op := Op.nilCheck (Operand.tmp 79), type := 0, pos := _, after := _, guard := none }) (v := ?_) rfl (by kernel_rfl) (by kernel_rfl) (by kernel_rfl) (fun _ _ _ h => h) (Or.inl ⟨by rfl, ?_⟩) (by assumption) ?_
  rotate_left
  · (intro w hSw; (try dsimp only at hSw); go_simp) <;> with_reducible rfl
  try simp only [Act.put, List.setIfInBounds_toArray, List.set_cons_zero, List.set_cons_succ]
  refine wpAnyH_take (i := 2) (oi := { dst := some 81, op := Op.fieldAddr 94 (Operand.tmp 80) 4, type := 0, pos := _, after := _, guard := none }) (v := ?_) rfl (by kernel_rfl) (by kernel_rfl) (by kernel_rfl) (fun _ _ _ h => h) (Or.inl ⟨by rfl, ?_⟩) (by assumption) ?_
  rotate_left
  · (intro w hSw; (try dsimp only at hSw); go_simp) <;> with_reducible rfl
  try simp only [Act.put, List.setIfInBounds_toArray, List.set_cons_zero, List.set_cons_succ]
  refine wpAnyH_take (i := 3) (oi := { dst := some 82, op := Op.load 89 (Operand.tmp 81), type := 89, pos := _, after := _, guard := none }) (v := ?_) rfl (by kernel_rfl) (by kernel_rfl) (by kernel_rfl) (fun _ _ _ h => h) (Or.inl ⟨by rfl, ?_⟩) (by assumption) ?_
  rotate_left
  · (intro w hSw; (try dsimp only at hSw); go_simp) <;> with_reducible rfl
  try simp only [Act.put, List.setIfInBounds_toArray, List.set_cons_zero, List.set_cons_succ]
  refine wpAnyH_take (i := 4) (oi := { dst := some 83, op := Op.move (Operand.tmp 2), type := 98, pos := _, after := #[], guard := none }) (v := ?_) rfl (by kernel_rfl) (by kernel_rfl) (by kernel_rfl) (fun _ _ _ h => h) (Or.inl ⟨by rfl, ?_⟩) (by assumption) ?_
  rotate_left
  · (intro w hSw; (try dsimp only at hSw); go_simp) <;> with_reducible rfl
  try simp only [Act.put, List.setIfInBounds_toArray, List.set_cons_zero, List.set_cons_succ]
  refine wpAnyH_take (i := 5) (oi := { dst := some 84, op := Op.nilCheck (Operand.tmp 83), type := 0, pos := _, after := _, guard := none }) (v := ?_) rfl (by kernel_rfl) (by kernel_rfl) (by kernel_rfl) (fun _ _ _ h => h) (Or.inl ⟨by rfl, ?_⟩) (by assumption) ?_
  rotate_left
  · (intro w hSw; (try dsimp only at hSw); go_simp) <;> with_reducible rfl
  try simp only [Act.put, List.setIfInBounds_toArray, List.set_cons_zero, List.set_cons_succ]
  refine wpAnyH_take (i := 6) (oi := { dst := some 85, op := Op.fieldAddr 97 (Operand.tmp 84) 0, type := 0, pos := _, after := _, guard := none }) (v := ?_) rfl (by kernel_rfl) (by kernel_rfl) (by kernel_rfl) (fun _ _ _ h => h) (Or.inl ⟨by rfl, ?_⟩) (by assumption) ?_
  rotate_left
  · (intro w hSw; (try dsimp only at hSw); go_simp) <;> with_reducible rfl
  try simp only [Act.put, List.setIfInBounds_toArray, List.set_cons_zero, List.set_cons_succ]
  refine wpAnyH_take (i := 7) (oi := { dst := some 86, op := Op.load 91 (Operand.tmp 85), type := 91, pos := _, after := _, guard := none }) (v := ?_) rfl (by kernel_rfl) (by kernel_rfl) (by kernel_rfl) (fun _ _ _ h => h) (Or.inl ⟨by rfl, ?_⟩) (by assumption) ?_
  rotate_left
  · (intro w hSw; (try dsimp only at hSw); go_simp) <;> with_reducible rfl
  try simp only [Act.put, List.setIfInBounds_toArray, List.set_cons_zero, List.set_cons_succ]
  refine wpAnyH_take (i := 8) (oi := { dst := some 87, op := Op.move (Operand.tmp 2), type := 98, pos := _, after := #[], guard := none }) (v := ?_) rfl (by kernel_rfl) (by kernel_rfl) (by kernel_rfl) (fun _ _ _ h => h) (Or.inl ⟨by rfl, ?_⟩) (by assumption) ?_
  rotate_left
  · (intro w hSw; (try dsimp only at hSw); go_simp) <;> with_reducible rfl
  try simp only [Act.put, List.setIfInBounds_toArray, List.set_cons_zero, List.set_cons_succ]
  refine wpAnyH_take (i := 9) (oi := { dst := some 88, op := Op.nilCheck (Operand.tmp 87), type := 0, pos := _, after := _, guard := none }) (v := ?_) rfl (by kernel_rfl) (by kernel_rfl) (by kernel_rfl) (fun _ _ _ h => h) (Or.inl ⟨by rfl, ?_⟩) (by assumption) ?_
  rotate_left
  · (intro w hSw; (try dsimp only at hSw); go_simp) <;> with_reducible rfl
  try simp only [Act.put, List.setIfInBounds_toArray, List.set_cons_zero, List.set_cons_succ]
  refine wpAnyH_take (i := 10) (oi := { dst := some 89, op := Op.fieldAddr 97 (Operand.tmp 88) 1, type := 0, pos := _, after := _, guard := none }) (v := ?_) rfl (by kernel_rfl) (by kernel_rfl) (by kernel_rfl) (fun _ _ _ h => h) (Or.inl ⟨by rfl, ?_⟩) (by assumption) ?_
  rotate_left
  · (intro w hSw; (try dsimp only at hSw); go_simp) <;> with_reducible rfl
  try simp only [Act.put, List.setIfInBounds_toArray, List.set_cons_zero, List.set_cons_succ]
  refine wpAnyH_take (i := 11) (oi := { dst := some 90, op := Op.load 59 (Operand.tmp 89), type := 59, pos := _, after := _, guard := none }) (v := ?_) rfl (by kernel_rfl) (by kernel_rfl) (by kernel_rfl) (fun _ _ _ h => h) (Or.inl ⟨by rfl, ?_⟩) (by assumption) ?_
  rotate_left
  · (intro w hSw; (try dsimp only at hSw); go_simp) <;> with_reducible rfl
  try simp only [Act.put, List.setIfInBounds_toArray, List.set_cons_zero, List.set_cons_succ]
  refine wpAnyH_take (i := 12) (oi := { dst := some 91, op := Op.convert 59 9 (Operand.tmp 90), type := 9, pos := _, after := _, guard := none }) (v := ?_) rfl (by kernel_rfl) (by kernel_rfl) (by kernel_rfl) (fun _ _ _ h => h) (Or.inl ⟨by rfl, ?_⟩) (by assumption) ?_
  rotate_left
  · (intro w hSw; (try dsimp only at hSw); go_simp) <;> with_reducible rfl
  try simp only [Act.put, List.setIfInBounds_toArray, List.set_cons_zero, List.set_cons_succ]
  refine wpAnyH_take (i := 13) (oi := { dst := some 92, op := Op.build 103 #[(0, Operand.tmp 86), (1, Operand.tmp 91)], type := 103, pos := _, after := _, guard := none }) (v := ?_) rfl (by kernel_rfl) (by kernel_rfl) (by kernel_rfl) (fun _ _ _ h => h) (Or.inl ⟨by rfl, ?_⟩) (by assumption) ?_
  rotate_left
  · (intro w hSw; (try dsimp only at hSw); go_simp) <;> with_reducible rfl
  try simp only [Act.put, List.setIfInBounds_toArray, List.set_cons_zero, List.set_cons_succ]
  refine wpAnyH_take (i := 14) (oi := { dst := some 93, op := Op.lookup 89 (Operand.tmp 82) (Operand.tmp 92) true, type := 115, pos := _, after := _, guard := none }) (v := ?_) rfl (by kernel_rfl) (by kernel_rfl) (by kernel_rfl) (fun _ _ _ h => h) (Or.inl ⟨by rfl, ?_⟩) (by assumption) ?_
  rotate_left
  · (intro w hSw; (try dsimp only at hSw); go_simp) <;> with_reducible rfl
  try simp only [Act.put, List.setIfInBounds_toArray, List.set_cons_zero, List.set_cons_succ]
  refine wpAnyH_take (i := 15) (oi := { dst := some 78, op := Op.move (Operand.tmp 93), type := 115, pos := _, after := _, guard := none }) (v := ?_) rfl (by kernel_rfl) (by kernel_rfl) (by kernel_rfl) (fun _ _ _ h => h) (Or.inl ⟨by rfl, ?_⟩) (by assumption) ?_
  rotate_left
  · (intro w hSw; (try dsimp only at hSw); go_simp) <;> with_reducible rfl
  try simp only [Act.put, List.setIfInBounds_toArray, List.set_cons_zero, List.set_cons_succ]
  refine wpAnyH_take (i := 16) (oi := { dst := some 94, op := Op.extract (Operand.tmp 78) 0, type := 101, pos := _, after := _, guard := none }) (v := ?_) rfl (by kernel_rfl) (by kernel_rfl) (by kernel_rfl) (fun _ _ _ h => h) (Or.inl ⟨by rfl, ?_⟩) (by assumption) ?_
  rotate_left
  · (intro w hSw; (try dsimp only at hSw); go_simp) <;> with_reducible rfl
  try simp only [Act.put, List.setIfInBounds_toArray, List.set_cons_zero, List.set_cons_succ]
  refine wpAnyH_take (i := 17) (oi := { dst := some 95, op := Op.extract (Operand.tmp 78) 1, type := 4, pos := _, after := _, guard := none }) (v := ?_) rfl (by kernel_rfl) (by kernel_rfl) (by kernel_rfl) (fun _ _ _ h => h) (Or.inl ⟨by rfl, ?_⟩) (by assumption) ?_
  rotate_left
  · (intro w hSw; (try dsimp only at hSw); go_simp) <;> with_reducible rfl
  try simp only [Act.put, List.setIfInBounds_toArray, List.set_cons_zero, List.set_cons_succ]
  refine wpAnyH_ready (rs := [18]) (by kernel_rfl) (by simp) ?_
  refine AllReadyH.cons (o := { dst := some 10, op := Op.alloc 101, type := 0, pos := _, after := #[], guard := none }) rfl (fun K hK => ?_) AllReadyH.nil
  go_simp
  skip
  try go_simp
  clear hHeld
  refine hK.out _ _ ?_ (fun hHeld => ?_)
  · exact HS7.out _ HB8.out
  clear hK K
  try simp only [Act.put, List.setIfInBounds_toArray, List.set_cons_zero, List.set_cons_succ]
  refine wpAnyH_ready (rs := [19]) (by kernel_rfl) (by simp) ?_
  refine AllReadyH.cons (o := { dst := none, op := Op.store 101 (Operand.tmp 10) (Operand.tmp 94), type := 0, pos := _, after := _, guard := none }) rfl (fun K hK => ?_) AllReadyH.nil
  go_simp
  skip
  try go_simp
  clear hHeld
  refine hK.out _ _ ?_ (fun hHeld => ?_)
  · exact HS7.out _ HB8.out
  clear hK K
  try simp only [Act.put, List.setIfInBounds_toArray, List.set_cons_zero, List.set_cons_succ]
  refine wpAnyH_take (i := 20) (oi := { dst := some 11, op := Op.assign (Operand.tmp 95), type := 4, pos := _, after := _, guard := none }) (v := ?_) rfl (by kernel_rfl) (by kernel_rfl) (by kernel_rfl) (fun _ _ _ h => h) (Or.inl ⟨by rfl, ?_⟩) (by assumption) ?_
  rotate_left
  · (intro w hSw; (try dsimp only at hSw); go_simp) <;> with_reducible rfl
  try simp only [Act.put, List.setIfInBounds_toArray, List.set_cons_zero, List.set_cons_succ]
  refine wpAnyH_done (by kernel_rfl) ?_ _
  go_wp2
  go_ret
  have hfin := HSm5.out.1.later HB8.out
  exact ⟨rfl, HSm5.out.2.trans (HB8.out.mono HBW5.out), hfin⟩
end Go.Proofs.Ytjkoambfecmglaa
