import Derived.Test.YtjkoambfecmglaaJB
import Derived.Test.YtjkoambfecmglaaJQ
import Derived.Deep.RegionHeld3
namespace Go.Proofs.Ytjkoambfecmglaa
open Go.RowKit
set_option linter.unusedVariables false
set_option linter.unusedSimpArgs false
set_option maxRecDepth 100000
theorem zeroByte : ∀ w, (zeroValue 5).run Try.prog w = .ok (.int .u8 0) w := by
  have := Try.info5
  intro w
  cases h : Try.prog.info? 5 with
  | none => rw [h] at this; cases this
  | some i =>
    rw [h] at this
    simp at this
    simp [zeroValue, typeInfo, h, this.1]
set_option maxHeartbeats 8000000 in
/-- a zero of no byte is played -/
theorem play_zero0 (na da : Option Addr) (n nc k dc off : Nat) (fr t : Int) (sy : Bool) (w : World) (hin : off ≤ n) (hnc : n ≤ nc) (hs : n ≤ 4096) :
    Calls Try.prog 49 #[.slice na n nc, .agg #[.int .i64 3, .int .i64 fr, .int .i64 t, .int .i64 (off : Int), .int .i64 0, .slice da k dc, .bool sy]] w fun e w' => e = .returned (.tuple #[]) ∧ w.grownBy w' none := by
  have HB : Hid (Below w.heap.size w (w.alloc (.cells #[.int .i64 3, .int .i64 fr, .int .i64 t, .int .i64 (off : Int), .int .i64 0, .slice da k dc, .bool sy] 50))) := (Below.refl _ w).alloc (Nat.le_refl _) _
  have HC : Hid (∀ w' : World, (∀ j v, (#[.int .i64 3, .int .i64 fr, .int .i64 t, .int .i64 (off : Int), .int .i64 0, .slice da k dc, .bool sy] : Array Value)[j]? = some v → w'.cell? ⟨w.heap.size, j, none⟩ = some v) → w'.cell? ⟨w.heap.size, 0, none⟩ = some (.int .i64 3) ∧ w'.cell? ⟨w.heap.size, 1, none⟩ = some (.int .i64 fr) ∧ w'.cell? ⟨w.heap.size, 2, none⟩ = some (.int .i64 t) ∧ w'.cell? ⟨w.heap.size, 3, none⟩ = some (.int .i64 (off : Int)) ∧ w'.cell? ⟨w.heap.size, 4, none⟩ = some (.int .i64 0) ∧ w'.cell? ⟨w.heap.size, 5, none⟩ = some (.slice da k dc) ∧ w'.cell? ⟨w.heap.size, 6, none⟩ = some (.bool sy)) := fun w' hj =>
    ⟨hj 0 _ rfl, hj 1 _ rfl, hj 2 _ rfl, hj 3 _ rfl, hj 4 _ rfl, hj 5 _ rfl, hj 6 _ rfl⟩
  have HX : Hid (∀ j v, (#[.int .i64 3, .int .i64 fr, .int .i64 t, .int .i64 (off : Int), .int .i64 0, .slice da k dc, .bool sy] : Array Value)[j]? = some v → (w.alloc (.cells #[.int .i64 3, .int .i64 fr, .int .i64 t, .int .i64 (off : Int), .int .i64 0, .slice da k dc, .bool sy] 50)).cell? ⟨w.heap.size, j, none⟩ = some v) := fun j v hv => by
    rw [blk_at (heap_new _ _) j]; exact hv
  obtain ⟨V, hV⟩ : ∃ V, V = w.alloc (.cells #[.int .i64 3, .int .i64 fr, .int .i64 t, .int .i64 (off : Int), .int .i64 0, .slice da k dc, .bool sy] 50) := ⟨_, rfl⟩
  rw [← hV] at HB HX
  have HV : Hid (V = w.alloc (.cells #[.int .i64 3, .int .i64 fr, .int .i64 t, .int .i64 (off : Int), .int .i64 0, .slice da k dc, .bool sy] 50)) := hV
  have HG : Hid (w.grownBy V none) := by show w.grownBy V none; rw [hV]; exact World.grownBy_alloc _ _ _
  obtain ⟨c0, c1, c2, c3, c4, c5, c6⟩ := HC.out V HX.out
  have q1 : (0 : Int) ≤ (off : Int) := by omega
  have q2 : (off : Int) ≤ (nc : Int) := by omega
  have hcl : ∀ W (a : Option Addr) (cp : Nat), (Builtin.clear_ #[59] 0 #[.slice a 0 cp]).run Try.prog W = .ok (.tuple #[]) W := fun W a cp => by
    have hul := Try.underlying59
    cases a <;> simp [Builtin.clear_, run_underlying hul, zeroByte]
  have q3 : IntKind.i64.wrap ((off : Int)) = (off : Int) := by rw [IntKind.wrap_i64]; omega
  have q4 : IntKind.i64.wrap ((off : Int) + 0) = (off : Int) := by rw [IntKind.wrap_i64]; omega
  go_enter Try.func49, Try.ntmps49
  go_wp2_with fail
  rw [← hV]
  clear hV
  go_wp2
  all_goals go_end0
  all_goals exact ⟨rfl, by first | exact HG.out | (rw [← HV.out]; exact HG.out)⟩
set_option maxHeartbeats 8000000 in
/-- a zero is played -/
theorem play_zero1 (da : Option Addr) (B g n nc k dc off m : Nat) (bs : List Nat) (fr t : Int) (sy : Bool) (w : World) (ho : w.ownsRow B 5 1 (.slice (some ⟨g, 0, none⟩) n nc) n (bs.map bv)) (hn : bs.length = n) (hm : 0 < m) (hin : off + m ≤ n) (hs : n ≤ 4096) :
    Calls Try.prog 49 #[.slice (some ⟨g, 0, none⟩) n nc, .agg #[.int .i64 3, .int .i64 fr, .int .i64 t, .int .i64 (off : Int), .int .i64 (m : Int), .slice da k dc, .bool sy]] w fun e w' => e = .returned (.tuple #[]) ∧ w'.ownsRow B 5 1 (.slice (some ⟨g, 0, none⟩) n nc) n ((laidTo bs (List.replicate m 0) off m).map bv) ∧ w.grownBy w' (some g) := by
  have HB : Hid (Below w.heap.size w (w.alloc (.cells #[.int .i64 3, .int .i64 fr, .int .i64 t, .int .i64 (off : Int), .int .i64 (m : Int), .slice da k dc, .bool sy] 50))) := (Below.refl _ w).alloc (Nat.le_refl _) _
  have HC : Hid (∀ w' : World, (∀ j v, (#[.int .i64 3, .int .i64 fr, .int .i64 t, .int .i64 (off : Int), .int .i64 (m : Int), .slice da k dc, .bool sy] : Array Value)[j]? = some v → w'.cell? ⟨w.heap.size, j, none⟩ = some v) → w'.cell? ⟨w.heap.size, 0, none⟩ = some (.int .i64 3) ∧ w'.cell? ⟨w.heap.size, 1, none⟩ = some (.int .i64 fr) ∧ w'.cell? ⟨w.heap.size, 2, none⟩ = some (.int .i64 t) ∧ w'.cell? ⟨w.heap.size, 3, none⟩ = some (.int .i64 (off : Int)) ∧ w'.cell? ⟨w.heap.size, 4, none⟩ = some (.int .i64 (m : Int)) ∧ w'.cell? ⟨w.heap.size, 5, none⟩ = some (.slice da k dc) ∧ w'.cell? ⟨w.heap.size, 6, none⟩ = some (.bool sy)) := fun w' hj =>
    ⟨hj 0 _ rfl, hj 1 _ rfl, hj 2 _ rfl, hj 3 _ rfl, hj 4 _ rfl, hj 5 _ rfl, hj 6 _ rfl⟩
  have HX : Hid (∀ j v, (#[.int .i64 3, .int .i64 fr, .int .i64 t, .int .i64 (off : Int), .int .i64 (m : Int), .slice da k dc, .bool sy] : Array Value)[j]? = some v → (w.alloc (.cells #[.int .i64 3, .int .i64 fr, .int .i64 t, .int .i64 (off : Int), .int .i64 (m : Int), .slice da k dc, .bool sy] 50)).cell? ⟨w.heap.size, j, none⟩ = some v) := fun j v hv => by
    rw [blk_at (heap_new _ _) j]; exact hv
  obtain ⟨V, hV⟩ : ∃ V, V = w.alloc (.cells #[.int .i64 3, .int .i64 fr, .int .i64 t, .int .i64 (off : Int), .int .i64 (m : Int), .slice da k dc, .bool sy] 50) := ⟨_, rfl⟩
  rw [← hV] at HB HX
  have HV : Hid (V = w.alloc (.cells #[.int .i64 3, .int .i64 fr, .int .i64 t, .int .i64 (off : Int), .int .i64 (m : Int), .slice da k dc, .bool sy] 50)) := hV
  have HG : Hid (w.grownBy V none) := by show w.grownBy V none; rw [hV]; exact World.grownBy_alloc _ _ _
  obtain ⟨c0, c1, c2, c3, c4, c5, c6⟩ := HC.out V HX.out
  have hnc : n ≤ nc := by
    rcases ho.2 with ⟨h0, _⟩ | ⟨_, _, _, hv, _, _, h1, _⟩
    · simp at h0
    · simp at hv; omega
  have q1 : (0 : Int) ≤ (off : Int) := by omega
  have q2 : (off : Int) ≤ (off : Int) + (m : Int) := by omega
  have q3 : IntKind.i64.wrap ((off : Int) + (m : Int)) = (off : Int) + (m : Int) := by rw [IntKind.wrap_i64]; omega
  have q4 : (off : Int) + (m : Int) ≤ (nc : Int) := by omega
  have q5 : ¬ nc = off := by omega
  have q6 : ((off : Int) + (m : Int)).toNat - off = m := by omega
  have q7 : (⟨g, 0, none⟩ : Addr).add off = ⟨g, off, none⟩ := by rw [add_plain, Nat.zero_add]
  have hoV : V.ownsRow B 5 1 (.slice (some ⟨g, 0, none⟩) n nc) n (bs.map bv) := owns_far ho HG.out (by simp)
  obtain ⟨g', hg', hBg, hc, hf⟩ := own_some hoV (by omega)
  obtain rfl : g = g' := by simpa using hg'
  have hcl := Lib.run_clear_slice (P := Try.prog) V 59 5 0 (.int .u8 0) Try.underlying59 zeroByte rfl rfl g off m (nc - off) hm (fun j hj => by
    rw [hc (off + j) (by omega), List.getElem?_map, List.getElem?_eq_getElem (by omega)]; rfl) (fun j _ => hf _)
  obtain ⟨h1, h2⟩ := own_setCells (List.replicate m (.int .u8 0)) off hoV (by rw [List.length_replicate]; omega)
  obtain ⟨U, hU⟩ : ∃ U, U = V.setCells g off (List.replicate m (.int .u8 0)) := ⟨_, rfl⟩
  rw [← hU] at hcl h1 h2
  have HU : Hid (U.ownsRow B 5 1 (.slice (some ⟨g, 0, none⟩) n nc) n ((laidTo bs (List.replicate m 0) off m).map bv) ∧ w.grownBy U (some g)) := by
    refine ⟨?_, (HG.out.but _).trans h2⟩
    rw [laidTo_map (by simp), List.map_replicate]
    exact h1
  clear ho hoV hU h1 h2 hc hf hg'
  go_enter Try.func49, Try.ntmps49
  go_wp2_with fail
  rw [← hV]
  clear hV
  go_wp2
  rw [hcl]
  go_wp2
  go_end0
  exact ⟨rfl, HU.out⟩
/-- an operation is played -/
theorem play_any (na : Option Addr) (B n nc : Nat) (o : Opv) (bs ds : List Nat) (w : World) (hw : w.ownsRow B 5 1 (.slice na n nc) n (bs.map bv)) (hn : bs.length = n) (hd : BRow w o.da o.dc ds) (hm : ds.length = o.n) (ho : o.may n = true) (hs : n ≤ 4096) :
    Calls Try.prog 49 #[.slice na n nc, .agg o.cells] w fun e w' => e = .returned (.tuple #[]) ∧ w'.ownsRow B 5 1 (.slice na n nc) n ((o.eff bs ds).map bv) ∧ w.grownBy w' (Value.slice na n nc).ownBlock := by
  have hM := Opv.may_of ho
  obtain ⟨k, fr, t, off, len, da, dn, dc, sy⟩ := o
  obtain ⟨off, rfl⟩ : ∃ j : Nat, off = j := ⟨off.toNat, by have := hM.off0; simp at this; omega⟩
  obtain ⟨len, rfl⟩ : ∃ j : Nat, len = j := ⟨len.toNat, by have := hM.len0; simp at this; omega⟩
  have hin : off + len ≤ n := by have := hM.lenn; simp at this; omega
  have hnc : n ≤ nc := by
    rcases hw.2 with ⟨h0, h1⟩ | ⟨_, _, _, hv, _, _, h1, _⟩
    · omega
    · simp at hv; omega
  by_cases h2 : k = 2
  · subst h2
    have e1 : dn = len := by have := hM.da; simp at this; omega
    subst e1
    have : Opv.eff ⟨2, fr, t, off, dn, da, dn, dc, sy⟩ bs ds = laidTo bs ds off dn := by simp [Opv.eff]
    rw [this]
    exact play_write na da B n nc dc off dn bs ds fr t sy w hw hn hd hm hin hs
  · by_cases h3 : k = 3
    · subst h3
      have : Opv.eff ⟨3, fr, t, off, len, da, dn, dc, sy⟩ bs ds = laidTo bs (List.replicate len 0) off len := by simp [Opv.eff]
      rw [this]
      rcases Nat.eq_zero_or_pos len with h0 | h0
      · subst h0
        rw [laidTo_zero]
        exact (play_zero0 na da n nc dn dc off fr t sy w (by omega) hnc hs).mono fun e w' ⟨he, hg⟩ => ⟨he, owns_far hw hg (by simp), hg.but _⟩
      · obtain ⟨g, rfl, _⟩ := own_some hw (by omega)
        exact play_zero1 da B g n nc dn dc off len bs fr t sy w hw hn h0 hin hs
    · have : Opv.eff ⟨k, fr, t, off, len, da, dn, dc, sy⟩ bs ds = bs := by simp [Opv.eff, h2, h3]
      rw [this]
      exact (play_other na da n nc dn dc off len k fr t sy w h2 h3).mono fun e w' ⟨he, hg⟩ => ⟨he, owns_far hw hg (by simp), hg.but _⟩
end Go.Proofs.Ytjkoambfecmglaa

namespace Go.Proofs.Ytjkoambfecmglaa
open Go.RowKit
set_option linter.unusedVariables false
set_option linter.unusedSimpArgs false
set_option maxRecDepth 100000
set_option maxHeartbeats 16000000 in
/-- something is owed: what lacks is told by the foremost -/
theorem lacks_some {W : World} {P m oc e dc wb wo ob oo k : Nat} (p q : Opv) (h0 : W.cell? ⟨P, 0, none⟩ = some (.slice (some ⟨ob, oo, none⟩) m oc)) (h3 : W.cell? ⟨P, 3, none⟩ = some (.slice (some ⟨wb, wo, none⟩) e dc)) (he : 0 < e) (hk : W.cell? ⟨wb, wo, none⟩ = some (.int .i64 (k : Int))) (hkm : k < m) (hc : ∀ j v, q.cells[j]? = some v → W.cell? ⟨ob, oo + k * 7 + j, none⟩ = some v) :
    Calls Try.prog 47 #[.pointer (some ⟨P, 0, none⟩), .agg p.cells] W fun ex w' => ex = .returned (.bool (q.bef p)) ∧ Below W.heap.size W w' := by
  have HB : Hid (Below W.heap.size W (W.alloc (.cells p.cells 50))) := (Below.refl _ W).alloc (Nat.le_refl _) _
  have HC : Hid (∀ w', Below W.heap.size W w' → (∀ j v, p.cells[j]? = some v → w'.cell? ⟨W.heap.size, j, none⟩ = some v) → w'.cell? ⟨P, 0, none⟩ = some (.slice (some ⟨ob, oo, none⟩) m oc) ∧ w'.cell? ⟨P, 3, none⟩ = some (.slice (some ⟨wb, wo, none⟩) e dc) ∧ w'.cell? ⟨wb, wo, none⟩ = some (.int .i64 (k : Int)) ∧ w'.cell? ⟨ob, oo + k * 7, none⟩ = some (.int .i64 q.k) ∧ w'.cell? ⟨ob, oo + k * 7 + 1, none⟩ = some (.int .i64 q.fr) ∧ w'.cell? ⟨ob, oo + k * 7 + 2, none⟩ = some (.int .i64 q.to_) ∧ w'.cell? ⟨ob, oo + k * 7 + 3, none⟩ = some (.int .i64 q.off) ∧ w'.cell? ⟨ob, oo + k * 7 + 4, none⟩ = some (.int .i64 q.len) ∧ w'.cell? ⟨ob, oo + k * 7 + 5, none⟩ = some (.slice q.da q.n q.dc) ∧ w'.cell? ⟨ob, oo + k * 7 + 6, none⟩ = some (.bool q.sy) ∧ w'.cell? ⟨W.heap.size, 0, none⟩ = some (.int .i64 p.k) ∧ w'.cell? ⟨W.heap.size, 1, none⟩ = some (.int .i64 p.fr) ∧ w'.cell? ⟨W.heap.size, 2, none⟩ = some (.int .i64 p.to_) ∧ w'.cell? ⟨W.heap.size, 3, none⟩ = some (.int .i64 p.off) ∧ w'.cell? ⟨W.heap.size, 4, none⟩ = some (.int .i64 p.len) ∧ w'.cell? ⟨W.heap.size, 5, none⟩ = some (.slice p.da p.n p.dc) ∧ w'.cell? ⟨W.heap.size, 6, none⟩ = some (.bool p.sy)) := fun w' hb hj =>
    ⟨cell_later hb h0, cell_later hb h3, cell_later hb hk, cell_later hb (hc 0 _ rfl), cell_later hb (hc 1 _ rfl), cell_later hb (hc 2 _ rfl), cell_later hb (hc 3 _ rfl), cell_later hb (hc 4 _ rfl), cell_later hb (hc 5 _ rfl), cell_later hb (hc 6 _ rfl), hj 0 _ rfl, hj 1 _ rfl, hj 2 _ rfl, hj 3 _ rfl, hj 4 _ rfl, hj 5 _ rfl, hj 6 _ rfl⟩
  have HX : Hid (∀ j v, p.cells[j]? = some v → (W.alloc (.cells p.cells 50)).cell? ⟨W.heap.size, j, none⟩ = some v) := fun j v hv => by
    rw [blk_at (heap_new _ _) j]; exact hv
  clear h0 h3 hk hc
  obtain ⟨V, hV⟩ : ∃ V, V = W.alloc (.cells p.cells 50) := ⟨_, rfl⟩
  rw [← hV] at HB HX
  have HL : Hid (W.heap.size < V.heap.size) := by show W.heap.size < V.heap.size; rw [hV]; simp
  have n1 : decide ((0 : Int) < (e : Int)) = true := by simp; omega
  have n3 : decide (0 < e) = true := by simp; omega
  have n2 : (0 : Int) < (e : Int) := by omega
  have kk0 : (0 : Int) ≤ (k : Int) := by omega
  have kk9 : (k : Int) < (m : Int) := by omega
  have HN : Hid (∀ U, Calls Try.prog 54 #[.agg #[.int .i64 q.k, .int .i64 q.fr, .int .i64 q.to_, .int .i64 q.off, .int .i64 q.len, .slice q.da q.n q.dc, .bool q.sy], .agg #[.int .i64 p.k, .int .i64 p.fr, .int .i64 p.to_, .int .i64 p.off, .int .i64 p.len, .slice p.da p.n p.dc, .bool p.sy]] U fun e w' => e = .returned (.bool (q.bef p)) ∧ Below U.heap.size U w') := fun U => before_any q p U
  obtain ⟨c, hc9⟩ : ∃ c, q.bef p = c := ⟨_, rfl⟩
  rw [hc9] at HN ⊢
  clear hc9
  have HBd : Hid (Below W.heap.size W V.drew) := HB.out.trans ⟨rfl, rfl, rfl, Nat.le_refl _, fun _ _ => rfl⟩
  go_enter Try.func47, Try.ntmps47
  go_wp2_with fail
  rw [← hV]
  clear hV
  refine wp_region_held_drew (S := (fun w' => w'.cell? ⟨P, 0, none⟩ = some (.slice (some ⟨ob, oo, none⟩) m oc) ∧ w'.cell? ⟨P, 3, none⟩ = some (.slice (some ⟨wb, wo, none⟩) e dc) ∧ w'.cell? ⟨wb, wo, none⟩ = some (.int .i64 (k : Int)) ∧ w'.cell? ⟨ob, oo + k * 7, none⟩ = some (.int .i64 q.k) ∧ w'.cell? ⟨ob, oo + k * 7 + 1, none⟩ = some (.int .i64 q.fr) ∧ w'.cell? ⟨ob, oo + k * 7 + 2, none⟩ = some (.int .i64 q.to_) ∧ w'.cell? ⟨ob, oo + k * 7 + 3, none⟩ = some (.int .i64 q.off) ∧ w'.cell? ⟨ob, oo + k * 7 + 4, none⟩ = some (.int .i64 q.len) ∧ w'.cell? ⟨ob, oo + k * 7 + 5, none⟩ = some (.slice q.da q.n q.dc) ∧ w'.cell? ⟨ob, oo + k * 7 + 6, none⟩ = some (.bool q.sy) ∧ w'.cell? ⟨W.heap.size, 0, none⟩ = some (.int .i64 p.k) ∧ w'.cell? ⟨W.heap.size, 1, none⟩ = some (.int .i64 p.fr) ∧ w'.cell? ⟨W.heap.size, 2, none⟩ = some (.int .i64 p.to_) ∧ w'.cell? ⟨W.heap.size, 3, none⟩ = some (.int .i64 p.off) ∧ w'.cell? ⟨W.heap.size, 4, none⟩ = some (.int .i64 p.len) ∧ w'.cell? ⟨W.heap.size, 5, none⟩ = some (.slice p.da p.n p.dc) ∧ w'.cell? ⟨W.heap.size, 6, none⟩ = some (.bool p.sy))) (by kernel_rfl) ?_ (fun hHeld => ?_)
  · exact HC.out _ HBd.out HX.out
  refine wpAnyH_take (i := 0) (oi := { dst := some 5, op := Op.move (Operand.tmp 0), type := 56, pos := _, after := #[], guard := none }) (v := ?_) rfl (by kernel_rfl) (by kernel_rfl) (by kernel_rfl) (fun _ _ _ h => h) (Or.inl ⟨by rfl, ?_⟩) (by assumption) ?_
  rotate_left
  · (intro w hSw; (try dsimp only at hSw); go_simp) <;> with_reducible rfl
  try simp only [Act.put, List.setIfInBounds_toArray, List.set_cons_zero, List.set_cons_succ]
  refine wpAnyH_take (i := 1) (oi := { dst := some 6, op := Op.nilCheck (Operand.tmp 5), type := 0, pos := _, after := _, guard := none }) (v := ?_) rfl (by kernel_rfl) (by kernel_rfl) (by kernel_rfl) (fun _ _ _ h => h) (Or.inl ⟨by rfl, ?_⟩) (by assumption) ?_
  rotate_left
  · (intro w hSw; (try dsimp only at hSw); go_simp) <;> with_reducible rfl
  try simp only [Act.put, List.setIfInBounds_toArray, List.set_cons_zero, List.set_cons_succ]
  refine wpAnyH_take (i := 2) (oi := { dst := some 7, op := Op.fieldAddr 61 (Operand.tmp 6) 3, type := 0, pos := _, after := _, guard := none }) (v := ?_) rfl (by kernel_rfl) (by kernel_rfl) (by kernel_rfl) (fun _ _ _ h => h) (Or.inl ⟨by rfl, ?_⟩) (by assumption) ?_
  rotate_left
  · (intro w hSw; (try dsimp only at hSw); go_simp) <;> with_reducible rfl
  try simp only [Act.put, List.setIfInBounds_toArray, List.set_cons_zero, List.set_cons_succ]
  refine wpAnyH_take (i := 3) (oi := { dst := some 8, op := Op.load 24 (Operand.tmp 7), type := 24, pos := _, after := _, guard := none }) (v := ?_) rfl (by kernel_rfl) (by kernel_rfl) (by kernel_rfl) (fun _ _ _ h => h) (Or.inl ⟨by rfl, ?_⟩) (by assumption) ?_
  rotate_left
  · (intro w hSw; (try dsimp only at hSw); go_simp) <;> with_reducible rfl
  try simp only [Act.put, List.setIfInBounds_toArray, List.set_cons_zero, List.set_cons_succ]
  refine wpAnyH_take (i := 4) (oi := { dst := some 9, op := Op.call { callee := Callee.builtin Builtin.len, args := #[Operand.tmp 8], argTypes := #[24] }, type := 3, pos := _, after := _, guard := none }) (v := ?_) rfl (by kernel_rfl) (by kernel_rfl) (by kernel_rfl) (fun _ _ _ h => h) (Or.inl ⟨by rfl, ?_⟩) (by assumption) ?_
  rotate_left
  · (intro w hSw; (try dsimp only at hSw); go_simp) <;> with_reducible rfl
  try simp only [Act.put, List.setIfInBounds_toArray, List.set_cons_zero, List.set_cons_succ]
  refine wpAnyH_take (i := 5) (oi := { dst := some 10, op := Op.binOp BinOp.gtr 3 (Operand.tmp 9) (Operand.const (Value.int IntKind.i64 0)) 3, type := 4, pos := _, after := _, guard := none }) (v := ?_) rfl (by kernel_rfl) (by kernel_rfl) (by kernel_rfl) (fun _ _ _ h => h) (Or.inl ⟨by rfl, ?_⟩) (by assumption) ?_
  rotate_left
  · (intro w hSw; (try dsimp only at hSw); go_simp) <;> with_reducible rfl
  try simp only [Act.put, List.setIfInBounds_toArray, List.set_cons_zero, List.set_cons_succ]
  refine wpAnyH_take (i := 6) (oi := { dst := some 11, op := Op.move (Operand.tmp 10), type := 4, pos := _, after := _, guard := none }) (v := ?_) rfl (by kernel_rfl) (by kernel_rfl) (by kernel_rfl) (fun _ _ _ h => h) (Or.inl ⟨by rfl, ?_⟩) (by assumption) ?_
  rotate_left
  · (intro w hSw; (try dsimp only at hSw); go_simp) <;> with_reducible rfl
  try simp only [Act.put, List.setIfInBounds_toArray, List.set_cons_zero, List.set_cons_succ]
  refine wpAnyH_take (i := 7) (oi := { dst := some 12, op := Op.move (Operand.tmp 0), type := 56, pos := _, after := _, guard := some (6, true) }) (v := ?_) rfl (by kernel_rfl) (by kernel_rfl) (by kernel_rfl) (fun _ _ _ h => h) (Or.inl ⟨by rfl, ?_⟩) (by assumption) ?_
  rotate_left
  · (intro w hSw; (try dsimp only at hSw); go_simp) <;> with_reducible rfl
  try simp only [Act.put, List.setIfInBounds_toArray, List.set_cons_zero, List.set_cons_succ]
  refine wpAnyH_take (i := 8) (oi := { dst := some 13, op := Op.nilCheck (Operand.tmp 12), type := 0, pos := _, after := _, guard := some (6, true) }) (v := ?_) rfl (by kernel_rfl) (by kernel_rfl) (by kernel_rfl) (fun _ _ _ h => h) (Or.inl ⟨by rfl, ?_⟩) (by assumption) ?_
  rotate_left
  · (intro w hSw; (try dsimp only at hSw); go_simp) <;> with_reducible rfl
  try simp only [Act.put, List.setIfInBounds_toArray, List.set_cons_zero, List.set_cons_succ]
  refine wpAnyH_take (i := 9) (oi := { dst := some 14, op := Op.fieldAddr 61 (Operand.tmp 13) 0, type := 0, pos := _, after := _, guard := some (6, true) }) (v := ?_) rfl (by kernel_rfl) (by kernel_rfl) (by kernel_rfl) (fun _ _ _ h => h) (Or.inl ⟨by rfl, ?_⟩) (by assumption) ?_
  rotate_left
  · (intro w hSw; (try dsimp only at hSw); go_simp) <;> with_reducible rfl
  try simp only [Act.put, List.setIfInBounds_toArray, List.set_cons_zero, List.set_cons_succ]
  refine wpAnyH_take (i := 10) (oi := { dst := some 15, op := Op.load 23 (Operand.tmp 14), type := 23, pos := _, after := _, guard := some (6, true) }) (v := ?_) rfl (by kernel_rfl) (by kernel_rfl) (by kernel_rfl) (fun _ _ _ h => h) (Or.inl ⟨by rfl, ?_⟩) (by assumption) ?_
  rotate_left
  · (intro w hSw; (try dsimp only at hSw); go_simp) <;> with_reducible rfl
  try simp only [Act.put, List.setIfInBounds_toArray, List.set_cons_zero, List.set_cons_succ]
  refine wpAnyH_take (i := 11) (oi := { dst := some 16, op := Op.move (Operand.tmp 0), type := 56, pos := _, after := _, guard := some (6, true) }) (v := ?_) rfl (by kernel_rfl) (by kernel_rfl) (by kernel_rfl) (fun _ _ _ h => h) (Or.inl ⟨by rfl, ?_⟩) (by assumption) ?_
  rotate_left
  · (intro w hSw; (try dsimp only at hSw); go_simp) <;> with_reducible rfl
  try simp only [Act.put, List.setIfInBounds_toArray, List.set_cons_zero, List.set_cons_succ]
  refine wpAnyH_take (i := 12) (oi := { dst := some 17, op := Op.nilCheck (Operand.tmp 16), type := 0, pos := _, after := _, guard := some (6, true) }) (v := ?_) rfl (by kernel_rfl) (by kernel_rfl) (by kernel_rfl) (fun _ _ _ h => h) (Or.inl ⟨by rfl, ?_⟩) (by assumption) ?_
  rotate_left
  · (intro w hSw; (try dsimp only at hSw); go_simp) <;> with_reducible rfl
  try simp only [Act.put, List.setIfInBounds_toArray, List.set_cons_zero, List.set_cons_succ]
  refine wpAnyH_take (i := 13) (oi := { dst := some 18, op := Op.fieldAddr 61 (Operand.tmp 17) 3, type := 0, pos := _, after := _, guard := some (6, true) }) (v := ?_) rfl (by kernel_rfl) (by kernel_rfl) (by kernel_rfl) (fun _ _ _ h => h) (Or.inl ⟨by rfl, ?_⟩) (by assumption) ?_
  rotate_left
  · (intro w hSw; (try dsimp only at hSw); go_simp) <;> with_reducible rfl
  try simp only [Act.put, List.setIfInBounds_toArray, List.set_cons_zero, List.set_cons_succ]
  refine wpAnyH_take (i := 14) (oi := { dst := some 19, op := Op.load 24 (Operand.tmp 18), type := 24, pos := _, after := _, guard := some (6, true) }) (v := ?_) rfl (by kernel_rfl) (by kernel_rfl) (by kernel_rfl) (fun _ _ _ h => h) (Or.inl ⟨by rfl, ?_⟩) (by assumption) ?_
  rotate_left
  · (intro w hSw; (try dsimp only at hSw); go_simp) <;> with_reducible rfl
  try simp only [Act.put, List.setIfInBounds_toArray, List.set_cons_zero, List.set_cons_succ]
  refine wpAnyH_take (i := 15) (oi := { dst := some 20, op := Op.indexAddr 24 (Operand.tmp 19) (Operand.const (Value.int IntKind.i64 0)), type := 0, pos := _, after := _, guard := some (6, true) }) (v := ?_) rfl (by kernel_rfl) (by kernel_rfl) (by kernel_rfl) (fun _ _ _ h => h) (Or.inl ⟨by rfl, ?_⟩) (by assumption) ?_
  rotate_left
  · (intro w hSw; (try dsimp only at hSw); go_simp) <;> with_reducible rfl
  try simp only [Act.put, List.setIfInBounds_toArray, List.set_cons_zero, List.set_cons_succ]
  refine wpAnyH_take (i := 16) (oi := { dst := some 21, op := Op.load 3 (Operand.tmp 20), type := 3, pos := _, after := _, guard := some (6, true) }) (v := ?_) rfl (by kernel_rfl) (by kernel_rfl) (by kernel_rfl) (fun _ _ _ h => h) (Or.inl ⟨by rfl, ?_⟩) (by assumption) ?_
  rotate_left
  · (intro w hSw; (try dsimp only at hSw); go_simp) <;> with_reducible rfl
  try simp only [Act.put, List.setIfInBounds_toArray, List.set_cons_zero, List.set_cons_succ]
  refine wpAnyH_take (i := 17) (oi := { dst := some 22, op := Op.indexAddr 23 (Operand.tmp 15) (Operand.tmp 21), type := 0, pos := _, after := _, guard := some (6, true) }) (v := ?_) rfl (by kernel_rfl) (by kernel_rfl) (by kernel_rfl) (fun _ _ _ h => h) (Or.inl ⟨by rfl, ?_⟩) (by assumption) ?_
  rotate_left
  · (intro w hSw; (try dsimp only at hSw); go_simp) <;> with_reducible rfl
  try simp only [Act.put, List.setIfInBounds_toArray, List.set_cons_zero, List.set_cons_succ]
  refine wpAnyH_take (i := 18) (oi := { dst := some 23, op := Op.load 50 (Operand.tmp 22), type := 50, pos := _, after := _, guard := some (6, true) }) (v := ?_) rfl (by kernel_rfl) (by kernel_rfl) (by kernel_rfl) (fun _ _ _ h => h) (Or.inl ⟨by rfl, ?_⟩) (by assumption) ?_
  rotate_left
  · (intro w hSw; (try dsimp only at hSw); go_simp) <;> with_reducible rfl
  try simp only [Act.put, List.setIfInBounds_toArray, List.set_cons_zero, List.set_cons_succ]
  refine wpAnyH_take (i := 19) (oi := { dst := some 24, op := Op.load 50 (Operand.tmp 3), type := 50, pos := _, after := _, guard := some (6, true) }) (v := ?_) rfl (by kernel_rfl) (by kernel_rfl) (by kernel_rfl) (fun _ _ _ h => h) (Or.inl ⟨by rfl, ?_⟩) (by assumption) ?_
  rotate_left
  · (intro w hSw; (try dsimp only at hSw); go_simp) <;> with_reducible rfl
  try simp only [Act.put, List.setIfInBounds_toArray, List.set_cons_zero, List.set_cons_succ]
  refine wpAnyH_ready (rs := [20]) (by kernel_rfl) (by simp) ?_
  refine AllReadyH.cons (o := { dst := some 25, op := Op.call { callee := Callee.value (Operand.func 54), args := #[Operand.tmp 23, Operand.tmp 24], argTypes := #[50, 50] }, type := 4, pos := _, after := _, guard := some (6, true) }) rfl (fun K hK => ?_) AllReadyH.nil
  go_simp
  go_at_call 54
  refine (HN.out _).mono ?_
  rintro ex W1 ⟨rfl, hb1⟩
  have HB1 : Hid (Below W.heap.size W W1) := HBd.out.trans (hb1.mono HBd.out.size)
  have HX1 : Hid (∀ j v, p.cells[j]? = some v → W1.cell? ⟨W.heap.size, j, none⟩ = some v) := fun j v hv => by rw [World.cell?_of_block (hb1.block _ HL.out)]; exact HX.out j v hv
  clear hb1
  try go_simp
  refine hK.out _ _ ?_ (fun hHeld => ?_)
  · exact HC.out _ HB1.out HX1.out
  clear hK K
  try simp only [Act.put, List.setIfInBounds_toArray, List.set_cons_zero, List.set_cons_succ]
  refine wpAnyH_take (i := 21) (oi := { dst := some 26, op := Op.pick (Operand.tmp 11) (Operand.tmp 25) (Operand.const (Value.bool false)), type := 4, pos := _, after := _, guard := none }) (v := ?_) rfl (by kernel_rfl) (by kernel_rfl) (by kernel_rfl) (fun _ _ _ h => h) (Or.inl ⟨by rfl, ?_⟩) (by assumption) ?_
  rotate_left
  · (intro w hSw; (try dsimp only at hSw); go_simp) <;> with_reducible rfl
  try simp only [Act.put, List.setIfInBounds_toArray, List.set_cons_zero, List.set_cons_succ]
  refine wpAnyH_take (i := 22) (oi := { dst := some 4, op := Op.assign (Operand.tmp 26), type := 4, pos := _, after := _, guard := none }) (v := ?_) rfl (by kernel_rfl) (by kernel_rfl) (by kernel_rfl) (fun _ _ _ h => h) (Or.inl ⟨by rfl, ?_⟩) (by assumption) ?_
  rotate_left
  · (intro w hSw; (try dsimp only at hSw); go_simp) <;> with_reducible rfl
  try simp only [Act.put, List.setIfInBounds_toArray, List.set_cons_zero, List.set_cons_succ]
  refine wpAnyH_done (by kernel_rfl) ?_ _
  go_wp2
  go_ret
  exact ⟨rfl, HB1.out⟩
end Go.Proofs.Ytjkoambfecmglaa
