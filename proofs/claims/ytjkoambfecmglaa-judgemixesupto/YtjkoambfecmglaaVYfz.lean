import Derived.Test.YtjkoambfecmglaaVYez
namespace Go.Proofs.Ytjkoambfecmglaa
open Go.RowKit
set_option linter.unusedVariables false
set_option linter.unusedSimpArgs false
set_option maxRecDepth 100000
theorem zeroByte : ∀ w, (zeroValue 5).run Try.prog w = .ok (.int .u8 0) w := by
  have := Try.info5
  intro w
  cases h : Try.prog.info? 5 with
  | none => rw [h] at this; cases this
  | some i =>
    rw [h] at this
    simp at this
    simp [zeroValue, typeInfo, h, this.1]
set_option maxHeartbeats 8000000 in
/-- a zero of no byte is played -/
theorem play_zero0 (na da : Option Addr) (n nc k dc off : Nat) (fr t : Int) (sy : Bool) (w : World) (hin : off ≤ n) (hnc : n ≤ nc) (hs : n ≤ 4096) :
    Calls Try.prog 49 #[.slice na n nc, .agg #[.int .i64 3, .int .i64 fr, .int .i64 t, .int .i64 (off : Int), .int .i64 0, .slice da k dc, .bool sy]] w fun e w' => e = .returned (.tuple #[]) ∧ w.grownBy w' none := by
  have HB : Hid (Below w.heap.size w (w.alloc (.cells #[.int .i64 3, .int .i64 fr, .int .i64 t, .int .i64 (off : Int), .int .i64 0, .slice da k dc, .bool sy] 50))) := (Below.refl _ w).alloc (Nat.le_refl _) _
  have HC : Hid (∀ w' : World, (∀ j v, (#[.int .i64 3, .int .i64 fr, .int .i64 t, .int .i64 (off : Int), .int .i64 0, .slice da k dc, .bool sy] : Array Value)[j]? = some v → w'.cell? ⟨w.heap.size, j, none⟩ = some v) → w'.cell? ⟨w.heap.size, 0, none⟩ = some (.int .i64 3) ∧ w'.cell? ⟨w.heap.size, 1, none⟩ = some (.int .i64 fr) ∧ w'.cell? ⟨w.heap.size, 2, none⟩ = some (.int .i64 t) ∧ w'.cell? ⟨w.heap.size, 3, none⟩ = some (.int .i64 (off : Int)) ∧ w'.cell? ⟨w.heap.size, 4, none⟩ = some (.int .i64 0) ∧ w'.cell? ⟨w.heap.size, 5, none⟩ = some (.slice da k dc) ∧ w'.cell? ⟨w.heap.size, 6, none⟩ = some (.bool sy)) := fun w' hj =>
    ⟨hj 0 _ rfl, hj 1 _ rfl, hj 2 _ rfl, hj 3 _ rfl, hj 4 _ rfl, hj 5 _ rfl, hj 6 _ rfl⟩
  have HX : Hid (∀ j v, (#[.int .i64 3, .int .i64 fr, .int .i64 t, .int .i64 (off : Int), .int .i64 0, .slice da k dc, .bool sy] : Array Value)[j]? = some v → (w.alloc (.cells #[.int .i64 3, .int .i64 fr, .int .i64 t, .int .i64 (off : Int), .int .i64 0, .slice da k dc, .bool sy] 50)).cell? ⟨w.heap.size, j, none⟩ = some v) := fun j v hv => by
    rw [blk_at (heap_new _ _) j]; exact hv
  obtain ⟨V, hV⟩ : ∃ V, V = w.alloc (.cells #[.int .i64 3, .int .i64 fr, .int .i64 t, .int .i64 (off : Int), .int .i64 0, .slice da k dc, .bool sy] 50) := ⟨_, rfl⟩
  rw [← hV] at HB HX
  have HV : Hid (V = w.alloc (.cells #[.int .i64 3, .int .i64 fr, .int .i64 t, .int .i64 (off : Int), .int .i64 0, .slice da k dc, .bool sy] 50)) := hV
  have HG : Hid (w.grownBy V none) := by show w.grownBy V none; rw [hV]; exact World.grownBy_alloc _ _ _
  obtain ⟨c0, c1, c2, c3, c4, c5, c6⟩ := HC.out V HX.out
  have q1 : (0 : Int) ≤ (off : Int) := by omega
  have q2 : (off : Int) ≤ (nc : Int) := by omega
  have hcl : ∀ W (a : Option Addr) (cp : Nat), (Builtin.clear_ #[59] 0 #[.slice a 0 cp]).run Try.prog W = .ok (.tuple #[]) W := fun W a cp => by
    have hul := Try.underlying59
    cases a <;> simp [Builtin.clear_, run_underlying hul, zeroByte]
  have q3 : IntKind.i64.wrap ((off : Int)) = (off : Int) := by rw [IntKind.wrap_i64]; omega
  have q4 : IntKind.i64.wrap ((off : Int) + 0) = (off : Int) := by rw [IntKind.wrap_i64]; omega
  go_enter Try.func49, Try.ntmps49
  go_wp2_with fail
  rw [← hV]
  clear hV
  go_wp2
  all_goals go_end0
  all_goals exact ⟨rfl, by first | exact HG.out | (rw [← HV.out]; exact HG.out)⟩
set_option maxHeartbeats 8000000 in
/-- a zero is played -/
theorem play_zero1 (da : Option Addr) (B g n nc k dc off m : Nat) (bs : List Nat) (fr t : Int) (sy : Bool) (w : World) (ho : w.ownsRow B 5 1 (.slice (some ⟨g, 0, none⟩) n nc) n (bs.map bv)) (hn : bs.length = n) (hm : 0 < m) (hin : off + m ≤ n) (hs : n ≤ 4096) :
    Calls Try.prog 49 #[.slice (some ⟨g, 0, none⟩) n nc, .agg #[.int .i64 3, .int .i64 fr, .int .i64 t, .int .i64 (off : Int), .int .i64 (m : Int), .slice da k dc, .bool sy]] w fun e w' => e = .returned (.tuple #[]) ∧ w'.ownsRow B 5 1 (.slice (some ⟨g, 0, none⟩) n nc) n ((laidTo bs (List.replicate m 0) off m).map bv) ∧ w.grownBy w' (some g) := by
  have HB : Hid (Below w.heap.size w (w.alloc (.cells #[.int .i64 3, .int .i64 fr, .int .i64 t, .int .i64 (off : Int), .int .i64 (m : Int), .slice da k dc, .bool sy] 50))) := (Below.refl _ w).alloc (Nat.le_refl _) _
  have HC : Hid (∀ w' : World, (∀ j v, (#[.int .i64 3, .int .i64 fr, .int .i64 t, .int .i64 (off : Int), .int .i64 (m : Int), .slice da k dc, .bool sy] : Array Value)[j]? = some v → w'.cell? ⟨w.heap.size, j, none⟩ = some v) → w'.cell? ⟨w.heap.size, 0, none⟩ = some (.int .i64 3) ∧ w'.cell? ⟨w.heap.size, 1, none⟩ = some (.int .i64 fr) ∧ w'.cell? ⟨w.heap.size, 2, none⟩ = some (.int .i64 t) ∧ w'.cell? ⟨w.heap.size, 3, none⟩ = some (.int .i64 (off : Int)) ∧ w'.cell? ⟨w.heap.size, 4, none⟩ = some (.int .i64 (m : Int)) ∧ w'.cell? ⟨w.heap.size, 5, none⟩ = some (.slice da k dc) ∧ w'.cell? ⟨w.heap.size, 6, none⟩ = some (.bool sy)) := fun w' hj =>
    ⟨hj 0 _ rfl, hj 1 _ rfl, hj 2 _ rfl, hj 3 _ rfl, hj 4 _ rfl, hj 5 _ rfl, hj 6 _ rfl⟩
  have HX : Hid (∀ j v, (#[.int .i64 3, .int .i64 fr, .int .i64 t, .int .i64 (off : Int), .int .i64 (m : Int), .slice da k dc, .bool sy] : Array Value)[j]? = some v → (w.alloc (.cells #[.int .i64 3, .int .i64 fr, .int .i64 t, .int .i64 (off : Int), .int .i64 (m : Int), .slice da k dc, .bool sy] 50)).cell? ⟨w.heap.size, j, none⟩ = some v) := fun j v hv => by
    rw [blk_at (heap_new _ _) j]; exact hv
  obtain ⟨V, hV⟩ : ∃ V, V = w.alloc (.cells #[.int .i64 3, .int .i64 fr, .int .i64 t, .int .i64 (off : Int), .int .i64 (m : Int), .slice da k dc, .bool sy] 50) := ⟨_, rfl⟩
  rw [← hV] at HB HX
  have HV : Hid (V = w.alloc (.cells #[.int .i64 3, .int .i64 fr, .int .i64 t, .int .i64 (off : Int), .int .i64 (m : Int), .slice da k dc, .bool sy] 50)) := hV
  have HG : Hid (w.grownBy V none) := by show w.grownBy V none; rw [hV]; exact World.grownBy_alloc _ _ _
  obtain ⟨c0, c1, c2, c3, c4, c5, c6⟩ := HC.out V HX.out
  have hnc : n ≤ nc := by
    rcases ho.2 with ⟨h0, _⟩ | ⟨_, _, _, hv, _, _, h1, _⟩
    · simp at h0
    · simp at hv; omega
  have q1 : (0 : Int) ≤ (off : Int) := by omega
  have q2 : (off : Int) ≤ (off : Int) + (m : Int) := by omega
  have q3 : IntKind.i64.wrap ((off : Int) + (m : Int)) = (off : Int) + (m : Int) := by rw [IntKind.wrap_i64]; omega
  have q4 : (off : Int) + (m : Int) ≤ (nc : Int) := by omega
  have q5 : ¬ nc = off := by omega
  have q6 : ((off : Int) + (m : Int)).toNat - off = m := by omega
  have q7 : (⟨g, 0, none⟩ : Addr).add off = ⟨g, off, none⟩ := by rw [add_plain, Nat.zero_add]
  have hoV : V.ownsRow B 5 1 (.slice (some ⟨g, 0, none⟩) n nc) n (bs.map bv) := owns_far ho HG.out (by simp)
  obtain ⟨g', hg', hBg, hc, hf⟩ := own_some hoV (by omega)
  obtain rfl : g = g' := by simpa using hg'
  have hcl := Lib.run_clear_slice (P := Try.prog) V 59 5 0 (.int .u8 0) Try.underlying59 zeroByte rfl rfl g off m (nc - off) hm (fun j hj => by
    rw [hc (off + j) (by omega), List.getElem?_map, List.getElem?_eq_getElem (by omega)]; rfl) (fun j _ => hf _)
  obtain ⟨h1, h2⟩ := own_setCells (List.replicate m (.int .u8 0)) off hoV (by rw [List.length_replicate]; omega)
  obtain ⟨U, hU⟩ : ∃ U, U = V.setCells g off (List.replicate m (.int .u8 0)) := ⟨_, rfl⟩
  rw [← hU] at hcl h1 h2
  have HU : Hid (U.ownsRow B 5 1 (.slice (some ⟨g, 0, none⟩) n nc) n ((laidTo bs (List.replicate m 0) off m).map bv) ∧ w.grownBy U (some g)) := by
    refine ⟨?_, (HG.out.but _).trans h2⟩
    rw [laidTo_map (by simp), List.map_replicate]
    exact h1
  clear ho hoV hU h1 h2 hc hf hg'
  go_enter Try.func49, Try.ntmps49
  go_wp2_with fail
  rw [← hV]
  clear hV
  go_wp2
  rw [hcl]
  go_wp2
  go_end0
  exact ⟨rfl, HU.out⟩
/-- an operation is played -/
theorem play_any (na : Option Addr) (B n nc : Nat) (o : Opv) (bs ds : List Nat) (w : World) (hw : w.ownsRow B 5 1 (.slice na n nc) n (bs.map bv)) (hn : bs.length = n) (hd : BRow w o.da o.dc ds) (hm : ds.length = o.n) (ho : o.may n = true) (hs : n ≤ 4096) :
    Calls Try.prog 49 #[.slice na n nc, .agg o.cells] w fun e w' => e = .returned (.tuple #[]) ∧ w'.ownsRow B 5 1 (.slice na n nc) n ((o.eff bs ds).map bv) ∧ w.grownBy w' (Value.slice na n nc).ownBlock := by
  have hM := Opv.may_of ho
  obtain ⟨k, fr, t, off, len, da, dn, dc, sy⟩ := o
  obtain ⟨off, rfl⟩ : ∃ j : Nat, off = j := ⟨off.toNat, by have := hM.off0; simp at this; omega⟩
  obtain ⟨len, rfl⟩ : ∃ j : Nat, len = j := ⟨len.toNat, by have := hM.len0; simp at this; omega⟩
  have hin : off + len ≤ n := by have := hM.lenn; simp at this; omega
  have hnc : n ≤ nc := by
    rcases hw.2 with ⟨h0, h1⟩ | ⟨_, _, _, hv, _, _, h1, _⟩
    · omega
    · simp at hv; omega
  by_cases h2 : k = 2
  · subst h2
    have e1 : dn = len := by have := hM.da; simp at this; omega
    subst e1
    have : Opv.eff ⟨2, fr, t, off, dn, da, dn, dc, sy⟩ bs ds = laidTo bs ds off dn := by simp [Opv.eff]
    rw [this]
    exact play_write na da B n nc dc off dn bs ds fr t sy w hw hn hd hm hin hs
  · by_cases h3 : k = 3
    · subst h3
      have : Opv.eff ⟨3, fr, t, off, len, da, dn, dc, sy⟩ bs ds = laidTo bs (List.replicate len 0) off len := by simp [Opv.eff]
      rw [this]
      rcases Nat.eq_zero_or_pos len with h0 | h0
      · subst h0
        rw [laidTo_zero]
        exact (play_zero0 na da n nc dn dc off fr t sy w (by omega) hnc hs).mono fun e w' ⟨he, hg⟩ => ⟨he, owns_far hw hg (by simp), hg.but _⟩
      · obtain ⟨g, rfl, _⟩ := own_some hw (by omega)
        exact play_zero1 da B g n nc dn dc off len bs fr t sy w hw hn h0 hin hs
    · have : Opv.eff ⟨k, fr, t, off, len, da, dn, dc, sy⟩ bs ds = bs := by simp [Opv.eff, h2, h3]
      rw [this]
      exact (play_other na da n nc dn dc off len k fr t sy w h2 h3).mono fun e w' ⟨he, hg⟩ => ⟨he, owns_far hw hg (by simp), hg.but _⟩
end Go.Proofs.Ytjkoambfecmglaa
