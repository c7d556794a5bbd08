import Derived.Test.YtpkobgnbjmefnaaDoorBackL
namespace Go.Proofs.YtpkobgnbjmefnaaDoor
open Go.RowKit
set_option linter.unusedVariables false
set_option maxRecDepth 100000

theorem infoW : (Tryd.prog.info? 31).map (fun i => (i.zero, i.size, i.bytes)) = some (some (.agg #[.int .i64 0, .int .u64 0, .int .i64 0, .slice none 0 0, .string ⟨#[]⟩]), 5, 64) := by kernel_rfl

set_option maxHeartbeats 4000000 in
theorem back_some (sb so scap n : Nat) (X : Nat → Item) (w : World) (hn : n ≤ 1048576) (hn0 : 0 < n) (hT : Tabs w) (HL : Hid (∀ k, k ≤ n → (encAll (doneOf X k)).length ≤ 16777216))
    (HC : Hid (∀ i, i < n → ∀ j u, (X i).cells[j]? = some u → w.cell? ⟨sb, so + i * 5 + j, none⟩ = some u)) (HR : Hid (∀ i, i < n → BRow w (X i).ao (X i).cap (X i).b ∧ (X i).v < 18446744073709551616 ∧ (X i).s.size ≤ 1048576)) (HBb : Hid (∀ i, i < n → (X i).b.length ≤ 1048576)) :
    Calls Tryd.prog 5 #[.slice (some ⟨sb, so, none⟩) n scap] w fun e w' => e = .returned (.bool true) ∧ Below w.heap.size w w' := by
  obtain ⟨i0, hi, hz0, hz1, hz2⟩ := info_parts infoW
  have HT : Hid (Tabs w) := hT
  have HB1 : Hid (Below w.heap.size w (w.alloc (.cells #[.bool true, .slice none 0 0] 73))) := (Below.refl _ _).alloc (Nat.le_refl _) _
  have HW1 : Hid (WOk (w.alloc (.cells #[.bool true, .slice none 0 0] 73)) w.heap.size w.heap.size (.slice none 0 0) []) := wok_new w
  have HN : Hid (Calls Tryd.prog 7 #[] w fun e w' => e = .returned (.pointer (some ⟨w.heap.size, 0, none⟩)) ∧ w' = w.alloc (.cells #[.bool true, .slice none 0 0] 73)) := newWriter_any w
  clear hT
  generalize w.alloc (.cells #[.bool true, .slice none 0 0] 73) = W1 at *
  go_enter Tryd.func5, Tryd.ntmps5
  go_wp2_with fail
  refine HN.out.mono ?_
  rintro e w1 ⟨rfl, hw⟩
  rw [hw]; clear hw
  go_wp2
  go_loopw [4, 5] (fun u i wr => ∃ k : Nat, ∃ v : Value, k ≤ n ∧ i = .int .i64 k ∧ BInv w wr w.heap.size v u (doneOf X k)) (fun _ i _ => n - (intOf i).toNat)
  case atStart => exact ⟨0, .slice none 0 0, Nat.zero_le _, rfl, HW1.out, World.ownsRow_nil _ _ _ _, HB1.out⟩
  case round =>
    obtain ⟨k, v, hk, rfl, hinv⟩ := hrel
    have HI : Hid (BInv w wr w.heap.size v u4 (doneOf X k)) := hinv
    clear hinv
    by_cases hlt : k < n
    · have hx0 : wr.cell? ⟨sb, so + k * 5, none⟩ = some (.int .i64 (X k).kind) := cell_later HI.out.bel (HC.out k hlt 0 _ rfl)
      have hx1 : wr.cell? ⟨sb, so + k * 5 + 1, none⟩ = some (.int .u64 ((X k).v : Int)) := cell_later HI.out.bel (HC.out k hlt 1 _ rfl)
      have hx2 : wr.cell? ⟨sb, so + k * 5 + 2, none⟩ = some (.int .i64 (X k).n) := cell_later HI.out.bel (HC.out k hlt 2 _ rfl)
      have hx3 : wr.cell? ⟨sb, so + k * 5 + 3, none⟩ = some (.slice (X k).ao (X k).b.length (X k).cap) := cell_later HI.out.bel (HC.out k hlt 3 _ rfl)
      have hx4 : wr.cell? ⟨sb, so + k * 5 + 4, none⟩ = some (.string (X k).s) := cell_later HI.out.bel (HC.out k hlt 4 _ rfl)
      have HRk : Hid (BRow w (X k).ao (X k).cap (X k).b ∧ (X k).v < 18446744073709551616 ∧ (X k).s.size ≤ 1048576) := HR.out k hlt
      have hv64 := HRk.out.2.1
      have HYes : Hid ((X k).keep = true → doneOf X (k + 1) = doneOf X k ++ [X k]) := doneOf_yes X k
      have HNo : Hid ((X k).keep = false → doneOf X (k + 1) = doneOf X k) := doneOf_no X k
      have HLk := HL.out k hk
      have HBl : Hid ((X k).b.length ≤ 1048576) := HBb.out k hlt
      generalize X k = x at *
      have hdl : (doneOf X k).length ≤ 1048576 := Nat.le_trans (doneOf_len X k) (by omega)
      have HIA : Hid (BInv w (wr.alloc (.cells x.cells.toArray 31)) w.heap.size v u4 (doneOf X k)) := HI.out.alloc _
      have HBA : Hid (w.heap.size ≤ (wr.alloc (.cells x.cells.toArray 31)).heap.size) := HIA.out.bel.size
      by_cases h1 : x.kind = 1
      · have HKd : Hid (x.kind = 1) := h1
        clear h1
        have HK : Hid (x.keep = true) := by show x.keep = true; simp [Item.keep, HKd.out]
        have HEn : Hid (x.enc = bigTo (x.v % 256) 1 1) := by show x.enc = _; simp [Item.enc, HKd.out]
        have HCl : Hid (Calls Tryd.prog 23 #[.pointer (some ⟨w.heap.size, 0, none⟩), .int .u8 ((x.v : Int) % 256)] (wr.alloc (.cells x.cells.toArray 31)) fun e w' => e = .returned (.tuple #[]) ∧ ∃ v', WPost (wr.alloc (.cells x.cells.toArray 31)) w' w.heap.size w.heap.size v v' (encAll (doneOf X k) ++ x.enc)) := by
          rw [HEn.out]
          have := wu8_any w.heap.size w.heap.size (x.v % 256) v (encAll (doneOf X k)) _ HIA.out.wok (Nat.mod_lt _ (by decide)) (by omega) HBA.out
          rwa [show ((x.v % 256 : Nat) : Int) = (x.v : Int) % 256 by omega] at this
        have t1 : (x.kind == 1) = true := by rw [beq_iff_eq]; exact HKd.out
        go_wp2_with fail
        refine HCl.out.mono ?_
        rintro e w2 ⟨rfl, v2, hp2⟩
        obtain ⟨hbx, hdn, hsz2, hst⟩ := back_step HI.out hp2
        have y0 : w2.cell? ⟨wr.heap.size, 0, none⟩ = some (.int .i64 x.kind) := hbx 0 _ rfl
        have y1 : w2.cell? ⟨wr.heap.size, 1, none⟩ = some (.int .u64 (x.v : Int)) := hbx 1 _ rfl
        have y2 : w2.cell? ⟨wr.heap.size, 2, none⟩ = some (.int .i64 x.n) := hbx 2 _ rfl
        have y3 : w2.cell? ⟨wr.heap.size, 3, none⟩ = some (.slice x.ao x.b.length x.cap) := hbx 3 _ rfl
        have y4 : w2.cell? ⟨wr.heap.size, 4, none⟩ = some (.string x.s) := hbx 4 _ rfl
        have HDn : Hid (∀ o, (w2.alloc o).ownsRow w.heap.size 31 5 u4 (doneOf X k).length ((doneOf X k).flatMap Item.cells)) := hdn
        have HSt : Hid (∀ o u' w3, w3.ownsRow w.heap.size 31 5 u' ((doneOf X k).length + 1) ((doneOf X k).flatMap Item.cells ++ x.cells) → (w2.alloc o).grownBy w3 u4.ownBlock → BInv w w3 w.heap.size v2 u' (doneOf X k ++ [x])) := hst
        have HS2 : Hid (w.heap.size ≤ w2.heap.size) := hsz2
        clear hbx hdn hst hsz2 hp2 hx0 hx1 hx2 hx3 hx4
        go_wp2_with (at_builtin; refine wpList_append_own _ rfl (.tmp 80) (.tmp 82) 22 rfl w.heap.size 31 i0 _ 5 64 Tryd.underlying22 hi hz0 hz1 hz2 rfl (by decide) u4 (doneOf X k).length _ rfl (HDn.out _) ⟨w2.heap.size, 0, none⟩ 1 1 x.cells rfl rfl (news_cells w2 x.cells _ _) (cells_one x) (by unfold maxLen; omega) (by omega) (by have := HS2.out; simp; omega) ?_)
        intro u' w3 ho hg _
        have HN3 : Hid (BInv w w3 w.heap.size v2 u' (doneOf X (k + 1))) := by
          have := HSt.out _ u' w3 ho hg
          rwa [← HYes.out HK.out] at this
        clear ho hg
        go_wp2
        go_roundw
        case rel => exact ⟨k + 1, v2, by omega, by go_num, HN3.out⟩
        case measure => simp [intOf]; omega
      by_cases h2 : x.kind = 2
      · have HKd : Hid (x.kind = 2) := h2
        clear h2
        have HK : Hid (x.keep = true) := by show x.keep = true; simp [Item.keep, HKd.out]
        have HEn : Hid (x.enc = bigTo (x.v % 65536) 2 2) := by show x.enc = _; simp [Item.enc, HKd.out]
        have HCl : Hid (Calls Tryd.prog 24 #[.pointer (some ⟨w.heap.size, 0, none⟩), .int .u16 ((x.v : Int) % 65536)] (wr.alloc (.cells x.cells.toArray 31)) fun e w' => e = .returned (.tuple #[]) ∧ ∃ v', WPost (wr.alloc (.cells x.cells.toArray 31)) w' w.heap.size w.heap.size v v' (encAll (doneOf X k) ++ x.enc)) := by
          rw [HEn.out]
          have := wu16_any w.heap.size w.heap.size (x.v % 65536) v (encAll (doneOf X k)) _ HIA.out.wok (Nat.mod_lt _ (by decide)) (by omega) HBA.out
          rwa [show ((x.v % 65536 : Nat) : Int) = (x.v : Int) % 65536 by omega] at this
        have t1 : (x.kind == 1) = false := by rw [beq_eq_false_iff_ne]; have := HKd.out; omega
        have t2 : (x.kind == 2) = true := by rw [beq_iff_eq]; exact HKd.out
        go_wp2_with fail
        refine HCl.out.mono ?_
        rintro e w2 ⟨rfl, v2, hp2⟩
        obtain ⟨hbx, hdn, hsz2, hst⟩ := back_step HI.out hp2
        have y0 : w2.cell? ⟨wr.heap.size, 0, none⟩ = some (.int .i64 x.kind) := hbx 0 _ rfl
        have y1 : w2.cell? ⟨wr.heap.size, 1, none⟩ = some (.int .u64 (x.v : Int)) := hbx 1 _ rfl
        have y2 : w2.cell? ⟨wr.heap.size, 2, none⟩ = some (.int .i64 x.n) := hbx 2 _ rfl
        have y3 : w2.cell? ⟨wr.heap.size, 3, none⟩ = some (.slice x.ao x.b.length x.cap) := hbx 3 _ rfl
        have y4 : w2.cell? ⟨wr.heap.size, 4, none⟩ = some (.string x.s) := hbx 4 _ rfl
        have HDn : Hid (∀ o, (w2.alloc o).ownsRow w.heap.size 31 5 u4 (doneOf X k).length ((doneOf X k).flatMap Item.cells)) := hdn
        have HSt : Hid (∀ o u' w3, w3.ownsRow w.heap.size 31 5 u' ((doneOf X k).length + 1) ((doneOf X k).flatMap Item.cells ++ x.cells) → (w2.alloc o).grownBy w3 u4.ownBlock → BInv w w3 w.heap.size v2 u' (doneOf X k ++ [x])) := hst
        have HS2 : Hid (w.heap.size ≤ w2.heap.size) := hsz2
        clear hbx hdn hst hsz2 hp2 hx0 hx1 hx2 hx3 hx4
        go_wp2_with (at_builtin; refine wpList_append_own _ rfl (.tmp 80) (.tmp 82) 22 rfl w.heap.size 31 i0 _ 5 64 Tryd.underlying22 hi hz0 hz1 hz2 rfl (by decide) u4 (doneOf X k).length _ rfl (HDn.out _) ⟨w2.heap.size, 0, none⟩ 1 1 x.cells rfl rfl (news_cells w2 x.cells _ _) (cells_one x) (by unfold maxLen; omega) (by omega) (by have := HS2.out; simp; omega) ?_)
        intro u' w3 ho hg _
        have HN3 : Hid (BInv w w3 w.heap.size v2 u' (doneOf X (k + 1))) := by
          have := HSt.out _ u' w3 ho hg
          rwa [← HYes.out HK.out] at this
        clear ho hg
        go_wp2
        go_roundw
        case rel => exact ⟨k + 1, v2, by omega, by go_num, HN3.out⟩
        case measure => simp [intOf]; omega
      by_cases h3 : x.kind = 3
      · have HKd : Hid (x.kind = 3) := h3
        clear h3
        have HK : Hid (x.keep = true) := by show x.keep = true; simp [Item.keep, HKd.out]
        have HEn : Hid (x.enc = bigTo (x.v % 4294967296) 4 4) := by show x.enc = _; simp [Item.enc, HKd.out]
        have HCl : Hid (Calls Tryd.prog 25 #[.pointer (some ⟨w.heap.size, 0, none⟩), .int .u32 ((x.v : Int) % 4294967296)] (wr.alloc (.cells x.cells.toArray 31)) fun e w' => e = .returned (.tuple #[]) ∧ ∃ v', WPost (wr.alloc (.cells x.cells.toArray 31)) w' w.heap.size w.heap.size v v' (encAll (doneOf X k) ++ x.enc)) := by
          rw [HEn.out]
          have := wu32_any w.heap.size w.heap.size (x.v % 4294967296) v (encAll (doneOf X k)) _ HIA.out.wok (Nat.mod_lt _ (by decide)) (by omega) HBA.out
          rwa [show ((x.v % 4294967296 : Nat) : Int) = (x.v : Int) % 4294967296 by omega] at this
        have t1 : (x.kind == 1) = false := by rw [beq_eq_false_iff_ne]; have := HKd.out; omega
        have t2 : (x.kind == 2) = false := by rw [beq_eq_false_iff_ne]; have := HKd.out; omega
        have t3 : (x.kind == 3) = true := by rw [beq_iff_eq]; exact HKd.out
        go_wp2_with fail
        refine HCl.out.mono ?_
        rintro e w2 ⟨rfl, v2, hp2⟩
        obtain ⟨hbx, hdn, hsz2, hst⟩ := back_step HI.out hp2
        have y0 : w2.cell? ⟨wr.heap.size, 0, none⟩ = some (.int .i64 x.kind) := hbx 0 _ rfl
        have y1 : w2.cell? ⟨wr.heap.size, 1, none⟩ = some (.int .u64 (x.v : Int)) := hbx 1 _ rfl
        have y2 : w2.cell? ⟨wr.heap.size, 2, none⟩ = some (.int .i64 x.n) := hbx 2 _ rfl
        have y3 : w2.cell? ⟨wr.heap.size, 3, none⟩ = some (.slice x.ao x.b.length x.cap) := hbx 3 _ rfl
        have y4 : w2.cell? ⟨wr.heap.size, 4, none⟩ = some (.string x.s) := hbx 4 _ rfl
        have HDn : Hid (∀ o, (w2.alloc o).ownsRow w.heap.size 31 5 u4 (doneOf X k).length ((doneOf X k).flatMap Item.cells)) := hdn
        have HSt : Hid (∀ o u' w3, w3.ownsRow w.heap.size 31 5 u' ((doneOf X k).length + 1) ((doneOf X k).flatMap Item.cells ++ x.cells) → (w2.alloc o).grownBy w3 u4.ownBlock → BInv w w3 w.heap.size v2 u' (doneOf X k ++ [x])) := hst
        have HS2 : Hid (w.heap.size ≤ w2.heap.size) := hsz2
        clear hbx hdn hst hsz2 hp2 hx0 hx1 hx2 hx3 hx4
        go_wp2_with (at_builtin; refine wpList_append_own _ rfl (.tmp 80) (.tmp 82) 22 rfl w.heap.size 31 i0 _ 5 64 Tryd.underlying22 hi hz0 hz1 hz2 rfl (by decide) u4 (doneOf X k).length _ rfl (HDn.out _) ⟨w2.heap.size, 0, none⟩ 1 1 x.cells rfl rfl (news_cells w2 x.cells _ _) (cells_one x) (by unfold maxLen; omega) (by omega) (by have := HS2.out; simp; omega) ?_)
        intro u' w3 ho hg _
        have HN3 : Hid (BInv w w3 w.heap.size v2 u' (doneOf X (k + 1))) := by
          have := HSt.out _ u' w3 ho hg
          rwa [← HYes.out HK.out] at this
        clear ho hg
        go_wp2
        go_roundw
        case rel => exact ⟨k + 1, v2, by omega, by go_num, HN3.out⟩
        case measure => simp [intOf]; omega
      by_cases h4 : x.kind = 4
      · have HKd : Hid (x.kind = 4) := h4
        clear h4
        have HK : Hid (x.keep = true) := by show x.keep = true; simp [Item.keep, HKd.out]
        have HEn : Hid (x.enc = bigTo x.v 8 8) := by show x.enc = _; simp [Item.enc, HKd.out]
        have HCl : Hid (Calls Tryd.prog 26 #[.pointer (some ⟨w.heap.size, 0, none⟩), .int .u64 (x.v : Int)] (wr.alloc (.cells x.cells.toArray 31)) fun e w' => e = .returned (.tuple #[]) ∧ ∃ v', WPost (wr.alloc (.cells x.cells.toArray 31)) w' w.heap.size w.heap.size v v' (encAll (doneOf X k) ++ x.enc)) := by
          rw [HEn.out]
          exact wu64_any w.heap.size w.heap.size x.v v (encAll (doneOf X k)) _ HIA.out.wok hv64 (by omega) HBA.out
        have t1 : (x.kind == 1) = false := by rw [beq_eq_false_iff_ne]; have := HKd.out; omega
        have t2 : (x.kind == 2) = false := by rw [beq_eq_false_iff_ne]; have := HKd.out; omega
        have t3 : (x.kind == 3) = false := by rw [beq_eq_false_iff_ne]; have := HKd.out; omega
        have t4 : (x.kind == 4) = true := by rw [beq_iff_eq]; exact HKd.out
        go_wp2_with fail
        refine HCl.out.mono ?_
        rintro e w2 ⟨rfl, v2, hp2⟩
        obtain ⟨hbx, hdn, hsz2, hst⟩ := back_step HI.out hp2
        have y0 : w2.cell? ⟨wr.heap.size, 0, none⟩ = some (.int .i64 x.kind) := hbx 0 _ rfl
        have y1 : w2.cell? ⟨wr.heap.size, 1, none⟩ = some (.int .u64 (x.v : Int)) := hbx 1 _ rfl
        have y2 : w2.cell? ⟨wr.heap.size, 2, none⟩ = some (.int .i64 x.n) := hbx 2 _ rfl
        have y3 : w2.cell? ⟨wr.heap.size, 3, none⟩ = some (.slice x.ao x.b.length x.cap) := hbx 3 _ rfl
        have y4 : w2.cell? ⟨wr.heap.size, 4, none⟩ = some (.string x.s) := hbx 4 _ rfl
        have HDn : Hid (∀ o, (w2.alloc o).ownsRow w.heap.size 31 5 u4 (doneOf X k).length ((doneOf X k).flatMap Item.cells)) := hdn
        have HSt : Hid (∀ o u' w3, w3.ownsRow w.heap.size 31 5 u' ((doneOf X k).length + 1) ((doneOf X k).flatMap Item.cells ++ x.cells) → (w2.alloc o).grownBy w3 u4.ownBlock → BInv w w3 w.heap.size v2 u' (doneOf X k ++ [x])) := hst
        have HS2 : Hid (w.heap.size ≤ w2.heap.size) := hsz2
        clear hbx hdn hst hsz2 hp2 hx0 hx1 hx2 hx3 hx4
        go_wp2_with (at_builtin; refine wpList_append_own _ rfl (.tmp 80) (.tmp 82) 22 rfl w.heap.size 31 i0 _ 5 64 Tryd.underlying22 hi hz0 hz1 hz2 rfl (by decide) u4 (doneOf X k).length _ rfl (HDn.out _) ⟨w2.heap.size, 0, none⟩ 1 1 x.cells rfl rfl (news_cells w2 x.cells _ _) (cells_one x) (by unfold maxLen; omega) (by omega) (by have := HS2.out; simp; omega) ?_)
        intro u' w3 ho hg _
        have HN3 : Hid (BInv w w3 w.heap.size v2 u' (doneOf X (k + 1))) := by
          have := HSt.out _ u' w3 ho hg
          rwa [← HYes.out HK.out] at this
        clear ho hg
        go_wp2
        go_roundw
        case rel => exact ⟨k + 1, v2, by omega, by go_num, HN3.out⟩
        case measure => simp [intOf]; omega
      by_cases h5 : x.kind = 5
      · have HKd : Hid (x.kind = 5) := h5
        clear h5
        have HK : Hid (x.keep = true) := by show x.keep = true; simp [Item.keep, HKd.out]
        have HEn : Hid (x.enc = x.b) := by show x.enc = _; simp [Item.enc, HKd.out]
        have HCl : Hid (Calls Tryd.prog 27 #[.pointer (some ⟨w.heap.size, 0, none⟩), .slice x.ao x.b.length x.cap] (wr.alloc (.cells x.cells.toArray 31)) fun e w' => e = .returned (.tuple #[]) ∧ ∃ v', WPost (wr.alloc (.cells x.cells.toArray 31)) w' w.heap.size w.heap.size v v' (encAll (doneOf X k) ++ x.enc)) := by
          rw [HEn.out]
          exact wraw_any w.heap.size w.heap.size v (encAll (doneOf X k)) x.b x.ao x.cap x.b.length _ HIA.out.wok (HRk.out.1.later HIA.out.bel) rfl (by have := HRk.out.1.len; have := HBl.out; omega) HBA.out
        have t1 : (x.kind == 1) = false := by rw [beq_eq_false_iff_ne]; have := HKd.out; omega
        have t2 : (x.kind == 2) = false := by rw [beq_eq_false_iff_ne]; have := HKd.out; omega
        have t3 : (x.kind == 3) = false := by rw [beq_eq_false_iff_ne]; have := HKd.out; omega
        have t4 : (x.kind == 4) = false := by rw [beq_eq_false_iff_ne]; have := HKd.out; omega
        have t5 : (x.kind == 5) = true := by rw [beq_iff_eq]; exact HKd.out
        go_wp2_with fail
        refine HCl.out.mono ?_
        rintro e w2 ⟨rfl, v2, hp2⟩
        obtain ⟨hbx, hdn, hsz2, hst⟩ := back_step HI.out hp2
        have y0 : w2.cell? ⟨wr.heap.size, 0, none⟩ = some (.int .i64 x.kind) := hbx 0 _ rfl
        have y1 : w2.cell? ⟨wr.heap.size, 1, none⟩ = some (.int .u64 (x.v : Int)) := hbx 1 _ rfl
        have y2 : w2.cell? ⟨wr.heap.size, 2, none⟩ = some (.int .i64 x.n) := hbx 2 _ rfl
        have y3 : w2.cell? ⟨wr.heap.size, 3, none⟩ = some (.slice x.ao x.b.length x.cap) := hbx 3 _ rfl
        have y4 : w2.cell? ⟨wr.heap.size, 4, none⟩ = some (.string x.s) := hbx 4 _ rfl
        have HDn : Hid (∀ o, (w2.alloc o).ownsRow w.heap.size 31 5 u4 (doneOf X k).length ((doneOf X k).flatMap Item.cells)) := hdn
        have HSt : Hid (∀ o u' w3, w3.ownsRow w.heap.size 31 5 u' ((doneOf X k).length + 1) ((doneOf X k).flatMap Item.cells ++ x.cells) → (w2.alloc o).grownBy w3 u4.ownBlock → BInv w w3 w.heap.size v2 u' (doneOf X k ++ [x])) := hst
        have HS2 : Hid (w.heap.size ≤ w2.heap.size) := hsz2
        clear hbx hdn hst hsz2 hp2 hx0 hx1 hx2 hx3 hx4
        go_wp2_with (at_builtin; refine wpList_append_own _ rfl (.tmp 80) (.tmp 82) 22 rfl w.heap.size 31 i0 _ 5 64 Tryd.underlying22 hi hz0 hz1 hz2 rfl (by decide) u4 (doneOf X k).length _ rfl (HDn.out _) ⟨w2.heap.size, 0, none⟩ 1 1 x.cells rfl rfl (news_cells w2 x.cells _ _) (cells_one x) (by unfold maxLen; omega) (by omega) (by have := HS2.out; simp; omega) ?_)
        intro u' w3 ho hg _
        have HN3 : Hid (BInv w w3 w.heap.size v2 u' (doneOf X (k + 1))) := by
          have := HSt.out _ u' w3 ho hg
          rwa [← HYes.out HK.out] at this
        clear ho hg
        go_wp2
        go_roundw
        case rel => exact ⟨k + 1, v2, by omega, by go_num, HN3.out⟩
        case measure => simp [intOf]; omega
      by_cases h7 : x.kind = 7
      · have HKd : Hid (x.kind = 7) := h7
        clear h7
        have HTA : Hid (Tabs (wr.alloc (.cells x.cells.toArray 31))) := HT.out.later HIA.out.bel
        have hss := HRk.out.2.2
        cases hpl : plainB x.s.data.toList with
        | false =>
          have HK : Hid (x.keep = false) := by show x.keep = false; simp [Item.keep, HKd.out, hpl]
          have HCl : Hid (Calls Tryd.prog 28 #[.pointer (some ⟨w.heap.size, 0, none⟩), .string x.s] (wr.alloc (.cells x.cells.toArray 31)) fun e w' => e = .returned (.int .i64 13) ∧ WPost (wr.alloc (.cells x.cells.toArray 31)) w' w.heap.size w.heap.size v v (encAll (doneOf X k))) := wtext_bad _ _ v _ x.s _ HIA.out.wok (by omega) HTA.out hpl
          clear hpl
          have t1 : (x.kind == 1) = false := by rw [beq_eq_false_iff_ne]; have := HKd.out; omega
          have t2 : (x.kind == 2) = false := by rw [beq_eq_false_iff_ne]; have := HKd.out; omega
          have t3 : (x.kind == 3) = false := by rw [beq_eq_false_iff_ne]; have := HKd.out; omega
          have t4 : (x.kind == 4) = false := by rw [beq_eq_false_iff_ne]; have := HKd.out; omega
          have t5 : (x.kind == 5) = false := by rw [beq_eq_false_iff_ne]; have := HKd.out; omega
          have t7 : (x.kind == 7) = true := by rw [beq_iff_eq]; exact HKd.out
          go_wp2_with fail
          refine HCl.out.mono ?_
          rintro e w2 ⟨rfl, hp2⟩
          have HN3 : Hid (BInv w w2 w.heap.size v u4 (doneOf X (k + 1))) := by
            have := back_same HI.out _ hp2
            rwa [← HNo.out HK.out] at this
          clear hp2
          go_wp2
          go_roundw
          case rel => exact ⟨k + 1, v, by omega, by go_num, HN3.out⟩
          case measure => simp [intOf]; omega
        | true =>
          by_cases hlg : x.s.size ≤ 4096
          · have HK : Hid (x.keep = true) := by show x.keep = true; simp [Item.keep, HKd.out, hpl, hlg]
            have HEn : Hid (x.enc = bigTo x.s.size 4 4 ++ sbytes x.s) := by show x.enc = _; simp [Item.enc, HKd.out]
            have HCl : Hid (Calls Tryd.prog 28 #[.pointer (some ⟨w.heap.size, 0, none⟩), .string x.s] (wr.alloc (.cells x.cells.toArray 31)) fun e w' => e = .returned (.int .i64 0) ∧ ∃ v', WPost (wr.alloc (.cells x.cells.toArray 31)) w' w.heap.size w.heap.size v v' (encAll (doneOf X k) ++ x.enc)) := by
              rw [HEn.out]
              exact wtext_ok _ _ v _ x.s _ HIA.out.wok HTA.out hpl hlg (by omega) HBA.out
            clear hpl hlg
            have t1 : (x.kind == 1) = false := by rw [beq_eq_false_iff_ne]; have := HKd.out; omega
            have t2 : (x.kind == 2) = false := by rw [beq_eq_false_iff_ne]; have := HKd.out; omega
            have t3 : (x.kind == 3) = false := by rw [beq_eq_false_iff_ne]; have := HKd.out; omega
            have t4 : (x.kind == 4) = false := by rw [beq_eq_false_iff_ne]; have := HKd.out; omega
            have t5 : (x.kind == 5) = false := by rw [beq_eq_false_iff_ne]; have := HKd.out; omega
            have t7 : (x.kind == 7) = true := by rw [beq_iff_eq]; exact HKd.out
            go_wp2_with fail
            refine HCl.out.mono ?_
            rintro e w2 ⟨rfl, v2, hp2⟩
            obtain ⟨hbx, hdn, hsz2, hst⟩ := back_step HI.out hp2
            have y0 : w2.cell? ⟨wr.heap.size, 0, none⟩ = some (.int .i64 x.kind) := hbx 0 _ rfl
            have y1 : w2.cell? ⟨wr.heap.size, 1, none⟩ = some (.int .u64 (x.v : Int)) := hbx 1 _ rfl
            have y2 : w2.cell? ⟨wr.heap.size, 2, none⟩ = some (.int .i64 x.n) := hbx 2 _ rfl
            have y3 : w2.cell? ⟨wr.heap.size, 3, none⟩ = some (.slice x.ao x.b.length x.cap) := hbx 3 _ rfl
            have y4 : w2.cell? ⟨wr.heap.size, 4, none⟩ = some (.string x.s) := hbx 4 _ rfl
            have HDn : Hid (∀ o, (w2.alloc o).ownsRow w.heap.size 31 5 u4 (doneOf X k).length ((doneOf X k).flatMap Item.cells)) := hdn
            have HSt : Hid (∀ o u' w3, w3.ownsRow w.heap.size 31 5 u' ((doneOf X k).length + 1) ((doneOf X k).flatMap Item.cells ++ x.cells) → (w2.alloc o).grownBy w3 u4.ownBlock → BInv w w3 w.heap.size v2 u' (doneOf X k ++ [x])) := hst
            have HS2 : Hid (w.heap.size ≤ w2.heap.size) := hsz2
            clear hbx hdn hst hsz2 hp2 hx0 hx1 hx2 hx3 hx4
            go_wp2_with (at_builtin; refine wpList_append_own _ rfl (.tmp 80) (.tmp 82) 22 rfl w.heap.size 31 i0 _ 5 64 Tryd.underlying22 hi hz0 hz1 hz2 rfl (by decide) u4 (doneOf X k).length _ rfl (HDn.out _) ⟨w2.heap.size, 0, none⟩ 1 1 x.cells rfl rfl (news_cells w2 x.cells _ _) (cells_one x) (by unfold maxLen; omega) (by omega) (by have := HS2.out; simp; omega) ?_)
            intro u' w3 ho hg _
            have HN3 : Hid (BInv w w3 w.heap.size v2 u' (doneOf X (k + 1))) := by
              have := HSt.out _ u' w3 ho hg
              rwa [← HYes.out HK.out] at this
            clear ho hg
            go_wp2
            go_roundw
            case rel => exact ⟨k + 1, v2, by omega, by go_num, HN3.out⟩
            case measure => simp [intOf]; omega
          · have HK : Hid (x.keep = false) := by show x.keep = false; simp [Item.keep, HKd.out, hlg]
            have HCl : Hid (Calls Tryd.prog 28 #[.pointer (some ⟨w.heap.size, 0, none⟩), .string x.s] (wr.alloc (.cells x.cells.toArray 31)) fun e w' => e = .returned (.int .i64 12) ∧ WPost (wr.alloc (.cells x.cells.toArray 31)) w' w.heap.size w.heap.size v v (encAll (doneOf X k))) := wtext_long _ _ v _ x.s _ HIA.out.wok (by omega) HTA.out hpl (by omega)
            clear hpl hlg
            have t1 : (x.kind == 1) = false := by rw [beq_eq_false_iff_ne]; have := HKd.out; omega
            have t2 : (x.kind == 2) = false := by rw [beq_eq_false_iff_ne]; have := HKd.out; omega
            have t3 : (x.kind == 3) = false := by rw [beq_eq_false_iff_ne]; have := HKd.out; omega
            have t4 : (x.kind == 4) = false := by rw [beq_eq_false_iff_ne]; have := HKd.out; omega
            have t5 : (x.kind == 5) = false := by rw [beq_eq_false_iff_ne]; have := HKd.out; omega
            have t7 : (x.kind == 7) = true := by rw [beq_iff_eq]; exact HKd.out
            go_wp2_with fail
            refine HCl.out.mono ?_
            rintro e w2 ⟨rfl, hp2⟩
            have HN3 : Hid (BInv w w2 w.heap.size v u4 (doneOf X (k + 1))) := by
              have := back_same HI.out _ hp2
              rwa [← HNo.out HK.out] at this
            clear hp2
            go_wp2
            go_roundw
            case rel => exact ⟨k + 1, v, by omega, by go_num, HN3.out⟩
            case measure => simp [intOf]; omega
      · have HK : Hid (x.keep = false) := by show x.keep = false; simp [Item.keep, h1, h2, h3, h4, h5, h7]
        have HN3 : Hid (BInv w (wr.alloc (.cells x.cells.toArray 31)) w.heap.size v u4 (doneOf X (k + 1))) := by
          have := HIA.out
          rwa [← HNo.out HK.out] at this
        have t1 : (x.kind == 1) = false := by rw [beq_eq_false_iff_ne]; exact h1
        have t2 : (x.kind == 2) = false := by rw [beq_eq_false_iff_ne]; exact h2
        have t3 : (x.kind == 3) = false := by rw [beq_eq_false_iff_ne]; exact h3
        have t4 : (x.kind == 4) = false := by rw [beq_eq_false_iff_ne]; exact h4
        have t5 : (x.kind == 5) = false := by rw [beq_eq_false_iff_ne]; exact h5
        have t7 : (x.kind == 7) = false := by rw [beq_eq_false_iff_ne]; exact h7
        clear h1 h2 h3 h4 h5 h7
        go_wp2
        go_roundw
        case rel => exact ⟨k + 1, v, by omega, by go_num, HN3.out⟩
        case measure => simp [intOf]; omega
    · obtain rfl : k = n := by omega
      have hLn := HL.out k (Nat.le_refl _)
      have HKp : Hid (∀ x ∈ doneOf X k, x.keep = true ∧ BRow w x.ao x.cap x.b ∧ x.v < 18446744073709551616 ∧ x.b.length ≤ 1048576) := fun x hx => by
        obtain ⟨h1, i, hi, rfl⟩ := doneOf_mem X k x hx
        exact ⟨h1, (HR.out i hi).1, (HR.out i hi).2.1, HBb.out i hi⟩
      have hdl : (doneOf X k).length ≤ 1048576 := Nat.le_trans (doneOf_len X k) (by omega)
      obtain ⟨uo, ucap, hu, huo⟩ := ownsG_form HI.out.don
      subst hu
      clear HL HR HBb HC
      generalize doneOf X k = ds at *
      have HUo : Hid (0 < ds.length → ∃ g, uo = some ⟨g, 0, none⟩) := huo
      clear huo
      have HLl : Hid ((encAll ds).length ≤ 16777216) := hLn
      have HM : Hid (ds.length = ds.length) := rfl
      have HIm : Hid (∀ m, ds.length = m → BInv w wr w.heap.size v (.slice uo m ucap) ds) := fun m hm => by rw [← hm]; exact HI.out
      clear HI
      generalize hm : ds.length = m at *
      have HDm : Hid (ds.length = m) := hm
      clear hm HM
      have HI : Hid (BInv w wr w.heap.size v (.slice uo m ucap) ds) := HIm.out m rfl
      clear HIm
      have HO : Hid (Calls Tryd.prog 10 #[.pointer (some ⟨w.heap.size, 0, none⟩)] wr fun e w' => ∃ ao' cap', e = .returned (.slice ao' (encAll ds).length cap') ∧ w'.ownsRow wr.heap.size 5 1 (.slice ao' (encAll ds).length cap') (encAll ds).length ((encAll ds).map bv) ∧ Below wr.heap.size wr w') :=
        wout_any w.heap.size w.heap.size v (encAll ds) wr HI.out.wok (by have := HLl.out; omega)
      have HEl : Hid ((encAll ds).length = (encAll ds).length) := rfl
      go_wp2_with fail
      refine HO.out.mono ?_
      rintro e w1 ⟨ao1, cap1, rfl, ho1, hb1⟩
      have HRd : Hid (Calls Tryd.prog 15 #[.slice ao1 (encAll ds).length cap1] w1 fun e w' => ∃ r ao' cap', e = .returned (.pointer (some ⟨r, 0, none⟩)) ∧ RInv w w' r ao' cap' (encAll ds) 0 (.slice uo m ucap) ds) := by
        obtain ⟨ao2, cap2, hv, hb⟩ := BRow.own ho1 HI.out.wok.lt (by have := HLl.out; omega)
        simp only [Value.slice.injEq] at hv
        obtain ⟨rfl, _, rfl⟩ := hv
        refine (newReader_any ao1 cap1 _ (encAll ds) w1 hb rfl).mono fun e w' hh => ?_
        obtain ⟨r, ao', cap', he, hr, hb'⟩ := hh
        exact ⟨r, ao', cap', he, rinv_new HI.out hb1 hb' hr⟩
      clear ho1 hb1 HO hLn
      generalize (encAll ds).length = L at *
      go_wp2_with fail
      refine HRd.out.mono ?_
      rintro e w2 ⟨r, ao2, cap2, rfl, hri⟩
      have HRi : Hid (RInv w w2 r ao2 cap2 (encAll ds) 0 (.slice uo m ucap) ds) := hri
      clear hri
      go_wp2
      go_loopw [9] (fun i wr2 => ∃ j : Nat, j ≤ m ∧ i = .int .i64 j ∧ RInv w wr2 r ao2 cap2 (encAll ds) (encAll (ds.take j)).length (.slice uo m ucap) ds) (fun i _ => m - (intOf i).toNat)
      case atStart => exact ⟨0, Nat.zero_le _, rfl, HRi.out⟩
      case round =>
        rename_i wr0
        obtain ⟨j, hj, rfl, hri⟩ := hrel
        have HR2 : Hid (RInv w wr r ao2 cap2 (encAll ds) (encAll (ds.take j)).length (.slice uo m ucap) ds) := hri
        clear hri
        by_cases hlt : j < m
        · obtain ⟨g, rfl⟩ := HUo.out (by omega)
          have hjd : j < ds.length := by rw [HDm.out]; exact hlt
          have HSp : Hid ((encAll ds).drop (encAll (ds.take j)).length = ds[j].enc ++ encAll (ds.drop (j + 1))) := enc_split ds j hjd
          have HNx : Hid ((encAll (ds.take (j + 1))).length = (encAll (ds.take j)).length + ds[j].enc.length) := enc_next ds j hjd
          have hx0 : wr.cell? ⟨g, j * 5, none⟩ = some (.int .i64 ds[j].kind) := HR2.out.cell j hjd 0 (by decide) _ rfl
          have hx1 : wr.cell? ⟨g, j * 5 + 1, none⟩ = some (.int .u64 (ds[j].v : Int)) := HR2.out.cell j hjd 1 (by decide) _ rfl
          have hx2 : wr.cell? ⟨g, j * 5 + 2, none⟩ = some (.int .i64 ds[j].n) := HR2.out.cell j hjd 2 (by decide) _ rfl
          have hx3 : wr.cell? ⟨g, j * 5 + 3, none⟩ = some (.slice ds[j].ao ds[j].b.length ds[j].cap) := HR2.out.cell j hjd 3 (by decide) _ rfl
          have hx4 : wr.cell? ⟨g, j * 5 + 4, none⟩ = some (.string ds[j].s) := HR2.out.cell j hjd 4 (by decide) _ rfl
          have HKx : Hid (ds[j].keep = true ∧ BRow w ds[j].ao ds[j].cap ds[j].b ∧ ds[j].v < 18446744073709551616 ∧ ds[j].b.length ≤ 1048576) := HKp.out _ (List.getElem_mem hjd)
          generalize ds[j] = x at *
          clear hjd
          have hv64 := HKx.out.2.2.1
          have hbl := HKx.out.2.2.2
          have HRa : Hid (RInv w (wr.alloc (.cells x.cells.toArray 31)) r ao2 cap2 (encAll ds) (encAll (ds.take j)).length (.slice (some ⟨g, 0, none⟩) m ucap) ds) := HR2.out.alloc _
          by_cases h1 : x.kind = 1
          · have HKd : Hid (x.kind = 1) := h1
            clear h1
            have HEn : Hid (x.enc = bigTo (x.v % 256) 1 1) := by show x.enc = _; simp [Item.enc, HKd.out]
            have HCl : Hid (Calls Tryd.prog 29 #[.pointer (some ⟨r, 0, none⟩)] (wr.alloc (.cells x.cells.toArray 31)) fun e w' => e = .returned (.tuple #[.int .u8 ((x.v : Int) % 256), .int .i64 0]) ∧ RInv w w' r ao2 cap2 (encAll ds) (encAll (ds.take (j + 1))).length (.slice (some ⟨g, 0, none⟩) m ucap) ds ∧ KeptIn (fun g => g = r) (wr.alloc (.cells x.cells.toArray 31)) w') := by
              have := back_u8 HRa.out (x.v % 256) _ (Nat.mod_lt _ (by decide)) (by rw [HSp.out, HEn.out])
              rw [HNx.out, HEn.out, bigTo_length]
              rwa [show ((x.v % 256 : Nat) : Int) = (x.v : Int) % 256 by omega] at this
            have t1 : (x.kind == 1) = true := by rw [beq_iff_eq]; exact HKd.out
            go_wp2_with fail
            refine HCl.out.mono ?_
            rintro e w3 ⟨rfl, hr3, hk3⟩
            have HR3 : Hid (RInv w w3 r ao2 cap2 (encAll ds) (encAll (ds.take (j + 1))).length (.slice (some ⟨g, 0, none⟩) m ucap) ds) := hr3
            have y0 : w3.cell? ⟨wr.heap.size, 0, none⟩ = some (.int .i64 x.kind) := HR2.out.own x hk3 0 _ rfl
            have y1 : w3.cell? ⟨wr.heap.size, 1, none⟩ = some (.int .u64 (x.v : Int)) := HR2.out.own x hk3 1 _ rfl
            have y3 : w3.cell? ⟨wr.heap.size, 3, none⟩ = some (.slice x.ao x.b.length x.cap) := HR2.out.own x hk3 3 _ rfl
            have y4 : w3.cell? ⟨wr.heap.size, 4, none⟩ = some (.string x.s) := HR2.out.own x hk3 4 _ rfl
            clear hr3 hk3 hx0 hx1 hx2 hx3 hx4
            go_wp2
            go_roundw
            case rel => exact ⟨j + 1, by omega, by go_num, HR3.out⟩
            case measure => simp [intOf]; omega
          by_cases h2 : x.kind = 2
          · have HKd : Hid (x.kind = 2) := h2
            clear h2
            have HEn : Hid (x.enc = bigTo (x.v % 65536) 2 2) := by show x.enc = _; simp [Item.enc, HKd.out]
            have HCl : Hid (Calls Tryd.prog 30 #[.pointer (some ⟨r, 0, none⟩)] (wr.alloc (.cells x.cells.toArray 31)) fun e w' => e = .returned (.tuple #[.int .u16 ((x.v : Int) % 65536), .int .i64 0]) ∧ RInv w w' r ao2 cap2 (encAll ds) (encAll (ds.take (j + 1))).length (.slice (some ⟨g, 0, none⟩) m ucap) ds ∧ KeptIn (fun g => g = r) (wr.alloc (.cells x.cells.toArray 31)) w') := by
              have := back_u16 HRa.out (x.v % 65536) _ (Nat.mod_lt _ (by decide)) (by rw [HSp.out, HEn.out])
              rw [HNx.out, HEn.out, bigTo_length]
              rwa [show ((x.v % 65536 : Nat) : Int) = (x.v : Int) % 65536 by omega] at this
            have t1 : (x.kind == 1) = false := by rw [beq_eq_false_iff_ne]; have := HKd.out; omega
            have t2 : (x.kind == 2) = true := by rw [beq_iff_eq]; exact HKd.out
            go_wp2_with fail
            refine HCl.out.mono ?_
            rintro e w3 ⟨rfl, hr3, hk3⟩
            have HR3 : Hid (RInv w w3 r ao2 cap2 (encAll ds) (encAll (ds.take (j + 1))).length (.slice (some ⟨g, 0, none⟩) m ucap) ds) := hr3
            have y0 : w3.cell? ⟨wr.heap.size, 0, none⟩ = some (.int .i64 x.kind) := HR2.out.own x hk3 0 _ rfl
            have y1 : w3.cell? ⟨wr.heap.size, 1, none⟩ = some (.int .u64 (x.v : Int)) := HR2.out.own x hk3 1 _ rfl
            have y3 : w3.cell? ⟨wr.heap.size, 3, none⟩ = some (.slice x.ao x.b.length x.cap) := HR2.out.own x hk3 3 _ rfl
            have y4 : w3.cell? ⟨wr.heap.size, 4, none⟩ = some (.string x.s) := HR2.out.own x hk3 4 _ rfl
            clear hr3 hk3 hx0 hx1 hx2 hx3 hx4
            have hwr : IntKind.u16.wrap (x.v : Int) = (x.v : Int) % 65536 := IntKind.wrap_u16 _
            go_wp2
            go_roundw
            case rel => exact ⟨j + 1, by omega, by go_num, HR3.out⟩
            case measure => simp [intOf]; omega
          by_cases h3 : x.kind = 3
          · have HKd : Hid (x.kind = 3) := h3
            clear h3
            have HEn : Hid (x.enc = bigTo (x.v % 4294967296) 4 4) := by show x.enc = _; simp [Item.enc, HKd.out]
            have HCl : Hid (Calls Tryd.prog 31 #[.pointer (some ⟨r, 0, none⟩)] (wr.alloc (.cells x.cells.toArray 31)) fun e w' => e = .returned (.tuple #[.int .u32 ((x.v : Int) % 4294967296), .int .i64 0]) ∧ RInv w w' r ao2 cap2 (encAll ds) (encAll (ds.take (j + 1))).length (.slice (some ⟨g, 0, none⟩) m ucap) ds ∧ KeptIn (fun g => g = r) (wr.alloc (.cells x.cells.toArray 31)) w') := by
              have := back_u32 HRa.out (x.v % 4294967296) _ (Nat.mod_lt _ (by decide)) (by rw [HSp.out, HEn.out])
              rw [HNx.out, HEn.out, bigTo_length]
              rwa [show ((x.v % 4294967296 : Nat) : Int) = (x.v : Int) % 4294967296 by omega] at this
            have t1 : (x.kind == 1) = false := by rw [beq_eq_false_iff_ne]; have := HKd.out; omega
            have t2 : (x.kind == 2) = false := by rw [beq_eq_false_iff_ne]; have := HKd.out; omega
            have t3 : (x.kind == 3) = true := by rw [beq_iff_eq]; exact HKd.out
            go_wp2_with fail
            refine HCl.out.mono ?_
            rintro e w3 ⟨rfl, hr3, hk3⟩
            have HR3 : Hid (RInv w w3 r ao2 cap2 (encAll ds) (encAll (ds.take (j + 1))).length (.slice (some ⟨g, 0, none⟩) m ucap) ds) := hr3
            have y0 : w3.cell? ⟨wr.heap.size, 0, none⟩ = some (.int .i64 x.kind) := HR2.out.own x hk3 0 _ rfl
            have y1 : w3.cell? ⟨wr.heap.size, 1, none⟩ = some (.int .u64 (x.v : Int)) := HR2.out.own x hk3 1 _ rfl
            have y3 : w3.cell? ⟨wr.heap.size, 3, none⟩ = some (.slice x.ao x.b.length x.cap) := HR2.out.own x hk3 3 _ rfl
            have y4 : w3.cell? ⟨wr.heap.size, 4, none⟩ = some (.string x.s) := HR2.out.own x hk3 4 _ rfl
            clear hr3 hk3 hx0 hx1 hx2 hx3 hx4
            go_wp2
            go_roundw
            case rel => exact ⟨j + 1, by omega, by go_num, HR3.out⟩
            case measure => simp [intOf]; omega
          by_cases h4 : x.kind = 4
          · have HKd : Hid (x.kind = 4) := h4
            clear h4
            have HEn : Hid (x.enc = bigTo (x.v) 8 8) := by show x.enc = _; simp [Item.enc, HKd.out]
            have HCl : Hid (Calls Tryd.prog 32 #[.pointer (some ⟨r, 0, none⟩)] (wr.alloc (.cells x.cells.toArray 31)) fun e w' => e = .returned (.tuple #[.int .u64 ((x.v : Int)), .int .i64 0]) ∧ RInv w w' r ao2 cap2 (encAll ds) (encAll (ds.take (j + 1))).length (.slice (some ⟨g, 0, none⟩) m ucap) ds ∧ KeptIn (fun g => g = r) (wr.alloc (.cells x.cells.toArray 31)) w') := by
              have := back_u64 HRa.out (x.v) _ hv64 (by rw [HSp.out, HEn.out])
              rw [HNx.out, HEn.out, bigTo_length]
              exact this
            have t1 : (x.kind == 1) = false := by rw [beq_eq_false_iff_ne]; have := HKd.out; omega
            have t2 : (x.kind == 2) = false := by rw [beq_eq_false_iff_ne]; have := HKd.out; omega
            have t3 : (x.kind == 3) = false := by rw [beq_eq_false_iff_ne]; have := HKd.out; omega
            have t4 : (x.kind == 4) = true := by rw [beq_iff_eq]; exact HKd.out
            go_wp2_with fail
            refine HCl.out.mono ?_
            rintro e w3 ⟨rfl, hr3, hk3⟩
            have HR3 : Hid (RInv w w3 r ao2 cap2 (encAll ds) (encAll (ds.take (j + 1))).length (.slice (some ⟨g, 0, none⟩) m ucap) ds) := hr3
            have y0 : w3.cell? ⟨wr.heap.size, 0, none⟩ = some (.int .i64 x.kind) := HR2.out.own x hk3 0 _ rfl
            have y1 : w3.cell? ⟨wr.heap.size, 1, none⟩ = some (.int .u64 (x.v : Int)) := HR2.out.own x hk3 1 _ rfl
            have y3 : w3.cell? ⟨wr.heap.size, 3, none⟩ = some (.slice x.ao x.b.length x.cap) := HR2.out.own x hk3 3 _ rfl
            have y4 : w3.cell? ⟨wr.heap.size, 4, none⟩ = some (.string x.s) := HR2.out.own x hk3 4 _ rfl
            clear hr3 hk3 hx0 hx1 hx2 hx3 hx4
            go_wp2
            go_roundw
            case rel => exact ⟨j + 1, by omega, by go_num, HR3.out⟩
            case measure => simp [intOf]; omega
          by_cases h5 : x.kind = 5
          · have HKd : Hid (x.kind = 5) := h5
            clear h5
            have HEn : Hid (x.enc = x.b) := by show x.enc = _; simp [Item.enc, HKd.out]
            have HCl : Hid (Calls Tryd.prog 33 #[.pointer (some ⟨r, 0, none⟩), .int .i64 (x.b.length : Int)] (wr.alloc (.cells x.cells.toArray 31)) fun e w' => ∃ ao' cap', e = .returned (.tuple #[.slice ao' x.b.length cap', .int .i64 0]) ∧ BRow w' ao' cap' x.b ∧ RInv w w' r ao2 cap2 (encAll ds) (encAll (ds.take (j + 1))).length (.slice (some ⟨g, 0, none⟩) m ucap) ds ∧ KeptIn (fun g => g = r) (wr.alloc (.cells x.cells.toArray 31)) w') := by
              have := back_raw HRa.out x.b _ (by rw [HSp.out, HEn.out])
              rw [HNx.out, HEn.out]
              exact this
            have t1 : (x.kind == 1) = false := by rw [beq_eq_false_iff_ne]; have := HKd.out; omega
            have t2 : (x.kind == 2) = false := by rw [beq_eq_false_iff_ne]; have := HKd.out; omega
            have t3 : (x.kind == 3) = false := by rw [beq_eq_false_iff_ne]; have := HKd.out; omega
            have t4 : (x.kind == 4) = false := by rw [beq_eq_false_iff_ne]; have := HKd.out; omega
            have t5 : (x.kind == 5) = true := by rw [beq_iff_eq]; exact HKd.out
            go_wp2_with fail
            refine HCl.out.mono ?_
            rintro e w3 ⟨ao3, cap3, rfl, hb3, hr3, hk3⟩
            have HR3 : Hid (RInv w w3 r ao2 cap2 (encAll ds) (encAll (ds.take (j + 1))).length (.slice (some ⟨g, 0, none⟩) m ucap) ds) := hr3
            have HSm : Hid (Calls Tryd.prog 11 #[.slice ao3 x.b.length cap3, .slice x.ao x.b.length x.cap] w3 fun e w' => e = .returned (.bool true) ∧ ∃ q, w' = w3.drewN q) := by
              have := same_any ao3 x.ao cap3 x.cap x.b x.b w3 hb3 (HKx.out.2.1.later hr3.bel)
              rwa [decide_eq_true rfl] at this
            have y0 : w3.cell? ⟨wr.heap.size, 0, none⟩ = some (.int .i64 x.kind) := HR2.out.own x hk3 0 _ rfl
            have y1 : w3.cell? ⟨wr.heap.size, 1, none⟩ = some (.int .u64 (x.v : Int)) := HR2.out.own x hk3 1 _ rfl
            have y3 : w3.cell? ⟨wr.heap.size, 3, none⟩ = some (.slice x.ao x.b.length x.cap) := HR2.out.own x hk3 3 _ rfl
            have y4 : w3.cell? ⟨wr.heap.size, 4, none⟩ = some (.string x.s) := HR2.out.own x hk3 4 _ rfl
            clear hr3 hk3 hb3 hx0 hx1 hx2 hx3 hx4
            go_wp2_with fail
            refine HSm.out.mono ?_
            rintro e w4 ⟨rfl, q, hw⟩
            rw [hw]; clear hw
            have HR4 : Hid (RInv w (w3.drewN q) r ao2 cap2 (encAll ds) (encAll (ds.take (j + 1))).length (.slice (some ⟨g, 0, none⟩) m ucap) ds) := HR3.out.drewN q
            go_wp2
            go_roundw
            case rel => exact ⟨j + 1, by omega, by go_num, HR4.out⟩
            case measure => simp [intOf]; omega
          have HK7 : Hid (x.kind = 7 ∧ plainB x.s.data.toList = true ∧ x.s.size ≤ 4096) := by
            have := HKx.out.1
            simp only [Item.keep, beq_false_of_ne h1, beq_false_of_ne h2, beq_false_of_ne h3, beq_false_of_ne h4, beq_false_of_ne h5, Bool.false_or, Bool.and_eq_true, beq_iff_eq, decide_eq_true_eq] at this
            exact ⟨this.1.1, this.1.2, this.2⟩
          clear h1 h2 h3 h4 h5
          have HKd : Hid (x.kind = 7) := HK7.out.1
          have HEn : Hid (x.enc = bigTo x.s.size 4 4 ++ sbytes x.s) := by show x.enc = _; simp [Item.enc, HKd.out]
          have HCl : Hid (Calls Tryd.prog 34 #[.pointer (some ⟨r, 0, none⟩), .int .i64 4096] (wr.alloc (.cells x.cells.toArray 31)) fun e w' => e = .returned (.tuple #[.string x.s, .int .i64 0]) ∧ RInv w w' r ao2 cap2 (encAll ds) (encAll (ds.take (j + 1))).length (.slice (some ⟨g, 0, none⟩) m ucap) ds ∧ KeptIn (fun g => g = r) (wr.alloc (.cells x.cells.toArray 31)) w') := by
            have := back_text HRa.out HT.out x.s _ HK7.out.2.2 HK7.out.2.1 (by rw [HSp.out, HEn.out])
            rw [HNx.out, HEn.out, List.length_append, bigTo_length, sbytes_length]
            exact this
          have t1 : (x.kind == 1) = false := by rw [beq_eq_false_iff_ne]; have := HKd.out; omega
          have t2 : (x.kind == 2) = false := by rw [beq_eq_false_iff_ne]; have := HKd.out; omega
          have t3 : (x.kind == 3) = false := by rw [beq_eq_false_iff_ne]; have := HKd.out; omega
          have t4 : (x.kind == 4) = false := by rw [beq_eq_false_iff_ne]; have := HKd.out; omega
          have t5 : (x.kind == 5) = false := by rw [beq_eq_false_iff_ne]; have := HKd.out; omega
          have t7 : (x.kind == 7) = true := by rw [beq_iff_eq]; exact HKd.out
          go_wp2_with fail
          refine HCl.out.mono ?_
          rintro e w3 ⟨rfl, hr3, hk3⟩
          have HR3 : Hid (RInv w w3 r ao2 cap2 (encAll ds) (encAll (ds.take (j + 1))).length (.slice (some ⟨g, 0, none⟩) m ucap) ds) := hr3
          have y0 : w3.cell? ⟨wr.heap.size, 0, none⟩ = some (.int .i64 x.kind) := HR2.out.own x hk3 0 _ rfl
          have y1 : w3.cell? ⟨wr.heap.size, 1, none⟩ = some (.int .u64 (x.v : Int)) := HR2.out.own x hk3 1 _ rfl
          have y3 : w3.cell? ⟨wr.heap.size, 3, none⟩ = some (.slice x.ao x.b.length x.cap) := HR2.out.own x hk3 3 _ rfl
          have y4 : w3.cell? ⟨wr.heap.size, 4, none⟩ = some (.string x.s) := HR2.out.own x hk3 4 _ rfl
          clear hr3 hk3 hx0 hx1 hx2 hx3 hx4
          go_wp2
          go_roundw
          case rel => exact ⟨j + 1, by omega, by go_num, HR3.out⟩
          case measure => simp [intOf]; omega
        · obtain rfl : j = m := by omega
          have HRe : Hid (ROk wr w.heap.size r ao2 cap2 (encAll ds) (encAll ds).length) := by
            have := HR2.out.rok
            rwa [List.take_of_length_le (by rw [HDm.out]; exact Nat.le_refl _)] at this
          have HEn : Hid (Calls Tryd.prog 21 #[.pointer (some ⟨r, 0, none⟩)] wr fun e w' => e = .returned (.int .i64 0) ∧ ∃ q, w' = wr.drewN q) := rend_any _ r ao2 cap2 _ wr HRe.out
          have HLf : Hid (∀ q, Calls Tryd.prog 20 #[.pointer (some ⟨r, 0, none⟩)] (wr.drewN q) fun e w' => e = .returned (.int .i64 0) ∧ ∃ q', w' = (wr.drewN q).drewN q') := fun q => by
            have := rleft_any _ r ao2 cap2 _ _ _ _ (HRe.out.drewN q) rfl
            rwa [Int.sub_self] at this
          have HHd : Hid (∀ q, Calls Tryd.prog 13 #[] (wr.drewN q) fun e w' => e = .returned (.bool true) ∧ Below w.heap.size w w') := fun q => by
            have hb := (HR2.out.drewN q).bel
            exact (heads_any _ (HT.out.later hb)).mono fun e w' hh => ⟨hh.1, hb.trans (hh.2.mono hb.size)⟩
          go_wp2_with fail
          refine HEn.out.mono ?_
          rintro e w3 ⟨rfl, q, hw⟩
          rw [hw]; clear hw
          go_wp2_with fail
          refine (HLf.out q).mono ?_
          rintro e w3 ⟨rfl, q', hw⟩
          rw [hw]; clear hw
          go_wp2_with fail
          refine (HHd.out _).mono ?_
          rintro e w3 ⟨rfl, hb⟩
          have HB3 : Hid (Below w.heap.size w w3) := hb
          clear hb
          go_wp2
          go_ret
          exact ⟨rfl, HB3.out⟩
end Go.Proofs.YtpkobgnbjmefnaaDoor
