import Derived.Test.YtjkoambfecmglaaVJz
namespace Go.Proofs.Ytjkoambfecmglaa
open Go.RowKit
set_option linter.unusedVariables false
set_option linter.unusedSimpArgs false
set_option maxRecDepth 100000
/-- the document's copy of bytes, in one form -/
theorem copy_any (bo : Option Addr) (cap n : Nat) (bs : List Nat) (w : World) (h : BRow w bo cap bs) (hn : bs.length = n) :
    Calls Try.prog 9 #[.slice bo n cap] w fun e w' => ∃ co cc, e = .returned (.slice co n cc) ∧ BRow w' co cc bs ∧ w'.ownsRow w.heap.size 5 1 (.slice co n cc) n (bs.map bv) ∧ Below w.heap.size w w' := by
  subst hn
  cases bo with
  | none =>
    obtain ⟨h1, h2⟩ := h.nil rfl
    subst h1; subst h2
    refine (copy_none w).mono ?_
    rintro e w' ⟨rfl, rfl⟩
    exact ⟨none, 0, rfl, h, World.ownsRow_nil _ _ _ _, Below.refl _ _⟩
  | some ad =>
    refine (copy_some ad cap bs w h).mono ?_
    rintro e w' ⟨v, rfl, ho, hb⟩
    obtain ⟨ao, c2, rfl⟩ := owns_form ho
    obtain ⟨a3, c3, e3, h3⟩ := BRow.own ho h.lt h.len
    cases e3
    exact ⟨ao, c2, rfl, h3, ho, hb⟩
theorem take_step {bs ds : List Nat} {off i : Nat} {x : Nat} (h : (bs.drop off).take i = ds.take i) (hb : bs[off + i]? = some x) (hd : ds[i]? = some x) : (bs.drop off).take (i + 1) = ds.take (i + 1) := by
  rw [List.take_add_one, List.take_add_one, h, hd, List.getElem?_drop, hb]
theorem take_no {bs ds : List Nat} {off i m x y : Nat} (hb : bs[off + i]? = some x) (hd : ds[i]? = some y) (hxy : x ≠ y) (hi : i < m) : ¬ (bs.drop off).take m = ds := by
  intro h
  have h1 : ((bs.drop off).take m)[i]? = some x := by rw [List.getElem?_take_of_lt hi, List.getElem?_drop, hb]
  rw [h, hd] at h1
  cases h1; exact hxy rfl
set_option maxHeartbeats 4000000 in
/-- the document plays a read that was answered -/
theorem rPlay_read (bo da : Option Addr) (cap dc n m off : Nat) (bs ds : List Nat) (fr t : Int) (sy : Bool) (w : World) (hb : BRow w bo cap bs) (hn : bs.length = n) (hd : BRow w da dc ds) (hm : ds.length = m) (ht : t ≠ -1) (hin : off + m ≤ n) (hs : n ≤ 4096) :
    Calls Try.prog 30 #[.slice bo n cap, .agg #[.int .i64 1, .int .i64 fr, .int .i64 t, .int .i64 (off : Int), .int .i64 (m : Int), .slice da m dc, .bool sy]] w fun e w' => ∃ co cc, e = .returned (.tuple #[.slice co n cc, .bool (decide ((bs.drop off).take m = ds))]) ∧ BRow w' co cc bs ∧ w'.ownsRow w.heap.size 5 1 (.slice co n cc) n (bs.map bv) ∧ Below w.heap.size w w' := by
  have f1 : (t != -1) = true := by rw [bne_iff_ne]; exact ht
  obtain ⟨H, hH⟩ : ∃ H, w.heap.size = H := ⟨_, rfl⟩
  obtain ⟨W0, hW0⟩ : ∃ W0, W0 = w.alloc (.cells #[.int .i64 1, .int .i64 fr, .int .i64 t, .int .i64 (off : Int), .int .i64 (m : Int), .slice da m dc, .bool sy] 50) := ⟨_, rfl⟩
  have b0 : Below H w W0 := by rw [hW0, ← hH]; exact (Below.refl _ w).alloc (Nat.le_refl _) _
  have hx0 : W0.heap[H]? = some (.cells #[.int .i64 1, .int .i64 fr, .int .i64 t, .int .i64 (off : Int), .int .i64 (m : Int), .slice da m dc, .bool sy] 50 (0, 0)) := by rw [hW0, ← hH]; exact heap_new _ _
  have hz0 : W0.heap.size = H + 1 := by rw [hW0, World.size_alloc, hH]
  have HC : Hid _ := copy_any bo cap n bs W0 (hb.later (by rw [hH]; exact b0)) hn
  have HD : Hid (BRow w da dc ds ∧ ds.length = m ∧ bs.length = n ∧ w.heap.size = H) := ⟨hd, hm, hn, hH⟩
  have HB0 : Hid (Below H w W0 ∧ W0.heap[H]? = some (.cells #[.int .i64 1, .int .i64 fr, .int .i64 t, .int .i64 (off : Int), .int .i64 (m : Int), .slice da m dc, .bool sy] 50 (0, 0)) ∧ W0.heap.size = H + 1) := ⟨b0, hx0, hz0⟩
  rw [hH]
  rw [hW0] at HC
  clear hb hn hd hm ht b0 hx0 hz0
  go_enter Try.func30, Try.ntmps30
  go_wp2_with fail
  refine Calls.mono HC.out ?_
  rintro e W1 ⟨co, cc, rfl, hr, ho, hb1⟩
  rw [← hW0] at ho hb1
  have HE : Hid (BRow W1 co cc bs ∧ W1.ownsRow W0.heap.size 5 1 (.slice co n cc) n (bs.map bv) ∧ Below W0.heap.size W0 W1) := ⟨hr, ho, hb1⟩
  have HX : Hid (W1.heap[H]? = some (.cells #[.int .i64 1, .int .i64 fr, .int .i64 t, .int .i64 (off : Int), .int .i64 (m : Int), .slice da m dc, .bool sy] 50 (0, 0))) := (hb1.block H (by rw [HB0.out.2.2]; omega)).trans HB0.out.2.1
  have HW : Hid (Below H w W1) := HB0.out.1.trans (hb1.mono (by rw [HB0.out.2.2]; omega))
  have fin : ∀ {b : Bool}, decide ((bs.drop off).take m = ds) = b → ∀ W', (∃ k, W' = W1.drewN k) → ∃ co' cc', Ending.returned (.tuple #[.slice co n cc, .bool b]) = Ending.returned (.tuple #[.slice co' n cc', .bool (decide ((bs.drop off).take m = ds))]) ∧ BRow W' co' cc' bs ∧ W'.ownsRow H 5 1 (.slice co' n cc') n (bs.map bv) ∧ Below H w W' := fun h W' hk => by
    obtain ⟨k, rfl⟩ := hk
    subst h
    refine ⟨co, cc, rfl, hr.drewN k, owns_same (owns_mono ho (by rw [HB0.out.2.2]; omega)) (fun g _ => rfl), ?_⟩
    exact HW.out.trans (⟨rfl, rfl, rfl, Nat.le_refl _, fun _ _ => rfl⟩)
  clear hr ho hb1 HC HB0 hW0
  go_wp2
  go_loopw [7] (fun iv wr => ∃ i q : Nat, i ≤ m ∧ iv = .int .i64 (i : Int) ∧ wr = W1.drewN q ∧ Hid ((bs.drop off).take i = ds.take i)) (fun iv _ => m - (intOf iv).toNat)
  case atStart => exact ⟨0, 0, Nat.zero_le _, rfl, rfl, by show _ = _; simp⟩
  case round =>
    obtain ⟨i, q, hi, rfl, rfl, HT⟩ := hrel
    have c4 : W1.cell? ⟨H, 4, none⟩ = some (.int .i64 (m : Int)) := blk_at HX.out 4
    by_cases hlt : i < m
    · have c0 : W1.cell? ⟨H, 0, none⟩ = some (.int .i64 1) := blk_at HX.out 0
      have c2 : W1.cell? ⟨H, 2, none⟩ = some (.int .i64 t) := blk_at HX.out 2
      have c3 : W1.cell? ⟨H, 3, none⟩ = some (.int .i64 (off : Int)) := blk_at HX.out 3
      have c5 : W1.cell? ⟨H, 5, none⟩ = some (.slice da m dc) := blk_at HX.out 5
      have n9 : decide ((i : Int) < (m : Int)) = true := by simp; omega
      have ii0 : (0 : Int) ≤ (i : Int) := by omega
      have ii9 : (i : Int) < (m : Int) := by omega
      have oo0 : (0 : Int) ≤ (off : Int) + (i : Int) := by omega
      have oo9 : (off : Int) + (i : Int) < (n : Int) := by omega
      have oo8 : ((off : Int) + (i : Int)).toNat = off + i := by omega
      have oo7 : IntKind.i64.wrap ((off : Int) + (i : Int)) = (off : Int) + (i : Int) := by rw [IntKind.wrap_i64]; omega
      have hbl : off + i < bs.length := by rw [HD.out.2.2.1]; omega
      have hdl : i < ds.length := by rw [HD.out.2.1]; omega
      obtain ⟨g, o0, e0, hc⟩ := HE.out.1.at_ (by rintro rfl; simp at hbl)
      obtain ⟨gd, d0, e1, hdc⟩ := (HD.out.1.later (by rw [HD.out.2.2.2]; exact HW.out)).at_ (by rintro rfl; simp at hdl)
      subst e0; subst e1
      obtain ⟨x, hx⟩ : ∃ x, bs[off + i] = x := ⟨_, rfl⟩
      obtain ⟨y, hy⟩ : ∃ y, ds[i] = y := ⟨_, rfl⟩
      have cb : W1.cell? ⟨g, o0 + (off + i), none⟩ = some (.int .u8 (x : Int)) := by rw [← hx]; exact hc _ hbl
      have cd : W1.cell? ⟨gd, d0 + i, none⟩ = some (.int .u8 (y : Int)) := by rw [← hy]; exact hdc _ hdl
      have HXY : Hid (bs[off + i]? = some x ∧ ds[i]? = some y) := ⟨by rw [List.getElem?_eq_getElem hbl, hx], by rw [List.getElem?_eq_getElem hdl, hy]⟩
      clear hc hdc hx hy
      by_cases hxy : x = y
      · subst hxy
        have HS : Hid ((bs.drop off).take (i + 1) = ds.take (i + 1)) := take_step HT.out HXY.out.1 HXY.out.2
        go_wp2
        go_quiet (fail)
        go_wp2
        go_roundw
        case rel => exact ⟨i + 1, _, by omega, by go_num, rfl, HS⟩
        case measure => simp [intOf]; omega
      · have HS : Hid (¬ (bs.drop off).take m = ds) := take_no HXY.out.1 HXY.out.2 hxy hlt
        have hne : ((x : Int) != (y : Int)) = true := by rw [bne_iff_ne]; omega
        clear hxy
        go_wp2
        go_quiet (fail)
        go_wp2
        go_ret2
        exact fin (decide_eq_false HS) _ ⟨_, World.drewN_drewN _ _ _⟩
    · have n9 : decide ((i : Int) < (m : Int)) = false := by simp; omega
      obtain rfl : i = m := by omega
      go_wp2
      go_ret2
      have HS : (bs.drop off).take i = ds := by rw [HT.out]; exact List.take_of_length_le (by rw [HD.out.2.1]; omega)
      exact fin (decide_eq_true HS) _ ⟨_, rfl⟩
end Go.Proofs.Ytjkoambfecmglaa
