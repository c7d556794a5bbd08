import Derived.Test.YtfifaaopdhcaaaaGreatDoorY5
import Derived.Test.YtfifaaopdhcaaaaGreatDoorY12
namespace Go.Proofs.YtfifaaopdhcaaaaGreatDoor
open Go.RowKit
set_option linter.unusedVariables false
set_option linter.unusedSimpArgs false
set_option maxRecDepth 100000
/-- a body while it is read: the place, and what is wrong so far -/
structure Bg (w W : World) (c r : Nat) (ao : Option Addr) (cap : Nat) (l : List Nat) (at_ er : Nat) : Prop where
  bel : Below w.heap.size w W
  bd : W.heap[c]? = some (.cells #[.pointer (some ⟨r, 0, none⟩), .int .i64 (er : Int)] 135 (0, 0))
  hc : w.heap.size ≤ c
  rd : ROk W w.heap.size r ao cap l at_
theorem Bg.ne {w W : World} {c r : Nat} {ao : Option Addr} {cap : Nat} {l : List Nat} {at_ er : Nat} (h : Bg w W c r ao cap l at_ er) : c ≠ r := by
  rintro rfl
  have h1 := h.bd
  rw [h.rd.blk] at h1
  simp at h1
theorem Bg.moved {w W W' : World} {c r : Nat} {ao : Option Addr} {cap : Nat} {l : List Nat} {at_ k er : Nat} (h : Bg w W c r ao cap l at_ er) (hp : RPost W W' w.heap.size r ao cap l k) : Bg w W' c r ao cap l k er :=
  ⟨h.bel.trans (hp.kept.below h.bel.size (fun g hg e => by have := h.rd.hr; omega)), by rw [hp.kept.block c (block_lt h.bd) h.ne]; exact h.bd, h.hc, hp.ok⟩
theorem Bg.later {w W W' : World} {c r : Nat} {ao : Option Addr} {cap : Nat} {l : List Nat} {at_ er : Nat} (h : Bg w W c r ao cap l at_ er) (k : Below W.heap.size W W') : Bg w W' c r ao cap l at_ er :=
  ⟨h.bel.trans (k.mono h.bel.size), box_later h.bd k, h.hc, ⟨box_later h.rd.blk k, owns_same h.rd.own (fun g hg => k.block g (owns_lt h.rd.own g hg).1), h.rd.lt, h.rd.len, h.rd.le, h.rd.hr⟩⟩
theorem Bg.c0 {w W : World} {c r : Nat} {ao : Option Addr} {cap : Nat} {l : List Nat} {at_ er : Nat} (h : Bg w W c r ao cap l at_ er) : W.cell? ⟨c, 0, none⟩ = some (.pointer (some ⟨r, 0, none⟩)) := by rw [blk_at h.bd]; rfl
theorem Bg.c1 {w W : World} {c r : Nat} {ao : Option Addr} {cap : Nat} {l : List Nat} {at_ er : Nat} (h : Bg w W c r ao cap l at_ er) : W.cell? ⟨c, 1, none⟩ = some (.int .i64 (er : Int)) := by rw [blk_at h.bd]; rfl
theorem Bg.f1 {w W : World} {c r : Nat} {ao : Option Addr} {cap : Nat} {l : List Nat} {at_ er : Nat} (h : Bg w W c r ao cap l at_ er) : W.frozen? ⟨c, 1, none⟩ = false := blk_free h.bd 1
theorem Bg.err {w W : World} {c r : Nat} {ao : Option Addr} {cap : Nat} {l : List Nat} {at_ er : Nat} (h : Bg w W c r ao cap l at_ er) (k : Nat) : Bg w (W.setCell ⟨c, 1, none⟩ (.int .i64 (k : Int))) c r ao cap l at_ k ∧ KeptIn (fun g => g = c) W (W.setCell ⟨c, 1, none⟩ (.int .i64 (k : Int))) := by
  have kk := keptIn_set W c 1 (.int .i64 (k : Int))
  have hn : ∀ g, (Value.slice ao l.length cap).ownBlock = some g → ¬ g = c := fun g hg e => by
    obtain ⟨cur, e1⟩ := owns_type h.rd.own g hg
    rw [e, h.bd] at e1; simp at e1
  refine ⟨⟨h.bel.trans (kk.below h.bel.size (fun g hg e => by have := h.hc; omega)), put_boxX h.bd 1 _ (by simp), h.hc, ?_⟩, kk⟩
  exact h.rd.later kk (fun e => h.ne e.symm) hn
def ndE (b : Bool) (er : Nat) : Nat := if b = true then er else if er = 0 then 81 else er
def okR (l : List Nat) (at_ k : Nat) : Bool := decide (at_ + k ≤ l.length)
def rvV (l : List Nat) (at_ k : Nat) : Nat := if okR l at_ k = true then valB ((l.drop at_).take k) else 0
def raA (l : List Nat) (at_ k : Nat) : Nat := if okR l at_ k = true then at_ + k else at_
def rrL (l : List Nat) (at_ k : Nat) : List Nat := if okR l at_ k = true then (l.drop at_).take k else []
def two (c r g : Nat) : Prop := g = r ∨ g = c
theorem ndE_true (er : Nat) : ndE true er = er := rfl
theorem ndE_false0 : ndE false 0 = 81 := rfl
theorem ndE_false1 (er : Nat) (h : er ≠ 0) : ndE false er = er := by simp [ndE, h]
theorem ndE_le (b : Bool) (er : Nat) (h : er ≤ 170) : ndE b er ≤ 170 := by unfold ndE; split <;> (try split) <;> omega
set_option maxHeartbeats 1000000 in
theorem wellG (c er : Nat) (w : World) (c1 : w.cell? ⟨c, 1, none⟩ = some (.int .i64 (er : Int))) : Calls Tryz.prog 51 #[.pointer (some ⟨c, 0, none⟩)] w fun e w' => e = .returned (.bool ((er : Int) == 0)) ∧ w' = w := by
  go_enter Tryz.func51, Tryz.ntmps51
  go_wp2
  go_ret
  exact ⟨rfl, rfl⟩
set_option maxHeartbeats 1000000 in
theorem refuseG {w W : World} {c r : Nat} {ao : Option Addr} {cap : Nat} {l : List Nat} {at_ er : Nat} (x : Nat) (h : Bg w W c r ao cap l at_ er) : Calls Tryz.prog 75 #[.pointer (some ⟨c, 0, none⟩), .int .i64 (x : Int)] W fun e w' => e = .returned (.tuple #[]) ∧ Bg w w' c r ao cap l at_ (if er = 0 then x else er) ∧ KeptIn (fun g => g = c) W w' := by
  have HW : Hid (Calls Tryz.prog 51 #[.pointer (some ⟨c, 0, none⟩)] W fun e w' => e = .returned (.bool ((er : Int) == 0)) ∧ w' = W) := wellG c er W h.c1
  have c1 := h.c1
  have f1 := h.f1
  have H : Hid (Bg w W c r ao cap l at_ er) := h
  clear h
  by_cases h0 : er = 0
  · have hb : ((er : Int) == 0) = true := by simp [h0]
    rw [hb] at HW
    have HE : Hid (er = 0) := h0
    clear h0 hb
    go_enter Tryz.func75, Tryz.ntmps75
    go_wp2_with fail
    refine HW.out.mono ?_
    rintro e w1 ⟨rfl, hw⟩
    rw [hw]; clear hw HW
    go_wp2
    go_end0
    exact ⟨rfl, H.out.err x⟩
  · have hb : ((er : Int) == 0) = false := by rw [beq_eq_false_iff_ne]; omega
    rw [hb] at HW
    have HE : Hid (¬ er = 0) := h0
    clear h0 hb
    go_enter Tryz.func75, Tryz.ntmps75
    go_wp2_with fail
    refine HW.out.mono ?_
    rintro e w1 ⟨rfl, hw⟩
    rw [hw]; clear hw HW
    go_wp2
    go_end0
    exact ⟨rfl, H.out, KeptIn.refl _ _⟩
set_option maxHeartbeats 1000000 in
theorem needG {w W : World} {c r : Nat} {ao : Option Addr} {cap : Nat} {l : List Nat} {at_ er : Nat} (b : Bool) (h : Bg w W c r ao cap l at_ er) : Calls Tryz.prog 53 #[.pointer (some ⟨c, 0, none⟩), .bool b] W fun e w' => e = .returned (.tuple #[]) ∧ Bg w w' c r ao cap l at_ (ndE b er) ∧ KeptIn (fun g => g = c) W w' := by
  have HR : Hid (Calls Tryz.prog 75 #[.pointer (some ⟨c, 0, none⟩), .int .i64 81] W fun e w' => e = .returned (.tuple #[]) ∧ Bg w w' c r ao cap l at_ (if er = 0 then 81 else er) ∧ KeptIn (fun g => g = c) W w') := refuseG 81 h
  have H : Hid (Bg w W c r ao cap l at_ er) := h
  clear h
  cases b with
  | true =>
    go_enter Tryz.func53, Tryz.ntmps53
    go_wp2
    go_end0
    exact ⟨rfl, H.out, KeptIn.refl _ _⟩
  | false =>
    go_enter Tryz.func53, Tryz.ntmps53
    go_wp2_with fail
    refine HR.out.mono ?_
    rintro e w1 ⟨rfl, hh⟩
    have HH : Hid _ := hh
    clear hh HR
    go_wp2
    go_end0
    exact ⟨rfl, HH.out⟩
theorem two_of_r {c r : Nat} {a b : World} (h : KeptIn (fun g => g = r) a b) : KeptIn (two c r) a b := h.mono (fun _ _ e => .inl e)
theorem two_of_c {c r : Nat} {a b : World} (h : KeptIn (fun g => g = c) a b) : KeptIn (two c r) a b := h.mono (fun _ _ e => .inr e)
theorem two_trans {c r : Nat} {a b d : World} (h : KeptIn (two c r) a b) (k : KeptIn (two c r) b d) : KeptIn (two c r) a d := h.trans k (fun _ _ hn => hn)
theorem two_below {c r : Nat} {a b : World} (h : Below a.heap.size a b) : KeptIn (two c r) a b := KeptIn.ofBelow h
set_option maxHeartbeats 1000000 in
theorem unpackG (ao : Option Addr) (cap n : Nat) (l : List Nat) (w : World) (h : BRow w ao cap l) (HN : Hid (l.length = n)) :
    Calls Tryz.prog 31 #[.slice ao n cap] w fun e w' => ∃ c r ao' cap', e = .returned (.pointer (some ⟨c, 0, none⟩)) ∧ Bg w w' c r ao' cap' l 0 0 := by
  have HR : Hid (Calls Tryz.prog 62 #[.slice ao n cap] w fun e w' => ∃ r ao' cap', e = .returned (.pointer (some ⟨r, 0, none⟩)) ∧ ROk w' w.heap.size r ao' cap' l 0 ∧ Below w.heap.size w w') := newReader_any ao cap n l w h HN
  clear h
  go_enter Tryz.func31, Tryz.ntmps31
  go_wp2_with fail
  refine HR.out.mono ?_
  rintro e W1 ⟨r, ao', cap', rfl, hok, hb⟩
  have H1 : Hid (ROk W1 w.heap.size r ao' cap' l 0 ∧ Below w.heap.size w W1) := ⟨hok, hb⟩
  clear hok hb HR
  go_wp2
  go_ret
  have k := below1 W1 (Obj.cells #[.pointer (some ⟨r, 0, none⟩), .int .i64 0] 135)
  exact ⟨_, r, ao', cap', rfl, H1.out.2.alloc H1.out.2.size _, heap_new W1 _, H1.out.2.size, ⟨box_later H1.out.1.blk k, owns_same H1.out.1.own (fun g hg => k.block g (owns_lt H1.out.1.own g hg).1), H1.out.1.lt, H1.out.1.len, H1.out.1.le, H1.out.1.hr⟩⟩
set_option maxHeartbeats 1000000 in
theorem bu16G {w W : World} {c r : Nat} {ao : Option Addr} {cap : Nat} {l : List Nat} {at_ er : Nat} (h : Bg w W c r ao cap l at_ er) : Calls Tryz.prog 32 #[.pointer (some ⟨c, 0, none⟩)] W fun e w' => e = .returned (.int .u16 ((rvV l at_ 2 : Nat) : Int)) ∧ Bg w w' c r ao cap l (raA l at_ 2) (ndE (okR l at_ 2) er) ∧ KeptIn (two c r) W w' := by
  have HU : Hid (Calls Tryz.prog 63 #[.pointer (some ⟨r, 0, none⟩)] W fun e w' => ∃ E : Int, e = .returned (.tuple #[.int .u16 ((rvV l at_ 2 : Nat) : Int), .int .i64 E]) ∧ (E == 0) = okR l at_ 2 ∧ RPost W w' w.heap.size r ao cap l (raA l at_ 2)) := (ru16_any w.heap.size r ao cap l at_ W h.rd).mono fun e w' hh => by
    rcases hh with ⟨h1, h2, h3⟩ | ⟨h1, h2, h3⟩
    · have e0 : okR l at_ 2 = false := by unfold okR; simp; omega
      exact ⟨10, by rw [h2]; simp [rvV, e0], by rw [e0]; rfl, by simpa [raA, e0] using h3⟩
    · have e0 : okR l at_ 2 = true := by unfold okR; simp; omega
      exact ⟨0, by rw [h2]; simp [rvV, e0], by rw [e0]; rfl, by simpa [raA, e0] using h3⟩
  have c0 := h.c0
  have H : Hid (Bg w W c r ao cap l at_ er) := h
  clear h
  generalize rvV l at_ 2 = v at *
  generalize raA l at_ 2 = a2 at *
  generalize okR l at_ 2 = ok at *
  go_enter Tryz.func32, Tryz.ntmps32
  go_wp2_with fail
  refine Calls.mono HU.out ?_
  rintro e W1 ⟨E, rfl, hE, hp⟩
  have H1 : Hid (Bg w W1 c r ao cap l a2 er ∧ KeptIn (fun g => g = r) W W1) := ⟨H.out.moved hp, hp.kept⟩
  clear hp HU H c0
  go_wp2_with fail
  refine (needG ok H1.out.1).mono ?_
  rintro e W2 ⟨rfl, hb2, hk2⟩
  have H2 : Hid (Bg w W2 c r ao cap l a2 (ndE ok er) ∧ KeptIn (two c r) W W2) := ⟨hb2, two_trans (two_of_r H1.out.2) (two_of_c hk2)⟩
  clear hb2 hk2 H1
  go_wp2
  go_ret
  exact ⟨rfl, H2.out⟩
set_option maxHeartbeats 1000000 in
theorem bu32G {w W : World} {c r : Nat} {ao : Option Addr} {cap : Nat} {l : List Nat} {at_ er : Nat} (h : Bg w W c r ao cap l at_ er) : Calls Tryz.prog 36 #[.pointer (some ⟨c, 0, none⟩)] W fun e w' => e = .returned (.int .u32 ((rvV l at_ 4 : Nat) : Int)) ∧ Bg w w' c r ao cap l (raA l at_ 4) (ndE (okR l at_ 4) er) ∧ KeptIn (two c r) W w' := by
  have HU : Hid (Calls Tryz.prog 67 #[.pointer (some ⟨r, 0, none⟩)] W fun e w' => ∃ E : Int, e = .returned (.tuple #[.int .u32 ((rvV l at_ 4 : Nat) : Int), .int .i64 E]) ∧ (E == 0) = okR l at_ 4 ∧ RPost W w' w.heap.size r ao cap l (raA l at_ 4)) := (ru32_any w.heap.size r ao cap l at_ W h.rd).mono fun e w' hh => by
    rcases hh with ⟨h1, h2, h3⟩ | ⟨h1, h2, h3⟩
    · have e0 : okR l at_ 4 = false := by unfold okR; simp; omega
      exact ⟨10, by rw [h2]; simp [rvV, e0], by rw [e0]; rfl, by simpa [raA, e0] using h3⟩
    · have e0 : okR l at_ 4 = true := by unfold okR; simp; omega
      exact ⟨0, by rw [h2]; simp [rvV, e0], by rw [e0]; rfl, by simpa [raA, e0] using h3⟩
  have c0 := h.c0
  have H : Hid (Bg w W c r ao cap l at_ er) := h
  clear h
  generalize rvV l at_ 4 = v at *
  generalize raA l at_ 4 = a2 at *
  generalize okR l at_ 4 = ok at *
  go_enter Tryz.func36, Tryz.ntmps36
  go_wp2_with fail
  refine Calls.mono HU.out ?_
  rintro e W1 ⟨E, rfl, hE, hp⟩
  have H1 : Hid (Bg w W1 c r ao cap l a2 er ∧ KeptIn (fun g => g = r) W W1) := ⟨H.out.moved hp, hp.kept⟩
  clear hp HU H c0
  go_wp2_with fail
  refine (needG ok H1.out.1).mono ?_
  rintro e W2 ⟨rfl, hb2, hk2⟩
  have H2 : Hid (Bg w W2 c r ao cap l a2 (ndE ok er) ∧ KeptIn (two c r) W W2) := ⟨hb2, two_trans (two_of_r H1.out.2) (two_of_c hk2)⟩
  clear hb2 hk2 H1
  go_wp2
  go_ret
  exact ⟨rfl, H2.out⟩
set_option maxHeartbeats 1000000 in
theorem bu64G {w W : World} {c r : Nat} {ao : Option Addr} {cap : Nat} {l : List Nat} {at_ er : Nat} (h : Bg w W c r ao cap l at_ er) : Calls Tryz.prog 33 #[.pointer (some ⟨c, 0, none⟩)] W fun e w' => e = .returned (.int .u64 ((rvV l at_ 8 : Nat) : Int)) ∧ Bg w w' c r ao cap l (raA l at_ 8) (ndE (okR l at_ 8) er) ∧ KeptIn (two c r) W w' := by
  have HU : Hid (Calls Tryz.prog 64 #[.pointer (some ⟨r, 0, none⟩)] W fun e w' => ∃ E : Int, e = .returned (.tuple #[.int .u64 ((rvV l at_ 8 : Nat) : Int), .int .i64 E]) ∧ (E == 0) = okR l at_ 8 ∧ RPost W w' w.heap.size r ao cap l (raA l at_ 8)) := (ru64_any w.heap.size r ao cap l at_ W h.rd).mono fun e w' hh => by
    rcases hh with ⟨h1, h2, h3⟩ | ⟨h1, h2, h3⟩
    · have e0 : okR l at_ 8 = false := by unfold okR; simp; omega
      exact ⟨10, by rw [h2]; simp [rvV, e0], by rw [e0]; rfl, by simpa [raA, e0] using h3⟩
    · have e0 : okR l at_ 8 = true := by unfold okR; simp; omega
      exact ⟨0, by rw [h2]; simp [rvV, e0], by rw [e0]; rfl, by simpa [raA, e0] using h3⟩
  have c0 := h.c0
  have H : Hid (Bg w W c r ao cap l at_ er) := h
  clear h
  generalize rvV l at_ 8 = v at *
  generalize raA l at_ 8 = a2 at *
  generalize okR l at_ 8 = ok at *
  go_enter Tryz.func33, Tryz.ntmps33
  go_wp2_with fail
  refine Calls.mono HU.out ?_
  rintro e W1 ⟨E, rfl, hE, hp⟩
  have H1 : Hid (Bg w W1 c r ao cap l a2 er ∧ KeptIn (fun g => g = r) W W1) := ⟨H.out.moved hp, hp.kept⟩
  clear hp HU H c0
  go_wp2_with fail
  refine (needG ok H1.out.1).mono ?_
  rintro e W2 ⟨rfl, hb2, hk2⟩
  have H2 : Hid (Bg w W2 c r ao cap l a2 (ndE ok er) ∧ KeptIn (two c r) W W2) := ⟨hb2, two_trans (two_of_r H1.out.2) (two_of_c hk2)⟩
  clear hb2 hk2 H1
  go_wp2
  go_ret
  exact ⟨rfl, H2.out⟩
set_option maxHeartbeats 1000000 in
theorem bnumG {w W : World} {c r : Nat} {ao : Option Addr} {cap : Nat} {l : List Nat} {at_ er : Nat} (wide : Bool) (h : Bg w W c r ao cap l at_ er) : Calls Tryz.prog 52 #[.pointer (some ⟨c, 0, none⟩), .bool wide] W fun e w' => e = .returned (.int .u64 ((rvV l at_ (if wide = true then 8 else 4) : Nat) : Int)) ∧ Bg w w' c r ao cap l (raA l at_ (if wide = true then 8 else 4)) (ndE (okR l at_ (if wide = true then 8 else 4)) er) ∧ KeptIn (two c r) W w' := by
  cases wide with
  | true =>
    have HU : Hid _ := bu64G h
    clear h
    simp only [if_true]
    go_enter Tryz.func52, Tryz.ntmps52
    go_wp2_with fail
    refine Calls.mono HU.out ?_
    rintro e W1 ⟨rfl, hh⟩
    have HH : Hid _ := hh
    clear hh HU
    go_wp2
    go_ret
    exact ⟨rfl, HH.out⟩
  | false =>
    have hlt : rvV l at_ 4 < 18446744073709551616 := by
      unfold rvV
      split
      · have := valB_bound l at_ 4 h.rd.lt
        have : (256 : Nat) ^ 4 = 4294967296 := by decide
        omega
      · omega
    have hw : IntKind.u64.wrap ((rvV l at_ 4 : Nat) : Int) = ((rvV l at_ 4 : Nat) : Int) := by rw [IntKind.wrap_u64]; omega
    have HU : Hid _ := bu32G h
    clear h hlt
    simp only [Bool.false_eq_true, if_false]
    generalize rvV l at_ 4 = v at *
    go_enter Tryz.func52, Tryz.ntmps52
    go_wp2_with fail
    refine Calls.mono HU.out ?_
    rintro e W1 ⟨rfl, hh⟩
    have HH : Hid _ := hh
    clear hh HU
    go_wp2
    go_ret
    exact ⟨rfl, HH.out⟩
set_option maxHeartbeats 1000000 in
theorem bleftG {w W : World} {c r : Nat} {ao : Option Addr} {cap : Nat} {l : List Nat} {at_ er n : Nat} (h : Bg w W c r ao cap l at_ er) (hn : l.length - at_ = n) : Calls Tryz.prog 35 #[.pointer (some ⟨c, 0, none⟩)] W fun e w' => e = .returned (.int .i64 (n : Int)) ∧ ∃ q, w' = W.drewN q := by
  have HL : Hid (Calls Tryz.prog 66 #[.pointer (some ⟨r, 0, none⟩)] W fun e w' => e = .returned (.int .i64 (n : Int)) ∧ ∃ q, w' = W.drewN q) := by
    have h1 := rleft_any w.heap.size r ao cap l at_ l.length W h.rd (show Hid (l.length = l.length) from rfl)
    have e : ((l.length : Nat) : Int) - (at_ : Int) = (n : Int) := by have := h.rd.le; omega
    rw [e] at h1
    exact h1
  have c0 := h.c0
  clear h
  go_enter Tryz.func35, Tryz.ntmps35
  go_wp2_with fail
  refine HL.out.mono ?_
  rintro e W1 ⟨rfl, q, hw⟩
  rw [hw]; clear hw HL
  go_wp2
  go_ret
  exact ⟨rfl, q, rfl⟩
theorem rrawG {w W : World} {c r : Nat} {ao : Option Addr} {cap : Nat} {l : List Nat} {at_ er : Nat} (N : Nat) (h : Bg w W c r ao cap l at_ er) : Calls Tryz.prog 68 #[.pointer (some ⟨r, 0, none⟩), .int .i64 (N : Int)] W fun e w' => ∃ (E : Int) (n : Nat) (ao' : Option Addr) (cap' : Nat), e = .returned (.tuple #[.slice ao' n cap', .int .i64 E]) ∧ n = (rrL l at_ N).length ∧ (E == 0) = okR l at_ N ∧ w'.ownsRow W.heap.size 5 1 (.slice ao' n cap') n ((rrL l at_ N).map bv) ∧ RPost W w' w.heap.size r ao cap l (raA l at_ N) := by
  by_cases hok : at_ + N ≤ l.length
  · have e0 : okR l at_ N = true := by unfold okR; simp [hok]
    have el : (rrL l at_ N).length = N := by simp [rrL, e0]; omega
    rcases hao : ao with _ | a
    · subst hao
      obtain ⟨rfl, rfl⟩ : cap = 0 ∧ l = [] := by
        rcases h.rd.own.2 with ⟨h1, h2⟩ | ⟨g, cp, cur, h1, _⟩
        · simp only [Value.slice.injEq, true_and] at h1
          exact ⟨h1.2, List.eq_nil_of_length_eq_zero h2⟩
        · simp at h1
      obtain ⟨rfl, rfl⟩ : at_ = 0 ∧ N = 0 := by simp at hok; exact hok
      refine (rraw_nil w.heap.size r W h.rd).mono ?_
      rintro e w' ⟨a2, c2, rfl, ho, hp⟩
      exact ⟨0, 0, a2, c2, rfl, by simp [rrL], by rw [e0]; rfl, by simpa [rrL] using ho, by simpa [raA, e0] using hp⟩
    · subst hao
      obtain ⟨g, rfl⟩ : ∃ g, a = ⟨g, 0, none⟩ := by
        rcases h.rd.own.2 with ⟨h1, h2⟩ | ⟨g, cp, cur, h1, _⟩
        · simp at h1
        · simp only [Value.slice.injEq, Option.some.injEq] at h1
          exact ⟨g, h1.1⟩
      refine (rraw_ok w.heap.size r g cap l at_ l.length N W h.rd (show Hid (l.length = l.length) from rfl) hok).mono ?_
      rintro e w' ⟨a2, c2, rfl, ho, hp⟩
      exact ⟨0, N, a2, c2, rfl, el.symm, by rw [e0]; rfl, by simpa [rrL, e0] using ho, by simpa [raA, e0] using hp⟩
  · have e0 : okR l at_ N = false := by unfold okR; simp; omega
    refine (rraw_short w.heap.size r ao cap l at_ l.length N W h.rd (show Hid (l.length = l.length) from rfl) (by omega)).mono ?_
    rintro e w' ⟨rfl, q, rfl⟩
    exact ⟨10, 0, none, 0, rfl, by simp [rrL, e0], by rw [e0]; rfl, by simp [rrL, e0]; exact World.ownsRow_nil _ _ _ _, by simpa [raA, e0] using RPost.same h.rd q⟩
set_option maxHeartbeats 1000000 in
theorem brawG {w W : World} {c r : Nat} {ao : Option Addr} {cap : Nat} {l : List Nat} {at_ er : Nat} (N : Nat) (h : Bg w W c r ao cap l at_ er) : Calls Tryz.prog 37 #[.pointer (some ⟨c, 0, none⟩), .int .i64 (N : Int)] W fun e w' => ∃ (n : Nat) (ao' : Option Addr) (cap' : Nat), e = .returned (.slice ao' n cap') ∧ n = (rrL l at_ N).length ∧ w'.ownsRow W.heap.size 5 1 (.slice ao' n cap') n ((rrL l at_ N).map bv) ∧ Bg w w' c r ao cap l (raA l at_ N) (ndE (okR l at_ N) er) ∧ KeptIn (two c r) W w' := by
  have HU : Hid _ := rrawG N h
  have c0 := h.c0
  have H : Hid (Bg w W c r ao cap l at_ er) := h
  clear h
  generalize raA l at_ N = a2 at *
  generalize okR l at_ N = ok at *
  generalize rrL l at_ N = L at *
  go_enter Tryz.func37, Tryz.ntmps37
  go_wp2_with fail
  refine Calls.mono HU.out ?_
  rintro e W1 ⟨E, n, aq, cq, rfl, hn, hE, ho, hp⟩
  have H1 : Hid (Bg w W1 c r ao cap l a2 er ∧ KeptIn (fun g => g = r) W W1 ∧ W1.ownsRow W.heap.size 5 1 (.slice aq n cq) n (L.map bv)) := ⟨H.out.moved hp, hp.kept, ho⟩
  have HC : Hid (c < W.heap.size) := block_lt H.out.bd
  have HN : Hid (n = L.length) := hn
  clear hp HU H c0 ho hn
  go_wp2_with fail
  refine (needG ok H1.out.1).mono ?_
  rintro e W2 ⟨rfl, hb2, hk2⟩
  have H2 : Hid (Bg w W2 c r ao cap l a2 (ndE ok er) ∧ KeptIn (two c r) W W2) := ⟨hb2, two_trans (two_of_r H1.out.2.1) (two_of_c hk2)⟩
  have H3 : Hid (W2.ownsRow W.heap.size 5 1 (.slice aq n cq) n (L.map bv)) := owns_same H1.out.2.2 (fun g hg => hk2.block g (owns_lt H1.out.2.2 g hg).1 (fun e => by have h1 := (owns_lt H1.out.2.2 g hg).2; have h2 := HC.out; omega))
  clear hb2 hk2 H1
  go_wp2
  go_ret
  exact ⟨n, aq, cq, rfl, HN.out, H3.out, H2.out⟩
end Go.Proofs.YtfifaaopdhcaaaaGreatDoor

namespace Go.Proofs.YtfifaaopdhcaaaaGreatDoor
open Go.RowKit
set_option linter.unusedVariables false
set_option linter.unusedSimpArgs false
set_option maxRecDepth 100000
theorem KeptIn.drewd {S : Nat → Prop} {a b : World} (h : KeptIn S a b) : KeptIn S a b.drew := ⟨h.os, h.tape, h.output, h.size, h.block⟩
theorem rendG {w W : World} {c r : Nat} {ao : Option Addr} {cap : Nat} {l : List Nat} {at_ er : Nat} (h : Bg w W c r ao cap l at_ er) : Calls Tryz.prog 69 #[.pointer (some ⟨r, 0, none⟩)] W fun e w' => ∃ E : Int, e = .returned (.int .i64 E) ∧ (E == 0) = decide (at_ = l.length) ∧ ∃ q, w' = W.drewN q := by
  by_cases e : at_ = l.length
  · subst e
    exact (rend_any w.heap.size r ao cap l W h.rd).mono fun e w' hh => ⟨0, hh.1, by simp, hh.2⟩
  · have hlt : at_ < l.length := by have := h.rd.le; omega
    exact (rend_tail w.heap.size r ao cap l at_ l.length W h.rd (show Hid (l.length = l.length) from rfl) hlt).mono fun e' w' hh => ⟨11, hh.1, by simp [e], hh.2⟩
structure Bk2 (c : Nat) (W W7 : World) (A B : Array Value) (tA tB : TypeId) : Prop where
  a : W7.heap[W.heap.size]? = some (.cells A tA (0, 0))
  b : W7.heap[W.heap.size + 1]? = some (.cells B tB (0, 0))
  size : W.heap.size + 2 ≤ W7.heap.size
  kept : KeptIn (fun g => g = c) W W7
theorem Bk2.of {c : Nat} {W W6 W7 : World} {A B : Array Value} {tA tB : TypeId} (k : KeptIn (fun g => g = c) W6 W7) (h : Bx2 W W6 A B tA tB) (hc : c < W.heap.size) : Bk2 c W W7 A B tA tB :=
  ⟨by rw [k.block _ (block_lt h.a) (by omega)]; exact h.a, by rw [k.block _ (block_lt h.b) (by omega)]; exact h.b, Nat.le_trans h.size k.size, (KeptIn.ofBelow h.bel).trans k (fun _ _ hn => hn)⟩
theorem Bk2.later {c : Nat} {W W7 W8 : World} {A B : Array Value} {tA tB : TypeId} (h : Bk2 c W W7 A B tA tB) (k : Below W7.heap.size W7 W8) : Bk2 c W W8 A B tA tB :=
  ⟨by rw [k.block _ (block_lt h.a)]; exact h.a, by rw [k.block _ (block_lt h.b)]; exact h.b, Nat.le_trans h.size k.size, h.kept.trans (KeptIn.ofBelow (S := fun g => g = c) k) (fun _ _ hn => hn)⟩
theorem putc2 {W : World} {g : Nat} {t : TypeId} {a0 a1 : Value} (h : W.heap[g]? = some (.cells #[a0, a1] t (0, 0))) (v0 v1 : Value) :
    ((W.setCell ⟨g, 0, none⟩ v0).setCell ⟨g, 1, none⟩ v1).heap[g]? = some (.cells #[v0, v1] t (0, 0)) ∧ KeptIn (fun k => k = g) W ((W.setCell ⟨g, 0, none⟩ v0).setCell ⟨g, 1, none⟩ v1) := by
  have h0 : (W.setCell ⟨g, 0, none⟩ v0).heap[g]? = some (.cells #[v0, a1] t (0, 0)) := put_boxX h 0 v0 (by simp)
  have h1 : ((W.setCell ⟨g, 0, none⟩ v0).setCell ⟨g, 1, none⟩ v1).heap[g]? = some (.cells #[v0, v1] t (0, 0)) := put_boxX h0 1 v1 (by simp)
  exact ⟨h1, ((keptIn_set _ _ _ _).trans (keptIn_set _ _ _ _) (fun _ _ hn => hn))⟩
theorem putc4 {W : World} {g : Nat} {t : TypeId} {a0 a1 a2 a3 : Value} (h : W.heap[g]? = some (.cells #[a0, a1, a2, a3] t (0, 0))) (v0 v1 v2 v3 : Value) :
    ((((W.setCell ⟨g, 0, none⟩ v0).setCell ⟨g, 1, none⟩ v1).setCell ⟨g, 2, none⟩ v2).setCell ⟨g, 3, none⟩ v3).heap[g]? = some (.cells #[v0, v1, v2, v3] t (0, 0)) ∧ KeptIn (fun k => k = g) W ((((W.setCell ⟨g, 0, none⟩ v0).setCell ⟨g, 1, none⟩ v1).setCell ⟨g, 2, none⟩ v2).setCell ⟨g, 3, none⟩ v3) := by
  have h0 : (W.setCell ⟨g, 0, none⟩ v0).heap[g]? = some (.cells #[v0, a1, a2, a3] t (0, 0)) := put_boxX h 0 v0 (by simp)
  have h1 : ((W.setCell ⟨g, 0, none⟩ v0).setCell ⟨g, 1, none⟩ v1).heap[g]? = some (.cells #[v0, v1, a2, a3] t (0, 0)) := put_boxX h0 1 v1 (by simp)
  have h2 : (((W.setCell ⟨g, 0, none⟩ v0).setCell ⟨g, 1, none⟩ v1).setCell ⟨g, 2, none⟩ v2).heap[g]? = some (.cells #[v0, v1, v2, a3] t (0, 0)) := put_boxX h1 2 v2 (by simp)
  have h3 : ((((W.setCell ⟨g, 0, none⟩ v0).setCell ⟨g, 1, none⟩ v1).setCell ⟨g, 2, none⟩ v2).setCell ⟨g, 3, none⟩ v3).heap[g]? = some (.cells #[v0, v1, v2, v3] t (0, 0)) := put_boxX h2 3 v3 (by simp)
  exact ⟨h3, ((((keptIn_set _ _ _ _).trans (keptIn_set _ _ _ _) (fun _ _ hn => hn)).trans (keptIn_set _ _ _ _) (fun _ _ hn => hn)).trans (keptIn_set _ _ _ _) (fun _ _ hn => hn))⟩
theorem putc8 {W : World} {g : Nat} {t : TypeId} {a0 a1 a2 a3 a4 a5 a6 a7 : Value} (h : W.heap[g]? = some (.cells #[a0, a1, a2, a3, a4, a5, a6, a7] t (0, 0))) (v0 v1 v2 v3 v4 v5 v6 v7 : Value) :
    ((((((((W.setCell ⟨g, 0, none⟩ v0).setCell ⟨g, 1, none⟩ v1).setCell ⟨g, 2, none⟩ v2).setCell ⟨g, 3, none⟩ v3).setCell ⟨g, 4, none⟩ v4).setCell ⟨g, 5, none⟩ v5).setCell ⟨g, 6, none⟩ v6).setCell ⟨g, 7, none⟩ v7).heap[g]? = some (.cells #[v0, v1, v2, v3, v4, v5, v6, v7] t (0, 0)) ∧ KeptIn (fun k => k = g) W ((((((((W.setCell ⟨g, 0, none⟩ v0).setCell ⟨g, 1, none⟩ v1).setCell ⟨g, 2, none⟩ v2).setCell ⟨g, 3, none⟩ v3).setCell ⟨g, 4, none⟩ v4).setCell ⟨g, 5, none⟩ v5).setCell ⟨g, 6, none⟩ v6).setCell ⟨g, 7, none⟩ v7) := by
  have h0 : (W.setCell ⟨g, 0, none⟩ v0).heap[g]? = some (.cells #[v0, a1, a2, a3, a4, a5, a6, a7] t (0, 0)) := put_boxX h 0 v0 (by simp)
  have h1 : ((W.setCell ⟨g, 0, none⟩ v0).setCell ⟨g, 1, none⟩ v1).heap[g]? = some (.cells #[v0, v1, a2, a3, a4, a5, a6, a7] t (0, 0)) := put_boxX h0 1 v1 (by simp)
  have h2 : (((W.setCell ⟨g, 0, none⟩ v0).setCell ⟨g, 1, none⟩ v1).setCell ⟨g, 2, none⟩ v2).heap[g]? = some (.cells #[v0, v1, v2, a3, a4, a5, a6, a7] t (0, 0)) := put_boxX h1 2 v2 (by simp)
  have h3 : ((((W.setCell ⟨g, 0, none⟩ v0).setCell ⟨g, 1, none⟩ v1).setCell ⟨g, 2, none⟩ v2).setCell ⟨g, 3, none⟩ v3).heap[g]? = some (.cells #[v0, v1, v2, v3, a4, a5, a6, a7] t (0, 0)) := put_boxX h2 3 v3 (by simp)
  have h4 : (((((W.setCell ⟨g, 0, none⟩ v0).setCell ⟨g, 1, none⟩ v1).setCell ⟨g, 2, none⟩ v2).setCell ⟨g, 3, none⟩ v3).setCell ⟨g, 4, none⟩ v4).heap[g]? = some (.cells #[v0, v1, v2, v3, v4, a5, a6, a7] t (0, 0)) := put_boxX h3 4 v4 (by simp)
  have h5 : ((((((W.setCell ⟨g, 0, none⟩ v0).setCell ⟨g, 1, none⟩ v1).setCell ⟨g, 2, none⟩ v2).setCell ⟨g, 3, none⟩ v3).setCell ⟨g, 4, none⟩ v4).setCell ⟨g, 5, none⟩ v5).heap[g]? = some (.cells #[v0, v1, v2, v3, v4, v5, a6, a7] t (0, 0)) := put_boxX h4 5 v5 (by simp)
  have h6 : (((((((W.setCell ⟨g, 0, none⟩ v0).setCell ⟨g, 1, none⟩ v1).setCell ⟨g, 2, none⟩ v2).setCell ⟨g, 3, none⟩ v3).setCell ⟨g, 4, none⟩ v4).setCell ⟨g, 5, none⟩ v5).setCell ⟨g, 6, none⟩ v6).heap[g]? = some (.cells #[v0, v1, v2, v3, v4, v5, v6, a7] t (0, 0)) := put_boxX h5 6 v6 (by simp)
  have h7 : ((((((((W.setCell ⟨g, 0, none⟩ v0).setCell ⟨g, 1, none⟩ v1).setCell ⟨g, 2, none⟩ v2).setCell ⟨g, 3, none⟩ v3).setCell ⟨g, 4, none⟩ v4).setCell ⟨g, 5, none⟩ v5).setCell ⟨g, 6, none⟩ v6).setCell ⟨g, 7, none⟩ v7).heap[g]? = some (.cells #[v0, v1, v2, v3, v4, v5, v6, v7] t (0, 0)) := put_boxX h6 7 v7 (by simp)
  exact ⟨h7, ((((((((keptIn_set _ _ _ _).trans (keptIn_set _ _ _ _) (fun _ _ hn => hn)).trans (keptIn_set _ _ _ _) (fun _ _ hn => hn)).trans (keptIn_set _ _ _ _) (fun _ _ hn => hn)).trans (keptIn_set _ _ _ _) (fun _ _ hn => hn)).trans (keptIn_set _ _ _ _) (fun _ _ hn => hn)).trans (keptIn_set _ _ _ _) (fun _ _ hn => hn)).trans (keptIn_set _ _ _ _) (fun _ _ hn => hn))⟩
theorem infoH : (Tryz.prog.info? 86).map (·.size) = some 2 := by kernel_rfl
theorem infoD : (Tryz.prog.info? 80).map (·.size) = some 2 := by kernel_rfl
theorem infoM : (Tryz.prog.info? 53).map (·.size) = some 2 := by kernel_rfl
theorem infoS : (Tryz.prog.info? 59).map (·.size) = some 2 := by kernel_rfl
theorem infoR : (Tryz.prog.info? 38).map (·.size) = some 2 := by kernel_rfl
theorem infoQ : (Tryz.prog.info? 46).map (·.size) = some 2 := by kernel_rfl
theorem infoT : (Tryz.prog.info? 67).map (·.size) = some 2 := by kernel_rfl
theorem infoE : (Tryz.prog.info? 74).map (·.size) = some 4 := by kernel_rfl
theorem infoI : (Tryz.prog.info? 28).map (·.size) = some 8 := by kernel_rfl
end Go.Proofs.YtfifaaopdhcaaaaGreatDoor

namespace Go.Proofs.YtfifaaopdhcaaaaGreatDoor
open Go.RowKit
set_option linter.unusedVariables false
set_option linter.unusedSimpArgs false
set_option maxRecDepth 100000
set_option maxHeartbeats 2000000 in
theorem wholeM_ok (x0 : Nat) (x1 : ByteArray) {w W : World} {c r : Nat} {ao : Option Addr} {cap : Nat} {l : List Nat} {at_ er : Nat} (h : Bg w W c r ao cap l at_ er) (hn : ndE (decide (at_ = l.length)) er = 0) :
    Calls Tryz.prog 48 #[.pointer (some ⟨c, 0, none⟩), .agg #[.int .u32 (x0 : Int), .string x1]] W fun e w' => e = .returned (.tuple #[.agg #[.int .u32 (x0 : Int), .string x1], .int .i64 0]) ∧ Below w.heap.size w w' ∧ KeptIn (fun g => g = c) W w' := by
  have HN : Hid (ndE (decide (at_ = l.length)) er = 0) := hn
  clear hn
  have HE : Hid (∀ W, Bg w W c r ao cap l at_ er → Calls Tryz.prog 69 #[.pointer (some ⟨r, 0, none⟩)] W fun e w' => ∃ E : Int, e = .returned (.int .i64 E) ∧ (E == 0) = decide (at_ = l.length) ∧ ∃ q, w' = W.drewN q) := fun W h => rendG h
  have H : Hid (Bg w W c r ao cap l at_ er) := h
  clear h
  have q00 : ∀ o o', ((W.alloc o).alloc o').cell? ⟨c, 0, none⟩ = some (.pointer (some ⟨r, 0, none⟩)) := fun o o' => (H.out.later (below2 W o o')).c0
  go_enter Tryz.func48, Tryz.ntmps48
  go_wp2_with fail
  have hx : Bx2 W ((W.alloc (Obj.cells #[.int .u32 (x0 : Int), .string x1] 53)).alloc (Obj.cells #[.int .u32 0, .string ⟨#[]⟩] 53)) #[.int .u32 (x0 : Int), .string x1] #[.int .u32 0, .string ⟨#[]⟩] 53 53 := mkb2 W _ _ _ _
  generalize ((W.alloc (Obj.cells #[.int .u32 (x0 : Int), .string x1] 53)).alloc (Obj.cells #[.int .u32 0, .string ⟨#[]⟩] 53)) = W5 at *
  refine (HE.out _ (H.out.later hx.bel)).mono ?_
  rintro e W6 ⟨E, rfl, hE, q, hw⟩
  have hy : Bx2 W W6 #[.int .u32 (x0 : Int), .string x1] #[.int .u32 0, .string ⟨#[]⟩] 53 53 := by rw [hw]; exact hx.later (below_drewN _ q)
  have H6 : Hid (Bg w W6 c r ao cap l at_ er ∧ Bx2 W W6 #[.int .u32 (x0 : Int), .string x1] #[.int .u32 0, .string ⟨#[]⟩] 53 53) := ⟨H.out.later hy.bel, hy⟩
  clear hw hx hy HE q00
  generalize hD : decide (at_ = l.length) = D at *
  go_wp2_with fail
  refine (needG D H6.out.1).mono ?_
  rintro e W7 ⟨rfl, hb7, hk7⟩
  rw [HN.out] at hb7
  have hcW : c < W.heap.size := block_lt H.out.bd
  have H7 : Hid (Bg w W7 c r ao cap l at_ 0 ∧ Bk2 c W W7 #[.int .u32 (x0 : Int), .string x1] #[.int .u32 0, .string ⟨#[]⟩] 53 53) := ⟨hb7, Bk2.of hk7 H6.out.2 hcW⟩
  have kc1 := hb7.c1
  clear hb7 hk7 H6 hD
  go_wp2_with fail
  refine (wellG c 0 W7 kc1).mono ?_
  rintro e W8 ⟨rfl, hw⟩
  rw [hw]; clear hw
  have hy := H7.out.2
  have za0 : W7.cell? ⟨W.heap.size, 0, none⟩ = some (.int .u32 (x0 : Int)) := by rw [blk_at hy.a]; rfl
  have zb0 : W7.cell? ⟨W.heap.size + 1, 0, none⟩ = some (.int .u32 0) := by rw [blk_at hy.b]; rfl
  have yb0 : W7.frozen? ⟨W.heap.size + 1, 0, none⟩ = false := blk_free hy.b 0
  have za1 : W7.cell? ⟨W.heap.size, 1, none⟩ = some (.string x1) := by rw [blk_at hy.a]; rfl
  have zb1 : W7.cell? ⟨W.heap.size + 1, 1, none⟩ = some (.string ⟨#[]⟩) := by rw [blk_at hy.b]; rfl
  have yb1 : W7.frozen? ⟨W.heap.size + 1, 1, none⟩ = false := blk_free hy.b 1
  clear hy
  go_wp2
  obtain ⟨hp, hq⟩ := putc2 H7.out.2.b (.int .u32 (x0 : Int)) (.string x1)
  exact bodyPost_ret (results_cell_tmp1 rfl _ _ (W.heap.size + 1) 53 _ (0, 0) _ rfl hp Tryz.underlying53 rfl infoM) rfl ⟨rfl, H7.out.1.bel.trans (hq.below H7.out.1.bel.size (fun g hg => by have := H.out.bel.size; omega)), H7.out.2.kept.trans hq (fun g hg _ => by omega)⟩
set_option maxHeartbeats 2000000 in
theorem wholeM_no (x0 : Nat) (x1 : ByteArray) {w W : World} {c r : Nat} {ao : Option Addr} {cap : Nat} {l : List Nat} {at_ er : Nat} (z : Nat) (hz : z ≠ 0) (h : Bg w W c r ao cap l at_ er) (hn : ndE (decide (at_ = l.length)) er = z) :
    Calls Tryz.prog 48 #[.pointer (some ⟨c, 0, none⟩), .agg #[.int .u32 (x0 : Int), .string x1]] W fun e w' => e = .returned (.tuple #[.agg #[.int .u32 0, .string ⟨#[]⟩], .int .i64 (z : Int)]) ∧ Below w.heap.size w w' ∧ KeptIn (fun g => g = c) W w' := by
  have HN : Hid (ndE (decide (at_ = l.length)) er = z) := hn
  have f0 : ((z : Int) == 0) = false := by rw [beq_eq_false_iff_ne]; omega
  clear hn hz
  have HE : Hid (∀ W, Bg w W c r ao cap l at_ er → Calls Tryz.prog 69 #[.pointer (some ⟨r, 0, none⟩)] W fun e w' => ∃ E : Int, e = .returned (.int .i64 E) ∧ (E == 0) = decide (at_ = l.length) ∧ ∃ q, w' = W.drewN q) := fun W h => rendG h
  have H : Hid (Bg w W c r ao cap l at_ er) := h
  clear h
  have q00 : ∀ o o', ((W.alloc o).alloc o').cell? ⟨c, 0, none⟩ = some (.pointer (some ⟨r, 0, none⟩)) := fun o o' => (H.out.later (below2 W o o')).c0
  go_enter Tryz.func48, Tryz.ntmps48
  go_wp2_with fail
  have hx : Bx2 W ((W.alloc (Obj.cells #[.int .u32 (x0 : Int), .string x1] 53)).alloc (Obj.cells #[.int .u32 0, .string ⟨#[]⟩] 53)) #[.int .u32 (x0 : Int), .string x1] #[.int .u32 0, .string ⟨#[]⟩] 53 53 := mkb2 W _ _ _ _
  generalize ((W.alloc (Obj.cells #[.int .u32 (x0 : Int), .string x1] 53)).alloc (Obj.cells #[.int .u32 0, .string ⟨#[]⟩] 53)) = W5 at *
  refine (HE.out _ (H.out.later hx.bel)).mono ?_
  rintro e W6 ⟨E, rfl, hE, q, hw⟩
  have hy : Bx2 W W6 #[.int .u32 (x0 : Int), .string x1] #[.int .u32 0, .string ⟨#[]⟩] 53 53 := by rw [hw]; exact hx.later (below_drewN _ q)
  have H6 : Hid (Bg w W6 c r ao cap l at_ er ∧ Bx2 W W6 #[.int .u32 (x0 : Int), .string x1] #[.int .u32 0, .string ⟨#[]⟩] 53 53) := ⟨H.out.later hy.bel, hy⟩
  clear hw hx hy HE q00
  generalize hD : decide (at_ = l.length) = D at *
  go_wp2_with fail
  refine (needG D H6.out.1).mono ?_
  rintro e W7 ⟨rfl, hb7, hk7⟩
  rw [HN.out] at hb7
  have hcW : c < W.heap.size := block_lt H.out.bd
  have H7 : Hid (Bg w W7 c r ao cap l at_ z ∧ Bk2 c W W7 #[.int .u32 (x0 : Int), .string x1] #[.int .u32 0, .string ⟨#[]⟩] 53 53) := ⟨hb7, Bk2.of hk7 H6.out.2 hcW⟩
  have kc1 := hb7.c1
  clear hb7 hk7 H6 hD
  go_wp2_with fail
  refine (wellG c z W7 kc1).mono ?_
  rintro e W8 ⟨rfl, hw⟩
  rw [hw]; clear hw
  rw [f0]
  have hy := H7.out.2
  have zb0 : W7.cell? ⟨W.heap.size + 1, 0, none⟩ = some (.int .u32 0) := by rw [blk_at hy.b]; rfl
  have yb0 : W7.frozen? ⟨W.heap.size + 1, 0, none⟩ = false := blk_free hy.b 0
  have zb1 : W7.cell? ⟨W.heap.size + 1, 1, none⟩ = some (.string ⟨#[]⟩) := by rw [blk_at hy.b]; rfl
  have yb1 : W7.frozen? ⟨W.heap.size + 1, 1, none⟩ = false := blk_free hy.b 1
  clear hy
  have hN := below1 W7 (Obj.cells #[.int .u32 0, .string ⟨#[]⟩] 53)
  have hc8 : (W7.alloc (Obj.cells #[.int .u32 0, .string ⟨#[]⟩] 53)).cell? ⟨c, 1, none⟩ = some (.int .i64 (z : Int)) := cell_later hN kc1
  have hb8 := (H7.out.2.later hN).b
  have H8 : Hid (Below w.heap.size w (W7.alloc (Obj.cells #[.int .u32 0, .string ⟨#[]⟩] 53)) ∧ KeptIn (fun g => g = c) W (W7.alloc (Obj.cells #[.int .u32 0, .string ⟨#[]⟩] 53)) ∧ (W7.alloc (Obj.cells #[.int .u32 0, .string ⟨#[]⟩] 53)).heap[W.heap.size + 1]? = some (.cells #[.int .u32 0, .string ⟨#[]⟩] 53 (0, 0))) := ⟨H7.out.1.bel.trans (hN.mono H7.out.1.bel.size), (H7.out.2.later hN).kept, hb8⟩
  have zn0 : (W7.alloc (Obj.cells #[.int .u32 0, .string ⟨#[]⟩] 53)).cell? ⟨W.heap.size + 1, 0, none⟩ = some (.int .u32 0) := by rw [blk_at hb8]; rfl
  have yn0 : (W7.alloc (Obj.cells #[.int .u32 0, .string ⟨#[]⟩] 53)).frozen? ⟨W.heap.size + 1, 0, none⟩ = false := blk_free hb8 0
  have zn1 : (W7.alloc (Obj.cells #[.int .u32 0, .string ⟨#[]⟩] 53)).cell? ⟨W.heap.size + 1, 1, none⟩ = some (.string ⟨#[]⟩) := by rw [blk_at hb8]; rfl
  have yn1 : (W7.alloc (Obj.cells #[.int .u32 0, .string ⟨#[]⟩] 53)).frozen? ⟨W.heap.size + 1, 1, none⟩ = false := blk_free hb8 1
  clear hN hb8
  go_wp2
  go_region
  go_wp2
  obtain ⟨hp, hq⟩ := putc2 H8.out.2.2 (.int .u32 0) (.string ⟨#[]⟩)
  have hq' := hq.drewd
  exact bodyPost_ret (results_cell_tmp1 rfl _ _ (W.heap.size + 1) 53 _ (0, 0) _ rfl hp Tryz.underlying53 rfl infoM) rfl ⟨rfl, H8.out.1.trans (hq'.below H8.out.1.size (fun g hg => by have := H.out.bel.size; omega)), H8.out.2.1.trans hq' (fun g hg _ => by omega)⟩
end Go.Proofs.YtfifaaopdhcaaaaGreatDoor
