import Derived.Test.YtjikibhhhchgeaaDoorY14
import Derived.Test.YtjikibhhhchgeaaDoorY18
namespace Go.Proofs.YtjikibhhhchgeaaDoor
open Go.RowKit
set_option linter.unusedVariables false
set_option linter.unusedSimpArgs false
set_option maxRecDepth 100000
/-- does a text with its length stand there? -/
def okT (l : List Nat) (at_ : Nat) : Bool := okR l at_ 4 && (decide (valB ((l.drop at_).take 4) ≤ 4096) && (okR l (at_ + 4) (valB ((l.drop at_).take 4)) && plainB (bstr ((l.drop (at_ + 4)).take (valB ((l.drop at_).take 4)))).data.toList))
def tvS (l : List Nat) (at_ : Nat) : ByteArray := if okT l at_ = true then bstr ((l.drop (at_ + 4)).take (valB ((l.drop at_).take 4))) else ⟨#[]⟩
def taA (l : List Nat) (at_ : Nat) : Nat := if okT l at_ = true then at_ + 4 + valB ((l.drop at_).take 4) else at_
theorem rtextG {w W : World} {c r : Nat} {ao : Option Addr} {cap : Nat} {l : List Nat} {at_ er : Nat} (h : Bg w W c r ao cap l at_ er) (hT : Tabs W) : Calls Tryd.prog 109 #[.pointer (some ⟨r, 0, none⟩), .int .i64 4096] W fun e w' => ∃ (E : Int), e = .returned (.tuple #[.string (tvS l at_), .int .i64 E]) ∧ (E == 0) = okT l at_ ∧ RPost W w' w.heap.size r ao cap l (taA l at_) := by
  have hB : w.heap.size ≤ W.heap.size := h.bel.size
  have no : ∀ E : Int, okT l at_ = false → (E == 0) = false → ∀ (e : Ending) (w' : World), e = .returned (.tuple #[.string ⟨#[]⟩, .int .i64 E]) ∧ RPost W w' w.heap.size r ao cap l at_ → ∃ (E : Int), e = .returned (.tuple #[.string (tvS l at_), .int .i64 E]) ∧ (E == 0) = okT l at_ ∧ RPost W w' w.heap.size r ao cap l (taA l at_) := fun E h1 h2 e w' hh =>
    ⟨E, by rw [hh.1]; simp [tvS, h1], by rw [h1, h2], by simpa [taA, h1] using hh.2⟩
  by_cases h4 : at_ + 4 ≤ l.length
  · have o1 : okR l at_ 4 = true := by simp [okR, h4]
    obtain ⟨g, rfl⟩ := some_of_len h.rd (by omega)
    obtain ⟨N, hN⟩ : ∃ N, valB ((l.drop at_).take 4) = N := ⟨_, rfl⟩
    by_cases hm : N ≤ 4096
    · by_cases hend : at_ + 4 + N ≤ l.length
      · have o2 : okR l (at_ + 4) N = true := by simp [okR, hend]
        cases hp : plainB (bstr ((l.drop (at_ + 4)).take N)).data.toList with
        | true =>
          have o3 : okT l at_ = true := by simp [okT, o1, hN, hm, o2, hp]
          refine (rtext_ok w.heap.size r g cap l at_ l.length N 4096 W h.rd hT (show Hid (l.length = l.length) from rfl) (show Hid _ from hN) h4 hm (by decide) hend hB (show Hid _ from hp)).mono fun e w' hh => ?_
          exact ⟨0, by rw [hh.1]; simp [tvS, o3, hN], by rw [o3]; rfl, by simpa [taA, o3, hN] using hh.2⟩
        | false =>
          refine (rtext_bad w.heap.size r g cap l at_ l.length N 4096 W h.rd (show Hid (l.length = l.length) from rfl) (show Hid _ from hN) h4 hB hT hm (by decide) hend (show Hid _ from hp)).mono (no 13 (by simp [okT, hN, hp]) rfl)
      · exact (rtext_past w.heap.size r g cap l at_ l.length N 4096 W h.rd (show Hid (l.length = l.length) from rfl) (show Hid _ from hN) h4 hB hm (by decide) (by omega)).mono (no 10 (by have : okR l (at_ + 4) N = false := by { simp [okR]; omega }; simp [okT, hN, this]) rfl)
    · exact (rtext_big w.heap.size r g cap l at_ l.length N 4096 W h.rd (show Hid (l.length = l.length) from rfl) (show Hid _ from hN) h4 hB (by omega) (by decide)).mono (no 12 (by simp [okT, hN, hm]) rfl)
  · exact (rtext_none w.heap.size r ao cap l at_ l.length 4096 W h.rd (show Hid (l.length = l.length) from rfl) (by omega) hB).mono (no 10 (by have : okR l at_ 4 = false := by { simp [okR]; omega }; simp [okT, this]) rfl)
set_option maxHeartbeats 1000000 in
theorem btextG {w W : World} {c r : Nat} {ao : Option Addr} {cap : Nat} {l : List Nat} {at_ er : Nat} (h : Bg w W c r ao cap l at_ er) (hT : Tabs W) : Calls Tryd.prog 60 #[.pointer (some ⟨c, 0, none⟩)] W fun e w' => e = .returned (.string (tvS l at_)) ∧ Bg w w' c r ao cap l (taA l at_) (ndE (okT l at_) er) ∧ KeptIn (two c r) W w' := by
  have HU : Hid _ := rtextG h hT
  have c0 := h.c0
  have H : Hid (Bg w W c r ao cap l at_ er) := h
  clear h hT
  generalize tvS l at_ = v at *
  generalize taA l at_ = a2 at *
  generalize okT l at_ = ok at *
  go_enter Tryd.func60, Tryd.ntmps60
  go_wp2_with fail
  refine Calls.mono HU.out ?_
  rintro e W1 ⟨E, rfl, hE, hp⟩
  have H1 : Hid (Bg w W1 c r ao cap l a2 er ∧ KeptIn (fun g => g = r) W W1) := ⟨H.out.moved hp, hp.kept⟩
  clear hp HU H c0
  go_wp2_with fail
  refine (needG ok H1.out.1).mono ?_
  rintro e W2 ⟨rfl, hb2, hk2⟩
  have H2 : Hid (Bg w W2 c r ao cap l a2 (ndE ok er) ∧ KeptIn (two c r) W W2) := ⟨hb2, two_trans (two_of_r H1.out.2) (two_of_c hk2)⟩
  clear hb2 hk2 H1
  go_wp2
  go_ret
  exact ⟨rfl, H2.out⟩
end Go.Proofs.YtjikibhhhchgeaaDoor

namespace Go.Proofs.YtjikibhhhchgeaaDoor
open Go.RowKit
set_option linter.unusedVariables false
set_option linter.unusedSimpArgs false
set_option maxRecDepth 100000
def cnE (n most er : Nat) : Nat := if most < n then (if er = 0 then 170 else er) else er
def cnV (n most er : Nat) : Nat := if cnE n most er = 0 then n else 0
set_option maxHeartbeats 1000000 in
theorem countG {w W : World} {c r : Nat} {ao : Option Addr} {cap : Nat} {l : List Nat} {at_ er : Nat} (n most : Nat) (hn : n < 4294967296) (hm : most < 4294967296) (h : Bg w W c r ao cap l at_ er) : Calls Tryd.prog 61 #[.pointer (some ⟨c, 0, none⟩), .int .u32 (n : Int), .int .u32 (most : Int)] W fun e w' => e = .returned (.int .i64 ((cnV n most er : Nat) : Int)) ∧ Bg w w' c r ao cap l at_ (cnE n most er) ∧ KeptIn (two c r) W w' := by
  have hwn : IntKind.i64.wrap (n : Int) = (n : Int) := by rw [IntKind.wrap_i64]; omega
  have H : Hid (Bg w W c r ao cap l at_ er) := h
  have HR : Hid (Calls Tryd.prog 110 #[.pointer (some ⟨c, 0, none⟩), .int .i64 170] W fun e w' => e = .returned (.tuple #[]) ∧ Bg w w' c r ao cap l at_ (if er = 0 then 170 else er) ∧ KeptIn (fun g => g = c) W w') := refuseG 170 h
  by_cases hlt : most < n
  · have d1 : decide (most < n) = true := by simpa using hlt
    have eE : cnE n most er = (if er = 0 then 170 else er) := by unfold cnE; rw [if_pos hlt]
    have hne : (if er = 0 then 170 else er) ≠ 0 := by split <;> simp_all
    have eV : cnV n most er = 0 := by unfold cnV; rw [eE, if_neg hne]
    rw [eE, eV]
    clear eE eV h hlt hn hm
    generalize (if er = 0 then 170 else er) = E at *
    have f0 : ((E : Int) == 0) = false := by rw [beq_eq_false_iff_ne]; omega
    go_enter Tryd.func61, Tryd.ntmps61
    go_wp2_with fail
    refine HR.out.mono ?_
    rintro e W1 ⟨rfl, hb1, hk1⟩
    have kc1 := hb1.c1
    have H1 : Hid (Bg w W1 c r ao cap l at_ E ∧ KeptIn (two c r) W W1) := ⟨hb1, two_of_c hk1⟩
    clear hb1 hk1 HR H
    go_wp2_with fail
    refine (wellG c E W1 kc1).mono ?_
    rintro e W8 ⟨rfl, hw⟩
    rw [hw]; clear hw
    rw [f0]
    go_wp2
    go_ret
    exact ⟨rfl, H1.out⟩
  · have d1 : decide (most < n) = false := by simpa using hlt
    have eE : cnE n most er = er := by unfold cnE; rw [if_neg hlt]
    have kc1 := h.c1
    rw [eE]
    by_cases he : er = 0
    · have eV : cnV n most er = n := by unfold cnV; rw [eE, if_pos he]
      rw [eV]
      subst he
      clear eE eV h hlt hn hm HR
      go_enter Tryd.func61, Tryd.ntmps61
      go_wp2_with fail
      refine (wellG c 0 W kc1).mono ?_
      rintro e W8 ⟨rfl, hw⟩
      rw [hw]; clear hw
      go_wp2
      go_ret
      exact ⟨rfl, H.out, two_below (Below.refl _ _)⟩
    · have eV : cnV n most er = 0 := by unfold cnV; rw [eE, if_neg he]
      rw [eV]
      have f0 : ((er : Int) == 0) = false := by rw [beq_eq_false_iff_ne]; omega
      clear eE eV h hlt hn hm HR
      go_enter Tryd.func61, Tryd.ntmps61
      go_wp2_with fail
      refine (wellG c er W kc1).mono ?_
      rintro e W8 ⟨rfl, hw⟩
      rw [hw]; clear hw
      rw [f0]
      go_wp2
      go_ret
      exact ⟨rfl, H.out, two_below (Below.refl _ _)⟩
end Go.Proofs.YtjikibhhhchgeaaDoor

namespace Go.Proofs.YtjikibhhhchgeaaDoor
open Go.RowKit
set_option linter.unusedVariables false
set_option linter.unusedSimpArgs false
set_option maxRecDepth 100000
set_option maxHeartbeats 2000000 in
theorem wholeR_ok (x0 : ByteArray) (x1 : Option Addr) (n1 c1 : Nat) {w W : World} {c r : Nat} {ao : Option Addr} {cap : Nat} {l : List Nat} {at_ er : Nat} (h : Bg w W c r ao cap l at_ er) (hn : ndE (decide (at_ = l.length)) er = 0) :
    Calls Tryd.prog 62 #[.pointer (some ⟨c, 0, none⟩), .agg #[.string x0, .slice x1 n1 c1]] W fun e w' => e = .returned (.tuple #[.agg #[.string x0, .slice x1 n1 c1], .int .i64 0]) ∧ Below w.heap.size w w' ∧ KeptIn (fun g => g = c) W w' := by
  have HN : Hid (ndE (decide (at_ = l.length)) er = 0) := hn
  clear hn
  have HE : Hid (∀ W, Bg w W c r ao cap l at_ er → Calls Tryd.prog 108 #[.pointer (some ⟨r, 0, none⟩)] W fun e w' => ∃ E : Int, e = .returned (.int .i64 E) ∧ (E == 0) = decide (at_ = l.length) ∧ ∃ q, w' = W.drewN q) := fun W h => rendG h
  have H : Hid (Bg w W c r ao cap l at_ er) := h
  clear h
  have q00 : ∀ o o', ((W.alloc o).alloc o').cell? ⟨c, 0, none⟩ = some (.pointer (some ⟨r, 0, none⟩)) := fun o o' => (H.out.later (below2 W o o')).c0
  go_enter Tryd.func62, Tryd.ntmps62
  go_wp2_with fail
  have hx : Bx2 W ((W.alloc (Obj.cells #[.string x0, .slice x1 n1 c1] 30)).alloc (Obj.cells #[.string ⟨#[]⟩, .slice none 0 0] 30)) #[.string x0, .slice x1 n1 c1] #[.string ⟨#[]⟩, .slice none 0 0] 30 30 := mkb2 W _ _ _ _
  generalize ((W.alloc (Obj.cells #[.string x0, .slice x1 n1 c1] 30)).alloc (Obj.cells #[.string ⟨#[]⟩, .slice none 0 0] 30)) = W5 at *
  refine (HE.out _ (H.out.later hx.bel)).mono ?_
  rintro e W6 ⟨E, rfl, hE, q, hw⟩
  have hy : Bx2 W W6 #[.string x0, .slice x1 n1 c1] #[.string ⟨#[]⟩, .slice none 0 0] 30 30 := by rw [hw]; exact hx.later (below_drewN _ q)
  have H6 : Hid (Bg w W6 c r ao cap l at_ er ∧ Bx2 W W6 #[.string x0, .slice x1 n1 c1] #[.string ⟨#[]⟩, .slice none 0 0] 30 30) := ⟨H.out.later hy.bel, hy⟩
  clear hw hx hy HE q00
  generalize hD : decide (at_ = l.length) = D at *
  go_wp2_with fail
  refine (needG D H6.out.1).mono ?_
  rintro e W7 ⟨rfl, hb7, hk7⟩
  rw [HN.out] at hb7
  have hcW : c < W.heap.size := block_lt H.out.bd
  have H7 : Hid (Bg w W7 c r ao cap l at_ 0 ∧ Bk2 c W W7 #[.string x0, .slice x1 n1 c1] #[.string ⟨#[]⟩, .slice none 0 0] 30 30) := ⟨hb7, Bk2.of hk7 H6.out.2 hcW⟩
  have kc1 := hb7.c1
  clear hb7 hk7 H6 hD
  go_wp2_with fail
  refine (wellG c 0 W7 kc1).mono ?_
  rintro e W8 ⟨rfl, hw⟩
  rw [hw]; clear hw
  have hy := H7.out.2
  have za0 : W7.cell? ⟨W.heap.size, 0, none⟩ = some (.string x0) := by rw [blk_at hy.a]; rfl
  have zb0 : W7.cell? ⟨W.heap.size + 1, 0, none⟩ = some (.string ⟨#[]⟩) := by rw [blk_at hy.b]; rfl
  have yb0 : W7.frozen? ⟨W.heap.size + 1, 0, none⟩ = false := blk_free hy.b 0
  have za1 : W7.cell? ⟨W.heap.size, 1, none⟩ = some (.slice x1 n1 c1) := by rw [blk_at hy.a]; rfl
  have zb1 : W7.cell? ⟨W.heap.size + 1, 1, none⟩ = some (.slice none 0 0) := by rw [blk_at hy.b]; rfl
  have yb1 : W7.frozen? ⟨W.heap.size + 1, 1, none⟩ = false := blk_free hy.b 1
  clear hy
  go_wp2
  obtain ⟨hp, hq⟩ := putc2 H7.out.2.b (.string x0) (.slice x1 n1 c1)
  exact bodyPost_ret (results_cell_tmp1 rfl _ _ (W.heap.size + 1) 30 _ (0, 0) _ rfl hp Tryd.underlying30 rfl infoR) rfl ⟨rfl, H7.out.1.bel.trans (hq.below H7.out.1.bel.size (fun g hg => by have := H.out.bel.size; omega)), H7.out.2.kept.trans hq (fun g hg _ => by omega)⟩
set_option maxHeartbeats 2000000 in
theorem wholeR_no (x0 : ByteArray) (x1 : Option Addr) (n1 c1 : Nat) {w W : World} {c r : Nat} {ao : Option Addr} {cap : Nat} {l : List Nat} {at_ er : Nat} (z : Nat) (hz : z ≠ 0) (h : Bg w W c r ao cap l at_ er) (hn : ndE (decide (at_ = l.length)) er = z) :
    Calls Tryd.prog 62 #[.pointer (some ⟨c, 0, none⟩), .agg #[.string x0, .slice x1 n1 c1]] W fun e w' => e = .returned (.tuple #[.agg #[.string ⟨#[]⟩, .slice none 0 0], .int .i64 (z : Int)]) ∧ Below w.heap.size w w' ∧ KeptIn (fun g => g = c) W w' := by
  have HN : Hid (ndE (decide (at_ = l.length)) er = z) := hn
  have f0 : ((z : Int) == 0) = false := by rw [beq_eq_false_iff_ne]; omega
  clear hn hz
  have HE : Hid (∀ W, Bg w W c r ao cap l at_ er → Calls Tryd.prog 108 #[.pointer (some ⟨r, 0, none⟩)] W fun e w' => ∃ E : Int, e = .returned (.int .i64 E) ∧ (E == 0) = decide (at_ = l.length) ∧ ∃ q, w' = W.drewN q) := fun W h => rendG h
  have H : Hid (Bg w W c r ao cap l at_ er) := h
  clear h
  have q00 : ∀ o o', ((W.alloc o).alloc o').cell? ⟨c, 0, none⟩ = some (.pointer (some ⟨r, 0, none⟩)) := fun o o' => (H.out.later (below2 W o o')).c0
  go_enter Tryd.func62, Tryd.ntmps62
  go_wp2_with fail
  have hx : Bx2 W ((W.alloc (Obj.cells #[.string x0, .slice x1 n1 c1] 30)).alloc (Obj.cells #[.string ⟨#[]⟩, .slice none 0 0] 30)) #[.string x0, .slice x1 n1 c1] #[.string ⟨#[]⟩, .slice none 0 0] 30 30 := mkb2 W _ _ _ _
  generalize ((W.alloc (Obj.cells #[.string x0, .slice x1 n1 c1] 30)).alloc (Obj.cells #[.string ⟨#[]⟩, .slice none 0 0] 30)) = W5 at *
  refine (HE.out _ (H.out.later hx.bel)).mono ?_
  rintro e W6 ⟨E, rfl, hE, q, hw⟩
  have hy : Bx2 W W6 #[.string x0, .slice x1 n1 c1] #[.string ⟨#[]⟩, .slice none 0 0] 30 30 := by rw [hw]; exact hx.later (below_drewN _ q)
  have H6 : Hid (Bg w W6 c r ao cap l at_ er ∧ Bx2 W W6 #[.string x0, .slice x1 n1 c1] #[.string ⟨#[]⟩, .slice none 0 0] 30 30) := ⟨H.out.later hy.bel, hy⟩
  clear hw hx hy HE q00
  generalize hD : decide (at_ = l.length) = D at *
  go_wp2_with fail
  refine (needG D H6.out.1).mono ?_
  rintro e W7 ⟨rfl, hb7, hk7⟩
  rw [HN.out] at hb7
  have hcW : c < W.heap.size := block_lt H.out.bd
  have H7 : Hid (Bg w W7 c r ao cap l at_ z ∧ Bk2 c W W7 #[.string x0, .slice x1 n1 c1] #[.string ⟨#[]⟩, .slice none 0 0] 30 30) := ⟨hb7, Bk2.of hk7 H6.out.2 hcW⟩
  have kc1 := hb7.c1
  clear hb7 hk7 H6 hD
  go_wp2_with fail
  refine (wellG c z W7 kc1).mono ?_
  rintro e W8 ⟨rfl, hw⟩
  rw [hw]; clear hw
  rw [f0]
  have hy := H7.out.2
  have zb0 : W7.cell? ⟨W.heap.size + 1, 0, none⟩ = some (.string ⟨#[]⟩) := by rw [blk_at hy.b]; rfl
  have yb0 : W7.frozen? ⟨W.heap.size + 1, 0, none⟩ = false := blk_free hy.b 0
  have zb1 : W7.cell? ⟨W.heap.size + 1, 1, none⟩ = some (.slice none 0 0) := by rw [blk_at hy.b]; rfl
  have yb1 : W7.frozen? ⟨W.heap.size + 1, 1, none⟩ = false := blk_free hy.b 1
  clear hy
  have hN := below1 W7 (Obj.cells #[.string ⟨#[]⟩, .slice none 0 0] 30)
  have hc8 : (W7.alloc (Obj.cells #[.string ⟨#[]⟩, .slice none 0 0] 30)).cell? ⟨c, 1, none⟩ = some (.int .i64 (z : Int)) := cell_later hN kc1
  have hb8 := (H7.out.2.later hN).b
  have H8 : Hid (Below w.heap.size w (W7.alloc (Obj.cells #[.string ⟨#[]⟩, .slice none 0 0] 30)) ∧ KeptIn (fun g => g = c) W (W7.alloc (Obj.cells #[.string ⟨#[]⟩, .slice none 0 0] 30)) ∧ (W7.alloc (Obj.cells #[.string ⟨#[]⟩, .slice none 0 0] 30)).heap[W.heap.size + 1]? = some (.cells #[.string ⟨#[]⟩, .slice none 0 0] 30 (0, 0))) := ⟨H7.out.1.bel.trans (hN.mono H7.out.1.bel.size), (H7.out.2.later hN).kept, hb8⟩
  have zn0 : (W7.alloc (Obj.cells #[.string ⟨#[]⟩, .slice none 0 0] 30)).cell? ⟨W.heap.size + 1, 0, none⟩ = some (.string ⟨#[]⟩) := by rw [blk_at hb8]; rfl
  have yn0 : (W7.alloc (Obj.cells #[.string ⟨#[]⟩, .slice none 0 0] 30)).frozen? ⟨W.heap.size + 1, 0, none⟩ = false := blk_free hb8 0
  have zn1 : (W7.alloc (Obj.cells #[.string ⟨#[]⟩, .slice none 0 0] 30)).cell? ⟨W.heap.size + 1, 1, none⟩ = some (.slice none 0 0) := by rw [blk_at hb8]; rfl
  have yn1 : (W7.alloc (Obj.cells #[.string ⟨#[]⟩, .slice none 0 0] 30)).frozen? ⟨W.heap.size + 1, 1, none⟩ = false := blk_free hb8 1
  clear hN hb8
  go_wp2
  go_region
  go_wp2
  obtain ⟨hp, hq⟩ := putc2 H8.out.2.2 (.string ⟨#[]⟩) (.slice none 0 0)
  have hq' := hq.drewd
  exact bodyPost_ret (results_cell_tmp1 rfl _ _ (W.heap.size + 1) 30 _ (0, 0) _ rfl hp Tryd.underlying30 rfl infoR) rfl ⟨rfl, H8.out.1.trans (hq'.below H8.out.1.size (fun g hg => by have := H.out.bel.size; omega)), H8.out.2.1.trans hq' (fun g hg _ => by omega)⟩
end Go.Proofs.YtjikibhhhchgeaaDoor

namespace Go.Proofs.YtjikibhhhchgeaaDoor
open Go.RowKit
set_option linter.unusedVariables false
set_option linter.unusedSimpArgs false
set_option maxRecDepth 100000
set_option maxHeartbeats 2000000 in
theorem wholeT_ok (x0 : Nat) (x1 : Option Addr) (n1 c1 : Nat) {w W : World} {c r : Nat} {ao : Option Addr} {cap : Nat} {l : List Nat} {at_ er : Nat} (h : Bg w W c r ao cap l at_ er) (hn : ndE (decide (at_ = l.length)) er = 0) :
    Calls Tryd.prog 69 #[.pointer (some ⟨c, 0, none⟩), .agg #[.int .u32 (x0 : Int), .slice x1 n1 c1]] W fun e w' => e = .returned (.tuple #[.agg #[.int .u32 (x0 : Int), .slice x1 n1 c1], .int .i64 0]) ∧ Below w.heap.size w w' ∧ KeptIn (fun g => g = c) W w' := by
  have HN : Hid (ndE (decide (at_ = l.length)) er = 0) := hn
  clear hn
  have HE : Hid (∀ W, Bg w W c r ao cap l at_ er → Calls Tryd.prog 108 #[.pointer (some ⟨r, 0, none⟩)] W fun e w' => ∃ E : Int, e = .returned (.int .i64 E) ∧ (E == 0) = decide (at_ = l.length) ∧ ∃ q, w' = W.drewN q) := fun W h => rendG h
  have H : Hid (Bg w W c r ao cap l at_ er) := h
  clear h
  have q00 : ∀ o o', ((W.alloc o).alloc o').cell? ⟨c, 0, none⟩ = some (.pointer (some ⟨r, 0, none⟩)) := fun o o' => (H.out.later (below2 W o o')).c0
  go_enter Tryd.func69, Tryd.ntmps69
  go_wp2_with fail
  have hx : Bx2 W ((W.alloc (Obj.cells #[.int .u32 (x0 : Int), .slice x1 n1 c1] 40)).alloc (Obj.cells #[.int .u32 0, .slice none 0 0] 40)) #[.int .u32 (x0 : Int), .slice x1 n1 c1] #[.int .u32 0, .slice none 0 0] 40 40 := mkb2 W _ _ _ _
  generalize ((W.alloc (Obj.cells #[.int .u32 (x0 : Int), .slice x1 n1 c1] 40)).alloc (Obj.cells #[.int .u32 0, .slice none 0 0] 40)) = W5 at *
  refine (HE.out _ (H.out.later hx.bel)).mono ?_
  rintro e W6 ⟨E, rfl, hE, q, hw⟩
  have hy : Bx2 W W6 #[.int .u32 (x0 : Int), .slice x1 n1 c1] #[.int .u32 0, .slice none 0 0] 40 40 := by rw [hw]; exact hx.later (below_drewN _ q)
  have H6 : Hid (Bg w W6 c r ao cap l at_ er ∧ Bx2 W W6 #[.int .u32 (x0 : Int), .slice x1 n1 c1] #[.int .u32 0, .slice none 0 0] 40 40) := ⟨H.out.later hy.bel, hy⟩
  clear hw hx hy HE q00
  generalize hD : decide (at_ = l.length) = D at *
  go_wp2_with fail
  refine (needG D H6.out.1).mono ?_
  rintro e W7 ⟨rfl, hb7, hk7⟩
  rw [HN.out] at hb7
  have hcW : c < W.heap.size := block_lt H.out.bd
  have H7 : Hid (Bg w W7 c r ao cap l at_ 0 ∧ Bk2 c W W7 #[.int .u32 (x0 : Int), .slice x1 n1 c1] #[.int .u32 0, .slice none 0 0] 40 40) := ⟨hb7, Bk2.of hk7 H6.out.2 hcW⟩
  have kc1 := hb7.c1
  clear hb7 hk7 H6 hD
  go_wp2_with fail
  refine (wellG c 0 W7 kc1).mono ?_
  rintro e W8 ⟨rfl, hw⟩
  rw [hw]; clear hw
  have hy := H7.out.2
  have za0 : W7.cell? ⟨W.heap.size, 0, none⟩ = some (.int .u32 (x0 : Int)) := by rw [blk_at hy.a]; rfl
  have zb0 : W7.cell? ⟨W.heap.size + 1, 0, none⟩ = some (.int .u32 0) := by rw [blk_at hy.b]; rfl
  have yb0 : W7.frozen? ⟨W.heap.size + 1, 0, none⟩ = false := blk_free hy.b 0
  have za1 : W7.cell? ⟨W.heap.size, 1, none⟩ = some (.slice x1 n1 c1) := by rw [blk_at hy.a]; rfl
  have zb1 : W7.cell? ⟨W.heap.size + 1, 1, none⟩ = some (.slice none 0 0) := by rw [blk_at hy.b]; rfl
  have yb1 : W7.frozen? ⟨W.heap.size + 1, 1, none⟩ = false := blk_free hy.b 1
  clear hy
  go_wp2
  obtain ⟨hp, hq⟩ := putc2 H7.out.2.b (.int .u32 (x0 : Int)) (.slice x1 n1 c1)
  exact bodyPost_ret (results_cell_tmp1 rfl _ _ (W.heap.size + 1) 40 _ (0, 0) _ rfl hp Tryd.underlying40 rfl infoT) rfl ⟨rfl, H7.out.1.bel.trans (hq.below H7.out.1.bel.size (fun g hg => by have := H.out.bel.size; omega)), H7.out.2.kept.trans hq (fun g hg _ => by omega)⟩
set_option maxHeartbeats 2000000 in
theorem wholeT_no (x0 : Nat) (x1 : Option Addr) (n1 c1 : Nat) {w W : World} {c r : Nat} {ao : Option Addr} {cap : Nat} {l : List Nat} {at_ er : Nat} (z : Nat) (hz : z ≠ 0) (h : Bg w W c r ao cap l at_ er) (hn : ndE (decide (at_ = l.length)) er = z) :
    Calls Tryd.prog 69 #[.pointer (some ⟨c, 0, none⟩), .agg #[.int .u32 (x0 : Int), .slice x1 n1 c1]] W fun e w' => e = .returned (.tuple #[.agg #[.int .u32 0, .slice none 0 0], .int .i64 (z : Int)]) ∧ Below w.heap.size w w' ∧ KeptIn (fun g => g = c) W w' := by
  have HN : Hid (ndE (decide (at_ = l.length)) er = z) := hn
  have f0 : ((z : Int) == 0) = false := by rw [beq_eq_false_iff_ne]; omega
  clear hn hz
  have HE : Hid (∀ W, Bg w W c r ao cap l at_ er → Calls Tryd.prog 108 #[.pointer (some ⟨r, 0, none⟩)] W fun e w' => ∃ E : Int, e = .returned (.int .i64 E) ∧ (E == 0) = decide (at_ = l.length) ∧ ∃ q, w' = W.drewN q) := fun W h => rendG h
  have H : Hid (Bg w W c r ao cap l at_ er) := h
  clear h
  have q00 : ∀ o o', ((W.alloc o).alloc o').cell? ⟨c, 0, none⟩ = some (.pointer (some ⟨r, 0, none⟩)) := fun o o' => (H.out.later (below2 W o o')).c0
  go_enter Tryd.func69, Tryd.ntmps69
  go_wp2_with fail
  have hx : Bx2 W ((W.alloc (Obj.cells #[.int .u32 (x0 : Int), .slice x1 n1 c1] 40)).alloc (Obj.cells #[.int .u32 0, .slice none 0 0] 40)) #[.int .u32 (x0 : Int), .slice x1 n1 c1] #[.int .u32 0, .slice none 0 0] 40 40 := mkb2 W _ _ _ _
  generalize ((W.alloc (Obj.cells #[.int .u32 (x0 : Int), .slice x1 n1 c1] 40)).alloc (Obj.cells #[.int .u32 0, .slice none 0 0] 40)) = W5 at *
  refine (HE.out _ (H.out.later hx.bel)).mono ?_
  rintro e W6 ⟨E, rfl, hE, q, hw⟩
  have hy : Bx2 W W6 #[.int .u32 (x0 : Int), .slice x1 n1 c1] #[.int .u32 0, .slice none 0 0] 40 40 := by rw [hw]; exact hx.later (below_drewN _ q)
  have H6 : Hid (Bg w W6 c r ao cap l at_ er ∧ Bx2 W W6 #[.int .u32 (x0 : Int), .slice x1 n1 c1] #[.int .u32 0, .slice none 0 0] 40 40) := ⟨H.out.later hy.bel, hy⟩
  clear hw hx hy HE q00
  generalize hD : decide (at_ = l.length) = D at *
  go_wp2_with fail
  refine (needG D H6.out.1).mono ?_
  rintro e W7 ⟨rfl, hb7, hk7⟩
  rw [HN.out] at hb7
  have hcW : c < W.heap.size := block_lt H.out.bd
  have H7 : Hid (Bg w W7 c r ao cap l at_ z ∧ Bk2 c W W7 #[.int .u32 (x0 : Int), .slice x1 n1 c1] #[.int .u32 0, .slice none 0 0] 40 40) := ⟨hb7, Bk2.of hk7 H6.out.2 hcW⟩
  have kc1 := hb7.c1
  clear hb7 hk7 H6 hD
  go_wp2_with fail
  refine (wellG c z W7 kc1).mono ?_
  rintro e W8 ⟨rfl, hw⟩
  rw [hw]; clear hw
  rw [f0]
  have hy := H7.out.2
  have zb0 : W7.cell? ⟨W.heap.size + 1, 0, none⟩ = some (.int .u32 0) := by rw [blk_at hy.b]; rfl
  have yb0 : W7.frozen? ⟨W.heap.size + 1, 0, none⟩ = false := blk_free hy.b 0
  have zb1 : W7.cell? ⟨W.heap.size + 1, 1, none⟩ = some (.slice none 0 0) := by rw [blk_at hy.b]; rfl
  have yb1 : W7.frozen? ⟨W.heap.size + 1, 1, none⟩ = false := blk_free hy.b 1
  clear hy
  have hN := below1 W7 (Obj.cells #[.int .u32 0, .slice none 0 0] 40)
  have hc8 : (W7.alloc (Obj.cells #[.int .u32 0, .slice none 0 0] 40)).cell? ⟨c, 1, none⟩ = some (.int .i64 (z : Int)) := cell_later hN kc1
  have hb8 := (H7.out.2.later hN).b
  have H8 : Hid (Below w.heap.size w (W7.alloc (Obj.cells #[.int .u32 0, .slice none 0 0] 40)) ∧ KeptIn (fun g => g = c) W (W7.alloc (Obj.cells #[.int .u32 0, .slice none 0 0] 40)) ∧ (W7.alloc (Obj.cells #[.int .u32 0, .slice none 0 0] 40)).heap[W.heap.size + 1]? = some (.cells #[.int .u32 0, .slice none 0 0] 40 (0, 0))) := ⟨H7.out.1.bel.trans (hN.mono H7.out.1.bel.size), (H7.out.2.later hN).kept, hb8⟩
  have zn0 : (W7.alloc (Obj.cells #[.int .u32 0, .slice none 0 0] 40)).cell? ⟨W.heap.size + 1, 0, none⟩ = some (.int .u32 0) := by rw [blk_at hb8]; rfl
  have yn0 : (W7.alloc (Obj.cells #[.int .u32 0, .slice none 0 0] 40)).frozen? ⟨W.heap.size + 1, 0, none⟩ = false := blk_free hb8 0
  have zn1 : (W7.alloc (Obj.cells #[.int .u32 0, .slice none 0 0] 40)).cell? ⟨W.heap.size + 1, 1, none⟩ = some (.slice none 0 0) := by rw [blk_at hb8]; rfl
  have yn1 : (W7.alloc (Obj.cells #[.int .u32 0, .slice none 0 0] 40)).frozen? ⟨W.heap.size + 1, 1, none⟩ = false := blk_free hb8 1
  clear hN hb8
  go_wp2
  go_region
  go_wp2
  obtain ⟨hp, hq⟩ := putc2 H8.out.2.2 (.int .u32 0) (.slice none 0 0)
  have hq' := hq.drewd
  exact bodyPost_ret (results_cell_tmp1 rfl _ _ (W.heap.size + 1) 40 _ (0, 0) _ rfl hp Tryd.underlying40 rfl infoT) rfl ⟨rfl, H8.out.1.trans (hq'.below H8.out.1.size (fun g hg => by have := H.out.bel.size; omega)), H8.out.2.1.trans hq' (fun g hg _ => by omega)⟩
end Go.Proofs.YtjikibhhhchgeaaDoor
