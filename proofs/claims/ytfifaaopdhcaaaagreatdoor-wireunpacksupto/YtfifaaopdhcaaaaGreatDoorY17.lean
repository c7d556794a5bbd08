import Derived.Test.YtfifaaopdhcaaaaGreatDoorY13
import Derived.Test.YtfifaaopdhcaaaaGreatDoorY16
namespace Go.Proofs.YtfifaaopdhcaaaaGreatDoor
open Go.RowKit
set_option linter.unusedVariables false
set_option linter.unusedSimpArgs false
set_option maxRecDepth 100000
theorem Bg.keep {w W : World} {c r : Nat} {ao : Option Addr} {cap : Nat} {l : List Nat} {at_ er : Nat} {W' : World} {ge : Nat} {A : Array Value} {t : TypeId} (h : Bg w W c r ao cap l at_ er) (eb : W.heap[ge]? = some (.cells A t (0, 0))) (h1 : t ≠ 135) (h2 : t ≠ 170) (k : KeptIn (two c r) W W') : W'.heap[ge]? = some (.cells A t (0, 0)) := by
  rw [k.block ge (block_lt eb) ?_]
  · exact eb
  · rintro (e | e)
    · subst e; have := h.rd.blk; rw [eb] at this; simp at this; exact h2 this.2
    · subst e; have := h.bd; rw [eb] at this; simp at this; exact h1 this.2
theorem Bg.put {w W : World} {c r : Nat} {ao : Option Addr} {cap : Nat} {l : List Nat} {at_ er : Nat} {ge : Nat} {A : Array Value} {t : TypeId} (h : Bg w W c r ao cap l at_ er) (eb : W.heap[ge]? = some (.cells A t (0, 0))) (h1 : t ≠ 135) (h2 : t ≠ 170) (h3 : t ≠ 5) (hge : w.heap.size ≤ ge) (j : Nat) (v : Value) : Bg w (W.setCell ⟨ge, j, none⟩ v) c r ao cap l at_ er := by
  have k := keptIn_set W ge j v
  have n1 : c ≠ ge := by rintro rfl; have := h.bd; rw [eb] at this; simp at this; exact h1 this.2
  have n2 : r ≠ ge := by rintro rfl; have := h.rd.blk; rw [eb] at this; simp at this; exact h2 this.2
  refine ⟨h.bel.trans (k.below h.bel.size (fun g hg e => by omega)), by rw [k.block c (block_lt h.bd) n1]; exact h.bd, h.hc, h.rd.later k n2 (fun g hg e => ?_)⟩
  obtain ⟨cur, e1⟩ := owns_type h.rd.own g hg
  rw [e, eb] at e1
  simp at e1
  exact h3 e1.2
/-- a row that was made behind the body's making stays -/
theorem Bg.row {w W : World} {c r : Nat} {ao : Option Addr} {cap : Nat} {l : List Nat} {at_ er : Nat} {W' : World} {B n : Nat} {v : Value} {xs : List Value} (h : Bg w W c r ao cap l at_ er) (ho : W.ownsRow B 5 1 v n xs) (hB : c < B ∧ r < B) (k : KeptIn (two c r) W W') : W'.ownsRow B 5 1 v n xs :=
  owns_same ho (fun g hg => k.block g (owns_lt ho g hg).1 (fun e => by have := (owns_lt ho g hg).2; rcases e with e | e <;> omega))
end Go.Proofs.YtfifaaopdhcaaaaGreatDoor

namespace Go.Proofs.YtfifaaopdhcaaaaGreatDoor
open Go.RowKit
set_option linter.unusedVariables false
set_option linter.unusedSimpArgs false
set_option maxRecDepth 100000
/-- does a text with its length stand there? -/
def okT (l : List Nat) (at_ : Nat) : Bool := okR l at_ 4 && (decide (valB ((l.drop at_).take 4) ≤ 4096) && (okR l (at_ + 4) (valB ((l.drop at_).take 4)) && plainB (bstr ((l.drop (at_ + 4)).take (valB ((l.drop at_).take 4)))).data.toList))
def tvS (l : List Nat) (at_ : Nat) : ByteArray := if okT l at_ = true then bstr ((l.drop (at_ + 4)).take (valB ((l.drop at_).take 4))) else ⟨#[]⟩
def taA (l : List Nat) (at_ : Nat) : Nat := if okT l at_ = true then at_ + 4 + valB ((l.drop at_).take 4) else at_
theorem rtextG {w W : World} {c r : Nat} {ao : Option Addr} {cap : Nat} {l : List Nat} {at_ er : Nat} (h : Bg w W c r ao cap l at_ er) (hT : Tabs W) : Calls Tryz.prog 74 #[.pointer (some ⟨r, 0, none⟩), .int .i64 4096] W fun e w' => ∃ (E : Int), e = .returned (.tuple #[.string (tvS l at_), .int .i64 E]) ∧ (E == 0) = okT l at_ ∧ RPost W w' w.heap.size r ao cap l (taA l at_) := by
  have hB : w.heap.size ≤ W.heap.size := h.bel.size
  have no : ∀ E : Int, okT l at_ = false → (E == 0) = false → ∀ (e : Ending) (w' : World), e = .returned (.tuple #[.string ⟨#[]⟩, .int .i64 E]) ∧ RPost W w' w.heap.size r ao cap l at_ → ∃ (E : Int), e = .returned (.tuple #[.string (tvS l at_), .int .i64 E]) ∧ (E == 0) = okT l at_ ∧ RPost W w' w.heap.size r ao cap l (taA l at_) := fun E h1 h2 e w' hh =>
    ⟨E, by rw [hh.1]; simp [tvS, h1], by rw [h1, h2], by simpa [taA, h1] using hh.2⟩
  by_cases h4 : at_ + 4 ≤ l.length
  · have o1 : okR l at_ 4 = true := by simp [okR, h4]
    obtain ⟨g, rfl⟩ := some_of_len h.rd (by omega)
    obtain ⟨N, hN⟩ : ∃ N, valB ((l.drop at_).take 4) = N := ⟨_, rfl⟩
    by_cases hm : N ≤ 4096
    · by_cases hend : at_ + 4 + N ≤ l.length
      · have o2 : okR l (at_ + 4) N = true := by simp [okR, hend]
        cases hp : plainB (bstr ((l.drop (at_ + 4)).take N)).data.toList with
        | true =>
          have o3 : okT l at_ = true := by simp [okT, o1, hN, hm, o2, hp]
          refine (rtext_ok w.heap.size r g cap l at_ l.length N 4096 W h.rd hT (show Hid (l.length = l.length) from rfl) (show Hid _ from hN) h4 hm (by decide) hend hB (show Hid _ from hp)).mono fun e w' hh => ?_
          exact ⟨0, by rw [hh.1]; simp [tvS, o3, hN], by rw [o3]; rfl, by simpa [taA, o3, hN] using hh.2⟩
        | false =>
          refine (rtext_bad w.heap.size r g cap l at_ l.length N 4096 W h.rd (show Hid (l.length = l.length) from rfl) (show Hid _ from hN) h4 hB hT hm (by decide) hend (show Hid _ from hp)).mono (no 13 (by simp [okT, hN, hp]) rfl)
      · exact (rtext_past w.heap.size r g cap l at_ l.length N 4096 W h.rd (show Hid (l.length = l.length) from rfl) (show Hid _ from hN) h4 hB hm (by decide) (by omega)).mono (no 10 (by have : okR l (at_ + 4) N = false := by { simp [okR]; omega }; simp [okT, hN, this]) rfl)
    · exact (rtext_big w.heap.size r g cap l at_ l.length N 4096 W h.rd (show Hid (l.length = l.length) from rfl) (show Hid _ from hN) h4 hB (by omega) (by decide)).mono (no 12 (by simp [okT, hN, hm]) rfl)
  · exact (rtext_none w.heap.size r ao cap l at_ l.length 4096 W h.rd (show Hid (l.length = l.length) from rfl) (by omega) hB).mono (no 10 (by have : okR l at_ 4 = false := by { simp [okR]; omega }; simp [okT, this]) rfl)
set_option maxHeartbeats 1000000 in
theorem btextG {w W : World} {c r : Nat} {ao : Option Addr} {cap : Nat} {l : List Nat} {at_ er : Nat} (h : Bg w W c r ao cap l at_ er) (hT : Tabs W) : Calls Tryz.prog 43 #[.pointer (some ⟨c, 0, none⟩)] W fun e w' => e = .returned (.string (tvS l at_)) ∧ Bg w w' c r ao cap l (taA l at_) (ndE (okT l at_) er) ∧ KeptIn (two c r) W w' := by
  have HU : Hid _ := rtextG h hT
  have c0 := h.c0
  have H : Hid (Bg w W c r ao cap l at_ er) := h
  clear h hT
  generalize tvS l at_ = v at *
  generalize taA l at_ = a2 at *
  generalize okT l at_ = ok at *
  go_enter Tryz.func43, Tryz.ntmps43
  go_wp2_with fail
  refine Calls.mono HU.out ?_
  rintro e W1 ⟨E, rfl, hE, hp⟩
  have H1 : Hid (Bg w W1 c r ao cap l a2 er ∧ KeptIn (fun g => g = r) W W1) := ⟨H.out.moved hp, hp.kept⟩
  clear hp HU H c0
  go_wp2_with fail
  refine (needG ok H1.out.1).mono ?_
  rintro e W2 ⟨rfl, hb2, hk2⟩
  have H2 : Hid (Bg w W2 c r ao cap l a2 (ndE ok er) ∧ KeptIn (two c r) W W2) := ⟨hb2, two_trans (two_of_r H1.out.2) (two_of_c hk2)⟩
  clear hb2 hk2 H1
  go_wp2
  go_ret
  exact ⟨rfl, H2.out⟩
end Go.Proofs.YtfifaaopdhcaaaaGreatDoor

namespace Go.Proofs.YtfifaaopdhcaaaaGreatDoor
open Go.RowKit
set_option linter.unusedVariables false
set_option linter.unusedSimpArgs false
set_option maxRecDepth 100000
theorem conv_own {W : World} {B n : Nat} {aq : Option Addr} {cq : Nat} {L : List Nat} (ho : W.ownsRow B 5 1 (.slice aq n cq) n (L.map bv)) (hn : n = L.length) : (convert 22 9 (.slice aq n cq)).run Tryz.prog W = .ok (.string (bstr L)) W := by
  subst hn
  rcases ho.2 with ⟨hv, h0⟩ | ⟨g, cap, cur, hv, _⟩
  · obtain rfl : L = [] := List.eq_nil_of_length_eq_zero h0
    simp only [Value.slice.injEq] at hv
    obtain ⟨rfl, _, rfl⟩ := hv
    rw [run_convert_bytes_string W 22 9 5 _ _ _ Tryz.underlying22 Tryz.underlying5 Tryz.underlying9]
    rfl
  · simp only [Value.slice.injEq] at hv
    obtain ⟨rfl, _, rfl⟩ := hv
    refine run_text (P := Tryz.prog) W 22 9 5 Tryz.underlying22 Tryz.underlying5 Tryz.underlying9 ⟨g, 0, none⟩ cq L (fun j u hu => ?_)
    have hj := (List.getElem?_eq_some_iff.1 hu).1
    have h1 := ho.cellAt j (by rw [List.length_map] at hj; omega)
    simpa [add_plain] using h1.trans hu
theorem rrL_le (l : List Nat) (at_ N : Nat) : (rrL l at_ N).length ≤ l.length := by unfold rrL; split <;> simp <;> omega
set_option maxHeartbeats 1000000 in
theorem brawTextG {w W : World} {c r : Nat} {ao : Option Addr} {cap : Nat} {l : List Nat} {at_ er : Nat} (N : Nat) (h : Bg w W c r ao cap l at_ er) (hT : Tabs w) : Calls Tryz.prog 34 #[.pointer (some ⟨c, 0, none⟩), .int .i64 (N : Int)] W fun e w' => e = .returned (.string (bstr (rrL l at_ N))) ∧ Bg w w' c r ao cap l (raA l at_ N) (ndE (tx (bstr (rrL l at_ N))) (ndE (okR l at_ N) er)) ∧ KeptIn (two c r) W w' := by
  have HU : Hid _ := brawG N h
  have HI : Hid (∀ V, Below w.heap.size w V → Calls Tryz.prog 65 #[.string (bstr (rrL l at_ N))] V fun e w' => e = .returned (.bool (tx (bstr (rrL l at_ N)))) ∧ Below V.heap.size V w') := fun V hb => isText_any _ V (by rw [bstr_size]; have h1 := rrL_le l at_ N; have h2 := h.rd.len; omega) (hT.later hb)
  clear h hT
  generalize raA l at_ N = a2 at *
  generalize ndE (okR l at_ N) er = e2 at *
  generalize rrL l at_ N = L at *
  obtain ⟨s, hs⟩ : ∃ s, bstr L = s := ⟨_, rfl⟩
  rw [hs] at HI ⊢
  have HS : Hid (bstr L = s) := hs
  clear hs
  generalize tx s = b at *
  go_enter Tryz.func34, Tryz.ntmps34
  go_wp2_with fail
  refine Calls.mono HU.out ?_
  rintro e W1 ⟨n, aq, cq, rfl, hn, ho, hb1, hk1⟩
  have hcv := conv_own ho hn
  rw [HS.out] at hcv
  have H1 : Hid (Bg w W1 c r ao cap l a2 e2 ∧ KeptIn (two c r) W W1) := ⟨hb1, hk1⟩
  clear HU hn ho hb1 hk1
  go_wp2_with fail
  refine (HI.out _ H1.out.1.bel).mono ?_
  rintro e W2 ⟨rfl, hb⟩
  have H2 : Hid (Bg w W2 c r ao cap l a2 e2 ∧ KeptIn (two c r) W W2) := ⟨H1.out.1.later hb, two_trans H1.out.2 (KeptIn.ofBelow hb)⟩
  clear hb H1 hcv HI
  go_wp2_with fail
  refine (needG b H2.out.1).mono ?_
  rintro e W3 ⟨rfl, hb3, hk3⟩
  have H3 : Hid (Bg w W3 c r ao cap l a2 (ndE b e2) ∧ KeptIn (two c r) W W3) := ⟨hb3, two_trans H2.out.2 (two_of_c hk3)⟩
  clear hb3 hk3 H2
  go_wp2
  go_ret
  exact ⟨rfl, H3.out⟩
end Go.Proofs.YtfifaaopdhcaaaaGreatDoor

namespace Go.Proofs.YtfifaaopdhcaaaaGreatDoor
open Go.RowKit
set_option linter.unusedVariables false
set_option linter.unusedSimpArgs false
set_option maxRecDepth 100000
def cnE (n most er : Nat) : Nat := if most < n then (if er = 0 then 170 else er) else er
def cnV (n most er : Nat) : Nat := if cnE n most er = 0 then n else 0
set_option maxHeartbeats 1000000 in
theorem countG {w W : World} {c r : Nat} {ao : Option Addr} {cap : Nat} {l : List Nat} {at_ er : Nat} (n most : Nat) (hn : n < 4294967296) (hm : most < 4294967296) (h : Bg w W c r ao cap l at_ er) : Calls Tryz.prog 44 #[.pointer (some ⟨c, 0, none⟩), .int .u32 (n : Int), .int .u32 (most : Int)] W fun e w' => e = .returned (.int .i64 ((cnV n most er : Nat) : Int)) ∧ Bg w w' c r ao cap l at_ (cnE n most er) ∧ KeptIn (two c r) W w' := by
  have hwn : IntKind.i64.wrap (n : Int) = (n : Int) := by rw [IntKind.wrap_i64]; omega
  have H : Hid (Bg w W c r ao cap l at_ er) := h
  have HR : Hid (Calls Tryz.prog 75 #[.pointer (some ⟨c, 0, none⟩), .int .i64 170] W fun e w' => e = .returned (.tuple #[]) ∧ Bg w w' c r ao cap l at_ (if er = 0 then 170 else er) ∧ KeptIn (fun g => g = c) W w') := refuseG 170 h
  by_cases hlt : most < n
  · have d1 : decide (most < n) = true := by simpa using hlt
    have eE : cnE n most er = (if er = 0 then 170 else er) := by unfold cnE; rw [if_pos hlt]
    have hne : (if er = 0 then 170 else er) ≠ 0 := by split <;> simp_all
    have eV : cnV n most er = 0 := by unfold cnV; rw [eE, if_neg hne]
    rw [eE, eV]
    clear eE eV h hlt hn hm
    generalize (if er = 0 then 170 else er) = E at *
    have f0 : ((E : Int) == 0) = false := by rw [beq_eq_false_iff_ne]; omega
    go_enter Tryz.func44, Tryz.ntmps44
    go_wp2_with fail
    refine HR.out.mono ?_
    rintro e W1 ⟨rfl, hb1, hk1⟩
    have kc1 := hb1.c1
    have H1 : Hid (Bg w W1 c r ao cap l at_ E ∧ KeptIn (two c r) W W1) := ⟨hb1, two_of_c hk1⟩
    clear hb1 hk1 HR H
    go_wp2_with fail
    refine (wellG c E W1 kc1).mono ?_
    rintro e W8 ⟨rfl, hw⟩
    rw [hw]; clear hw
    rw [f0]
    go_wp2
    go_ret
    exact ⟨rfl, H1.out⟩
  · have d1 : decide (most < n) = false := by simpa using hlt
    have eE : cnE n most er = er := by unfold cnE; rw [if_neg hlt]
    have kc1 := h.c1
    rw [eE]
    by_cases he : er = 0
    · have eV : cnV n most er = n := by unfold cnV; rw [eE, if_pos he]
      rw [eV]
      subst he
      clear eE eV h hlt hn hm HR
      go_enter Tryz.func44, Tryz.ntmps44
      go_wp2_with fail
      refine (wellG c 0 W kc1).mono ?_
      rintro e W8 ⟨rfl, hw⟩
      rw [hw]; clear hw
      go_wp2
      go_ret
      exact ⟨rfl, H.out, two_below (Below.refl _ _)⟩
    · have eV : cnV n most er = 0 := by unfold cnV; rw [eE, if_neg he]
      rw [eV]
      have f0 : ((er : Int) == 0) = false := by rw [beq_eq_false_iff_ne]; omega
      clear eE eV h hlt hn hm HR
      go_enter Tryz.func44, Tryz.ntmps44
      go_wp2_with fail
      refine (wellG c er W kc1).mono ?_
      rintro e W8 ⟨rfl, hw⟩
      rw [hw]; clear hw
      rw [f0]
      go_wp2
      go_ret
      exact ⟨rfl, H.out, two_below (Below.refl _ _)⟩
end Go.Proofs.YtfifaaopdhcaaaaGreatDoor
