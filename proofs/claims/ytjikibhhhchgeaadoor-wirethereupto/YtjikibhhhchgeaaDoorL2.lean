import Derived.Test.YtjikibhhhchgeaaDoorPBd
import Derived.Test.YtjikibhhhchgeaaDoorPPi
namespace Go.Proofs.YtjikibhhhchgeaaDoor
open Go.RowKit
set_option linter.unusedVariables false
set_option linter.unusedSimpArgs false
set_option maxRecDepth 100000
/-- does a text with its length stand there? -/
def okT (l : List Nat) (at_ : Nat) : Bool := okR l at_ 4 && (decide (valB ((l.drop at_).take 4) ≤ 4096) && (okR l (at_ + 4) (valB ((l.drop at_).take 4)) && plainB (bstr ((l.drop (at_ + 4)).take (valB ((l.drop at_).take 4)))).data.toList))
def tvS (l : List Nat) (at_ : Nat) : ByteArray := if okT l at_ = true then bstr ((l.drop (at_ + 4)).take (valB ((l.drop at_).take 4))) else ⟨#[]⟩
def taA (l : List Nat) (at_ : Nat) : Nat := if okT l at_ = true then at_ + 4 + valB ((l.drop at_).take 4) else at_
theorem rtextG {w W : World} {c r : Nat} {ao : Option Addr} {cap : Nat} {l : List Nat} {at_ er : Nat} (h : Bg w W c r ao cap l at_ er) (hT : Tabs W) : Calls Tryd.prog 109 #[.pointer (some ⟨r, 0, none⟩), .int .i64 4096] W fun e w' => ∃ (E : Int), e = .returned (.tuple #[.string (tvS l at_), .int .i64 E]) ∧ (E == 0) = okT l at_ ∧ RPost W w' w.heap.size r ao cap l (taA l at_) := by
  have hB : w.heap.size ≤ W.heap.size := h.bel.size
  have no : ∀ E : Int, okT l at_ = false → (E == 0) = false → ∀ (e : Ending) (w' : World), e = .returned (.tuple #[.string ⟨#[]⟩, .int .i64 E]) ∧ RPost W w' w.heap.size r ao cap l at_ → ∃ (E : Int), e = .returned (.tuple #[.string (tvS l at_), .int .i64 E]) ∧ (E == 0) = okT l at_ ∧ RPost W w' w.heap.size r ao cap l (taA l at_) := fun E h1 h2 e w' hh =>
    ⟨E, by rw [hh.1]; simp [tvS, h1], by rw [h1, h2], by simpa [taA, h1] using hh.2⟩
  by_cases h4 : at_ + 4 ≤ l.length
  · have o1 : okR l at_ 4 = true := by simp [okR, h4]
    obtain ⟨g, rfl⟩ := some_of_len h.rd (by omega)
    obtain ⟨N, hN⟩ : ∃ N, valB ((l.drop at_).take 4) = N := ⟨_, rfl⟩
    by_cases hm : N ≤ 4096
    · by_cases hend : at_ + 4 + N ≤ l.length
      · have o2 : okR l (at_ + 4) N = true := by simp [okR, hend]
        cases hp : plainB (bstr ((l.drop (at_ + 4)).take N)).data.toList with
        | true =>
          have o3 : okT l at_ = true := by simp [okT, o1, hN, hm, o2, hp]
          refine (rtext_ok w.heap.size r g cap l at_ l.length N 4096 W h.rd hT (show Hid (l.length = l.length) from rfl) (show Hid _ from hN) h4 hm (by decide) hend hB (show Hid _ from hp)).mono fun e w' hh => ?_
          exact ⟨0, by rw [hh.1]; simp [tvS, o3, hN], by rw [o3]; rfl, by simpa [taA, o3, hN] using hh.2⟩
        | false =>
          refine (rtext_bad w.heap.size r g cap l at_ l.length N 4096 W h.rd (show Hid (l.length = l.length) from rfl) (show Hid _ from hN) h4 hB hT hm (by decide) hend (show Hid _ from hp)).mono (no 13 (by simp [okT, hN, hp]) rfl)
      · exact (rtext_past w.heap.size r g cap l at_ l.length N 4096 W h.rd (show Hid (l.length = l.length) from rfl) (show Hid _ from hN) h4 hB hm (by decide) (by omega)).mono (no 10 (by have : okR l (at_ + 4) N = false := by { simp [okR]; omega }; simp [okT, hN, this]) rfl)
    · exact (rtext_big w.heap.size r g cap l at_ l.length N 4096 W h.rd (show Hid (l.length = l.length) from rfl) (show Hid _ from hN) h4 hB (by omega) (by decide)).mono (no 12 (by simp [okT, hN, hm]) rfl)
  · exact (rtext_none w.heap.size r ao cap l at_ l.length 4096 W h.rd (show Hid (l.length = l.length) from rfl) (by omega) hB).mono (no 10 (by have : okR l at_ 4 = false := by { simp [okR]; omega }; simp [okT, this]) rfl)
set_option maxHeartbeats 1000000 in
theorem btextG {w W : World} {c r : Nat} {ao : Option Addr} {cap : Nat} {l : List Nat} {at_ er : Nat} (h : Bg w W c r ao cap l at_ er) (hT : Tabs W) : Calls Tryd.prog 60 #[.pointer (some ⟨c, 0, none⟩)] W fun e w' => e = .returned (.string (tvS l at_)) ∧ Bg w w' c r ao cap l (taA l at_) (ndE (okT l at_) er) ∧ KeptIn (two c r) W w' := by
  have HU : Hid _ := rtextG h hT
  have c0 := h.c0
  have H : Hid (Bg w W c r ao cap l at_ er) := h
  clear h hT
  generalize tvS l at_ = v at *
  generalize taA l at_ = a2 at *
  generalize okT l at_ = ok at *
  go_enter Tryd.func60, Tryd.ntmps60
  go_wp2_with fail
  refine Calls.mono HU.out ?_
  rintro e W1 ⟨E, rfl, hE, hp⟩
  have H1 : Hid (Bg w W1 c r ao cap l a2 er ∧ KeptIn (fun g => g = r) W W1) := ⟨H.out.moved hp, hp.kept⟩
  clear hp HU H c0
  go_wp2_with fail
  refine (needG ok H1.out.1).mono ?_
  rintro e W2 ⟨rfl, hb2, hk2⟩
  have H2 : Hid (Bg w W2 c r ao cap l a2 (ndE ok er) ∧ KeptIn (two c r) W W2) := ⟨hb2, two_trans (two_of_r H1.out.2) (two_of_c hk2)⟩
  clear hb2 hk2 H1
  go_wp2
  go_ret
  exact ⟨rfl, H2.out⟩
end Go.Proofs.YtjikibhhhchgeaaDoor

namespace Go.Proofs.YtjikibhhhchgeaaDoor
open Go.RowKit
set_option linter.unusedVariables false
set_option linter.unusedSimpArgs false
set_option maxRecDepth 100000
theorem Bg.keep {w W : World} {c r : Nat} {ao : Option Addr} {cap : Nat} {l : List Nat} {at_ er : Nat} {W' : World} {ge : Nat} {A : Array Value} {t : TypeId} (h : Bg w W c r ao cap l at_ er) (eb : W.heap[ge]? = some (.cells A t (0, 0))) (h1 : t ≠ 176) (h2 : t ≠ 197) (k : KeptIn (two c r) W W') : W'.heap[ge]? = some (.cells A t (0, 0)) := by
  rw [k.block ge (block_lt eb) ?_]
  · exact eb
  · rintro (e | e)
    · subst e; have := h.rd.blk; rw [eb] at this; simp at this; exact h2 this.2
    · subst e; have := h.bd; rw [eb] at this; simp at this; exact h1 this.2
theorem Bg.put {w W : World} {c r : Nat} {ao : Option Addr} {cap : Nat} {l : List Nat} {at_ er : Nat} {ge : Nat} {A : Array Value} {t : TypeId} (h : Bg w W c r ao cap l at_ er) (eb : W.heap[ge]? = some (.cells A t (0, 0))) (h1 : t ≠ 176) (h2 : t ≠ 197) (h3 : t ≠ 5) (hge : w.heap.size ≤ ge) (j : Nat) (v : Value) : Bg w (W.setCell ⟨ge, j, none⟩ v) c r ao cap l at_ er := by
  have k := keptIn_set W ge j v
  have n1 : c ≠ ge := by rintro rfl; have := h.bd; rw [eb] at this; simp at this; exact h1 this.2
  have n2 : r ≠ ge := by rintro rfl; have := h.rd.blk; rw [eb] at this; simp at this; exact h2 this.2
  refine ⟨h.bel.trans (k.below h.bel.size (fun g hg e => by omega)), by rw [k.block c (block_lt h.bd) n1]; exact h.bd, h.hc, h.rd.later k n2 (fun g hg e => ?_)⟩
  obtain ⟨cur, e1⟩ := owns_type h.rd.own g hg
  rw [e, eb] at e1
  simp at e1
  exact h3 e1.2
/-- a row that was made behind the body's making stays -/
theorem Bg.row {w W : World} {c r : Nat} {ao : Option Addr} {cap : Nat} {l : List Nat} {at_ er : Nat} {W' : World} {B n : Nat} {v : Value} {xs : List Value} (h : Bg w W c r ao cap l at_ er) (ho : W.ownsRow B 5 1 v n xs) (hB : c < B ∧ r < B) (k : KeptIn (two c r) W W') : W'.ownsRow B 5 1 v n xs :=
  owns_same ho (fun g hg => k.block g (owns_lt ho g hg).1 (fun e => by have := (owns_lt ho g hg).2; rcases e with e | e <;> omega))
end Go.Proofs.YtjikibhhhchgeaaDoor

namespace Go.Proofs.YtjikibhhhchgeaaDoor
open Go.RowKit
set_option linter.unusedVariables false
set_option linter.unusedSimpArgs false
set_option maxRecDepth 100000
theorem conv_own {W : World} {B n : Nat} {aq : Option Addr} {cq : Nat} {L : List Nat} (ho : W.ownsRow B 5 1 (.slice aq n cq) n (L.map bv)) (hn : n = L.length) : (convert 25 9 (.slice aq n cq)).run Tryd.prog W = .ok (.string (bstr L)) W := by
  subst hn
  rcases ho.2 with ⟨hv, h0⟩ | ⟨g, cap, cur, hv, _⟩
  · obtain rfl : L = [] := List.eq_nil_of_length_eq_zero h0
    simp only [Value.slice.injEq] at hv
    obtain ⟨rfl, _, rfl⟩ := hv
    rw [run_convert_bytes_string W 25 9 5 _ _ _ Tryd.underlying25 Tryd.underlying5 Tryd.underlying9]
    rfl
  · simp only [Value.slice.injEq] at hv
    obtain ⟨rfl, _, rfl⟩ := hv
    refine run_text (P := Tryd.prog) W 25 9 5 Tryd.underlying25 Tryd.underlying5 Tryd.underlying9 ⟨g, 0, none⟩ cq L (fun j u hu => ?_)
    have hj := (List.getElem?_eq_some_iff.1 hu).1
    have h1 := ho.cellAt j (by rw [List.length_map] at hj; omega)
    simpa [add_plain] using h1.trans hu
theorem rrL_le (l : List Nat) (at_ N : Nat) : (rrL l at_ N).length ≤ l.length := by unfold rrL; split <;> simp <;> omega
set_option maxHeartbeats 1000000 in
theorem brawTextG {w W : World} {c r : Nat} {ao : Option Addr} {cap : Nat} {l : List Nat} {at_ er : Nat} (N : Nat) (h : Bg w W c r ao cap l at_ er) (hT : Tabs w) : Calls Tryd.prog 55 #[.pointer (some ⟨c, 0, none⟩), .int .i64 (N : Int)] W fun e w' => e = .returned (.string (bstr (rrL l at_ N))) ∧ Bg w w' c r ao cap l (raA l at_ N) (ndE (tx (bstr (rrL l at_ N))) (ndE (okR l at_ N) er)) ∧ KeptIn (two c r) W w' := by
  have HU : Hid _ := brawG N h
  have HI : Hid (∀ V, Below w.heap.size w V → Calls Tryd.prog 90 #[.string (bstr (rrL l at_ N))] V fun e w' => e = .returned (.bool (tx (bstr (rrL l at_ N)))) ∧ Below V.heap.size V w') := fun V hb => isText_any _ V (by rw [bstr_size]; have h1 := rrL_le l at_ N; have h2 := h.rd.len; omega) (hT.later hb)
  clear h hT
  generalize raA l at_ N = a2 at *
  generalize ndE (okR l at_ N) er = e2 at *
  generalize rrL l at_ N = L at *
  obtain ⟨s, hs⟩ : ∃ s, bstr L = s := ⟨_, rfl⟩
  rw [hs] at HI ⊢
  have HS : Hid (bstr L = s) := hs
  clear hs
  generalize tx s = b at *
  go_enter Tryd.func55, Tryd.ntmps55
  go_wp2_with fail
  refine Calls.mono HU.out ?_
  rintro e W1 ⟨n, aq, cq, rfl, hn, ho, hb1, hk1⟩
  have hcv := conv_own ho hn
  rw [HS.out] at hcv
  have H1 : Hid (Bg w W1 c r ao cap l a2 e2 ∧ KeptIn (two c r) W W1) := ⟨hb1, hk1⟩
  clear HU hn ho hb1 hk1
  go_wp2_with fail
  refine (HI.out _ H1.out.1.bel).mono ?_
  rintro e W2 ⟨rfl, hb⟩
  have H2 : Hid (Bg w W2 c r ao cap l a2 e2 ∧ KeptIn (two c r) W W2) := ⟨H1.out.1.later hb, two_trans H1.out.2 (KeptIn.ofBelow hb)⟩
  clear hb H1 hcv HI
  go_wp2_with fail
  refine (needG b H2.out.1).mono ?_
  rintro e W3 ⟨rfl, hb3, hk3⟩
  have H3 : Hid (Bg w W3 c r ao cap l a2 (ndE b e2) ∧ KeptIn (two c r) W W3) := ⟨hb3, two_trans H2.out.2 (two_of_c hk3)⟩
  clear hb3 hk3 H2
  go_wp2
  go_ret
  exact ⟨rfl, H3.out⟩
end Go.Proofs.YtjikibhhhchgeaaDoor

namespace Go.Proofs.YtjikibhhhchgeaaDoor
open Go.RowKit
set_option linter.unusedVariables false
set_option linter.unusedSimpArgs false
set_option maxRecDepth 100000
def cnE (n most er : Nat) : Nat := if most < n then (if er = 0 then 170 else er) else er
def cnV (n most er : Nat) : Nat := if cnE n most er = 0 then n else 0
set_option maxHeartbeats 1000000 in
theorem countG {w W : World} {c r : Nat} {ao : Option Addr} {cap : Nat} {l : List Nat} {at_ er : Nat} (n most : Nat) (hn : n < 4294967296) (hm : most < 4294967296) (h : Bg w W c r ao cap l at_ er) : Calls Tryd.prog 61 #[.pointer (some ⟨c, 0, none⟩), .int .u32 (n : Int), .int .u32 (most : Int)] W fun e w' => e = .returned (.int .i64 ((cnV n most er : Nat) : Int)) ∧ Bg w w' c r ao cap l at_ (cnE n most er) ∧ KeptIn (two c r) W w' := by
  have hwn : IntKind.i64.wrap (n : Int) = (n : Int) := by rw [IntKind.wrap_i64]; omega
  have H : Hid (Bg w W c r ao cap l at_ er) := h
  have HR : Hid (Calls Tryd.prog 110 #[.pointer (some ⟨c, 0, none⟩), .int .i64 170] W fun e w' => e = .returned (.tuple #[]) ∧ Bg w w' c r ao cap l at_ (if er = 0 then 170 else er) ∧ KeptIn (fun g => g = c) W w') := refuseG 170 h
  by_cases hlt : most < n
  · have d1 : decide (most < n) = true := by simpa using hlt
    have eE : cnE n most er = (if er = 0 then 170 else er) := by unfold cnE; rw [if_pos hlt]
    have hne : (if er = 0 then 170 else er) ≠ 0 := by split <;> simp_all
    have eV : cnV n most er = 0 := by unfold cnV; rw [eE, if_neg hne]
    rw [eE, eV]
    clear eE eV h hlt hn hm
    generalize (if er = 0 then 170 else er) = E at *
    have f0 : ((E : Int) == 0) = false := by rw [beq_eq_false_iff_ne]; omega
    go_enter Tryd.func61, Tryd.ntmps61
    go_wp2_with fail
    refine HR.out.mono ?_
    rintro e W1 ⟨rfl, hb1, hk1⟩
    have kc1 := hb1.c1
    have H1 : Hid (Bg w W1 c r ao cap l at_ E ∧ KeptIn (two c r) W W1) := ⟨hb1, two_of_c hk1⟩
    clear hb1 hk1 HR H
    go_wp2_with fail
    refine (wellG c E W1 kc1).mono ?_
    rintro e W8 ⟨rfl, hw⟩
    rw [hw]; clear hw
    rw [f0]
    go_wp2
    go_ret
    exact ⟨rfl, H1.out⟩
  · have d1 : decide (most < n) = false := by simpa using hlt
    have eE : cnE n most er = er := by unfold cnE; rw [if_neg hlt]
    have kc1 := h.c1
    rw [eE]
    by_cases he : er = 0
    · have eV : cnV n most er = n := by unfold cnV; rw [eE, if_pos he]
      rw [eV]
      subst he
      clear eE eV h hlt hn hm HR
      go_enter Tryd.func61, Tryd.ntmps61
      go_wp2_with fail
      refine (wellG c 0 W kc1).mono ?_
      rintro e W8 ⟨rfl, hw⟩
      rw [hw]; clear hw
      go_wp2
      go_ret
      exact ⟨rfl, H.out, two_below (Below.refl _ _)⟩
    · have eV : cnV n most er = 0 := by unfold cnV; rw [eE, if_neg he]
      rw [eV]
      have f0 : ((er : Int) == 0) = false := by rw [beq_eq_false_iff_ne]; omega
      clear eE eV h hlt hn hm HR
      go_enter Tryd.func61, Tryd.ntmps61
      go_wp2_with fail
      refine (wellG c er W kc1).mono ?_
      rintro e W8 ⟨rfl, hw⟩
      rw [hw]; clear hw
      rw [f0]
      go_wp2
      go_ret
      exact ⟨rfl, H.out, two_below (Below.refl _ _)⟩
end Go.Proofs.YtjikibhhhchgeaaDoor

namespace Go.Proofs.YtjikibhhhchgeaaDoor
open Go.RowKit
set_option linter.unusedVariables false
set_option linter.unusedSimpArgs false
set_option maxRecDepth 100000
theorem owns_typeU {w : World} {base e n size : Nat} {v : Value} {xs : List Value} (h : w.ownsRow base e size v n xs) (g : Nat) (hg : v.ownBlock = some g) : (∃ cur, w.heap[g]? = some (.cells cur e (0, 0))) ∧ base ≤ g ∧ g < w.heap.size := by
  rcases h.2 with ⟨hv, _⟩ | ⟨g', cap, cur, hv, hb, hc, _⟩
  · subst hv; simp [Value.ownBlock] at hg
  · subst hv
    have e : g' = g := by simpa [Value.ownBlock] using hg
    subst e
    exact ⟨⟨cur, hc⟩, hb, block_lt hc⟩
theorem owns_sameU {w w' : World} {base e n size : Nat} {v : Value} {xs : List Value} (h : w.ownsRow base e size v n xs) (hs : ∀ g, v.ownBlock = some g → w'.heap[g]? = w.heap[g]?) : w'.ownsRow base e size v n xs := by
  refine ⟨h.1, ?_⟩
  rcases h.2 with h1 | ⟨g, cap, cur, hv, hb, hc, h4, h5, h6, h7⟩
  · exact .inl h1
  · exact .inr ⟨g, cap, cur, hv, hb, by rw [hs g (by rw [hv]; rfl)]; exact hc, h4, h5, h6, h7⟩
/-- a body while it is read, a box whose second cell is a row that grows, and that row -/
structure Ug (W0 W : World) (c r : Nat) (ao : Option Addr) (cap : Nat) (l : List Nat) (at_ er ge : Nat) (f0 : Value) (D : Nat) (v : Value) (eT sz n : Nat) (cs : List Value) : Prop where
  bd : Bg W0 W c r ao cap l at_ er
  bx : W.heap[ge]? = some (.cells #[f0, v] D (0, 0))
  row : W.ownsRow W0.heap.size eT sz v n cs
  hge : W0.heap.size ≤ ge
  dst : (D ≠ 176 ∧ D ≠ 197 ∧ D ≠ 5) ∧ (eT ≠ 176 ∧ eT ≠ 197 ∧ eT ≠ 5) ∧ D ≠ eT
section
variable {W0 W : World} {c r : Nat} {ao : Option Addr} {cap : Nat} {l : List Nat} {at_ er ge : Nat} {f0 : Value} {D : Nat} {v : Value} {eT sz n : Nat} {cs : List Value}
theorem Ug.nr (h : Ug W0 W c r ao cap l at_ er ge f0 D v eT sz n cs) : ge ≠ r ∧ v.ownBlock ≠ some r ∧ ge ≠ c ∧ v.ownBlock ≠ some c ∧ v.ownBlock ≠ some ge := by
  obtain ⟨⟨d1, d2, d3⟩, ⟨e1, e2, e3⟩, x⟩ := h.dst
  refine ⟨fun e => ?_, fun e => ?_, fun e => ?_, fun e => ?_, fun e => ?_⟩
  · have h1 := h.bx; rw [e, h.bd.rd.blk] at h1; simp at h1
  · obtain ⟨⟨cur, h1⟩, _⟩ := owns_typeU h.row _ e; rw [h.bd.rd.blk] at h1; simp at h1; exact e2 h1.2.symm
  · have h1 := h.bx; rw [e, h.bd.bd] at h1; simp at h1; exact d1 h1.2.symm
  · obtain ⟨⟨cur, h1⟩, _⟩ := owns_typeU h.row _ e; rw [h.bd.bd] at h1; simp at h1; exact e1 h1.2.symm
  · obtain ⟨⟨cur, h1⟩, _⟩ := owns_typeU h.row _ e; rw [h.bx] at h1; simp at h1; exact x h1.2
theorem Ug.keep {W' : World} {at2 er2 : Nat} (h : Ug W0 W c r ao cap l at_ er ge f0 D v eT sz n cs) (hb : Bg W0 W' c r ao cap l at2 er2) (k : KeptIn (two c r) W W') : Ug W0 W' c r ao cap l at2 er2 ge f0 D v eT sz n cs := by
  obtain ⟨n1, n2, n3, n4, n5⟩ := h.nr
  exact ⟨hb, (k.block _ (block_lt h.bx) (fun e => by rcases e with e | e; exact n1 e; exact n3 e)).trans h.bx, owns_sameU h.row (fun g hg => k.block g (owns_typeU h.row g hg).2.2 (fun e => by rcases e with e | e <;> subst e; exact n2 hg; exact n4 hg)), h.hge, h.dst⟩
theorem Ug.later {W' : World} (h : Ug W0 W c r ao cap l at_ er ge f0 D v eT sz n cs) (k : Below W.heap.size W W') : Ug W0 W' c r ao cap l at_ er ge f0 D v eT sz n cs :=
  ⟨h.bd.later k, (k.block _ (block_lt h.bx)).trans h.bx, owns_sameU h.row (fun g hg => k.block g (owns_typeU h.row g hg).2.2), h.hge, h.dst⟩
theorem Ug.growB {W' : World} {o : Obj} (h : Ug W0 W c r ao cap l at_ er ge f0 D v eT sz n cs) (hg : (W.alloc o).grownBy W' v.ownBlock) : W'.heap[ge]? = some (.cells #[f0, v] D (0, 0)) := by
  have hK : KeptIn (fun g => v.ownBlock = some g) W W' := (KeptIn.ofBelow (S := fun g => v.ownBlock = some g) (below1 W o)).trans ⟨hg.os, hg.tape, hg.output, hg.size, fun g h1 h2 => hg.block g h1 (fun e => h2 e.symm)⟩ (fun _ _ h => h)
  exact (hK.block _ (block_lt h.bx) h.nr.2.2.2.2).trans h.bx
theorem Ug.grow {W' : World} {v' : Value} {o : Obj} {m : Nat} {ds : List Value} (h : Ug W0 W c r ao cap l at_ er ge f0 D v eT sz n cs) (ho : W'.ownsRow W0.heap.size eT sz v' m ds) (hg : (W.alloc o).grownBy W' v.ownBlock) :
    Ug W0 (W'.setCell ⟨ge, 1, none⟩ v') c r ao cap l at_ er ge f0 D v' eT sz m ds := by
  obtain ⟨n1, n2, n3, n4, n5⟩ := h.nr
  obtain ⟨⟨d1, d2, d3⟩, ⟨e1, e2, e3⟩, x⟩ := h.dst
  have hK : KeptIn (fun g => v.ownBlock = some g) W W' := (KeptIn.ofBelow (S := fun g => v.ownBlock = some g) (below1 W o)).trans ⟨hg.os, hg.tape, hg.output, hg.size, fun g h1 h2 => hg.block g h1 (fun e => h2 e.symm)⟩ (fun _ _ h => h)
  have hbx : W'.heap[ge]? = some (.cells #[f0, v] D (0, 0)) := h.growB hg
  have hne' : v'.ownBlock ≠ some ge := fun e => by
    obtain ⟨⟨cur, h1⟩, _⟩ := owns_typeU ho _ e
    rw [hbx] at h1; simp at h1; exact x h1.2
  have hS := keptIn_set W' ge 1 v'
  have hw0 : ∀ g, v.ownBlock = some g → W0.heap.size ≤ g := fun g e => (owns_typeU h.row g e).2.1
  have h0 := h.bd
  have hrv : ∀ g, (Value.slice ao l.length cap).ownBlock = some g → ¬ v.ownBlock = some g := fun g q1 q2 => by
    obtain ⟨⟨c1, h1⟩, _⟩ := owns_typeU h0.rd.own g q1
    obtain ⟨⟨c2, h2⟩, _⟩ := owns_typeU h.row g q2
    rw [h1] at h2; simp at h2; exact e3 h2.2.symm
  have hrg : ∀ g, (Value.slice ao l.length cap).ownBlock = some g → g ≠ ge := fun g q1 q2 => by
    obtain ⟨⟨c1, h1⟩, _⟩ := owns_typeU h0.rd.own g q1
    rw [q2, h.bx] at h1; simp at h1; exact d3 h1.2
  have b1 : ∀ g, g < W.heap.size → ¬ v.ownBlock = some g → g ≠ ge → (W'.setCell ⟨ge, 1, none⟩ v').heap[g]? = W.heap[g]? := fun g h1 h2 h3 => (hS.block g (Nat.lt_of_lt_of_le h1 hK.size) h3).trans (hK.block g h1 h2)
  refine ⟨⟨h0.bel.trans ((hK.below h0.bel.size (fun g hg e => by have := hw0 g e; omega)).trans (hS.below (Nat.le_trans h0.bel.size hK.size) (fun g hg e => by have := h.hge; omega))), (b1 c (block_lt h0.bd) n4 (fun e => n3 e.symm)).trans h0.bd, h0.hc, ⟨(b1 r (block_lt h0.rd.blk) n2 (fun e => n1 e.symm)).trans h0.rd.blk, owns_sameU h0.rd.own (fun g hg => b1 g (owns_typeU h0.rd.own g hg).2.2 (hrv g hg) (hrg g hg)), h0.rd.lt, h0.rd.len, h0.rd.le, h0.rd.hr⟩⟩, put_boxX hbx 1 v' (by simp), ?_, h.hge, h.dst⟩
  exact owns_sameU ho (fun g hg => hS.block g (owns_typeU ho g hg).2.2 (fun e => hne' (e ▸ hg)))
theorem Ug.rowA {o : Obj} (h : Ug W0 W c r ao cap l at_ er ge f0 D v eT sz n cs) : (W.alloc o).ownsRow W0.heap.size eT sz v n cs := (h.later (below1 W o)).row
theorem Ug.szA {o : Obj} (h : Ug W0 W c r ao cap l at_ er ge f0 D v eT sz n cs) : W0.heap.size ≤ (W.alloc o).heap.size := Nat.le_trans h.bd.bel.size (by simp)
theorem Ug.c0 (h : Ug W0 W c r ao cap l at_ er ge f0 D v eT sz n cs) : W.cell? ⟨ge, 0, none⟩ = some f0 := by rw [blk_at h.bx]; rfl
theorem Ug.c1 (h : Ug W0 W c r ao cap l at_ er ge f0 D v eT sz n cs) : W.cell? ⟨ge, 1, none⟩ = some v := by rw [blk_at h.bx]; rfl
end
/-- the cells of a row of one's own, place by place -/
theorem owns_at {w : World} {base e n size : Nat} {v : Value} {xs : List Value} (h : w.ownsRow base e size v n xs) (hx : xs ≠ []) : ∃ g cap, v = .slice (some ⟨g, 0, none⟩) n cap ∧ ∀ k u, xs[k]? = some u → w.cell? ⟨g, 0 + k, none⟩ = some u := by
  rcases h.2 with ⟨hv, h0⟩ | ⟨g, cap, cur, hv, hb, hc, _, _, _, h7⟩
  · have h1 := h.1
    rw [h0, Nat.zero_mul] at h1
    exact absurd (List.length_eq_zero_iff.1 h1) hx
  · refine ⟨g, cap, hv, fun k u hk => ?_⟩
    rw [blk_at hc, Nat.zero_add, ← Array.getElem?_toList]
    rw [← h7, List.getElem?_take] at hk
    split at hk
    · exact hk
    · simp at hk
end Go.Proofs.YtjikibhhhchgeaaDoor
