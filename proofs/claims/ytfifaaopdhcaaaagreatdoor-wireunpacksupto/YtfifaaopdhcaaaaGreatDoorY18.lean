import Derived.Test.YtfifaaopdhcaaaaGreatDoorY17
import Derived.Test.YtfifaaopdhcaaaaGreatDoorY13
namespace Go.Proofs.YtfifaaopdhcaaaaGreatDoor
open Go.RowKit
set_option linter.unusedVariables false
set_option linter.unusedSimpArgs false
set_option maxRecDepth 100000
theorem owns_typeU {w : World} {base e n size : Nat} {v : Value} {xs : List Value} (h : w.ownsRow base e size v n xs) (g : Nat) (hg : v.ownBlock = some g) : (∃ cur, w.heap[g]? = some (.cells cur e (0, 0))) ∧ base ≤ g ∧ g < w.heap.size := by
  rcases h.2 with ⟨hv, _⟩ | ⟨g', cap, cur, hv, hb, hc, _⟩
  · subst hv; simp [Value.ownBlock] at hg
  · subst hv
    have e : g' = g := by simpa [Value.ownBlock] using hg
    subst e
    exact ⟨⟨cur, hc⟩, hb, block_lt hc⟩
theorem owns_sameU {w w' : World} {base e n size : Nat} {v : Value} {xs : List Value} (h : w.ownsRow base e size v n xs) (hs : ∀ g, v.ownBlock = some g → w'.heap[g]? = w.heap[g]?) : w'.ownsRow base e size v n xs := by
  refine ⟨h.1, ?_⟩
  rcases h.2 with h1 | ⟨g, cap, cur, hv, hb, hc, h4, h5, h6, h7⟩
  · exact .inl h1
  · exact .inr ⟨g, cap, cur, hv, hb, by rw [hs g (by rw [hv]; rfl)]; exact hc, h4, h5, h6, h7⟩
/-- a body while it is read, a box whose second cell is a row that grows, and that row -/
structure Ug (W0 W : World) (c r : Nat) (ao : Option Addr) (cap : Nat) (l : List Nat) (at_ er ge : Nat) (f0 : Value) (D : Nat) (v : Value) (eT sz n : Nat) (cs : List Value) : Prop where
  bd : Bg W0 W c r ao cap l at_ er
  bx : W.heap[ge]? = some (.cells #[f0, v] D (0, 0))
  row : W.ownsRow W0.heap.size eT sz v n cs
  hge : W0.heap.size ≤ ge
  dst : (D ≠ 135 ∧ D ≠ 170 ∧ D ≠ 5) ∧ (eT ≠ 135 ∧ eT ≠ 170 ∧ eT ≠ 5) ∧ D ≠ eT
section
variable {W0 W : World} {c r : Nat} {ao : Option Addr} {cap : Nat} {l : List Nat} {at_ er ge : Nat} {f0 : Value} {D : Nat} {v : Value} {eT sz n : Nat} {cs : List Value}
theorem Ug.nr (h : Ug W0 W c r ao cap l at_ er ge f0 D v eT sz n cs) : ge ≠ r ∧ v.ownBlock ≠ some r ∧ ge ≠ c ∧ v.ownBlock ≠ some c ∧ v.ownBlock ≠ some ge := by
  obtain ⟨⟨d1, d2, d3⟩, ⟨e1, e2, e3⟩, x⟩ := h.dst
  refine ⟨fun e => ?_, fun e => ?_, fun e => ?_, fun e => ?_, fun e => ?_⟩
  · have h1 := h.bx; rw [e, h.bd.rd.blk] at h1; simp at h1
  · obtain ⟨⟨cur, h1⟩, _⟩ := owns_typeU h.row _ e; rw [h.bd.rd.blk] at h1; simp at h1; exact e2 h1.2.symm
  · have h1 := h.bx; rw [e, h.bd.bd] at h1; simp at h1; exact d1 h1.2.symm
  · obtain ⟨⟨cur, h1⟩, _⟩ := owns_typeU h.row _ e; rw [h.bd.bd] at h1; simp at h1; exact e1 h1.2.symm
  · obtain ⟨⟨cur, h1⟩, _⟩ := owns_typeU h.row _ e; rw [h.bx] at h1; simp at h1; exact x h1.2
theorem Ug.keep {W' : World} {at2 er2 : Nat} (h : Ug W0 W c r ao cap l at_ er ge f0 D v eT sz n cs) (hb : Bg W0 W' c r ao cap l at2 er2) (k : KeptIn (two c r) W W') : Ug W0 W' c r ao cap l at2 er2 ge f0 D v eT sz n cs := by
  obtain ⟨n1, n2, n3, n4, n5⟩ := h.nr
  exact ⟨hb, (k.block _ (block_lt h.bx) (fun e => by rcases e with e | e; exact n1 e; exact n3 e)).trans h.bx, owns_sameU h.row (fun g hg => k.block g (owns_typeU h.row g hg).2.2 (fun e => by rcases e with e | e <;> subst e; exact n2 hg; exact n4 hg)), h.hge, h.dst⟩
theorem Ug.later {W' : World} (h : Ug W0 W c r ao cap l at_ er ge f0 D v eT sz n cs) (k : Below W.heap.size W W') : Ug W0 W' c r ao cap l at_ er ge f0 D v eT sz n cs :=
  ⟨h.bd.later k, (k.block _ (block_lt h.bx)).trans h.bx, owns_sameU h.row (fun g hg => k.block g (owns_typeU h.row g hg).2.2), h.hge, h.dst⟩
theorem Ug.growB {W' : World} {o : Obj} (h : Ug W0 W c r ao cap l at_ er ge f0 D v eT sz n cs) (hg : (W.alloc o).grownBy W' v.ownBlock) : W'.heap[ge]? = some (.cells #[f0, v] D (0, 0)) := by
  have hK : KeptIn (fun g => v.ownBlock = some g) W W' := (KeptIn.ofBelow (S := fun g => v.ownBlock = some g) (below1 W o)).trans ⟨hg.os, hg.tape, hg.output, hg.size, fun g h1 h2 => hg.block g h1 (fun e => h2 e.symm)⟩ (fun _ _ h => h)
  exact (hK.block _ (block_lt h.bx) h.nr.2.2.2.2).trans h.bx
theorem Ug.grow {W' : World} {v' : Value} {o : Obj} {m : Nat} {ds : List Value} (h : Ug W0 W c r ao cap l at_ er ge f0 D v eT sz n cs) (ho : W'.ownsRow W0.heap.size eT sz v' m ds) (hg : (W.alloc o).grownBy W' v.ownBlock) :
    Ug W0 (W'.setCell ⟨ge, 1, none⟩ v') c r ao cap l at_ er ge f0 D v' eT sz m ds := by
  obtain ⟨n1, n2, n3, n4, n5⟩ := h.nr
  obtain ⟨⟨d1, d2, d3⟩, ⟨e1, e2, e3⟩, x⟩ := h.dst
  have hK : KeptIn (fun g => v.ownBlock = some g) W W' := (KeptIn.ofBelow (S := fun g => v.ownBlock = some g) (below1 W o)).trans ⟨hg.os, hg.tape, hg.output, hg.size, fun g h1 h2 => hg.block g h1 (fun e => h2 e.symm)⟩ (fun _ _ h => h)
  have hbx : W'.heap[ge]? = some (.cells #[f0, v] D (0, 0)) := h.growB hg
  have hne' : v'.ownBlock ≠ some ge := fun e => by
    obtain ⟨⟨cur, h1⟩, _⟩ := owns_typeU ho _ e
    rw [hbx] at h1; simp at h1; exact x h1.2
  have hS := keptIn_set W' ge 1 v'
  have hw0 : ∀ g, v.ownBlock = some g → W0.heap.size ≤ g := fun g e => (owns_typeU h.row g e).2.1
  have h0 := h.bd
  have hrv : ∀ g, (Value.slice ao l.length cap).ownBlock = some g → ¬ v.ownBlock = some g := fun g q1 q2 => by
    obtain ⟨⟨c1, h1⟩, _⟩ := owns_typeU h0.rd.own g q1
    obtain ⟨⟨c2, h2⟩, _⟩ := owns_typeU h.row g q2
    rw [h1] at h2; simp at h2; exact e3 h2.2.symm
  have hrg : ∀ g, (Value.slice ao l.length cap).ownBlock = some g → g ≠ ge := fun g q1 q2 => by
    obtain ⟨⟨c1, h1⟩, _⟩ := owns_typeU h0.rd.own g q1
    rw [q2, h.bx] at h1; simp at h1; exact d3 h1.2
  have b1 : ∀ g, g < W.heap.size → ¬ v.ownBlock = some g → g ≠ ge → (W'.setCell ⟨ge, 1, none⟩ v').heap[g]? = W.heap[g]? := fun g h1 h2 h3 => (hS.block g (Nat.lt_of_lt_of_le h1 hK.size) h3).trans (hK.block g h1 h2)
  refine ⟨⟨h0.bel.trans ((hK.below h0.bel.size (fun g hg e => by have := hw0 g e; omega)).trans (hS.below (Nat.le_trans h0.bel.size hK.size) (fun g hg e => by have := h.hge; omega))), (b1 c (block_lt h0.bd) n4 (fun e => n3 e.symm)).trans h0.bd, h0.hc, ⟨(b1 r (block_lt h0.rd.blk) n2 (fun e => n1 e.symm)).trans h0.rd.blk, owns_sameU h0.rd.own (fun g hg => b1 g (owns_typeU h0.rd.own g hg).2.2 (hrv g hg) (hrg g hg)), h0.rd.lt, h0.rd.len, h0.rd.le, h0.rd.hr⟩⟩, put_boxX hbx 1 v' (by simp), ?_, h.hge, h.dst⟩
  exact owns_sameU ho (fun g hg => hS.block g (owns_typeU ho g hg).2.2 (fun e => hne' (e ▸ hg)))
theorem Ug.rowA {o : Obj} (h : Ug W0 W c r ao cap l at_ er ge f0 D v eT sz n cs) : (W.alloc o).ownsRow W0.heap.size eT sz v n cs := (h.later (below1 W o)).row
theorem Ug.szA {o : Obj} (h : Ug W0 W c r ao cap l at_ er ge f0 D v eT sz n cs) : W0.heap.size ≤ (W.alloc o).heap.size := Nat.le_trans h.bd.bel.size (by simp)
theorem Ug.c0 (h : Ug W0 W c r ao cap l at_ er ge f0 D v eT sz n cs) : W.cell? ⟨ge, 0, none⟩ = some f0 := by rw [blk_at h.bx]; rfl
theorem Ug.c1 (h : Ug W0 W c r ao cap l at_ er ge f0 D v eT sz n cs) : W.cell? ⟨ge, 1, none⟩ = some v := by rw [blk_at h.bx]; rfl
end
/-- the cells of a row of one's own, place by place -/
theorem owns_at {w : World} {base e n size : Nat} {v : Value} {xs : List Value} (h : w.ownsRow base e size v n xs) (hx : xs ≠ []) : ∃ g cap, v = .slice (some ⟨g, 0, none⟩) n cap ∧ ∀ k u, xs[k]? = some u → w.cell? ⟨g, 0 + k, none⟩ = some u := by
  rcases h.2 with ⟨hv, h0⟩ | ⟨g, cap, cur, hv, hb, hc, _, _, _, h7⟩
  · have h1 := h.1
    rw [h0, Nat.zero_mul] at h1
    exact absurd (List.length_eq_zero_iff.1 h1) hx
  · refine ⟨g, cap, hv, fun k u hk => ?_⟩
    rw [blk_at hc, Nat.zero_add, ← Array.getElem?_toList]
    rw [← h7, List.getElem?_take] at hk
    split at hk
    · exact hk
    · simp at hk
end Go.Proofs.YtfifaaopdhcaaaaGreatDoor

namespace Go.Proofs.YtfifaaopdhcaaaaGreatDoor
open Go.RowKit
set_option linter.unusedVariables false
set_option linter.unusedSimpArgs false
set_option maxRecDepth 100000
theorem ndE_01 (b : Bool) {e : Nat} (h : e = 0 ∨ e = 81) : ndE b e = 0 ∨ ndE b e = 81 := by
  rcases h with rfl | rfl <;> cases b <;> simp [ndE]
/-- how UnpackMeta ends -/
def mtE (l : List Nat) : Nat := ndE (decide (raA l (raA l 0 4) (l.length - raA l 0 4) = l.length)) (ndE (tx (bstr (rrL l (raA l 0 4) (l.length - raA l 0 4)))) (ndE (okR l (raA l 0 4) (l.length - raA l 0 4)) (ndE (okR l 0 4) 0)))
theorem mtE_or (l : List Nat) : mtE l = 0 ∨ mtE l = 81 := ndE_01 _ (ndE_01 _ (ndE_01 _ (ndE_01 _ (.inl rfl))))
set_option maxHeartbeats 4000000 in
theorem unpackMeta_ok (ao : Option Addr) (cap N : Nat) (l : List Nat) (w : World) (h : BRow w ao cap l) (hN : l.length = N) (hT : Tabs w) (hfin : mtE l = 0) :
    Calls Tryz.prog 15 #[.slice ao N cap] w fun e w' => e = .returned (.tuple #[.agg #[.int .u32 ((rvV l 0 4 : Nat) : Int), .string (bstr (rrL l (raA l 0 4) (l.length - raA l 0 4)))], .int .i64 0]) ∧ Below w.heap.size w w' := by
  have HUp : Hid (∀ W, Below w.heap.size w W → Calls Tryz.prog 31 #[.slice ao N cap] W fun e w' => ∃ c r ao' cap', e = .returned (.pointer (some ⟨c, 0, none⟩)) ∧ Bg W w' c r ao' cap' l 0 0) := fun W hb => unpackG ao cap N l W (h.later hb) hN
  have HFn : Hid (ndE (decide (raA l (raA l 0 4) (l.length - raA l 0 4) = l.length)) (ndE (tx (bstr (rrL l (raA l 0 4) (l.length - raA l 0 4)))) (ndE (okR l (raA l 0 4) (l.length - raA l 0 4)) (ndE (okR l 0 4) 0))) = 0) := hfin
  have HT : Hid (Tabs w) := hT
  clear h hN hfin hT
  obtain ⟨V, hV⟩ : ∃ V, rvV l 0 4 = V := ⟨_, rfl⟩
  obtain ⟨a1, ha1⟩ : ∃ a1, raA l 0 4 = a1 := ⟨_, rfl⟩
  obtain ⟨e1, he1⟩ : ∃ e1, ndE (okR l 0 4) 0 = e1 := ⟨_, rfl⟩
  rw [ha1, he1] at HFn
  rw [ha1, hV]
  obtain ⟨nn, hnn⟩ : ∃ nn, l.length - a1 = nn := ⟨_, rfl⟩
  rw [hnn] at HFn ⊢
  obtain ⟨s, hs⟩ : ∃ s, bstr (rrL l a1 nn) = s := ⟨_, rfl⟩
  rw [hs] at HFn ⊢
  obtain ⟨a2, ha2⟩ : ∃ a2, raA l a1 nn = a2 := ⟨_, rfl⟩
  obtain ⟨e2, he2⟩ : ∃ e2, ndE (tx s) (ndE (okR l a1 nn) e1) = e2 := ⟨_, rfl⟩
  rw [ha2, he2] at HFn
  have HV : Hid (rvV l 0 4 = V ∧ raA l 0 4 = a1 ∧ ndE (okR l 0 4) 0 = e1) := ⟨hV, ha1, he1⟩
  have HNN : Hid (l.length - a1 = nn) := hnn
  have HV2 : Hid (bstr (rrL l a1 nn) = s ∧ raA l a1 nn = a2 ∧ ndE (tx s) (ndE (okR l a1 nn) e1) = e2) := ⟨hs, ha2, he2⟩
  clear hV ha1 he1 hs ha2 he2 hnn
  go_enter Tryz.func15, Tryz.ntmps15
  go_wp2_with fail
  have hx := mkb1 w #[.int .u32 0, .string ⟨#[]⟩] 53
  generalize w.alloc (Obj.cells #[.int .u32 0, .string ⟨#[]⟩] 53) = W0 at *
  refine (HUp.out _ hx.bel).mono ?_
  rintro e W1 ⟨c, r, ao', cap', rfl, hbd⟩
  have HX : Hid (Bx1 w W0 #[.int .u32 0, .string ⟨#[]⟩] 53) := hx
  have HT0 : Hid (Tabs W0) := HT.out.later hx.bel
  have H1 : Hid (Bg W0 W1 c r ao' cap' l 0 0) := hbd
  clear hx hbd HUp HT
  go_wp2_with fail
  have hc1 := bu32G H1.out
  rw [HV.out.1, HV.out.2.1, HV.out.2.2] at hc1
  refine hc1.mono ?_
  rintro e W2 ⟨rfl, hbd, _⟩
  have H2 : Hid (Bg W0 W2 c r ao' cap' l a1 e1) := hbd
  clear hbd H1 hc1
  go_wp2_with fail
  have h3 : Bg W0 (W2.alloc (Obj.cells #[.int .u32 (V : Int), .string ⟨#[]⟩] 53)) c r ao' cap' l a1 e1 := H2.out.later (below1 W2 _)
  have eb3 := heap_new W2 (Obj.cells #[.int .u32 (V : Int), .string ⟨#[]⟩] 53)
  have HG : Hid (W0.heap.size ≤ W2.heap.size) := H2.out.bel.size
  generalize W2.alloc (Obj.cells #[.int .u32 (V : Int), .string ⟨#[]⟩] 53) = W3 at *
  generalize W2.heap.size = ge at *
  refine (bleftG h3 HNN.out).mono ?_
  rintro e W4 ⟨rfl, q, hw⟩
  have h4 : Bg W0 W4 c r ao' cap' l a1 e1 ∧ W4.heap[ge]? = some (.cells #[.int .u32 (V : Int), .string ⟨#[]⟩] 53 (0, 0)) := by rw [hw]; exact ⟨h3.later (below_drewN _ q), eb3⟩
  have H4 : Hid _ := h4
  clear h3 eb3 hw H2 h4
  go_wp2_with fail
  have hc7 := brawTextG nn H4.out.1 HT0.out
  rw [HV2.out.1, HV2.out.2.1, HV2.out.2.2] at hc7
  refine hc7.mono ?_
  rintro e W7 ⟨rfl, hb7, hk7⟩
  have eb7 := H4.out.1.keep H4.out.2 (by decide) (by decide) hk7
  have H7 : Hid (Bg W0 W7 c r ao' cap' l a2 e2 ∧ W7.heap[ge]? = some (.cells #[.int .u32 (V : Int), .string ⟨#[]⟩] 53 (0, 0))) := ⟨hb7, eb7⟩
  clear H4 hb7 hk7 eb7 hc7
  have y1 : W7.cell? ⟨ge, 1, none⟩ = some (.string ⟨#[]⟩) := by rw [blk_at H7.out.2]; rfl
  have f1 := blk_free H7.out.2 1
  have H8 : Hid (Bg W0 (W7.setCell ⟨ge, 1, none⟩ (.string s)) c r ao' cap' l a2 e2 ∧ (W7.setCell ⟨ge, 1, none⟩ (.string s)).heap[ge]? = some (.cells #[.int .u32 (V : Int), .string s] 53 (0, 0))) := ⟨H7.out.1.put H7.out.2 (by decide) (by decide) (by decide) HG.out 1 _, put_boxX H7.out.2 1 _ (by simp)⟩
  obtain ⟨W8, hW8⟩ : ∃ W8, W8 = W7.setCell ⟨ge, 1, none⟩ (.string s) := ⟨_, rfl⟩
  rw [← hW8] at H8
  have k0 : (W7.setCell ⟨ge, 1, none⟩ (.string s)).cell? ⟨ge, 0, none⟩ = some (.int .u32 (V : Int)) := by rw [← hW8, blk_at H8.out.2]; rfl
  have k1 : (W7.setCell ⟨ge, 1, none⟩ (.string s)).cell? ⟨ge, 1, none⟩ = some (.string s) := by rw [← hW8, blk_at H8.out.2]; rfl
  clear H7
  go_wp2_with fail
  rw [← hW8]
  refine (wholeM_ok V s H8.out.1 HFn.out).mono ?_
  rintro e W9 ⟨rfl, hb9, hk9⟩
  have HY : Hid (Below w.heap.size w W9 ∧ W9.heap[w.heap.size]? = some (.cells #[.int .u32 0, .string ⟨#[]⟩] 53 (0, 0))) := ⟨HX.out.bel.trans (hb9.mono HX.out.bel.size), by rw [hb9.block _ (by have := HX.out.size; omega)]; exact HX.out.a⟩
  have za0 : W9.cell? ⟨w.heap.size, 0, none⟩ = some (.int .u32 0) := by rw [blk_at HY.out.2]; rfl
  have za1 : W9.cell? ⟨w.heap.size, 1, none⟩ = some (.string ⟨#[]⟩) := by rw [blk_at HY.out.2]; rfl
  have ya0 : W9.frozen? ⟨w.heap.size, 0, none⟩ = false := blk_free HY.out.2 0
  have ya1 : W9.frozen? ⟨w.heap.size, 1, none⟩ = false := blk_free HY.out.2 1
  have hs0 : w.heap.size < W0.heap.size := by have := HX.out.size; omega
  clear hb9 hk9 H8 k0 k1 y1 f1 hW8
  go_wp2
  obtain ⟨hp, hq⟩ := putc2 HY.out.2 (.int .u32 (V : Int)) (.string s)
  exact bodyPost_ret (results_cell_tmp1 rfl _ _ w.heap.size 53 _ (0, 0) _ rfl hp Tryz.underlying53 rfl infoM) rfl ⟨rfl, HY.out.1.trans (hq.below HY.out.1.size (fun g hg => by omega))⟩
set_option maxHeartbeats 4000000 in
theorem unpackMeta_no (ao : Option Addr) (cap N : Nat) (l : List Nat) (w : World) (h : BRow w ao cap l) (hN : l.length = N) (hT : Tabs w) (hfin : mtE l = 81) :
    Calls Tryz.prog 15 #[.slice ao N cap] w fun e w' => e = .returned (.tuple #[.agg #[.int .u32 0, .string ⟨#[]⟩], .int .i64 81]) ∧ Below w.heap.size w w' := by
  have HUp : Hid (∀ W, Below w.heap.size w W → Calls Tryz.prog 31 #[.slice ao N cap] W fun e w' => ∃ c r ao' cap', e = .returned (.pointer (some ⟨c, 0, none⟩)) ∧ Bg W w' c r ao' cap' l 0 0) := fun W hb => unpackG ao cap N l W (h.later hb) hN
  have HFn : Hid (ndE (decide (raA l (raA l 0 4) (l.length - raA l 0 4) = l.length)) (ndE (tx (bstr (rrL l (raA l 0 4) (l.length - raA l 0 4)))) (ndE (okR l (raA l 0 4) (l.length - raA l 0 4)) (ndE (okR l 0 4) 0))) = 81) := hfin
  have HT : Hid (Tabs w) := hT
  clear h hN hfin hT
  obtain ⟨V, hV⟩ : ∃ V, rvV l 0 4 = V := ⟨_, rfl⟩
  obtain ⟨a1, ha1⟩ : ∃ a1, raA l 0 4 = a1 := ⟨_, rfl⟩
  obtain ⟨e1, he1⟩ : ∃ e1, ndE (okR l 0 4) 0 = e1 := ⟨_, rfl⟩
  rw [ha1, he1] at HFn
  
  obtain ⟨nn, hnn⟩ : ∃ nn, l.length - a1 = nn := ⟨_, rfl⟩
  rw [hnn] at HFn
  obtain ⟨s, hs⟩ : ∃ s, bstr (rrL l a1 nn) = s := ⟨_, rfl⟩
  rw [hs] at HFn
  obtain ⟨a2, ha2⟩ : ∃ a2, raA l a1 nn = a2 := ⟨_, rfl⟩
  obtain ⟨e2, he2⟩ : ∃ e2, ndE (tx s) (ndE (okR l a1 nn) e1) = e2 := ⟨_, rfl⟩
  rw [ha2, he2] at HFn
  have HV : Hid (rvV l 0 4 = V ∧ raA l 0 4 = a1 ∧ ndE (okR l 0 4) 0 = e1) := ⟨hV, ha1, he1⟩
  have HNN : Hid (l.length - a1 = nn) := hnn
  have HV2 : Hid (bstr (rrL l a1 nn) = s ∧ raA l a1 nn = a2 ∧ ndE (tx s) (ndE (okR l a1 nn) e1) = e2) := ⟨hs, ha2, he2⟩
  clear hV ha1 he1 hs ha2 he2 hnn
  go_enter Tryz.func15, Tryz.ntmps15
  go_wp2_with fail
  have hx := mkb1 w #[.int .u32 0, .string ⟨#[]⟩] 53
  generalize w.alloc (Obj.cells #[.int .u32 0, .string ⟨#[]⟩] 53) = W0 at *
  refine (HUp.out _ hx.bel).mono ?_
  rintro e W1 ⟨c, r, ao', cap', rfl, hbd⟩
  have HX : Hid (Bx1 w W0 #[.int .u32 0, .string ⟨#[]⟩] 53) := hx
  have HT0 : Hid (Tabs W0) := HT.out.later hx.bel
  have H1 : Hid (Bg W0 W1 c r ao' cap' l 0 0) := hbd
  clear hx hbd HUp HT
  go_wp2_with fail
  have hc1 := bu32G H1.out
  rw [HV.out.1, HV.out.2.1, HV.out.2.2] at hc1
  refine hc1.mono ?_
  rintro e W2 ⟨rfl, hbd, _⟩
  have H2 : Hid (Bg W0 W2 c r ao' cap' l a1 e1) := hbd
  clear hbd H1 hc1
  go_wp2_with fail
  have h3 : Bg W0 (W2.alloc (Obj.cells #[.int .u32 (V : Int), .string ⟨#[]⟩] 53)) c r ao' cap' l a1 e1 := H2.out.later (below1 W2 _)
  have eb3 := heap_new W2 (Obj.cells #[.int .u32 (V : Int), .string ⟨#[]⟩] 53)
  have HG : Hid (W0.heap.size ≤ W2.heap.size) := H2.out.bel.size
  generalize W2.alloc (Obj.cells #[.int .u32 (V : Int), .string ⟨#[]⟩] 53) = W3 at *
  generalize W2.heap.size = ge at *
  refine (bleftG h3 HNN.out).mono ?_
  rintro e W4 ⟨rfl, q, hw⟩
  have h4 : Bg W0 W4 c r ao' cap' l a1 e1 ∧ W4.heap[ge]? = some (.cells #[.int .u32 (V : Int), .string ⟨#[]⟩] 53 (0, 0)) := by rw [hw]; exact ⟨h3.later (below_drewN _ q), eb3⟩
  have H4 : Hid _ := h4
  clear h3 eb3 hw H2 h4
  go_wp2_with fail
  have hc7 := brawTextG nn H4.out.1 HT0.out
  rw [HV2.out.1, HV2.out.2.1, HV2.out.2.2] at hc7
  refine hc7.mono ?_
  rintro e W7 ⟨rfl, hb7, hk7⟩
  have eb7 := H4.out.1.keep H4.out.2 (by decide) (by decide) hk7
  have H7 : Hid (Bg W0 W7 c r ao' cap' l a2 e2 ∧ W7.heap[ge]? = some (.cells #[.int .u32 (V : Int), .string ⟨#[]⟩] 53 (0, 0))) := ⟨hb7, eb7⟩
  clear H4 hb7 hk7 eb7 hc7
  have y1 : W7.cell? ⟨ge, 1, none⟩ = some (.string ⟨#[]⟩) := by rw [blk_at H7.out.2]; rfl
  have f1 := blk_free H7.out.2 1
  have H8 : Hid (Bg W0 (W7.setCell ⟨ge, 1, none⟩ (.string s)) c r ao' cap' l a2 e2 ∧ (W7.setCell ⟨ge, 1, none⟩ (.string s)).heap[ge]? = some (.cells #[.int .u32 (V : Int), .string s] 53 (0, 0))) := ⟨H7.out.1.put H7.out.2 (by decide) (by decide) (by decide) HG.out 1 _, put_boxX H7.out.2 1 _ (by simp)⟩
  obtain ⟨W8, hW8⟩ : ∃ W8, W8 = W7.setCell ⟨ge, 1, none⟩ (.string s) := ⟨_, rfl⟩
  rw [← hW8] at H8
  have k0 : (W7.setCell ⟨ge, 1, none⟩ (.string s)).cell? ⟨ge, 0, none⟩ = some (.int .u32 (V : Int)) := by rw [← hW8, blk_at H8.out.2]; rfl
  have k1 : (W7.setCell ⟨ge, 1, none⟩ (.string s)).cell? ⟨ge, 1, none⟩ = some (.string s) := by rw [← hW8, blk_at H8.out.2]; rfl
  clear H7
  go_wp2_with fail
  rw [← hW8]
  refine (wholeM_no V s 81 (by decide) H8.out.1 HFn.out).mono ?_
  rintro e W9 ⟨rfl, hb9, hk9⟩
  have HY : Hid (Below w.heap.size w W9 ∧ W9.heap[w.heap.size]? = some (.cells #[.int .u32 0, .string ⟨#[]⟩] 53 (0, 0))) := ⟨HX.out.bel.trans (hb9.mono HX.out.bel.size), by rw [hb9.block _ (by have := HX.out.size; omega)]; exact HX.out.a⟩
  have za0 : W9.cell? ⟨w.heap.size, 0, none⟩ = some (.int .u32 0) := by rw [blk_at HY.out.2]; rfl
  have za1 : W9.cell? ⟨w.heap.size, 1, none⟩ = some (.string ⟨#[]⟩) := by rw [blk_at HY.out.2]; rfl
  have ya0 : W9.frozen? ⟨w.heap.size, 0, none⟩ = false := blk_free HY.out.2 0
  have ya1 : W9.frozen? ⟨w.heap.size, 1, none⟩ = false := blk_free HY.out.2 1
  have hs0 : w.heap.size < W0.heap.size := by have := HX.out.size; omega
  clear hb9 hk9 H8 k0 k1 y1 f1 hW8
  go_wp2
  obtain ⟨hp, hq⟩ := putc2 HY.out.2 (.int .u32 0) (.string ⟨#[]⟩)
  exact bodyPost_ret (results_cell_tmp1 rfl _ _ w.heap.size 53 _ (0, 0) _ rfl hp Tryz.underlying53 rfl infoM) rfl ⟨rfl, HY.out.1.trans (hq.below HY.out.1.size (fun g hg => by omega))⟩
end Go.Proofs.YtfifaaopdhcaaaaGreatDoor

namespace Go.Proofs.YtfifaaopdhcaaaaGreatDoor
open Go.RowKit
set_option linter.unusedVariables false
set_option linter.unusedSimpArgs false
set_option maxRecDepth 100000
set_option maxHeartbeats 2000000 in
theorem wholeR_ok (x0 : ByteArray) (x1 : Option Addr) (n1 c1 : Nat) {w W : World} {c r : Nat} {ao : Option Addr} {cap : Nat} {l : List Nat} {at_ er : Nat} (h : Bg w W c r ao cap l at_ er) (hn : ndE (decide (at_ = l.length)) er = 0) :
    Calls Tryz.prog 45 #[.pointer (some ⟨c, 0, none⟩), .agg #[.string x0, .slice x1 n1 c1]] W fun e w' => e = .returned (.tuple #[.agg #[.string x0, .slice x1 n1 c1], .int .i64 0]) ∧ Below w.heap.size w w' ∧ KeptIn (fun g => g = c) W w' := by
  have HN : Hid (ndE (decide (at_ = l.length)) er = 0) := hn
  clear hn
  have HE : Hid (∀ W, Bg w W c r ao cap l at_ er → Calls Tryz.prog 69 #[.pointer (some ⟨r, 0, none⟩)] W fun e w' => ∃ E : Int, e = .returned (.int .i64 E) ∧ (E == 0) = decide (at_ = l.length) ∧ ∃ q, w' = W.drewN q) := fun W h => rendG h
  have H : Hid (Bg w W c r ao cap l at_ er) := h
  clear h
  have q00 : ∀ o o', ((W.alloc o).alloc o').cell? ⟨c, 0, none⟩ = some (.pointer (some ⟨r, 0, none⟩)) := fun o o' => (H.out.later (below2 W o o')).c0
  go_enter Tryz.func45, Tryz.ntmps45
  go_wp2_with fail
  have hx : Bx2 W ((W.alloc (Obj.cells #[.string x0, .slice x1 n1 c1] 38)).alloc (Obj.cells #[.string ⟨#[]⟩, .slice none 0 0] 38)) #[.string x0, .slice x1 n1 c1] #[.string ⟨#[]⟩, .slice none 0 0] 38 38 := mkb2 W _ _ _ _
  generalize ((W.alloc (Obj.cells #[.string x0, .slice x1 n1 c1] 38)).alloc (Obj.cells #[.string ⟨#[]⟩, .slice none 0 0] 38)) = W5 at *
  refine (HE.out _ (H.out.later hx.bel)).mono ?_
  rintro e W6 ⟨E, rfl, hE, q, hw⟩
  have hy : Bx2 W W6 #[.string x0, .slice x1 n1 c1] #[.string ⟨#[]⟩, .slice none 0 0] 38 38 := by rw [hw]; exact hx.later (below_drewN _ q)
  have H6 : Hid (Bg w W6 c r ao cap l at_ er ∧ Bx2 W W6 #[.string x0, .slice x1 n1 c1] #[.string ⟨#[]⟩, .slice none 0 0] 38 38) := ⟨H.out.later hy.bel, hy⟩
  clear hw hx hy HE q00
  generalize hD : decide (at_ = l.length) = D at *
  go_wp2_with fail
  refine (needG D H6.out.1).mono ?_
  rintro e W7 ⟨rfl, hb7, hk7⟩
  rw [HN.out] at hb7
  have hcW : c < W.heap.size := block_lt H.out.bd
  have H7 : Hid (Bg w W7 c r ao cap l at_ 0 ∧ Bk2 c W W7 #[.string x0, .slice x1 n1 c1] #[.string ⟨#[]⟩, .slice none 0 0] 38 38) := ⟨hb7, Bk2.of hk7 H6.out.2 hcW⟩
  have kc1 := hb7.c1
  clear hb7 hk7 H6 hD
  go_wp2_with fail
  refine (wellG c 0 W7 kc1).mono ?_
  rintro e W8 ⟨rfl, hw⟩
  rw [hw]; clear hw
  have hy := H7.out.2
  have za0 : W7.cell? ⟨W.heap.size, 0, none⟩ = some (.string x0) := by rw [blk_at hy.a]; rfl
  have zb0 : W7.cell? ⟨W.heap.size + 1, 0, none⟩ = some (.string ⟨#[]⟩) := by rw [blk_at hy.b]; rfl
  have yb0 : W7.frozen? ⟨W.heap.size + 1, 0, none⟩ = false := blk_free hy.b 0
  have za1 : W7.cell? ⟨W.heap.size, 1, none⟩ = some (.slice x1 n1 c1) := by rw [blk_at hy.a]; rfl
  have zb1 : W7.cell? ⟨W.heap.size + 1, 1, none⟩ = some (.slice none 0 0) := by rw [blk_at hy.b]; rfl
  have yb1 : W7.frozen? ⟨W.heap.size + 1, 1, none⟩ = false := blk_free hy.b 1
  clear hy
  go_wp2
  obtain ⟨hp, hq⟩ := putc2 H7.out.2.b (.string x0) (.slice x1 n1 c1)
  exact bodyPost_ret (results_cell_tmp1 rfl _ _ (W.heap.size + 1) 38 _ (0, 0) _ rfl hp Tryz.underlying38 rfl infoR) rfl ⟨rfl, H7.out.1.bel.trans (hq.below H7.out.1.bel.size (fun g hg => by have := H.out.bel.size; omega)), H7.out.2.kept.trans hq (fun g hg _ => by omega)⟩
set_option maxHeartbeats 2000000 in
theorem wholeR_no (x0 : ByteArray) (x1 : Option Addr) (n1 c1 : Nat) {w W : World} {c r : Nat} {ao : Option Addr} {cap : Nat} {l : List Nat} {at_ er : Nat} (z : Nat) (hz : z ≠ 0) (h : Bg w W c r ao cap l at_ er) (hn : ndE (decide (at_ = l.length)) er = z) :
    Calls Tryz.prog 45 #[.pointer (some ⟨c, 0, none⟩), .agg #[.string x0, .slice x1 n1 c1]] W fun e w' => e = .returned (.tuple #[.agg #[.string ⟨#[]⟩, .slice none 0 0], .int .i64 (z : Int)]) ∧ Below w.heap.size w w' ∧ KeptIn (fun g => g = c) W w' := by
  have HN : Hid (ndE (decide (at_ = l.length)) er = z) := hn
  have f0 : ((z : Int) == 0) = false := by rw [beq_eq_false_iff_ne]; omega
  clear hn hz
  have HE : Hid (∀ W, Bg w W c r ao cap l at_ er → Calls Tryz.prog 69 #[.pointer (some ⟨r, 0, none⟩)] W fun e w' => ∃ E : Int, e = .returned (.int .i64 E) ∧ (E == 0) = decide (at_ = l.length) ∧ ∃ q, w' = W.drewN q) := fun W h => rendG h
  have H : Hid (Bg w W c r ao cap l at_ er) := h
  clear h
  have q00 : ∀ o o', ((W.alloc o).alloc o').cell? ⟨c, 0, none⟩ = some (.pointer (some ⟨r, 0, none⟩)) := fun o o' => (H.out.later (below2 W o o')).c0
  go_enter Tryz.func45, Tryz.ntmps45
  go_wp2_with fail
  have hx : Bx2 W ((W.alloc (Obj.cells #[.string x0, .slice x1 n1 c1] 38)).alloc (Obj.cells #[.string ⟨#[]⟩, .slice none 0 0] 38)) #[.string x0, .slice x1 n1 c1] #[.string ⟨#[]⟩, .slice none 0 0] 38 38 := mkb2 W _ _ _ _
  generalize ((W.alloc (Obj.cells #[.string x0, .slice x1 n1 c1] 38)).alloc (Obj.cells #[.string ⟨#[]⟩, .slice none 0 0] 38)) = W5 at *
  refine (HE.out _ (H.out.later hx.bel)).mono ?_
  rintro e W6 ⟨E, rfl, hE, q, hw⟩
  have hy : Bx2 W W6 #[.string x0, .slice x1 n1 c1] #[.string ⟨#[]⟩, .slice none 0 0] 38 38 := by rw [hw]; exact hx.later (below_drewN _ q)
  have H6 : Hid (Bg w W6 c r ao cap l at_ er ∧ Bx2 W W6 #[.string x0, .slice x1 n1 c1] #[.string ⟨#[]⟩, .slice none 0 0] 38 38) := ⟨H.out.later hy.bel, hy⟩
  clear hw hx hy HE q00
  generalize hD : decide (at_ = l.length) = D at *
  go_wp2_with fail
  refine (needG D H6.out.1).mono ?_
  rintro e W7 ⟨rfl, hb7, hk7⟩
  rw [HN.out] at hb7
  have hcW : c < W.heap.size := block_lt H.out.bd
  have H7 : Hid (Bg w W7 c r ao cap l at_ z ∧ Bk2 c W W7 #[.string x0, .slice x1 n1 c1] #[.string ⟨#[]⟩, .slice none 0 0] 38 38) := ⟨hb7, Bk2.of hk7 H6.out.2 hcW⟩
  have kc1 := hb7.c1
  clear hb7 hk7 H6 hD
  go_wp2_with fail
  refine (wellG c z W7 kc1).mono ?_
  rintro e W8 ⟨rfl, hw⟩
  rw [hw]; clear hw
  rw [f0]
  have hy := H7.out.2
  have zb0 : W7.cell? ⟨W.heap.size + 1, 0, none⟩ = some (.string ⟨#[]⟩) := by rw [blk_at hy.b]; rfl
  have yb0 : W7.frozen? ⟨W.heap.size + 1, 0, none⟩ = false := blk_free hy.b 0
  have zb1 : W7.cell? ⟨W.heap.size + 1, 1, none⟩ = some (.slice none 0 0) := by rw [blk_at hy.b]; rfl
  have yb1 : W7.frozen? ⟨W.heap.size + 1, 1, none⟩ = false := blk_free hy.b 1
  clear hy
  have hN := below1 W7 (Obj.cells #[.string ⟨#[]⟩, .slice none 0 0] 38)
  have hc8 : (W7.alloc (Obj.cells #[.string ⟨#[]⟩, .slice none 0 0] 38)).cell? ⟨c, 1, none⟩ = some (.int .i64 (z : Int)) := cell_later hN kc1
  have hb8 := (H7.out.2.later hN).b
  have H8 : Hid (Below w.heap.size w (W7.alloc (Obj.cells #[.string ⟨#[]⟩, .slice none 0 0] 38)) ∧ KeptIn (fun g => g = c) W (W7.alloc (Obj.cells #[.string ⟨#[]⟩, .slice none 0 0] 38)) ∧ (W7.alloc (Obj.cells #[.string ⟨#[]⟩, .slice none 0 0] 38)).heap[W.heap.size + 1]? = some (.cells #[.string ⟨#[]⟩, .slice none 0 0] 38 (0, 0))) := ⟨H7.out.1.bel.trans (hN.mono H7.out.1.bel.size), (H7.out.2.later hN).kept, hb8⟩
  have zn0 : (W7.alloc (Obj.cells #[.string ⟨#[]⟩, .slice none 0 0] 38)).cell? ⟨W.heap.size + 1, 0, none⟩ = some (.string ⟨#[]⟩) := by rw [blk_at hb8]; rfl
  have yn0 : (W7.alloc (Obj.cells #[.string ⟨#[]⟩, .slice none 0 0] 38)).frozen? ⟨W.heap.size + 1, 0, none⟩ = false := blk_free hb8 0
  have zn1 : (W7.alloc (Obj.cells #[.string ⟨#[]⟩, .slice none 0 0] 38)).cell? ⟨W.heap.size + 1, 1, none⟩ = some (.slice none 0 0) := by rw [blk_at hb8]; rfl
  have yn1 : (W7.alloc (Obj.cells #[.string ⟨#[]⟩, .slice none 0 0] 38)).frozen? ⟨W.heap.size + 1, 1, none⟩ = false := blk_free hb8 1
  clear hN hb8
  go_wp2
  go_region
  go_wp2
  obtain ⟨hp, hq⟩ := putc2 H8.out.2.2 (.string ⟨#[]⟩) (.slice none 0 0)
  have hq' := hq.drewd
  exact bodyPost_ret (results_cell_tmp1 rfl _ _ (W.heap.size + 1) 38 _ (0, 0) _ rfl hp Tryz.underlying38 rfl infoR) rfl ⟨rfl, H8.out.1.trans (hq'.below H8.out.1.size (fun g hg => by have := H.out.bel.size; omega)), H8.out.2.1.trans hq' (fun g hg _ => by omega)⟩
end Go.Proofs.YtfifaaopdhcaaaaGreatDoor
