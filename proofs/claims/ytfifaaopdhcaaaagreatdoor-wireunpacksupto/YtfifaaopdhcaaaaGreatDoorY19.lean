import Derived.Test.YtfifaaopdhcaaaaGreatDoorY18
import Derived.Test.YtfifaaopdhcaaaaGreatDoorY17
import Derived.Test.YtfifaaopdhcaaaaGreatDoorY16
import Derived.Test.YtfifaaopdhcaaaaGreatDoorY12
import Derived.Test.YtfifaaopdhcaaaaGreatDoorY6
import Derived.Test.YtfifaaopdhcaaaaGreatDoorY13
namespace Go.Proofs.YtfifaaopdhcaaaaGreatDoor
open Go.RowKit
set_option linter.unusedVariables false
set_option linter.unusedSimpArgs false
set_option maxRecDepth 100000
/-- a box whose second cell is a row that grows, and that row -/
structure Vg (w W : World) (ge : Nat) (f0 : Value) (D : Nat) (v : Value) (eT sz n : Nat) (cs : List Value) : Prop where
  bel : Below w.heap.size w W
  bx : W.heap[ge]? = some (.cells #[f0, v] D (0, 0))
  row : W.ownsRow w.heap.size eT sz v n cs
  hge : w.heap.size ≤ ge
  dst : D ≠ eT
section
variable {w W : World} {ge : Nat} {f0 : Value} {D : Nat} {v : Value} {eT sz n : Nat} {cs : List Value}
theorem Vg.nr (h : Vg w W ge f0 D v eT sz n cs) : v.ownBlock ≠ some ge := fun e => by
  obtain ⟨⟨cur, h1⟩, _⟩ := owns_typeU h.row _ e
  rw [h.bx] at h1; simp at h1; exact h.dst h1.2
theorem Vg.later {W' : World} (h : Vg w W ge f0 D v eT sz n cs) (k : Below W.heap.size W W') : Vg w W' ge f0 D v eT sz n cs :=
  ⟨h.bel.trans (k.mono h.bel.size), (k.block _ (block_lt h.bx)).trans h.bx, owns_sameU h.row (fun g hg => k.block g (owns_typeU h.row g hg).2.2), h.hge, h.dst⟩
theorem Vg.growB {W' : World} {o : Obj} (h : Vg w W ge f0 D v eT sz n cs) (hg : (W.alloc o).grownBy W' v.ownBlock) : W'.heap[ge]? = some (.cells #[f0, v] D (0, 0)) := by
  have hK : KeptIn (fun g => v.ownBlock = some g) W W' := (KeptIn.ofBelow (S := fun g => v.ownBlock = some g) (below1 W o)).trans ⟨hg.os, hg.tape, hg.output, hg.size, fun g h1 h2 => hg.block g h1 (fun e => h2 e.symm)⟩ (fun _ _ h => h)
  exact (hK.block _ (block_lt h.bx) h.nr).trans h.bx
theorem Vg.grow {W' : World} {v' : Value} {o : Obj} {m : Nat} {ds : List Value} (h : Vg w W ge f0 D v eT sz n cs) (ho : W'.ownsRow w.heap.size eT sz v' m ds) (hg : (W.alloc o).grownBy W' v.ownBlock) :
    Vg w (W'.setCell ⟨ge, 1, none⟩ v') ge f0 D v' eT sz m ds := by
  have hK : KeptIn (fun g => v.ownBlock = some g) W W' := (KeptIn.ofBelow (S := fun g => v.ownBlock = some g) (below1 W o)).trans ⟨hg.os, hg.tape, hg.output, hg.size, fun g h1 h2 => hg.block g h1 (fun e => h2 e.symm)⟩ (fun _ _ h => h)
  have hbx : W'.heap[ge]? = some (.cells #[f0, v] D (0, 0)) := h.growB hg
  have hne' : v'.ownBlock ≠ some ge := fun e => by
    obtain ⟨⟨cur, h1⟩, _⟩ := owns_typeU ho _ e
    rw [hbx] at h1; simp at h1; exact h.dst h1.2
  have hS := keptIn_set W' ge 1 v'
  have hw0 : ∀ g, v.ownBlock = some g → w.heap.size ≤ g := fun g e => (owns_typeU h.row g e).2.1
  refine ⟨h.bel.trans ((hK.below h.bel.size (fun g hg e => by have := hw0 g e; omega)).trans (hS.below (Nat.le_trans h.bel.size hK.size) (fun g hg e => by have := h.hge; omega))), put_boxX hbx 1 v' (by simp), ?_, h.hge, h.dst⟩
  exact owns_sameU ho (fun g hg => hS.block g (owns_typeU ho g hg).2.2 (fun e => hne' (e ▸ hg)))
theorem Vg.rowA {o : Obj} (h : Vg w W ge f0 D v eT sz n cs) : (W.alloc o).ownsRow w.heap.size eT sz v n cs := (h.later (below1 W o)).row
theorem Vg.szA {o : Obj} (h : Vg w W ge f0 D v eT sz n cs) : w.heap.size ≤ (W.alloc o).heap.size := Nat.le_trans h.bel.size (by simp)
theorem Vg.c0 (h : Vg w W ge f0 D v eT sz n cs) : W.cell? ⟨ge, 0, none⟩ = some f0 := by rw [blk_at h.bx]; rfl
theorem Vg.c1 (h : Vg w W ge f0 D v eT sz n cs) : W.cell? ⟨ge, 1, none⟩ = some v := by rw [blk_at h.bx]; rfl
end
/-- bytes turned into a string -/
theorem conv_row {W : World} {n cap : Nat} {ao : Option Addr} {L : List Nat} (h : BRow W ao cap L) (hn : L.length = n) : (convert 22 9 (.slice ao n cap)).run Tryz.prog W = .ok (.string (bstr L)) W := by
  subst hn
  cases ao with
  | none =>
    obtain rfl : L = [] := (h.nil rfl).1
    rw [run_convert_bytes_string W 22 9 5 _ _ _ Tryz.underlying22 Tryz.underlying5 Tryz.underlying9]
    rfl
  | some a =>
    refine run_text (P := Tryz.prog) W 22 9 5 Tryz.underlying22 Tryz.underlying5 Tryz.underlying9 a cap L (fun j u hu => ?_)
    have hj := (List.getElem?_eq_some_iff.1 hu).1
    rw [List.length_map] at hj
    obtain ⟨b, off, e, hc⟩ := h.at_ (by rintro rfl; simp at hj)
    cases e
    rw [List.getElem?_map, List.getElem?_eq_getElem hj] at hu
    have h1 := hc j hj
    simpa [add_plain] using h1.trans hu
theorem crow_part {w : World} {a : Addr} {cap : Nat} {m : List Nat} (h : CRow w (some a) cap m) (p k : Nat) (hp : p + k ≤ m.length) : BRow w (if cap = p then some a else some ⟨a.block, a.off + p, none⟩) (cap - p) ((m.drop p).take k) := by
  refine ⟨fun x hx => h.row.lt x (List.mem_of_mem_drop (List.mem_of_mem_take hx)), by have := h.row.len; rw [List.length_take, List.length_drop]; omega, fun e => by split at e <;> simp at e, fun hne => ?_⟩
  have hkp : 0 < k ∧ p < m.length := by
    constructor
    · rcases Nat.eq_zero_or_pos k with e | e
      · subst e; simp at hne
      · exact e
    · rcases Nat.lt_or_ge p m.length with e | e
      · exact e
      · rw [List.drop_eq_nil_of_le e] at hne; simp at hne
  obtain ⟨b, off, e, hc⟩ := h.row.at_ (by rintro rfl; simp at hkp)
  simp only [Option.some.injEq] at e
  subst e
  have hcp := h.cap1
  rw [if_neg (by omega)]
  refine ⟨b, off + p, rfl, fun j hj => ?_⟩
  rw [List.length_take, List.length_drop] at hj
  rw [Nat.add_assoc, hc (p + j) (by omega)]
  simp
theorem crow_cut {w : World} {a : Addr} {cap : Nat} {m : List Nat} (h : CRow w (some a) cap m) (p : Nat) (hp : p ≤ m.length) : CRow w (if cap = p then some a else some ⟨a.block, a.off + p, none⟩) (cap - p) (m.drop p) := by
  have h1 := crow_part h p (m.length - p) (by omega)
  rw [List.take_of_length_le (by rw [List.length_drop]; exact Nat.le_refl _)] at h1
  exact ⟨h1, by have := h.cap1; rw [List.length_drop]; omega, by have := h.cap2; omega⟩
end Go.Proofs.YtfifaaopdhcaaaaGreatDoor

namespace Go.Proofs.YtfifaaopdhcaaaaGreatDoor
open Go.RowKit
set_option linter.unusedVariables false
set_option linter.unusedSimpArgs false
set_option maxRecDepth 100000
set_option maxHeartbeats 2000000 in
theorem rvalueB (b off cap n a k : Nat) (l : List Nat) (w : World) (h : CRow w (some ⟨b, off, none⟩) cap l) (HN : Hid (l.length = n)) (hak : a + k ≤ n) (hk : k ≤ 8) (hk0 : 1 ≤ k) (hn : n ≤ 1099511627776) (x : Nat) (hx : valB ((l.drop a).take k) = x) :
    Calls Tryz.prog 39 #[.slice (some ⟨b, off, none⟩) n cap, .int .i64 (a : Int), .int .i64 (k : Int)] w fun e w' => e = .returned (.int .u64 (x : Int)) ∧ Below w.heap.size w w' := by
  have hcap1 := h.cap1
  have hcap2 := h.cap2
  rw [HN.out] at hcap1
  have hp := crow_part h a k (by rw [HN.out]; exact hak)
  rw [if_neg (by omega)] at hp
  have hlen : ((l.drop a).take k).length = k := by have := HN.out; rw [List.length_take, List.length_drop]; omega
  have HV : Hid (Calls Tryz.prog 70 #[.slice (some ⟨b, off + a, none⟩) k (cap - a)] w fun e w' => e = .returned (.int .u64 (x : Int)) ∧ Below w.heap.size w w') := by
    refine Calls.mono (value_some b (off + a) (cap - a) k ((l.drop a).take k) w hk hlen hp.lt (fun j hj => ?_)) ?_
    · obtain ⟨b', off', e, hc⟩ := hp.at_ (by rintro e; rw [e] at hlen; simp at hlen; try omega)
      cases e
      have := hc j (by omega)
      rw [this, List.getElem?_eq_getElem (by omega)]; try rfl
    · rintro e w' ⟨rfl, q, rfl⟩
      exact ⟨by rw [← hx]; try rfl, ⟨rfl, rfl, rfl, Nat.le_refl _, fun _ _ => rfl⟩⟩
  have hw : IntKind.i64.wrap ((a : Int) + (k : Int)) = ((a + k : Nat) : Int) := by rw [IntKind.wrap_i64]; omega
  have hne : ¬ cap = a := by omega
  have h1 : ((a + k : Nat) : Int) ≤ (cap : Int) := by omega
  have h2 : (a : Int) ≤ ((a + k : Nat) : Int) := by omega
  have h3 : a + k - a = k := by omega
  have h4 : (((a + k : Nat) : Int) - (a : Int)).toNat = k := by omega
  clear h hp hlen hx HN
  go_enter Tryz.func39, Tryz.ntmps39
  go_wp2_with fail
  refine HV.out.mono ?_
  rintro e w1 ⟨rfl, hb⟩
  have HB : Hid _ := hb
  clear hb HV
  go_wp2
  go_ret
  exact ⟨rfl, HB.out⟩
set_option maxHeartbeats 2000000 in
theorem rnamed_short (ao : Option Addr) (cap n : Nat) (w : World) (h : n < 4) :
    Calls Tryz.prog 46 #[.slice ao n cap] w fun e w' => e = .returned (.tuple #[.string ⟨#[]⟩, .slice none 0 0, .bool false]) ∧ Below w.heap.size w w' := by
  have ht : decide ((n : Int) < 4) = true := by simp; omega
  have ht2 : (n : Int) < 4 := by omega
  go_enter Tryz.func46, Tryz.ntmps46
  go_wp2
  go_ret3
  exact ⟨rfl, Below.refl _ _⟩
set_option maxHeartbeats 2000000 in
theorem rnamed_long (b off cap n v : Nat) (l : List Nat) (w : World) (h : CRow w (some ⟨b, off, none⟩) cap l) (HN : Hid (l.length = n)) (hn : n ≤ 1048576) (h4 : 4 ≤ n) (hv : valB (l.take 4) = v) (hb : v ≤ 4096 → n < 4 + v) (hv4 : v < 4294967296) :
    Calls Tryz.prog 46 #[.slice (some ⟨b, off, none⟩) n cap] w fun e w' => e = .returned (.tuple #[.string ⟨#[]⟩, .slice none 0 0, .bool false]) ∧ Below w.heap.size w w' := by
  have HV : Hid _ := rvalueB b off cap n 0 4 l w h HN (by omega) (by decide) (by decide) (by omega) v (by simpa using hv)
  have ht : decide ((n : Int) < 4) = false := by simp; omega
  have ht2 : ¬ (n : Int) < 4 := by omega
  have w1 : IntKind.u64.wrap (n : Int) = (n : Int) := by rw [IntKind.wrap_u64]; omega
  have w2 : IntKind.u64.wrap (4 + (v : Int)) = ((4 + v : Nat) : Int) := by rw [IntKind.wrap_u64]; omega
  clear h hv
  go_enter Tryz.func46, Tryz.ntmps46
  go_wp2_with fail
  refine Calls.mono HV.out ?_
  rintro e W1 ⟨rfl, hb1⟩
  have HB : Hid _ := hb1
  clear hb1 HV
  by_cases h9 : 4096 < v
  · have g1 : decide ((4096 : Int) < (v : Int)) = true := by simp; omega
    have g2 : (4096 : Int) < (v : Int) := by omega
    go_wp2
    go_ret3
    exact ⟨rfl, HB.out⟩
  · have g1 : decide ((4096 : Int) < (v : Int)) = false := by simp; omega
    have g2 : ¬ (4096 : Int) < (v : Int) := by omega
    have hlt := hb (by omega)
    have g3 : decide ((n : Int) < ((4 + v : Nat) : Int)) = true := by simp; omega
    have g4 : (n : Int) < ((4 + v : Nat) : Int) := by omega
    go_wp2
    go_ret3
    exact ⟨rfl, HB.out⟩
set_option maxHeartbeats 4000000 in
theorem rnamed_textA (b off cap n v : Nat) (l : List Nat) (w : World) (h : CRow w (some ⟨b, off, none⟩) cap l) (HN : Hid (l.length = n)) (hn : n ≤ 1048576) (hv : valB (l.take 4) = v) (h9 : v ≤ 4096) (hvn : 4 + v ≤ n) (t : Bool) (ht : tx (bstr ((l.drop 4).take v)) = t) :
    Calls Tryz.prog 46 #[.slice (some ⟨b, off, none⟩) n cap] w fun e w' => ∃ ar, e = .returned (.tuple #[.string (bstr ((l.drop 4).take v)), .slice ar (n - (4 + v)) (cap - (4 + v)), .bool t]) ∧ (∀ V, CRow V (some ⟨b, off, none⟩) cap l → CRow V ar (cap - (4 + v)) (l.drop (4 + v))) ∧ Below w.heap.size w w' := by
  have HV : Hid _ := rvalueB b off cap n 0 4 l w h HN (by omega) (by decide) (by decide) (by omega) v (by simpa using hv)
  have hp := crow_part h 4 v (by rw [HN.out]; exact hvn)
  have hcap1 := h.cap1
  have hcap2 := h.cap2
  rw [HN.out] at hcap1
  have hlen : ((l.drop 4).take v).length = v := by have := HN.out; rw [List.length_take, List.length_drop]; omega
  obtain ⟨a1, ha1⟩ : ∃ a1, (if cap = 4 then some (⟨b, off, none⟩ : Addr) else some ⟨b, off + 4, none⟩) = a1 := ⟨_, rfl⟩
  obtain ⟨a2, ha2⟩ : ∃ a2, (if cap = 4 + v then some (⟨b, off, none⟩ : Addr) else some ⟨b, off + (4 + v), none⟩) = a2 := ⟨_, rfl⟩
  simp only [ha1] at hp
  have HCv : Hid (∀ W, Below w.heap.size w W → (convert 22 9 (.slice a1 v (cap - 4))).run Tryz.prog W = .ok (.string (bstr ((l.drop 4).take v))) W) := fun W hb => conv_row (hp.later hb) hlen
  have HCu : Hid (∀ V, CRow V (some ⟨b, off, none⟩) cap l → CRow V a2 (cap - (4 + v)) (l.drop (4 + v))) := fun V hV => by have h1 := crow_cut hV (4 + v) (by rw [HN.out]; exact hvn); simp only [ha2] at h1; exact h1
  obtain ⟨s, hs⟩ : ∃ s, bstr ((l.drop 4).take v) = s := ⟨_, rfl⟩
  have hsz : s.size ≤ 4096 := by rw [← hs, bstr_size, hlen]; exact h9
  have HT : Hid (∀ W, Calls Tryz.prog 49 #[.string s] W fun e w' => e = .returned (.bool t) ∧ Below W.heap.size W w') := fun W => by
    have h1 := rText_any s W (by omega)
    rw [← hs, ht, hs] at h1; exact h1
  rw [hs] at HCv ⊢
  have f1 : decide ((n : Int) < 4) = false := by simp; omega
  have f2 : ¬ (n : Int) < 4 := by omega
  have w1 : IntKind.u64.wrap (n : Int) = (n : Int) := by rw [IntKind.wrap_u64]; omega
  have w2 : IntKind.u64.wrap (4 + (v : Int)) = 4 + (v : Int) := by rw [IntKind.wrap_u64]; omega
  have w3 : IntKind.i64.wrap (v : Int) = (v : Int) := by rw [IntKind.wrap_i64]; omega
  have w4 : IntKind.i64.wrap (4 + (v : Int)) = 4 + (v : Int) := by rw [IntKind.wrap_i64]; omega
  have g1 : decide ((4096 : Int) < (v : Int)) = false := by simp; omega
  have g2 : ¬ (4096 : Int) < (v : Int) := by omega
  have g3 : decide ((n : Int) < 4 + (v : Int)) = false := by simp; omega
  have g4 : ¬ (n : Int) < 4 + (v : Int) := by omega
  have g5 : 4 + (v : Int) ≤ (cap : Int) := by omega
  have g6 : (4 : Int) ≤ 4 + (v : Int) := by omega
  have g7 : (4 + (v : Int)).toNat = 4 + v := by omega
  have g8 : 4 + v - 4 = v := by omega
  have g9 : 4 + (v : Int) ≤ (n : Int) := by omega
  have g10 : (0 : Int) ≤ 4 + (v : Int) := by omega
  clear h hv hp hlen hs ht
  go_enter Tryz.func46, Tryz.ntmps46
  go_wp2_with fail
  refine Calls.mono HV.out ?_
  rintro e W1 ⟨rfl, hb1⟩
  have HB : Hid _ := hb1
  have hcv := HCv.out W1 hb1
  clear hb1 HV HCv
  go_wp2_with fail
  all_goals
    have HD : Hid (Below w.heap.size w W1.drew) := HB.out.trans ((below_drewN W1 1).mono HB.out.size)
    go_region_law (go_simp; go_at_call 49; refine Calls.mono (HT.out _) ?_; rintro e W2 ⟨rfl, hb2⟩; have HB2 : Hid (Below w.heap.size w W2) := HD.out.trans (hb2.mono HD.out.size); clear hb2; dsimp only)
  all_goals go_wp2
  all_goals
    go_ret3
    exact ⟨_, rfl, HCu.out, HB2.out⟩
theorem rnamed_text (b off cap n v : Nat) (l : List Nat) (w : World) (h : CRow w (some ⟨b, off, none⟩) cap l) (HN : Hid (l.length = n)) (hn : n ≤ 1048576) (hv : valB (l.take 4) = v) (h9 : v ≤ 4096) (hvn : 4 + v ≤ n) (t : Bool) (ht : tx (bstr ((l.drop 4).take v)) = t) :
    Calls Tryz.prog 46 #[.slice (some ⟨b, off, none⟩) n cap] w fun e w' => ∃ ar, e = .returned (.tuple #[.string (bstr ((l.drop 4).take v)), .slice ar (n - (4 + v)) (cap - (4 + v)), .bool t]) ∧ CRow w' ar (cap - (4 + v)) (l.drop (4 + v)) ∧ Below w.heap.size w w' := by
  refine Calls.mono (rnamed_textA b off cap n v l w h HN hn hv h9 hvn t ht) ?_
  rintro e w' ⟨ar, rfl, hc, hb⟩
  exact ⟨ar, rfl, hc w' (h.later hb), hb⟩
end Go.Proofs.YtfifaaopdhcaaaaGreatDoor

namespace Go.Proofs.YtfifaaopdhcaaaaGreatDoor
open Go.RowKit
set_option linter.unusedVariables false
set_option linter.unusedSimpArgs false
set_option maxRecDepth 100000
set_option maxHeartbeats 2000000 in
theorem wholeS_ok (x0 : ByteArray) (x1 : Option Addr) (n1 c1 : Nat) {w W : World} {c r : Nat} {ao : Option Addr} {cap : Nat} {l : List Nat} {at_ er : Nat} (h : Bg w W c r ao cap l at_ er) (hn : ndE (decide (at_ = l.length)) er = 0) :
    Calls Tryz.prog 50 #[.pointer (some ⟨c, 0, none⟩), .agg #[.string x0, .slice x1 n1 c1]] W fun e w' => e = .returned (.tuple #[.agg #[.string x0, .slice x1 n1 c1], .int .i64 0]) ∧ Below w.heap.size w w' ∧ KeptIn (fun g => g = c) W w' := by
  have HN : Hid (ndE (decide (at_ = l.length)) er = 0) := hn
  clear hn
  have HE : Hid (∀ W, Bg w W c r ao cap l at_ er → Calls Tryz.prog 69 #[.pointer (some ⟨r, 0, none⟩)] W fun e w' => ∃ E : Int, e = .returned (.int .i64 E) ∧ (E == 0) = decide (at_ = l.length) ∧ ∃ q, w' = W.drewN q) := fun W h => rendG h
  have H : Hid (Bg w W c r ao cap l at_ er) := h
  clear h
  have q00 : ∀ o o', ((W.alloc o).alloc o').cell? ⟨c, 0, none⟩ = some (.pointer (some ⟨r, 0, none⟩)) := fun o o' => (H.out.later (below2 W o o')).c0
  go_enter Tryz.func50, Tryz.ntmps50
  go_wp2_with fail
  have hx : Bx2 W ((W.alloc (Obj.cells #[.string x0, .slice x1 n1 c1] 59)).alloc (Obj.cells #[.string ⟨#[]⟩, .slice none 0 0] 59)) #[.string x0, .slice x1 n1 c1] #[.string ⟨#[]⟩, .slice none 0 0] 59 59 := mkb2 W _ _ _ _
  generalize ((W.alloc (Obj.cells #[.string x0, .slice x1 n1 c1] 59)).alloc (Obj.cells #[.string ⟨#[]⟩, .slice none 0 0] 59)) = W5 at *
  refine (HE.out _ (H.out.later hx.bel)).mono ?_
  rintro e W6 ⟨E, rfl, hE, q, hw⟩
  have hy : Bx2 W W6 #[.string x0, .slice x1 n1 c1] #[.string ⟨#[]⟩, .slice none 0 0] 59 59 := by rw [hw]; exact hx.later (below_drewN _ q)
  have H6 : Hid (Bg w W6 c r ao cap l at_ er ∧ Bx2 W W6 #[.string x0, .slice x1 n1 c1] #[.string ⟨#[]⟩, .slice none 0 0] 59 59) := ⟨H.out.later hy.bel, hy⟩
  clear hw hx hy HE q00
  generalize hD : decide (at_ = l.length) = D at *
  go_wp2_with fail
  refine (needG D H6.out.1).mono ?_
  rintro e W7 ⟨rfl, hb7, hk7⟩
  rw [HN.out] at hb7
  have hcW : c < W.heap.size := block_lt H.out.bd
  have H7 : Hid (Bg w W7 c r ao cap l at_ 0 ∧ Bk2 c W W7 #[.string x0, .slice x1 n1 c1] #[.string ⟨#[]⟩, .slice none 0 0] 59 59) := ⟨hb7, Bk2.of hk7 H6.out.2 hcW⟩
  have kc1 := hb7.c1
  clear hb7 hk7 H6 hD
  go_wp2_with fail
  refine (wellG c 0 W7 kc1).mono ?_
  rintro e W8 ⟨rfl, hw⟩
  rw [hw]; clear hw
  have hy := H7.out.2
  have za0 : W7.cell? ⟨W.heap.size, 0, none⟩ = some (.string x0) := by rw [blk_at hy.a]; rfl
  have zb0 : W7.cell? ⟨W.heap.size + 1, 0, none⟩ = some (.string ⟨#[]⟩) := by rw [blk_at hy.b]; rfl
  have yb0 : W7.frozen? ⟨W.heap.size + 1, 0, none⟩ = false := blk_free hy.b 0
  have za1 : W7.cell? ⟨W.heap.size, 1, none⟩ = some (.slice x1 n1 c1) := by rw [blk_at hy.a]; rfl
  have zb1 : W7.cell? ⟨W.heap.size + 1, 1, none⟩ = some (.slice none 0 0) := by rw [blk_at hy.b]; rfl
  have yb1 : W7.frozen? ⟨W.heap.size + 1, 1, none⟩ = false := blk_free hy.b 1
  clear hy
  go_wp2
  obtain ⟨hp, hq⟩ := putc2 H7.out.2.b (.string x0) (.slice x1 n1 c1)
  exact bodyPost_ret (results_cell_tmp1 rfl _ _ (W.heap.size + 1) 59 _ (0, 0) _ rfl hp Tryz.underlying59 rfl infoS) rfl ⟨rfl, H7.out.1.bel.trans (hq.below H7.out.1.bel.size (fun g hg => by have := H.out.bel.size; omega)), H7.out.2.kept.trans hq (fun g hg _ => by omega)⟩
set_option maxHeartbeats 2000000 in
theorem wholeS_no (x0 : ByteArray) (x1 : Option Addr) (n1 c1 : Nat) {w W : World} {c r : Nat} {ao : Option Addr} {cap : Nat} {l : List Nat} {at_ er : Nat} (z : Nat) (hz : z ≠ 0) (h : Bg w W c r ao cap l at_ er) (hn : ndE (decide (at_ = l.length)) er = z) :
    Calls Tryz.prog 50 #[.pointer (some ⟨c, 0, none⟩), .agg #[.string x0, .slice x1 n1 c1]] W fun e w' => e = .returned (.tuple #[.agg #[.string ⟨#[]⟩, .slice none 0 0], .int .i64 (z : Int)]) ∧ Below w.heap.size w w' ∧ KeptIn (fun g => g = c) W w' := by
  have HN : Hid (ndE (decide (at_ = l.length)) er = z) := hn
  have f0 : ((z : Int) == 0) = false := by rw [beq_eq_false_iff_ne]; omega
  clear hn hz
  have HE : Hid (∀ W, Bg w W c r ao cap l at_ er → Calls Tryz.prog 69 #[.pointer (some ⟨r, 0, none⟩)] W fun e w' => ∃ E : Int, e = .returned (.int .i64 E) ∧ (E == 0) = decide (at_ = l.length) ∧ ∃ q, w' = W.drewN q) := fun W h => rendG h
  have H : Hid (Bg w W c r ao cap l at_ er) := h
  clear h
  have q00 : ∀ o o', ((W.alloc o).alloc o').cell? ⟨c, 0, none⟩ = some (.pointer (some ⟨r, 0, none⟩)) := fun o o' => (H.out.later (below2 W o o')).c0
  go_enter Tryz.func50, Tryz.ntmps50
  go_wp2_with fail
  have hx : Bx2 W ((W.alloc (Obj.cells #[.string x0, .slice x1 n1 c1] 59)).alloc (Obj.cells #[.string ⟨#[]⟩, .slice none 0 0] 59)) #[.string x0, .slice x1 n1 c1] #[.string ⟨#[]⟩, .slice none 0 0] 59 59 := mkb2 W _ _ _ _
  generalize ((W.alloc (Obj.cells #[.string x0, .slice x1 n1 c1] 59)).alloc (Obj.cells #[.string ⟨#[]⟩, .slice none 0 0] 59)) = W5 at *
  refine (HE.out _ (H.out.later hx.bel)).mono ?_
  rintro e W6 ⟨E, rfl, hE, q, hw⟩
  have hy : Bx2 W W6 #[.string x0, .slice x1 n1 c1] #[.string ⟨#[]⟩, .slice none 0 0] 59 59 := by rw [hw]; exact hx.later (below_drewN _ q)
  have H6 : Hid (Bg w W6 c r ao cap l at_ er ∧ Bx2 W W6 #[.string x0, .slice x1 n1 c1] #[.string ⟨#[]⟩, .slice none 0 0] 59 59) := ⟨H.out.later hy.bel, hy⟩
  clear hw hx hy HE q00
  generalize hD : decide (at_ = l.length) = D at *
  go_wp2_with fail
  refine (needG D H6.out.1).mono ?_
  rintro e W7 ⟨rfl, hb7, hk7⟩
  rw [HN.out] at hb7
  have hcW : c < W.heap.size := block_lt H.out.bd
  have H7 : Hid (Bg w W7 c r ao cap l at_ z ∧ Bk2 c W W7 #[.string x0, .slice x1 n1 c1] #[.string ⟨#[]⟩, .slice none 0 0] 59 59) := ⟨hb7, Bk2.of hk7 H6.out.2 hcW⟩
  have kc1 := hb7.c1
  clear hb7 hk7 H6 hD
  go_wp2_with fail
  refine (wellG c z W7 kc1).mono ?_
  rintro e W8 ⟨rfl, hw⟩
  rw [hw]; clear hw
  rw [f0]
  have hy := H7.out.2
  have zb0 : W7.cell? ⟨W.heap.size + 1, 0, none⟩ = some (.string ⟨#[]⟩) := by rw [blk_at hy.b]; rfl
  have yb0 : W7.frozen? ⟨W.heap.size + 1, 0, none⟩ = false := blk_free hy.b 0
  have zb1 : W7.cell? ⟨W.heap.size + 1, 1, none⟩ = some (.slice none 0 0) := by rw [blk_at hy.b]; rfl
  have yb1 : W7.frozen? ⟨W.heap.size + 1, 1, none⟩ = false := blk_free hy.b 1
  clear hy
  have hN := below1 W7 (Obj.cells #[.string ⟨#[]⟩, .slice none 0 0] 59)
  have hc8 : (W7.alloc (Obj.cells #[.string ⟨#[]⟩, .slice none 0 0] 59)).cell? ⟨c, 1, none⟩ = some (.int .i64 (z : Int)) := cell_later hN kc1
  have hb8 := (H7.out.2.later hN).b
  have H8 : Hid (Below w.heap.size w (W7.alloc (Obj.cells #[.string ⟨#[]⟩, .slice none 0 0] 59)) ∧ KeptIn (fun g => g = c) W (W7.alloc (Obj.cells #[.string ⟨#[]⟩, .slice none 0 0] 59)) ∧ (W7.alloc (Obj.cells #[.string ⟨#[]⟩, .slice none 0 0] 59)).heap[W.heap.size + 1]? = some (.cells #[.string ⟨#[]⟩, .slice none 0 0] 59 (0, 0))) := ⟨H7.out.1.bel.trans (hN.mono H7.out.1.bel.size), (H7.out.2.later hN).kept, hb8⟩
  have zn0 : (W7.alloc (Obj.cells #[.string ⟨#[]⟩, .slice none 0 0] 59)).cell? ⟨W.heap.size + 1, 0, none⟩ = some (.string ⟨#[]⟩) := by rw [blk_at hb8]; rfl
  have yn0 : (W7.alloc (Obj.cells #[.string ⟨#[]⟩, .slice none 0 0] 59)).frozen? ⟨W.heap.size + 1, 0, none⟩ = false := blk_free hb8 0
  have zn1 : (W7.alloc (Obj.cells #[.string ⟨#[]⟩, .slice none 0 0] 59)).cell? ⟨W.heap.size + 1, 1, none⟩ = some (.slice none 0 0) := by rw [blk_at hb8]; rfl
  have yn1 : (W7.alloc (Obj.cells #[.string ⟨#[]⟩, .slice none 0 0] 59)).frozen? ⟨W.heap.size + 1, 1, none⟩ = false := blk_free hb8 1
  clear hN hb8
  go_wp2
  go_region
  go_wp2
  obtain ⟨hp, hq⟩ := putc2 H8.out.2.2 (.string ⟨#[]⟩) (.slice none 0 0)
  have hq' := hq.drewd
  exact bodyPost_ret (results_cell_tmp1 rfl _ _ (W.heap.size + 1) 59 _ (0, 0) _ rfl hp Tryz.underlying59 rfl infoS) rfl ⟨rfl, H8.out.1.trans (hq'.below H8.out.1.size (fun g hg => by have := H.out.bel.size; omega)), H8.out.2.1.trans hq' (fun g hg _ => by omega)⟩
end Go.Proofs.YtfifaaopdhcaaaaGreatDoor

namespace Go.Proofs.YtfifaaopdhcaaaaGreatDoor
open Go.RowKit
set_option linter.unusedVariables false
set_option linter.unusedSimpArgs false
set_option maxRecDepth 100000
/-- how UnpackServer ends -/
def svE (l : List Nat) : Nat := ndE (decide (raA l (taA l 0) (l.length - taA l 0) = l.length)) (ndE (okR l (taA l 0) (l.length - taA l 0)) (ndE (okT l 0) 0))
theorem svE_or (l : List Nat) : svE l = 0 ∨ svE l = 81 := ndE_01 _ (ndE_01 _ (ndE_01 _ (.inl rfl)))
set_option maxHeartbeats 4000000 in
theorem unpackServer_ok (ao : Option Addr) (cap N : Nat) (l : List Nat) (w : World) (h : BRow w ao cap l) (hN : l.length = N) (hT : Tabs w) (hfin : svE l = 0) :
    Calls Tryz.prog 17 #[.slice ao N cap] w fun e w' => ∃ da dc n, e = .returned (.tuple #[.agg #[.string (tvS l 0), .slice da n dc], .int .i64 0]) ∧ (rrL l (taA l 0) (l.length - taA l 0)).length = n ∧ Row w w' da dc (rrL l (taA l 0) (l.length - taA l 0)) := by
  have HUp : Hid (∀ W, Below w.heap.size w W → Calls Tryz.prog 31 #[.slice ao N cap] W fun e w' => ∃ c r ao' cap', e = .returned (.pointer (some ⟨c, 0, none⟩)) ∧ Bg W w' c r ao' cap' l 0 0) := fun W hb => unpackG ao cap N l W (h.later hb) hN
  have HFn : Hid (ndE (decide (raA l (taA l 0) (l.length - taA l 0) = l.length)) (ndE (okR l (taA l 0) (l.length - taA l 0)) (ndE (okT l 0) 0)) = 0) := hfin
  have HT : Hid (Tabs w) := hT
  have HLs : Hid (∀ x ∈ rrL l (taA l 0) (l.length - taA l 0), x < 256) := fun x hx => by
    unfold rrL at hx; split at hx
    · exact h.lt x (List.mem_of_mem_drop (List.mem_of_mem_take hx))
    · simp at hx
  clear h hN hfin hT
  obtain ⟨s, hV⟩ : ∃ V, tvS l 0 = V := ⟨_, rfl⟩
  obtain ⟨a1, ha1⟩ : ∃ a1, taA l 0 = a1 := ⟨_, rfl⟩
  obtain ⟨e1, he1⟩ : ∃ e1, ndE (okT l 0) 0 = e1 := ⟨_, rfl⟩
  rw [ha1, he1] at HFn
  rw [ha1] at HLs
  rw [ha1, hV]
  obtain ⟨nn, hnn⟩ : ∃ nn, l.length - a1 = nn := ⟨_, rfl⟩
  rw [hnn] at HFn HLs ⊢
  obtain ⟨L, hL⟩ : ∃ L, rrL l a1 nn = L := ⟨_, rfl⟩
  rw [hL] at HLs ⊢
  obtain ⟨a2, ha2⟩ : ∃ a2, raA l a1 nn = a2 := ⟨_, rfl⟩
  obtain ⟨e3, he3⟩ : ∃ e2, ndE (okR l a1 nn) e1 = e2 := ⟨_, rfl⟩
  rw [ha2, he3] at HFn
  have HV : Hid (tvS l 0 = s ∧ taA l 0 = a1 ∧ ndE (okT l 0) 0 = e1) := ⟨hV, ha1, he1⟩
  have HNN : Hid (l.length - a1 = nn) := hnn
  have HV2 : Hid (rrL l a1 nn = L ∧ raA l a1 nn = a2 ∧ ndE (okR l a1 nn) e1 = e3) := ⟨hL, ha2, he3⟩
  clear hV ha1 he1 hL ha2 he3 hnn
  go_enter Tryz.func17, Tryz.ntmps17
  go_wp2_with fail
  have hx := mkb1 w #[.string ⟨#[]⟩, .slice none 0 0] 59
  generalize w.alloc (Obj.cells #[.string ⟨#[]⟩, .slice none 0 0] 59) = W0 at *
  refine (HUp.out _ hx.bel).mono ?_
  rintro e W1 ⟨c, r, ao', cap', rfl, hbd⟩
  have HX : Hid (Bx1 w W0 #[.string ⟨#[]⟩, .slice none 0 0] 59) := hx
  have HT1 : Hid (Tabs W1) := (HT.out.later hx.bel).later hbd.bel
  have H1 : Hid (Bg W0 W1 c r ao' cap' l 0 0) := hbd
  clear hx hbd HUp HT
  go_wp2_with fail
  have hc1 := btextG H1.out HT1.out
  rw [HV.out.1, HV.out.2.1, HV.out.2.2] at hc1
  refine hc1.mono ?_
  rintro e W2 ⟨rfl, hbd, _⟩
  have H2 : Hid (Bg W0 W2 c r ao' cap' l a1 e1) := hbd
  clear hbd H1 hc1 HT1
  go_wp2_with fail
  have h3 : Bg W0 (W2.alloc (Obj.cells #[.string s, .slice none 0 0] 59)) c r ao' cap' l a1 e1 := H2.out.later (below1 W2 _)
  have eb3 := heap_new W2 (Obj.cells #[.string s, .slice none 0 0] 59)
  have HG : Hid (W0.heap.size ≤ W2.heap.size) := H2.out.bel.size
  generalize W2.alloc (Obj.cells #[.string s, .slice none 0 0] 59) = W3 at *
  generalize W2.heap.size = ge at *
  refine (bleftG h3 HNN.out).mono ?_
  rintro e W6 ⟨rfl, q, hw⟩
  have h4 : Bg W0 W6 c r ao' cap' l a1 e1 ∧ W6.heap[ge]? = some (.cells #[.string s, .slice none 0 0] 59 (0, 0)) := by rw [hw]; exact ⟨h3.later (below_drewN _ q), eb3⟩
  have H6 : Hid _ := h4
  clear h3 eb3 hw H2 h4
  go_wp2_with fail
  have hc7 := brawG nn H6.out.1
  rw [HV2.out.1, HV2.out.2.1, HV2.out.2.2] at hc7
  refine hc7.mono ?_
  rintro e W7 ⟨n7, a7, c7, rfl, hn7, ho7, hb7, hk7⟩
  have eb7 := H6.out.1.keep H6.out.2 (by decide) (by decide) hk7
  have hg6 : ge < W6.heap.size := block_lt H6.out.2
  have hs6 : W0.heap.size ≤ W6.heap.size := H6.out.1.bel.size
  clear hc7
  have HN7 : Hid (n7 = L.length) := hn7
  have HLt : Hid (c < W6.heap.size ∧ r < W6.heap.size) := ⟨block_lt H6.out.1.bd, block_lt H6.out.1.rd.blk⟩
  have HG6 : Hid (ge < W6.heap.size ∧ W0.heap.size ≤ W6.heap.size) := ⟨hg6, hs6⟩
  have H7 : Hid (Bg W0 W7 c r ao' cap' l a2 e3 ∧ W7.heap[ge]? = some (.cells #[.string s, .slice none 0 0] 59 (0, 0)) ∧ W7.ownsRow W6.heap.size 5 1 (.slice a7 n7 c7) n7 (L.map bv)) := ⟨hb7, eb7, ho7⟩
  clear H6 hb7 hk7 ho7 eb7 hn7 hg6 hs6
  have y1 : W7.cell? ⟨ge, 1, none⟩ = some (.slice none 0 0) := by rw [blk_at H7.out.2.1]; rfl
  have f1 := blk_free H7.out.2.1 1
  have H8 : Hid (Bg W0 (W7.setCell ⟨ge, 1, none⟩ (.slice a7 n7 c7)) c r ao' cap' l a2 e3 ∧ (W7.setCell ⟨ge, 1, none⟩ (.slice a7 n7 c7)).heap[ge]? = some (.cells #[.string s, .slice a7 n7 c7] 59 (0, 0)) ∧ (W7.setCell ⟨ge, 1, none⟩ (.slice a7 n7 c7)).ownsRow W6.heap.size 5 1 (.slice a7 n7 c7) n7 (L.map bv)) := ⟨H7.out.1.put H7.out.2.1 (by decide) (by decide) (by decide) HG.out 1 _, put_boxX H7.out.2.1 1 _ (by simp), owns_same H7.out.2.2 (fun g hg => (keptIn_set W7 ge 1 _).block g (owns_lt H7.out.2.2 g hg).1 (by have h1 := (owns_lt H7.out.2.2 g hg).2; have h2 := HG6.out.1; omega))⟩
  obtain ⟨W8, hW8⟩ : ∃ W8, W8 = W7.setCell ⟨ge, 1, none⟩ (.slice a7 n7 c7) := ⟨_, rfl⟩
  rw [← hW8] at H8
  have k0 : (W7.setCell ⟨ge, 1, none⟩ (.slice a7 n7 c7)).cell? ⟨ge, 0, none⟩ = some (.string s) := by rw [← hW8, blk_at H8.out.2.1]; rfl
  have k1 : (W7.setCell ⟨ge, 1, none⟩ (.slice a7 n7 c7)).cell? ⟨ge, 1, none⟩ = some (.slice a7 n7 c7) := by rw [← hW8, blk_at H8.out.2.1]; rfl
  clear H7
  go_wp2_with fail
  rw [← hW8]
  refine (wholeS_ok s a7 n7 c7 H8.out.1 HFn.out).mono ?_
  rintro e W9 ⟨rfl, hb9, hk9⟩
  have HY : Hid (Below w.heap.size w W9 ∧ W9.heap[w.heap.size]? = some (.cells #[.string ⟨#[]⟩, .slice none 0 0] 59 (0, 0))) := ⟨HX.out.bel.trans (hb9.mono HX.out.bel.size), by rw [hb9.block _ (by have := HX.out.size; omega)]; exact HX.out.a⟩
  have HR9 : Hid (W9.ownsRow W6.heap.size 5 1 (.slice a7 n7 c7) n7 (L.map bv)) := owns_same H8.out.2.2 (fun g hg => hk9.block g (owns_lt H8.out.2.2 g hg).1 (fun e => by have h1 := (owns_lt H8.out.2.2 g hg).2; have h2 := HLt.out.1; omega))
  have za0 : W9.cell? ⟨w.heap.size, 0, none⟩ = some (.string ⟨#[]⟩) := by rw [blk_at HY.out.2]; rfl
  have za1 : W9.cell? ⟨w.heap.size, 1, none⟩ = some (.slice none 0 0) := by rw [blk_at HY.out.2]; rfl
  have ya0 : W9.frozen? ⟨w.heap.size, 0, none⟩ = false := blk_free HY.out.2 0
  have ya1 : W9.frozen? ⟨w.heap.size, 1, none⟩ = false := blk_free HY.out.2 1
  clear hb9 hk9 H8 k0 k1 y1 f1 hW8
  go_wp2
  obtain ⟨hp, hq⟩ := putc2 HY.out.2 (.string s) (.slice a7 n7 c7)
  have hs0 : w.heap.size < W0.heap.size := by have := HX.out.size; omega
  refine bodyPost_ret (results_cell_tmp1 rfl _ _ w.heap.size 59 _ (0, 0) _ rfl hp Tryz.underlying59 rfl infoS) rfl ⟨a7, c7, n7, rfl, HN7.out.symm, ⟨?_, HLs.out, HY.out.1.trans (hq.below HY.out.1.size (fun g hg => by omega))⟩⟩
  have h9 := owns_mono (owns_same HR9.out (fun g hg => hq.block g (owns_lt HR9.out g hg).1 (by have h1 := (owns_lt HR9.out g hg).2; have h2 := HG6.out.2; omega))) (show w.heap.size ≤ W6.heap.size by have := HG6.out.2; omega)
  rw [← HN7.out]; exact h9
set_option maxHeartbeats 4000000 in
theorem unpackServer_no (ao : Option Addr) (cap N : Nat) (l : List Nat) (w : World) (h : BRow w ao cap l) (hN : l.length = N) (hT : Tabs w) (hfin : svE l = 81) :
    Calls Tryz.prog 17 #[.slice ao N cap] w fun e w' => e = .returned (.tuple #[.agg #[.string ⟨#[]⟩, .slice none 0 0], .int .i64 81]) ∧ Below w.heap.size w w' := by
  have HUp : Hid (∀ W, Below w.heap.size w W → Calls Tryz.prog 31 #[.slice ao N cap] W fun e w' => ∃ c r ao' cap', e = .returned (.pointer (some ⟨c, 0, none⟩)) ∧ Bg W w' c r ao' cap' l 0 0) := fun W hb => unpackG ao cap N l W (h.later hb) hN
  have HFn : Hid (ndE (decide (raA l (taA l 0) (l.length - taA l 0) = l.length)) (ndE (okR l (taA l 0) (l.length - taA l 0)) (ndE (okT l 0) 0)) = 81) := hfin
  have HT : Hid (Tabs w) := hT
  have HLs : Hid (∀ x ∈ rrL l (taA l 0) (l.length - taA l 0), x < 256) := fun x hx => by
    unfold rrL at hx; split at hx
    · exact h.lt x (List.mem_of_mem_drop (List.mem_of_mem_take hx))
    · simp at hx
  clear h hN hfin hT
  obtain ⟨s, hV⟩ : ∃ V, tvS l 0 = V := ⟨_, rfl⟩
  obtain ⟨a1, ha1⟩ : ∃ a1, taA l 0 = a1 := ⟨_, rfl⟩
  obtain ⟨e1, he1⟩ : ∃ e1, ndE (okT l 0) 0 = e1 := ⟨_, rfl⟩
  rw [ha1, he1] at HFn
  rw [ha1] at HLs
  
  obtain ⟨nn, hnn⟩ : ∃ nn, l.length - a1 = nn := ⟨_, rfl⟩
  rw [hnn] at HFn HLs
  obtain ⟨L, hL⟩ : ∃ L, rrL l a1 nn = L := ⟨_, rfl⟩
  rw [hL] at HLs
  obtain ⟨a2, ha2⟩ : ∃ a2, raA l a1 nn = a2 := ⟨_, rfl⟩
  obtain ⟨e3, he3⟩ : ∃ e2, ndE (okR l a1 nn) e1 = e2 := ⟨_, rfl⟩
  rw [ha2, he3] at HFn
  have HV : Hid (tvS l 0 = s ∧ taA l 0 = a1 ∧ ndE (okT l 0) 0 = e1) := ⟨hV, ha1, he1⟩
  have HNN : Hid (l.length - a1 = nn) := hnn
  have HV2 : Hid (rrL l a1 nn = L ∧ raA l a1 nn = a2 ∧ ndE (okR l a1 nn) e1 = e3) := ⟨hL, ha2, he3⟩
  clear hV ha1 he1 hL ha2 he3 hnn
  go_enter Tryz.func17, Tryz.ntmps17
  go_wp2_with fail
  have hx := mkb1 w #[.string ⟨#[]⟩, .slice none 0 0] 59
  generalize w.alloc (Obj.cells #[.string ⟨#[]⟩, .slice none 0 0] 59) = W0 at *
  refine (HUp.out _ hx.bel).mono ?_
  rintro e W1 ⟨c, r, ao', cap', rfl, hbd⟩
  have HX : Hid (Bx1 w W0 #[.string ⟨#[]⟩, .slice none 0 0] 59) := hx
  have HT1 : Hid (Tabs W1) := (HT.out.later hx.bel).later hbd.bel
  have H1 : Hid (Bg W0 W1 c r ao' cap' l 0 0) := hbd
  clear hx hbd HUp HT
  go_wp2_with fail
  have hc1 := btextG H1.out HT1.out
  rw [HV.out.1, HV.out.2.1, HV.out.2.2] at hc1
  refine hc1.mono ?_
  rintro e W2 ⟨rfl, hbd, _⟩
  have H2 : Hid (Bg W0 W2 c r ao' cap' l a1 e1) := hbd
  clear hbd H1 hc1 HT1
  go_wp2_with fail
  have h3 : Bg W0 (W2.alloc (Obj.cells #[.string s, .slice none 0 0] 59)) c r ao' cap' l a1 e1 := H2.out.later (below1 W2 _)
  have eb3 := heap_new W2 (Obj.cells #[.string s, .slice none 0 0] 59)
  have HG : Hid (W0.heap.size ≤ W2.heap.size) := H2.out.bel.size
  generalize W2.alloc (Obj.cells #[.string s, .slice none 0 0] 59) = W3 at *
  generalize W2.heap.size = ge at *
  refine (bleftG h3 HNN.out).mono ?_
  rintro e W6 ⟨rfl, q, hw⟩
  have h4 : Bg W0 W6 c r ao' cap' l a1 e1 ∧ W6.heap[ge]? = some (.cells #[.string s, .slice none 0 0] 59 (0, 0)) := by rw [hw]; exact ⟨h3.later (below_drewN _ q), eb3⟩
  have H6 : Hid _ := h4
  clear h3 eb3 hw H2 h4
  go_wp2_with fail
  have hc7 := brawG nn H6.out.1
  rw [HV2.out.1, HV2.out.2.1, HV2.out.2.2] at hc7
  refine hc7.mono ?_
  rintro e W7 ⟨n7, a7, c7, rfl, hn7, ho7, hb7, hk7⟩
  have eb7 := H6.out.1.keep H6.out.2 (by decide) (by decide) hk7
  have hg6 : ge < W6.heap.size := block_lt H6.out.2
  have hs6 : W0.heap.size ≤ W6.heap.size := H6.out.1.bel.size
  clear hc7
  have HN7 : Hid (n7 = L.length) := hn7
  have HLt : Hid (c < W6.heap.size ∧ r < W6.heap.size) := ⟨block_lt H6.out.1.bd, block_lt H6.out.1.rd.blk⟩
  have HG6 : Hid (ge < W6.heap.size ∧ W0.heap.size ≤ W6.heap.size) := ⟨hg6, hs6⟩
  have H7 : Hid (Bg W0 W7 c r ao' cap' l a2 e3 ∧ W7.heap[ge]? = some (.cells #[.string s, .slice none 0 0] 59 (0, 0)) ∧ W7.ownsRow W6.heap.size 5 1 (.slice a7 n7 c7) n7 (L.map bv)) := ⟨hb7, eb7, ho7⟩
  clear H6 hb7 hk7 ho7 eb7 hn7 hg6 hs6
  have y1 : W7.cell? ⟨ge, 1, none⟩ = some (.slice none 0 0) := by rw [blk_at H7.out.2.1]; rfl
  have f1 := blk_free H7.out.2.1 1
  have H8 : Hid (Bg W0 (W7.setCell ⟨ge, 1, none⟩ (.slice a7 n7 c7)) c r ao' cap' l a2 e3 ∧ (W7.setCell ⟨ge, 1, none⟩ (.slice a7 n7 c7)).heap[ge]? = some (.cells #[.string s, .slice a7 n7 c7] 59 (0, 0)) ∧ (W7.setCell ⟨ge, 1, none⟩ (.slice a7 n7 c7)).ownsRow W6.heap.size 5 1 (.slice a7 n7 c7) n7 (L.map bv)) := ⟨H7.out.1.put H7.out.2.1 (by decide) (by decide) (by decide) HG.out 1 _, put_boxX H7.out.2.1 1 _ (by simp), owns_same H7.out.2.2 (fun g hg => (keptIn_set W7 ge 1 _).block g (owns_lt H7.out.2.2 g hg).1 (by have h1 := (owns_lt H7.out.2.2 g hg).2; have h2 := HG6.out.1; omega))⟩
  obtain ⟨W8, hW8⟩ : ∃ W8, W8 = W7.setCell ⟨ge, 1, none⟩ (.slice a7 n7 c7) := ⟨_, rfl⟩
  rw [← hW8] at H8
  have k0 : (W7.setCell ⟨ge, 1, none⟩ (.slice a7 n7 c7)).cell? ⟨ge, 0, none⟩ = some (.string s) := by rw [← hW8, blk_at H8.out.2.1]; rfl
  have k1 : (W7.setCell ⟨ge, 1, none⟩ (.slice a7 n7 c7)).cell? ⟨ge, 1, none⟩ = some (.slice a7 n7 c7) := by rw [← hW8, blk_at H8.out.2.1]; rfl
  clear H7
  go_wp2_with fail
  rw [← hW8]
  refine (wholeS_no s a7 n7 c7 81 (by decide) H8.out.1 HFn.out).mono ?_
  rintro e W9 ⟨rfl, hb9, hk9⟩
  have HY : Hid (Below w.heap.size w W9 ∧ W9.heap[w.heap.size]? = some (.cells #[.string ⟨#[]⟩, .slice none 0 0] 59 (0, 0))) := ⟨HX.out.bel.trans (hb9.mono HX.out.bel.size), by rw [hb9.block _ (by have := HX.out.size; omega)]; exact HX.out.a⟩
  have za0 : W9.cell? ⟨w.heap.size, 0, none⟩ = some (.string ⟨#[]⟩) := by rw [blk_at HY.out.2]; rfl
  have za1 : W9.cell? ⟨w.heap.size, 1, none⟩ = some (.slice none 0 0) := by rw [blk_at HY.out.2]; rfl
  have ya0 : W9.frozen? ⟨w.heap.size, 0, none⟩ = false := blk_free HY.out.2 0
  have ya1 : W9.frozen? ⟨w.heap.size, 1, none⟩ = false := blk_free HY.out.2 1
  clear hb9 hk9 H8 k0 k1 y1 f1 hW8
  go_wp2
  obtain ⟨hp, hq⟩ := putc2 HY.out.2 (.string ⟨#[]⟩) (.slice none 0 0)
  have hs0 : w.heap.size < W0.heap.size := by have := HX.out.size; omega
  exact bodyPost_ret (results_cell_tmp1 rfl _ _ w.heap.size 59 _ (0, 0) _ rfl hp Tryz.underlying59 rfl infoS) rfl ⟨rfl, HY.out.1.trans (hq.below HY.out.1.size (fun g hg => by omega))⟩
end Go.Proofs.YtfifaaopdhcaaaaGreatDoor
