import Derived.Test.YtfifaaopdhcaaaaGreatDoorY9
namespace Go.Proofs.YtfifaaopdhcaaaaGreatDoor
open Go.RowKit
set_option linter.unusedVariables false
set_option linter.unusedSimpArgs false
set_option maxRecDepth 100000

/-- a row of bytes as a slice value that may be cut -/
structure CRow (w : World) (ao : Option Addr) (cap : Nat) (l : List Nat) : Prop where
  row : BRow w ao cap l
  cap1 : l.length ≤ cap
  cap2 : cap ≤ 9223372036854775807
theorem CRow.later {w w' : World} {ao : Option Addr} {cap : Nat} {l : List Nat} (h : CRow w ao cap l) (hb : Below w.heap.size w w') : CRow w' ao cap l := ⟨h.row.later hb, h.cap1, h.cap2⟩
theorem owns_cap {w : World} {B : Nat} {ao : Option Addr} {cap : Nat} {l : List Nat} (h : w.ownsRow B 5 1 (.slice ao l.length cap) l.length (l.map bv)) : l.length ≤ cap ∧ cap ≤ 9223372036854775807 := by
  rcases h.2 with ⟨hv, hn⟩ | ⟨g, c, cur, hv, _, _, hnc, hcm, _⟩
  · simp only [Value.slice.injEq] at hv; omega
  · simp only [Value.slice.injEq] at hv
    unfold maxLen at hcm
    omega
theorem Row.crow {w w' : World} {ao : Option Addr} {cap : Nat} {l : List Nat} (h : Row w w' ao cap l) (hl : l.length ≤ 140737488351232) : CRow w' ao cap l := ⟨h.brow hl, (owns_cap h.own).1, (owns_cap h.own).2⟩
theorem BRow.take {w : World} {ao : Option Addr} {cap : Nat} {l : List Nat} (h : BRow w ao cap l) (k cap' : Nat) (hn : ao = none → cap' = 0) : BRow w ao cap' (l.take k) := by
  refine ⟨fun x hx => h.lt x (List.mem_of_mem_take hx), by rw [List.length_take]; have := h.len; omega, fun e => ⟨by rw [(h.nil e).1]; simp, hn e⟩, fun hne => ?_⟩
  obtain ⟨b, off, e, hc⟩ := h.at_ (by rintro rfl; simp at hne)
  refine ⟨b, off, e, fun j hj => ?_⟩
  rw [List.length_take] at hj
  rw [hc j (by omega)]; simp

set_option maxHeartbeats 400000 in
theorem open_short (ao : Option Addr) (cap n size : Nat) (W : World) (h : n < size) (hs : size ≤ 1000) :
    Calls Tryz.prog 82 #[.slice ao n cap, .int .i64 (size : Int)] W fun e W' => e = .returned (.pointer (some ⟨W.heap.size, 0, none⟩)) ∧ W' = W.alloc (.cells #[.pointer none, .slice none 0 0, .int .i64 0, .int .i64 (size : Int), .int .i64 10] TRg) := by
  have ht : decide ((n : Int) < (size : Int)) = true := by simp; omega
  go_enter Tryz.func82, Tryz.ntmps82
  go_wp2
  go_ret
  exact ⟨rfl, rfl⟩

set_option maxHeartbeats 2000000 in
theorem open_ok {w W : World} {bs : List (Nat × Obj)} (b off cap n size : Nat) (l : List Nat) (hb : Below w.heap.size w W) (hbx : ∀ x ∈ bs, W.heap[x.1]? = some x.2 ∧ w.heap.size ≤ x.1 ∧ x.1 < W.heap.size) (hnd : (bs.map (·.1)).Nodup)
    (h : CRow W (some ⟨b, off, none⟩) cap l) (HN : Hid (l.length = n)) (hs : size ≤ n) (hs1 : 1 ≤ size) (hs2 : size ≤ 1000) :
    Calls Tryz.prog 82 #[.slice (some ⟨b, off, none⟩) n cap, .int .i64 (size : Int)] W fun e W' => ∃ r hh ao' cap' a2 c2, e = .returned (.pointer (some ⟨r, 0, none⟩)) ∧ Dec w W' bs W.heap.size r hh ao' cap' (l.take size) 0 (.slice (some a2) (n - size) c2) 0 (size : Int) 0 ∧ n - size ≤ c2 ∧ c2 ≤ 9223372036854775807 ∧ (n - size ≠ 0 → a2 = ⟨b, off + size, none⟩) := by
  have ht : decide ((n : Int) < (size : Int)) = false := by simp; omega
  have hcap1 := h.cap1
  have hcap2 := h.cap2
  have hnl := h.row.len
  rw [HN.out] at hcap1 hnl
  have HNr : Hid (∀ q, Calls Tryz.prog 62 #[.slice (some ⟨b, off, none⟩) size cap] (W.drewN q) fun e w' => ∃ r ao' cap', e = .returned (.pointer (some ⟨r, 0, none⟩)) ∧ ROk w' W.heap.size r ao' cap' (l.take size) 0 ∧ Below W.heap.size (W.drewN q) w') := fun q =>
    newReader_any (some ⟨b, off, none⟩) cap size (l.take size) (W.drewN q) ((h.row.drewN q).take size cap (fun e => by cases e)) (by show (l.take size).length = size; have := HN.out; rw [List.length_take]; omega)
  have HF : Hid (∀ q w4 r ao' cap' bh, ROk w4 W.heap.size r ao' cap' (l.take size) 0 → Below W.heap.size (W.drewN q) w4 → Dec w (w4.alloc (.cells #[.pointer (some ⟨r, 0, none⟩), bh, .int .i64 0, .int .i64 (size : Int), .int .i64 0] TRg)) bs W.heap.size w4.heap.size r ao' cap' (l.take size) 0 bh 0 (size : Int) 0) := fun q w4 r ao' cap' bh hr hbl => by
    have hb4 : Below W.heap.size W w4 := ⟨hbl.os, hbl.tape, hbl.output, hbl.size, hbl.block⟩
    have hsz : W.heap.size ≤ w4.heap.size := hbl.size
    have hb5 : Below W.heap.size W (w4.alloc (.cells #[.pointer (some ⟨r, 0, none⟩), bh, .int .i64 0, .int .i64 (size : Int), .int .i64 0] TRg)) := hb4.alloc hsz _
    refine ⟨hb.trans (hb5.mono hb.size), fun x hx => ?_, hnd, heap_new w4 _, hr.later (S := fun _ => False) (KeptIn.ofBelow ((Below.refl _ _).alloc (Nat.le_refl _) _)) (fun h => h) (fun _ _ h => h), hsz, hb.size⟩
    obtain ⟨h1, h2, h3⟩ := hbx x hx
    exact ⟨(hb5.block _ h3).trans h1, h2, h3⟩
  clear h hbx hnd hb
  have hwn : IntKind.i64.wrap ((n : Int) - (size : Int)) = ((n - size : Nat) : Int) := by rw [IntKind.wrap_i64]; omega
  go_enter Tryz.func82, Tryz.ntmps82
  go_wp2
  by_cases hce : cap = size
  · subst hce
    obtain rfl : n = cap := by omega
    go_region_with (go_at_call 62; refine (HNr.out _).mono ?_; rintro e w4 ⟨r, ao', cap', rfl, hr, hb⟩)
    all_goals
      have HP := HF.out _ w4 r ao' cap' (.slice (some ⟨b, off, none⟩) 0 0) hr hb
      have HP' : Hid _ := HP
      clear HP hr hb
      go_wp2
      go_ret
      simp only [Nat.sub_self]
      exact ⟨_, _, _, _, _, _, rfl, HP'.out, by omega, by omega, fun h => absurd rfl h⟩
  · have hca : ((cap - size : Nat) : Int) = (cap : Int) - (size : Int) := by omega
    go_region_with (go_at_call 62; refine (HNr.out _).mono ?_; rintro e w4 ⟨r, ao', cap', rfl, hr, hb⟩)
    all_goals
      have HP := HF.out _ w4 r ao' cap' (.slice (some ⟨b, off + size, none⟩) (n - size) (cap - size)) hr hb
      have HP' : Hid _ := HP
      clear HP hr hb
      go_wp2
      go_ret
      exact ⟨_, _, _, _, _, _, rfl, HP'.out, by omega, by omega, fun _ => rfl⟩
end Go.Proofs.YtfifaaopdhcaaaaGreatDoor
