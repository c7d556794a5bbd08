import Derived.Test.YtpkobgnbjmefnabDoorRefU
namespace Go.Proofs.YtpkobgnbjmefnabDoor
open Go.RowKit
set_option linter.unusedVariables false
set_option maxRecDepth 100000

theorem copy_any (ao : Option Addr) (cap : Nat) (l : List Nat) (w : World) (h : BRow w ao cap l) :
    Calls Tryd.prog 18 #[.slice ao l.length cap] w fun e w' => ∃ ao' cap', e = .returned (.slice ao' l.length cap') ∧ w'.ownsRow w.heap.size 5 1 (.slice ao' l.length cap') l.length (l.map bv) ∧ Below w.heap.size w w' := by
  cases ao with
  | none =>
    obtain ⟨rfl, rfl⟩ := h.nil rfl
    exact (copy_none w).mono fun e w' hh => ⟨none, 0, hh.1, World.ownsRow_nil _ _ _ _, by rw [hh.2]; exact Below.refl _ _⟩
  | some ad =>
    refine (copy_some ad cap l w h).mono fun e w' hh => ?_
    obtain ⟨v, he, ho, hb⟩ := hh
    obtain ⟨ao', cap', rfl⟩ := owns_form ho
    exact ⟨ao', cap', he, ho, hb⟩
set_option maxHeartbeats 1000000 in
theorem praw_neg (p : Nat) (n : Int) (w : World) (hn : n < 0) :
    Calls Tryd.prog 59 #[.pointer (some ⟨p, 0, none⟩), .int .i64 n] w fun e w' => e = .returned (.tuple #[.slice none 0 0, .int .i64 2]) ∧ w' = w := by
  have t0 : decide (n < 0) = true := by simp; omega
  go_enter Tryd.func59, Tryd.ntmps59
  go_wp2
  go_ret2
  exact ⟨rfl, rfl⟩
set_option maxHeartbeats 1000000 in
theorem praw_short (B p : Nat) (ao : Option Addr) (cap : Nat) (l : List Nat) (at_ n N : Nat) (w : World) (h : POk w B p ao cap l at_) (HN : Hid (l.length = n)) (hN : N ≤ 9223372036854775807) (hsh : n < at_ + N) :
    Calls Tryd.prog 59 #[.pointer (some ⟨p, 0, none⟩), .int .i64 (N : Int)] w fun e w' => e = .returned (.tuple #[.slice none 0 0, .int .i64 10]) ∧ ∃ q, w' = w.drewN q := by
  have c0 := h.c0
  have c1 := h.c1
  have hle := h.le
  have hlen := h.len
  rw [HN.out] at c0 hle hlen
  have ht : decide ((n : Int) - (at_ : Int) < (N : Int)) = true := by simp; omega
  clear h
  go_enter Tryd.func59, Tryd.ntmps59
  go_wp2
  go_quiet (fail)
  go_wp2
  go_ret2
  exact ⟨rfl, _, rfl⟩
set_option maxHeartbeats 2000000 in
theorem praw_ok (B p g cap : Nat) (l : List Nat) (at_ n N : Nat) (w : World) (h : POk w B p (some ⟨g, 0, none⟩) cap l at_) (HN : Hid (l.length = n)) (hend : at_ + N ≤ n) :
    Calls Tryd.prog 59 #[.pointer (some ⟨p, 0, none⟩), .int .i64 (N : Int)] w fun e w' => ∃ ao' cap', e = .returned (.tuple #[.slice ao' N cap', .int .i64 0]) ∧ w'.ownsRow w.heap.size 5 1 (.slice ao' N cap') N (((l.drop at_).take N).map bv) ∧ PPost w w' B p (some ⟨g, 0, none⟩) cap l (at_ + N) := by
  have c0 := h.c0
  have c1 := h.c1
  have hlen := h.len
  have hcap := h.cap_ge
  rw [HN.out] at c0 hlen hcap
  obtain ⟨hcap1, hcap2⟩ := hcap
  have HML : Hid (((l.drop at_).take N).length = N) := by
    have := HN.out
    show ((l.drop at_).take N).length = N
    rw [List.length_take, List.length_drop]; omega
  have HR : Hid (POk w B p (some ⟨g, 0, none⟩) cap l at_) := h
  have hwr : IntKind.i64.wrap ((at_ : Int) + (N : Int)) = (at_ : Int) + (N : Int) := by rw [IntKind.wrap_i64]; omega
  have t0 : decide ((N : Int) < 0) = false := by simp
  have t1 : decide ((n : Int) - (at_ : Int) < (N : Int)) = false := by simp; omega
  have HCl : Hid (∀ q a c, (cap = at_ ∧ a = (⟨g, 0, none⟩ : Addr)) ∨ a = ⟨g, at_, none⟩ → Calls Tryd.prog 18 #[.slice (some a) N c] (w.drewN q) fun e w' => ∃ ao' cap', e = .returned (.slice ao' N cap') ∧ w'.ownsRow w.heap.size 5 1 (.slice ao' N cap') N (((l.drop at_).take N).map bv) ∧ Below w.heap.size (w.drewN q) w') := fun q a c ha => by
    have hn := HN.out
    have hml := HML.out
    have hb : BRow (w.drewN q) (some a) c ((l.drop at_).take N) := by
      refine ⟨fun x hx => HR.out.lt x (List.mem_of_mem_drop (List.mem_of_mem_take hx)), by rw [hml]; omega, fun e => by simp at e, fun hne => ?_⟩
      rcases ha with ⟨hc, rfl⟩ | rfl
      · exfalso; apply hne; apply List.eq_nil_of_length_eq_zero; omega
      · refine ⟨g, at_, rfl, fun j hj => ?_⟩
        have hj' : j < N := by omega
        rw [(HR.out.drewN q).own.cellAt (at_ + j) (by omega)]
        simp [show at_ + j < l.length by omega]
    have := copy_any (some a) c ((l.drop at_).take N) (w.drewN q) hb
    rw [hml] at this; exact this
  have HF : Hid (∀ q w4, Below w.heap.size (w.drewN q) w4 → ((w4.cell? ⟨p, 1, none⟩ = some (.int .i64 (at_ : Int)) ∧ w4.frozen? ⟨p, 1, none⟩ = false) ∧ PPost w (w4.setCell ⟨p, 1, none⟩ (.int .i64 ((at_ + N : Nat) : Int))) B p (some ⟨g, 0, none⟩) cap l (at_ + N)) ∧ (∀ ao' cap' xs, w4.ownsRow w.heap.size 5 1 (.slice ao' N cap') N xs → (w4.setCell ⟨p, 1, none⟩ (.int .i64 ((at_ + N : Nat) : Int))).ownsRow w.heap.size 5 1 (.slice ao' N cap') N xs)) := fun q w4 hb => by
    have h4' : POk w4 B p (some ⟨g, 0, none⟩) cap l at_ := (HR.out.drewN q).later (S := fun _ => False) (KeptIn.ofBelow hb) (fun h => h) (fun _ _ h => h)
    have hn := HN.out
    have hmv := h4'.move (at_ + N) (by omega)
    refine ⟨⟨⟨h4'.c1, blk_free h4'.blk 1⟩, hmv.1, ?_⟩, fun ao' cap' xs ho => ?_⟩
    · have k1 : KeptIn (fun g => g = p) w (w.drewN q) := keptIn_drewN (KeptIn.refl _ _) q
      have k2 : KeptIn (fun g => g = p) (w.drewN q) w4 := KeptIn.ofBelow hb
      exact (k1.trans k2 (fun _ _ h => h)).trans hmv.2 (fun _ _ h => h)
    · refine owns_same ho fun g' hg' => Below.heap_setCell _ _ _ _ (fun e => ?_)
      have h1 := (owns_lt ho g' hg').2
      have h2 := block_lt HR.out.blk
      have h3 : g' = p := e
      omega
  clear h
  go_enter Tryd.func59, Tryd.ntmps59
  go_wp2
  go_quiet (fail)
  by_cases hce : cap = at_
  · have HCe' : Hid (∀ q (c : Nat), Calls Tryd.prog 18 #[.slice (some ⟨g, 0, none⟩) N c] (w.drewN q) fun e w' => ∃ ao' cap', e = .returned (.slice ao' N cap') ∧ w'.ownsRow w.heap.size 5 1 (.slice ao' N cap') N (((l.drop at_).take N).map bv) ∧ Below w.heap.size (w.drewN q) w') := fun q c => HCl.out q ⟨g, 0, none⟩ c (.inl ⟨hce, rfl⟩)
    obtain rfl : N = 0 := by omega
    obtain rfl : n = at_ := by omega
    subst hce
    have hwn : IntKind.i64.wrap (cap : Int) = (cap : Int) := by rw [IntKind.wrap_i64]; omega
    go_wp2
    go_region_with (go_at_call 18; refine (HCe'.out _ _).mono ?_; rintro e w4 ⟨ao', cap', rfl, ho, hb⟩)
    all_goals
      obtain ⟨⟨⟨c4, f4⟩, hp⟩, hown⟩ := HF.out _ w4 hb
      have HP4 : Hid (PPost w (w4.setCell ⟨p, 1, none⟩ (.int .i64 (cap : Int))) B p (some ⟨g, 0, none⟩) cap l cap) := hp
      have HO4 : Hid ((w4.setCell ⟨p, 1, none⟩ (.int .i64 (cap : Int))).ownsRow w.heap.size 5 1 (.slice ao' 0 cap') 0 []) := hown _ _ _ ho
      clear hp hown ho hb
      go_wp2
      go_ret2
      exact ⟨_, _, rfl, HO4.out, HP4.out⟩
  · go_wp2
    go_region_with (go_at_call 18; refine (HCl.out _ ⟨g, at_, none⟩ _ (.inr rfl)).mono ?_; rintro e w4 ⟨ao', cap', rfl, ho, hb⟩)
    all_goals
      obtain ⟨⟨⟨c4, f4⟩, hp⟩, hown⟩ := HF.out _ w4 hb
      have HP4 : Hid _ := hp
      have HO4 : Hid _ := hown _ _ _ ho
      clear hp hown ho hb
      go_wp2
      go_ret2
      exact ⟨_, _, rfl, HO4.out, HP4.out⟩
set_option maxHeartbeats 2000000 in
theorem praw_nil (B p : Nat) (w : World) (h : POk w B p none 0 [] 0) :
    Calls Tryd.prog 59 #[.pointer (some ⟨p, 0, none⟩), .int .i64 0] w fun e w' => ∃ ao' cap', e = .returned (.tuple #[.slice ao' 0 cap', .int .i64 0]) ∧ w'.ownsRow w.heap.size 5 1 (.slice ao' 0 cap') 0 [] ∧ PPost w w' B p none 0 [] 0 := by
  have c0 := h.c0
  have c1 := h.c1
  have f1 := blk_free h.blk 1
  have HCl : Hid (∀ q, Calls Tryd.prog 18 #[.slice none 0 0] (w.drewN q) fun e w' => e = .returned (.slice none 0 0) ∧ w' = w.drewN q) := fun q => copy_none _
  have HF : Hid (∀ q, PPost w ((w.drewN q).setCell ⟨p, 1, none⟩ (.int .i64 0)) B p none 0 [] 0) := fun q => by
    have hmv := (h.drewN q).move 0 (by simp)
    exact ⟨hmv.1, (keptIn_drewN (KeptIn.refl _ _) q).trans hmv.2 (fun _ _ h => h)⟩
  clear h
  go_enter Tryd.func59, Tryd.ntmps59
  go_wp2
  go_quiet (fail)
  go_wp2
  go_region_with (go_at_call 18; refine (HCl.out _).mono ?_; rintro e w4 ⟨rfl, hw⟩; rw [hw]; clear hw)
  all_goals
    go_wp2
    go_ret2
    exact ⟨_, _, rfl, World.ownsRow_nil _ _ _ _, HF.out _⟩
end Go.Proofs.YtpkobgnbjmefnabDoor
