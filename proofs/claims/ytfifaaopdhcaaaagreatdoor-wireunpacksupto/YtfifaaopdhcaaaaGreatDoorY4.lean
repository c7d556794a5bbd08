import Derived.Test.YtfifaaopdhcaaaaGreatDoorY3
import Derived.Deep.RegionWith
namespace Go.Proofs.YtfifaaopdhcaaaaGreatDoor
open Go.RowKit
set_option linter.unusedVariables false
set_option maxRecDepth 100000
set_option maxHeartbeats 2000000 in
theorem rraw_ok (B r g cap : Nat) (l : List Nat) (at_ n N : Nat) (w : World) (h : ROk w B r (some ⟨g, 0, none⟩) cap l at_) (HN : Hid (l.length = n)) (hend : at_ + N ≤ n) :
    Calls Tryz.prog 68 #[.pointer (some ⟨r, 0, none⟩), .int .i64 (N : Int)] w fun e w' => ∃ ao' cap', e = .returned (.tuple #[.slice ao' N cap', .int .i64 0]) ∧ w'.ownsRow w.heap.size 5 1 (.slice ao' N cap') N (((l.drop at_).take N).map bv) ∧ RPost w w' B r (some ⟨g, 0, none⟩) cap l (at_ + N) := by
  have HU : Hid (Calls Tryz.prog 93 #[.pointer (some ⟨r, 0, none⟩)] w fun e w' => e = .returned (.bool true) ∧ w' = w) := rusable_true r w h.c0
  have HLf : Hid (Calls Tryz.prog 66 #[.pointer (some ⟨r, 0, none⟩)] w fun e w' => e = .returned (.int .i64 ((n : Int) - (at_ : Int))) ∧ ∃ q, w' = w.drewN q) := rleft_any B r _ cap l at_ n w h HN
  have c1 := h.c1
  have c2 := h.c2
  have hlen := h.len
  have hcap := h.cap_ge
  rw [HN.out] at c1 hlen hcap
  obtain ⟨hcap1, hcap2⟩ := hcap
  have HML : Hid (((l.drop at_).take N).length = N) := by
    have := HN.out
    show ((l.drop at_).take N).length = N
    rw [List.length_take, List.length_drop]; omega
  have HR : Hid (ROk w B r (some ⟨g, 0, none⟩) cap l at_) := h
  have hwr : IntKind.i64.wrap ((at_ : Int) + (N : Int)) = (at_ : Int) + (N : Int) := by rw [IntKind.wrap_i64]; omega
  have t0 : decide ((N : Int) < 0) = false := by simp
  have t1 : decide ((n : Int) - (at_ : Int) < (N : Int)) = false := by simp; omega
  have HCl : Hid (∀ q a c, (cap = at_ ∧ a = (⟨g, 0, none⟩ : Addr)) ∨ a = ⟨g, at_, none⟩ → Calls Tryz.prog 90 #[.slice (some a) N c] (w.drewN q) fun e w' => ∃ ao' cap', e = .returned (.slice ao' N cap') ∧ w'.ownsRow w.heap.size 5 1 (.slice ao' N cap') N (((l.drop at_).take N).map bv) ∧ Below w.heap.size (w.drewN q) w') := fun q a c ha => by
    have hn := HN.out
    have hml := HML.out
    have hb : BRow (w.drewN q) (some a) c ((l.drop at_).take N) := by
      refine ⟨fun x hx => HR.out.lt x (List.mem_of_mem_drop (List.mem_of_mem_take hx)), by rw [hml]; omega, fun e => by simp at e, fun hne => ?_⟩
      rcases ha with ⟨hc, rfl⟩ | rfl
      · exfalso; apply hne; apply List.eq_nil_of_length_eq_zero; omega
      · refine ⟨g, at_, rfl, fun j hj => ?_⟩
        have hj' : j < N := by omega
        have := drop_take_row (HR.out.drewN q) at_ N (by omega) j (bv ((l.drop at_).take N)[j]) (by rw [List.getElem?_map, List.getElem?_eq_getElem hj]; rfl)
        rwa [WideShapes.add_plain] at this
    have := clone_any (some a) c ((l.drop at_).take N) (w.drewN q) hb
    rw [hml] at this; exact this
  have HF : Hid (∀ q w4, Below w.heap.size (w.drewN q) w4 → ((w4.cell? ⟨r, 2, none⟩ = some (.int .i64 (at_ : Int)) ∧ w4.frozen? ⟨r, 2, none⟩ = false) ∧ RPost w (w4.setCell ⟨r, 2, none⟩ (.int .i64 ((at_ + N : Nat) : Int))) B r (some ⟨g, 0, none⟩) cap l (at_ + N)) ∧ (∀ ao' cap' xs, w4.ownsRow w.heap.size 5 1 (.slice ao' N cap') N xs → (w4.setCell ⟨r, 2, none⟩ (.int .i64 ((at_ + N : Nat) : Int))).ownsRow w.heap.size 5 1 (.slice ao' N cap') N xs)) := fun q w4 hb => by
    have h4' : ROk w4 B r (some ⟨g, 0, none⟩) cap l at_ := (HR.out.drewN q).later (S := fun _ => False) (KeptIn.ofBelow hb) (fun h => h) (fun _ _ h => h)
    have hn := HN.out
    have hmv := h4'.move (at_ + N) (by omega)
    refine ⟨⟨⟨h4'.c2, blk_free h4'.blk 2⟩, hmv.1, ?_⟩, fun ao' cap' xs ho => ?_⟩
    · have k1 : KeptIn (fun g => g = r) w (w.drewN q) := keptIn_drewN (KeptIn.refl _ _) q
      have k2 : KeptIn (fun g => g = r) (w.drewN q) w4 := KeptIn.ofBelow hb
      exact (k1.trans k2 (fun _ _ h => h)).trans hmv.2 (fun _ _ h => h)
    · refine owns_same ho fun g' hg' => Below.heap_setCell _ _ _ _ (fun e => ?_)
      have h1 := (owns_lt ho g' hg').2
      have h2 := block_lt HR.out.blk
      have h3 : g' = r := e
      omega
  clear h
  go_enter Tryz.func68, Tryz.ntmps68
  go_wp2_with fail
  refine HU.out.mono ?_
  rintro e w1 ⟨rfl, hw⟩
  rw [hw]; clear hw
  go_wp2_with fail
  refine HLf.out.mono ?_
  rintro e w1 ⟨rfl, q, hw⟩
  rw [hw]; clear hw
  by_cases hce : cap = at_
  · have HCe := fun (c : Nat) => HCl.out (q + 1) ⟨g, 0, none⟩ c (.inl ⟨hce, rfl⟩)
    have HCe' : Hid _ := HCe
    clear HCe
    obtain rfl : N = 0 := by omega
    obtain rfl : n = at_ := by omega
    subst hce
    have hwn : IntKind.i64.wrap (cap : Int) = (cap : Int) := by rw [IntKind.wrap_i64]; omega
    go_wp2
    go_region_with (go_at_call 90; refine (HCe'.out _).mono ?_; rintro e w4 ⟨ao', cap', rfl, ho, hb⟩)
    all_goals
      obtain ⟨⟨⟨c4, f4⟩, hp⟩, hown⟩ := HF.out (q + 1) w4 hb
      have HP4 : Hid (RPost w (w4.setCell ⟨r, 2, none⟩ (.int .i64 (cap : Int))) B r (some ⟨g, 0, none⟩) cap l cap) := hp
      have HO4 : Hid ((w4.setCell ⟨r, 2, none⟩ (.int .i64 (cap : Int))).ownsRow w.heap.size 5 1 (.slice ao' 0 cap') 0 []) := hown _ _ _ ho
      clear hp hown ho hb
      go_wp2
      go_ret2
      exact ⟨_, _, rfl, HO4.out, HP4.out⟩
  · go_wp2
    go_region_with (go_at_call 90; refine (HCl.out (q + 1) ⟨g, at_, none⟩ _ (.inr rfl)).mono ?_; rintro e w4 ⟨ao', cap', rfl, ho, hb⟩)
    all_goals
      obtain ⟨⟨⟨c4, f4⟩, hp⟩, hown⟩ := HF.out (q + 1) w4 hb
      have HP4 : Hid _ := hp
      have HO4 : Hid _ := hown _ _ _ ho
      clear hp hown ho hb
      go_wp2
      go_ret2
      exact ⟨_, _, rfl, HO4.out, HP4.out⟩
set_option maxHeartbeats 2000000 in
theorem rraw_nil (B r : Nat) (w : World) (h : ROk w B r none 0 [] 0) :
    Calls Tryz.prog 68 #[.pointer (some ⟨r, 0, none⟩), .int .i64 0] w fun e w' => ∃ ao' cap', e = .returned (.tuple #[.slice ao' 0 cap', .int .i64 0]) ∧ w'.ownsRow w.heap.size 5 1 (.slice ao' 0 cap') 0 [] ∧ RPost w w' B r none 0 [] 0 := by
  have HU : Hid (Calls Tryz.prog 93 #[.pointer (some ⟨r, 0, none⟩)] w fun e w' => e = .returned (.bool true) ∧ w' = w) := rusable_true r w h.c0
  have HLf : Hid (Calls Tryz.prog 66 #[.pointer (some ⟨r, 0, none⟩)] w fun e w' => e = .returned (.int .i64 0) ∧ ∃ q, w' = w.drewN q) := by
    have := rleft_any B r _ 0 [] 0 0 w h rfl
    rwa [Int.sub_self] at this
  have c1 := h.c1
  have c2 := h.c2
  have HR : Hid (ROk w B r none 0 [] 0) := h
  have HCl : Hid (∀ q, Calls Tryz.prog 90 #[.slice none 0 0] (w.drewN q) fun e w' => ∃ ao' cap', e = .returned (.slice ao' 0 cap') ∧ w'.ownsRow w.heap.size 5 1 (.slice ao' 0 cap') 0 [] ∧ Below w.heap.size (w.drewN q) w') := fun q =>
    clone_any none 0 [] (w.drewN q) ⟨fun x hx => by simp at hx, by simp, fun e => by simp, fun hne => absurd rfl hne⟩
  have HF : Hid (∀ q w4, Below w.heap.size (w.drewN q) w4 → ((w4.cell? ⟨r, 2, none⟩ = some (.int .i64 0) ∧ w4.frozen? ⟨r, 2, none⟩ = false) ∧ RPost w (w4.setCell ⟨r, 2, none⟩ (.int .i64 0)) B r none 0 [] 0) ∧ (∀ ao' cap' xs, w4.ownsRow w.heap.size 5 1 (.slice ao' 0 cap') 0 xs → (w4.setCell ⟨r, 2, none⟩ (.int .i64 0)).ownsRow w.heap.size 5 1 (.slice ao' 0 cap') 0 xs)) := fun q w4 hb => by
    have h4' : ROk w4 B r none 0 [] 0 := (HR.out.drewN q).later (S := fun _ => False) (KeptIn.ofBelow hb) (fun h => h) (fun _ _ h => h)
    have hmv := h4'.move 0 (by simp)
    refine ⟨⟨⟨h4'.c2, blk_free h4'.blk 2⟩, hmv.1, ?_⟩, fun ao' cap' xs ho => ?_⟩
    · have k1 : KeptIn (fun g => g = r) w (w.drewN q) := keptIn_drewN (KeptIn.refl _ _) q
      have k2 : KeptIn (fun g => g = r) (w.drewN q) w4 := KeptIn.ofBelow hb
      exact (k1.trans k2 (fun _ _ h => h)).trans hmv.2 (fun _ _ h => h)
    · refine owns_same ho fun g' hg' => Below.heap_setCell _ _ _ _ (fun e => ?_)
      have h1 := (owns_lt ho g' hg').2
      have h2 := block_lt HR.out.blk
      have h3 : g' = r := e
      omega
  clear h
  go_enter Tryz.func68, Tryz.ntmps68
  go_wp2_with fail
  refine HU.out.mono ?_
  rintro e w1 ⟨rfl, hw⟩
  rw [hw]; clear hw
  go_wp2_with fail
  refine HLf.out.mono ?_
  rintro e w1 ⟨rfl, q, hw⟩
  rw [hw]; clear hw
  go_wp2
  go_region_with (go_at_call 90; refine (HCl.out _).mono ?_; rintro e w4 ⟨ao', cap', rfl, ho, hb⟩)
  all_goals
    obtain ⟨⟨⟨c4, f4⟩, hp⟩, hown⟩ := HF.out (q + 1) w4 hb
    have HP4 : Hid _ := hp
    have HO4 : Hid ((w4.setCell ⟨r, 2, none⟩ (.int .i64 0)).ownsRow w.heap.size 5 1 (.slice ao' 0 cap') 0 []) := hown _ _ _ ho
    clear hp hown ho hb
    go_wp2
    go_ret2
    exact ⟨_, _, rfl, HO4.out, HP4.out⟩
end Go.Proofs.YtfifaaopdhcaaaaGreatDoor
