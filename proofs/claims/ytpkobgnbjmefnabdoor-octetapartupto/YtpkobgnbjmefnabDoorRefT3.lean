import Derived.Test.YtpkobgnbjmefnabDoorRefT
namespace Go.Proofs.YtpkobgnbjmefnabDoor
open Go.RowKit
set_option linter.unusedVariables false
set_option maxRecDepth 100000

set_option maxHeartbeats 4000000 in
theorem ptext_end (B p g cap : Nat) (l : List Nat) (at_ n N most : Nat) (w : World) (h : POk w B p (some ⟨g, 0, none⟩) cap l at_) (HN : Hid (l.length = n)) (HV4 : Hid (valB ((l.drop at_).take 4) = N)) (h4 : at_ + 4 ≤ n) (hN32 : N < 4294967296) (hm2 : most ≤ 9223372036854775807) (hm : N ≤ most) (hend : at_ + 4 + N ≤ n) (b : Bool) (HPl : Hid (plainB (bstr ((l.drop (at_ + 4)).take N)).data.toList = b)) :
    Calls Tryd.prog 62 #[.pointer (some ⟨p, 0, none⟩), .int .i64 (most : Int)] w fun e w' =>
      (b = false ∧ e = .returned (.tuple #[.string ⟨#[]⟩, .int .i64 13]) ∧ PPost w w' B p (some ⟨g, 0, none⟩) cap l at_) ∨
      (b = true ∧ e = .returned (.tuple #[.string (bstr ((l.drop (at_ + 4)).take N)), .int .i64 0]) ∧ PPost w w' B p (some ⟨g, 0, none⟩) cap l (at_ + 4 + N)) := by
  have c0 := h.c0
  have c1 := h.c1
  have hlen := h.len
  have hcap := h.cap_ge
  rw [HN.out] at c0 hlen hcap
  obtain ⟨hcap1, hcap2⟩ := hcap
  have ht : decide ((n : Int) - (at_ : Int) < 4) = false := by simp; omega
  have hwr : IntKind.i64.wrap ((at_ : Int) + 4) = (at_ : Int) + 4 := by rw [IntKind.wrap_i64]; omega
  have HV : Hid (∀ q c, Calls Tryd.prog 82 #[.slice (some ⟨g, at_, none⟩) 4 c] (w.drewN q) fun e w' => e = .returned (.int .u64 (N : Int)) ∧ ∃ q', w' = (w.drewN q).drewN q') := fun q c => by
    have hn := HN.out
    have := value_some g at_ c 4 ((l.drop at_).take 4) (w.drewN q) (by decide) (by show _ = _; rw [List.length_take, List.length_drop]; omega) (fun x hx => h.lt x (List.mem_of_mem_drop (List.mem_of_mem_take hx))) (fun k hk => by
      have := (h.drewN q).own.cellAt (at_ + k) (by omega)
      rw [this]; simp [bv, hk, show at_ + k < l.length by omega])
    rwa [HV4.out] at this
  have t0 : decide ((most : Int) < 0) = false := by simp
  have t1 : decide ((most : Int) < (N : Int)) = false := by simp; omega
  have hwu : IntKind.u64.wrap ((n : Int) - (at_ : Int) - 4) = (n : Int) - (at_ : Int) - 4 := by rw [IntKind.wrap_u64]; omega
  have t2 : decide ((n : Int) - (at_ : Int) - 4 < (N : Int)) = false := by simp; omega
  have f1 := blk_free h.blk 1
  have HML : Hid (((l.drop (at_ + 4)).take N).length = N) := by
    have := HN.out
    show ((l.drop (at_ + 4)).take N).length = N
    rw [List.length_take, List.length_drop]; omega
  have HCv : Hid (∀ q a c, (cap = at_ + 4 ∧ a = (⟨g, 0, none⟩ : Addr)) ∨ a = ⟨g, at_ + 4, none⟩ → (convert 37 9 (.slice (some a) N c)).run Tryd.prog (w.drewN q) = .ok (.string (bstr ((l.drop (at_ + 4)).take N))) (w.drewN q)) := fun q a c ha => by
    have hn := HN.out
    have := run_text (P := Tryd.prog) (w.drewN q) 37 9 5 Tryd.underlying37 Tryd.underlying5 Tryd.underlying9 a c ((l.drop (at_ + 4)).take N) (by
      rcases ha with ⟨hc, rfl⟩ | rfl
      · intro j u hu
        have := (List.getElem?_eq_some_iff.1 hu).1
        simp at this; omega
      · intro j u hu
        have hj : j < N := by
          have := (List.getElem?_eq_some_iff.1 hu).1
          rw [List.length_map, HML.out] at this; exact this
        rw [WideShapes.add_plain, (h.drewN q).own.cellAt (at_ + 4 + j) (by omega), ← hu]
        simp [hj])
    rwa [HML.out] at this
  have HPc : Hid (∀ W : World, Calls Tryd.prog 80 #[.string (bstr ((l.drop (at_ + 4)).take N))] W fun e w' => e = .returned (.bool b) ∧ w' = W) := fun W => by
    have := refPlain_any (bstr ((l.drop (at_ + 4)).take N)) W (by rw [bstr_size, HML.out]; omega)
    rwa [HPl.out] at this
  have HF : Hid (∀ q, PPost w ((w.drewN q).setCell ⟨p, 1, none⟩ (.int .i64 ((at_ + 4 + N : Nat) : Int))) B p (some ⟨g, 0, none⟩) cap l (at_ + 4 + N)) := fun q => by
    have hmv := (h.drewN q).move (at_ + 4 + N) (by have := HN.out; omega)
    exact ⟨hmv.1, (keptIn_drewN (KeptIn.refl _ _) q).trans hmv.2 (fun _ _ h => h)⟩
  have HF0 : Hid (∀ q, PPost w (w.drewN q) B p (some ⟨g, 0, none⟩) cap l at_) := fun q => h.same q
  clear h HPl
  generalize hsb : bstr ((l.drop (at_ + 4)).take N) = s at *
  have HSb : Hid (bstr ((l.drop (at_ + 4)).take N) = s) := hsb
  clear hsb
  have hwr2 : IntKind.i64.wrap ((at_ : Int) + 4 + (N : Int)) = (at_ : Int) + 4 + (N : Int) := by rw [IntKind.wrap_i64]; omega
  by_cases hce : cap = at_ + 4
  · have hcv := fun q => HCv.out q ⟨g, 0, none⟩ 0 (.inl ⟨hce, rfl⟩)
    obtain rfl : N = 0 := by omega
    subst hce
    go_enter Tryd.func62, Tryd.ntmps62
    go_wp2
    go_quiet (fail)
    go_wp2
    go_region_with (go_at_call 82; refine (HV.out _ _).mono ?_; rintro e w4 ⟨rfl, q', hw⟩; rw [hw]; clear hw)
    all_goals
      go_wp2
      go_quiet (fail)
      go_wp2
      go_quiet (fail)
      go_wp2_with fail
      refine (HPc.out _).mono ?_
      rintro e w5 ⟨rfl, hw⟩
      rw [hw]; clear hw
      cases b with
      | false =>
        go_wp2
        go_ret2
        first | exact ⟨rfl, HF0.out _⟩ | exact .inl ⟨rfl, rfl, HF0.out _⟩
      | true =>
        go_wp2
        go_ret2
        first | exact ⟨by rw [HSb.out]; rfl, HF.out _⟩ | exact ⟨rfl, HF.out _⟩ | exact .inr ⟨rfl, by rw [HSb.out]; rfl, HF.out _⟩
  · have hcv := fun q => HCv.out q ⟨g, at_ + 4, none⟩ (cap - (at_ + 4)) (.inr rfl)
    go_enter Tryd.func62, Tryd.ntmps62
    go_wp2
    go_quiet (fail)
    go_wp2
    go_region_with (go_at_call 82; refine (HV.out _ _).mono ?_; rintro e w4 ⟨rfl, q', hw⟩; rw [hw]; clear hw)
    all_goals
      go_wp2
      go_quiet (fail)
      go_wp2
      go_quiet (fail)
      go_wp2_with fail
      refine (HPc.out _).mono ?_
      rintro e w5 ⟨rfl, hw⟩
      rw [hw]; clear hw
      cases b with
      | false =>
        go_wp2
        go_ret2
        first | exact ⟨rfl, HF0.out _⟩ | exact .inl ⟨rfl, rfl, HF0.out _⟩
      | true =>
        go_wp2
        go_ret2
        first | exact ⟨by rw [HSb.out]; rfl, HF.out _⟩ | exact ⟨rfl, HF.out _⟩ | exact .inr ⟨rfl, by rw [HSb.out]; rfl, HF.out _⟩
end Go.Proofs.YtpkobgnbjmefnabDoor
