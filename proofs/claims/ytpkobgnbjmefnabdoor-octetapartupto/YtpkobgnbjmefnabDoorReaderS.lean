import Derived.Test.YtpkobgnbjmefnabDoorReaderV
namespace Go.Proofs.YtpkobgnbjmefnabDoor
open Go.RowKit
set_option linter.unusedVariables false
set_option maxRecDepth 100000

set_option maxHeartbeats 2000000 in
theorem rtext_none (B r : Nat) (ao : Option Addr) (cap : Nat) (l : List Nat) (at_ n : Nat) (most : Int) (w : World) (h : ROk w B r ao cap l at_) (HN : Hid (l.length = n)) (h4 : n - at_ < 4) (hB : B ≤ w.heap.size) :
    Calls Tryd.prog 61 #[.pointer (some ⟨r, 0, none⟩), .int .i64 most] w fun e w' => e = .returned (.tuple #[.string ⟨#[]⟩, .int .i64 10]) ∧ RPost w w' B r ao cap l at_ := by
  have HU : Hid (Calls Tryd.prog 83 #[.pointer (some ⟨r, 0, none⟩)] w fun e w' => e = .returned (.bool true) ∧ w' = w) := rusable_true r w h.c0
  have c0 := h.c0
  have c1 := h.c1
  have c2 := h.c2
  rw [HN.out] at c1
  have HR : Hid (ROk w B r ao cap l at_) := h
  clear h
  go_enter Tryd.func61, Tryd.ntmps61
  go_wp2_with fail
  refine HU.out.mono ?_
  rintro e w1 ⟨rfl, hw⟩
  rw [hw]; clear hw
  have HA : Hid (ROk (w.alloc (.cells #[.bool true, .slice ao n cap, .int .i64 (at_ : Int)] 64)) B w.heap.size ao cap l at_) := by
    have hn := HN.out
    subst hn
    exact ⟨heap_new w _, HR.out.own.alloc _, HR.out.lt, HR.out.len, HR.out.le, hB⟩
  have HN32 : Hid (Calls Tryd.prog 56 #[.pointer (some ⟨w.heap.size, 0, none⟩)] (w.alloc (.cells #[.bool true, .slice ao n cap, .int .i64 (at_ : Int)] 64)) fun e w' =>
      e = .returned (.tuple #[.int .u32 0, .int .i64 10]) ∧ RPost w w' B r ao cap l at_) := by
    refine (ru32_any B w.heap.size _ cap l at_ _ HA.out).mono fun e w' hh => ?_
    have hn := HN.out
    rcases hh with ⟨hs, he, hp⟩ | ⟨hs, _⟩
    · have hlt := block_lt HR.out.blk
      have k1 : KeptIn (fun _ => False) w (w.alloc (.cells #[.bool true, .slice ao n cap, .int .i64 (at_ : Int)] 64)) := KeptIn.ofBelow ((Below.refl _ _).alloc (Nat.le_refl _) _)
      have k2 : KeptIn (fun _ => False) w w' := k1.trans hp.kept (fun g hg _ e => by omega)
      exact ⟨he, HR.out.later k2 (fun h => h) (fun _ _ h => h), k2.mono (fun _ _ h => absurd h id)⟩
    · omega
  go_wp2_with fail
  refine HN32.out.mono ?_
  rintro e w2 ⟨rfl, hp⟩
  have HP : Hid (RPost w w2 B r ao cap l at_) := hp
  clear hp
  go_wp2
  go_ret2
  exact ⟨rfl, HP.out⟩
set_option maxHeartbeats 2000000 in
theorem rtext_negm (B r g cap : Nat) (l : List Nat) (at_ n N : Nat) (most : Int) (w : World) (h : ROk w B r (some ⟨g, 0, none⟩) cap l at_) (HN : Hid (l.length = n)) (HV : Hid (valB ((l.drop at_).take 4) = N)) (h4 : at_ + 4 ≤ n) (hB : B ≤ w.heap.size) (hm : most < 0) :
    Calls Tryd.prog 61 #[.pointer (some ⟨r, 0, none⟩), .int .i64 most] w fun e w' => e = .returned (.tuple #[.string ⟨#[]⟩, .int .i64 12]) ∧ RPost w w' B r (some ⟨g, 0, none⟩) cap l at_ := by
  have HU : Hid (Calls Tryd.prog 83 #[.pointer (some ⟨r, 0, none⟩)] w fun e w' => e = .returned (.bool true) ∧ w' = w) := rusable_true r w h.c0
  have c0 := h.c0
  have c1 := h.c1
  have c2 := h.c2
  have hlen := h.len
  rw [HN.out] at c1 hlen
  have HR : Hid (ROk w B r (some ⟨g, 0, none⟩) cap l at_) := h
  clear h
  go_enter Tryd.func61, Tryd.ntmps61
  go_wp2_with fail
  refine HU.out.mono ?_
  rintro e w1 ⟨rfl, hw⟩
  rw [hw]; clear hw
  have HA : Hid (ROk (w.alloc (.cells #[.bool true, .slice (some ⟨g, 0, none⟩) n cap, .int .i64 (at_ : Int)] 64)) B w.heap.size (some ⟨g, 0, none⟩) cap l at_) := by
    have hn := HN.out
    subst hn
    exact ⟨heap_new w _, HR.out.own.alloc _, HR.out.lt, HR.out.len, HR.out.le, hB⟩
  have HN32 : Hid (Calls Tryd.prog 56 #[.pointer (some ⟨w.heap.size, 0, none⟩)] (w.alloc (.cells #[.bool true, .slice (some ⟨g, 0, none⟩) n cap, .int .i64 (at_ : Int)] 64)) fun e w' =>
      e = .returned (.tuple #[.int .u32 (N : Int), .int .i64 0]) ∧ ROk w' B w.heap.size (some ⟨g, 0, none⟩) cap l (at_ + 4) ∧ ROk w' B r (some ⟨g, 0, none⟩) cap l at_ ∧ KeptIn (fun g => g = r) w w' ∧ w.heap.size ≤ w'.heap.size) := by
    refine (ru32_any B w.heap.size _ cap l at_ _ HA.out).mono fun e w' hh => ?_
    have hn := HN.out
    rcases hh with ⟨hs, _⟩ | ⟨hs, he, hp⟩
    · omega
    · rw [HV.out] at he
      have hlt := block_lt HR.out.blk
      have k1 : KeptIn (fun _ => False) w (w.alloc (.cells #[.bool true, .slice (some ⟨g, 0, none⟩) n cap, .int .i64 (at_ : Int)] 64)) := KeptIn.ofBelow ((Below.refl _ _).alloc (Nat.le_refl _) _)
      have k2 : KeptIn (fun _ => False) w w' := k1.trans hp.kept (fun g hg _ e => by omega)
      exact ⟨he, hp.ok, HR.out.later k2 (fun h => h) (fun _ _ h => h), k2.mono (fun _ _ h => absurd h id), k2.size⟩
  have hN32 : N < 4294967296 := by rw [← HV.out]; exact valB_bound l at_ 4 HR.out.lt
  go_wp2_with fail
  refine HN32.out.mono ?_
  rintro e w2 ⟨rfl, ha, hr, hk, hz⟩
  have HA2 : Hid (ROk w2 B w.heap.size (some ⟨g, 0, none⟩) cap l (at_ + 4)) := ha
  have HR2 : Hid (ROk w2 B r (some ⟨g, 0, none⟩) cap l at_) := hr
  have HK2 : Hid (KeptIn (fun g => g = r) w w2) := hk
  have d1 := ha.c1
  have d2 := ha.c2
  rw [HN.out] at d1
  have f2 := blk_free hr.blk 2
  have hcap := ha.cap_ge
  rw [HN.out] at hcap
  obtain ⟨hcap1, hcap2⟩ := hcap
  have HLf : Hid (Calls Tryd.prog 64 #[.pointer (some ⟨w.heap.size, 0, none⟩)] w2 fun e w' => e = .returned (.int .i64 ((n : Int) - ((at_ + 4 : Nat) : Int))) ∧ ∃ q, w' = w2.drewN q) := rleft_any B w.heap.size _ cap l (at_ + 4) n w2 ha HN
  clear ha hr hk c0 c1 c2
  have HRP : Hid (∀ q, RPost w (w2.drewN q) B r (some ⟨g, 0, none⟩) cap l at_) := fun q => ⟨HR2.out.drewN q, keptIn_drewN HK2.out q⟩
  have HRP0 : Hid (RPost w w2 B r (some ⟨g, 0, none⟩) cap l at_) := ⟨HR2.out, HK2.out⟩
  have t1 : decide (most < 0) = true := by simp; omega
  go_wp2
  go_ret2
  exact ⟨rfl, HRP0.out⟩
set_option maxHeartbeats 2000000 in
theorem rtext_big (B r g cap : Nat) (l : List Nat) (at_ n N : Nat) (most : Nat) (w : World) (h : ROk w B r (some ⟨g, 0, none⟩) cap l at_) (HN : Hid (l.length = n)) (HV : Hid (valB ((l.drop at_).take 4) = N)) (h4 : at_ + 4 ≤ n) (hB : B ≤ w.heap.size) (hm : most < N) (hm2 : most ≤ 9223372036854775807) :
    Calls Tryd.prog 61 #[.pointer (some ⟨r, 0, none⟩), .int .i64 (most : Int)] w fun e w' => e = .returned (.tuple #[.string ⟨#[]⟩, .int .i64 12]) ∧ RPost w w' B r (some ⟨g, 0, none⟩) cap l at_ := by
  have HU : Hid (Calls Tryd.prog 83 #[.pointer (some ⟨r, 0, none⟩)] w fun e w' => e = .returned (.bool true) ∧ w' = w) := rusable_true r w h.c0
  have c0 := h.c0
  have c1 := h.c1
  have c2 := h.c2
  have hlen := h.len
  rw [HN.out] at c1 hlen
  have HR : Hid (ROk w B r (some ⟨g, 0, none⟩) cap l at_) := h
  clear h
  go_enter Tryd.func61, Tryd.ntmps61
  go_wp2_with fail
  refine HU.out.mono ?_
  rintro e w1 ⟨rfl, hw⟩
  rw [hw]; clear hw
  have HA : Hid (ROk (w.alloc (.cells #[.bool true, .slice (some ⟨g, 0, none⟩) n cap, .int .i64 (at_ : Int)] 64)) B w.heap.size (some ⟨g, 0, none⟩) cap l at_) := by
    have hn := HN.out
    subst hn
    exact ⟨heap_new w _, HR.out.own.alloc _, HR.out.lt, HR.out.len, HR.out.le, hB⟩
  have HN32 : Hid (Calls Tryd.prog 56 #[.pointer (some ⟨w.heap.size, 0, none⟩)] (w.alloc (.cells #[.bool true, .slice (some ⟨g, 0, none⟩) n cap, .int .i64 (at_ : Int)] 64)) fun e w' =>
      e = .returned (.tuple #[.int .u32 (N : Int), .int .i64 0]) ∧ ROk w' B w.heap.size (some ⟨g, 0, none⟩) cap l (at_ + 4) ∧ ROk w' B r (some ⟨g, 0, none⟩) cap l at_ ∧ KeptIn (fun g => g = r) w w' ∧ w.heap.size ≤ w'.heap.size) := by
    refine (ru32_any B w.heap.size _ cap l at_ _ HA.out).mono fun e w' hh => ?_
    have hn := HN.out
    rcases hh with ⟨hs, _⟩ | ⟨hs, he, hp⟩
    · omega
    · rw [HV.out] at he
      have hlt := block_lt HR.out.blk
      have k1 : KeptIn (fun _ => False) w (w.alloc (.cells #[.bool true, .slice (some ⟨g, 0, none⟩) n cap, .int .i64 (at_ : Int)] 64)) := KeptIn.ofBelow ((Below.refl _ _).alloc (Nat.le_refl _) _)
      have k2 : KeptIn (fun _ => False) w w' := k1.trans hp.kept (fun g hg _ e => by omega)
      exact ⟨he, hp.ok, HR.out.later k2 (fun h => h) (fun _ _ h => h), k2.mono (fun _ _ h => absurd h id), k2.size⟩
  have hN32 : N < 4294967296 := by rw [← HV.out]; exact valB_bound l at_ 4 HR.out.lt
  go_wp2_with fail
  refine HN32.out.mono ?_
  rintro e w2 ⟨rfl, ha, hr, hk, hz⟩
  have HA2 : Hid (ROk w2 B w.heap.size (some ⟨g, 0, none⟩) cap l (at_ + 4)) := ha
  have HR2 : Hid (ROk w2 B r (some ⟨g, 0, none⟩) cap l at_) := hr
  have HK2 : Hid (KeptIn (fun g => g = r) w w2) := hk
  have d1 := ha.c1
  have d2 := ha.c2
  rw [HN.out] at d1
  have f2 := blk_free hr.blk 2
  have hcap := ha.cap_ge
  rw [HN.out] at hcap
  obtain ⟨hcap1, hcap2⟩ := hcap
  have HLf : Hid (Calls Tryd.prog 64 #[.pointer (some ⟨w.heap.size, 0, none⟩)] w2 fun e w' => e = .returned (.int .i64 ((n : Int) - ((at_ + 4 : Nat) : Int))) ∧ ∃ q, w' = w2.drewN q) := rleft_any B w.heap.size _ cap l (at_ + 4) n w2 ha HN
  clear ha hr hk c0 c1 c2
  have HRP : Hid (∀ q, RPost w (w2.drewN q) B r (some ⟨g, 0, none⟩) cap l at_) := fun q => ⟨HR2.out.drewN q, keptIn_drewN HK2.out q⟩
  have HRP0 : Hid (RPost w w2 B r (some ⟨g, 0, none⟩) cap l at_) := ⟨HR2.out, HK2.out⟩
  have t1 : decide ((most : Int) < 0) = false := by simp
  have t2 : decide ((most : Int) < (N : Int)) = true := by simp; omega
  go_wp2
  go_ret2
  exact ⟨rfl, HRP0.out⟩
set_option maxHeartbeats 2000000 in
theorem rtext_past (B r g cap : Nat) (l : List Nat) (at_ n N : Nat) (most : Nat) (w : World) (h : ROk w B r (some ⟨g, 0, none⟩) cap l at_) (HN : Hid (l.length = n)) (HV : Hid (valB ((l.drop at_).take 4) = N)) (h4 : at_ + 4 ≤ n) (hB : B ≤ w.heap.size) (hm : N ≤ most) (hm2 : most ≤ 9223372036854775807) (hend : n < at_ + 4 + N) :
    Calls Tryd.prog 61 #[.pointer (some ⟨r, 0, none⟩), .int .i64 (most : Int)] w fun e w' => e = .returned (.tuple #[.string ⟨#[]⟩, .int .i64 10]) ∧ RPost w w' B r (some ⟨g, 0, none⟩) cap l at_ := by
  have HU : Hid (Calls Tryd.prog 83 #[.pointer (some ⟨r, 0, none⟩)] w fun e w' => e = .returned (.bool true) ∧ w' = w) := rusable_true r w h.c0
  have c0 := h.c0
  have c1 := h.c1
  have c2 := h.c2
  have hlen := h.len
  rw [HN.out] at c1 hlen
  have HR : Hid (ROk w B r (some ⟨g, 0, none⟩) cap l at_) := h
  clear h
  go_enter Tryd.func61, Tryd.ntmps61
  go_wp2_with fail
  refine HU.out.mono ?_
  rintro e w1 ⟨rfl, hw⟩
  rw [hw]; clear hw
  have HA : Hid (ROk (w.alloc (.cells #[.bool true, .slice (some ⟨g, 0, none⟩) n cap, .int .i64 (at_ : Int)] 64)) B w.heap.size (some ⟨g, 0, none⟩) cap l at_) := by
    have hn := HN.out
    subst hn
    exact ⟨heap_new w _, HR.out.own.alloc _, HR.out.lt, HR.out.len, HR.out.le, hB⟩
  have HN32 : Hid (Calls Tryd.prog 56 #[.pointer (some ⟨w.heap.size, 0, none⟩)] (w.alloc (.cells #[.bool true, .slice (some ⟨g, 0, none⟩) n cap, .int .i64 (at_ : Int)] 64)) fun e w' =>
      e = .returned (.tuple #[.int .u32 (N : Int), .int .i64 0]) ∧ ROk w' B w.heap.size (some ⟨g, 0, none⟩) cap l (at_ + 4) ∧ ROk w' B r (some ⟨g, 0, none⟩) cap l at_ ∧ KeptIn (fun g => g = r) w w' ∧ w.heap.size ≤ w'.heap.size) := by
    refine (ru32_any B w.heap.size _ cap l at_ _ HA.out).mono fun e w' hh => ?_
    have hn := HN.out
    rcases hh with ⟨hs, _⟩ | ⟨hs, he, hp⟩
    · omega
    · rw [HV.out] at he
      have hlt := block_lt HR.out.blk
      have k1 : KeptIn (fun _ => False) w (w.alloc (.cells #[.bool true, .slice (some ⟨g, 0, none⟩) n cap, .int .i64 (at_ : Int)] 64)) := KeptIn.ofBelow ((Below.refl _ _).alloc (Nat.le_refl _) _)
      have k2 : KeptIn (fun _ => False) w w' := k1.trans hp.kept (fun g hg _ e => by omega)
      exact ⟨he, hp.ok, HR.out.later k2 (fun h => h) (fun _ _ h => h), k2.mono (fun _ _ h => absurd h id), k2.size⟩
  have hN32 : N < 4294967296 := by rw [← HV.out]; exact valB_bound l at_ 4 HR.out.lt
  go_wp2_with fail
  refine HN32.out.mono ?_
  rintro e w2 ⟨rfl, ha, hr, hk, hz⟩
  have HA2 : Hid (ROk w2 B w.heap.size (some ⟨g, 0, none⟩) cap l (at_ + 4)) := ha
  have HR2 : Hid (ROk w2 B r (some ⟨g, 0, none⟩) cap l at_) := hr
  have HK2 : Hid (KeptIn (fun g => g = r) w w2) := hk
  have d1 := ha.c1
  have d2 := ha.c2
  rw [HN.out] at d1
  have f2 := blk_free hr.blk 2
  have hcap := ha.cap_ge
  rw [HN.out] at hcap
  obtain ⟨hcap1, hcap2⟩ := hcap
  have HLf : Hid (Calls Tryd.prog 64 #[.pointer (some ⟨w.heap.size, 0, none⟩)] w2 fun e w' => e = .returned (.int .i64 ((n : Int) - ((at_ + 4 : Nat) : Int))) ∧ ∃ q, w' = w2.drewN q) := rleft_any B w.heap.size _ cap l (at_ + 4) n w2 ha HN
  clear ha hr hk c0 c1 c2
  have HRP : Hid (∀ q, RPost w (w2.drewN q) B r (some ⟨g, 0, none⟩) cap l at_) := fun q => ⟨HR2.out.drewN q, keptIn_drewN HK2.out q⟩
  have HRP0 : Hid (RPost w w2 B r (some ⟨g, 0, none⟩) cap l at_) := ⟨HR2.out, HK2.out⟩
  have t1 : decide ((most : Int) < 0) = false := by simp
  have t2 : decide ((most : Int) < (N : Int)) = false := by simp; omega
  go_wp2_with fail
  refine HLf.out.mono ?_
  rintro e w3 ⟨rfl, q, hw⟩
  rw [hw]; clear hw
  have HRq : Hid (RPost w (w2.drewN q) B r (some ⟨g, 0, none⟩) cap l at_) := HRP.out q
  have hNle : ((n : Int) - ((at_ : Int) + 4)) < (N : Int) := by omega
  go_wp2
  go_ret2
  exact ⟨rfl, HRq.out⟩
set_option maxHeartbeats 2000000 in
theorem rtext_bad (B r g cap : Nat) (l : List Nat) (at_ n N : Nat) (most : Nat) (w : World) (h : ROk w B r (some ⟨g, 0, none⟩) cap l at_) (HN : Hid (l.length = n)) (HV : Hid (valB ((l.drop at_).take 4) = N)) (h4 : at_ + 4 ≤ n) (hB : B ≤ w.heap.size) (hT : Tabs w) (hm : N ≤ most) (hm2 : most ≤ 9223372036854775807) (hend : at_ + 4 + N ≤ n) (HP : Hid (plainB (bstr ((l.drop (at_ + 4)).take N)).data.toList = false)) :
    Calls Tryd.prog 61 #[.pointer (some ⟨r, 0, none⟩), .int .i64 (most : Int)] w fun e w' => e = .returned (.tuple #[.string ⟨#[]⟩, .int .i64 13]) ∧ RPost w w' B r (some ⟨g, 0, none⟩) cap l at_ := by
  have HU : Hid (Calls Tryd.prog 83 #[.pointer (some ⟨r, 0, none⟩)] w fun e w' => e = .returned (.bool true) ∧ w' = w) := rusable_true r w h.c0
  have c0 := h.c0
  have c1 := h.c1
  have c2 := h.c2
  have hlen := h.len
  rw [HN.out] at c1 hlen
  have HR : Hid (ROk w B r (some ⟨g, 0, none⟩) cap l at_) := h
  have HT : Hid (Tabs w) := hT
  clear h hT
  go_enter Tryd.func61, Tryd.ntmps61
  go_wp2_with fail
  refine HU.out.mono ?_
  rintro e w1 ⟨rfl, hw⟩
  rw [hw]; clear hw
  have HA : Hid (ROk (w.alloc (.cells #[.bool true, .slice (some ⟨g, 0, none⟩) n cap, .int .i64 (at_ : Int)] 64)) B w.heap.size (some ⟨g, 0, none⟩) cap l at_) := by
    have hn := HN.out
    subst hn
    exact ⟨heap_new w _, HR.out.own.alloc _, HR.out.lt, HR.out.len, HR.out.le, hB⟩
  have HN32 : Hid (Calls Tryd.prog 56 #[.pointer (some ⟨w.heap.size, 0, none⟩)] (w.alloc (.cells #[.bool true, .slice (some ⟨g, 0, none⟩) n cap, .int .i64 (at_ : Int)] 64)) fun e w' =>
      e = .returned (.tuple #[.int .u32 (N : Int), .int .i64 0]) ∧ ROk w' B w.heap.size (some ⟨g, 0, none⟩) cap l (at_ + 4) ∧ ROk w' B r (some ⟨g, 0, none⟩) cap l at_ ∧ KeptIn (fun g => g = r) w w' ∧ w.heap.size ≤ w'.heap.size) := by
    refine (ru32_any B w.heap.size _ cap l at_ _ HA.out).mono fun e w' hh => ?_
    have hn := HN.out
    rcases hh with ⟨hs, _⟩ | ⟨hs, he, hp⟩
    · omega
    · rw [HV.out] at he
      have hlt := block_lt HR.out.blk
      have k1 : KeptIn (fun _ => False) w (w.alloc (.cells #[.bool true, .slice (some ⟨g, 0, none⟩) n cap, .int .i64 (at_ : Int)] 64)) := KeptIn.ofBelow ((Below.refl _ _).alloc (Nat.le_refl _) _)
      have k2 : KeptIn (fun _ => False) w w' := k1.trans hp.kept (fun g hg _ e => by omega)
      exact ⟨he, hp.ok, HR.out.later k2 (fun h => h) (fun _ _ h => h), k2.mono (fun _ _ h => absurd h id), k2.size⟩
  have hN32 : N < 4294967296 := by rw [← HV.out]; exact valB_bound l at_ 4 HR.out.lt
  go_wp2_with fail
  refine HN32.out.mono ?_
  rintro e w2 ⟨rfl, ha, hr, hk, hz⟩
  have HA2 : Hid (ROk w2 B w.heap.size (some ⟨g, 0, none⟩) cap l (at_ + 4)) := ha
  have HR2 : Hid (ROk w2 B r (some ⟨g, 0, none⟩) cap l at_) := hr
  have HK2 : Hid (KeptIn (fun g => g = r) w w2) := hk
  have d1 := ha.c1
  have d2 := ha.c2
  rw [HN.out] at d1
  have f2 := blk_free hr.blk 2
  have hcap := ha.cap_ge
  rw [HN.out] at hcap
  obtain ⟨hcap1, hcap2⟩ := hcap
  have HLf : Hid (Calls Tryd.prog 64 #[.pointer (some ⟨w.heap.size, 0, none⟩)] w2 fun e w' => e = .returned (.int .i64 ((n : Int) - ((at_ + 4 : Nat) : Int))) ∧ ∃ q, w' = w2.drewN q) := rleft_any B w.heap.size _ cap l (at_ + 4) n w2 ha HN
  clear ha hr hk c0 c1 c2
  have t1 : decide ((most : Int) < 0) = false := by simp
  have t2 : decide ((most : Int) < (N : Int)) = false := by simp; omega
  go_wp2_with fail
  refine HLf.out.mono ?_
  rintro e w3 ⟨rfl, q, hw⟩
  rw [hw]; clear hw
  have hNle : (N : Int) ≤ (n : Int) - ((at_ : Int) + 4) := by omega
  have HTw : Hid (Tabs (w2.drewN q)) := HT.out.reader HR.out.c0 HK2.out
  have HPl : Hid (Calls Tryd.prog 79 #[.string (bstr ((l.drop (at_ + 4)).take N))] (w2.drewN q) fun e w' => e = .returned (.bool false) ∧ Below w2.heap.size (w2.drewN q) w') := by
    have := plain_any (bstr ((l.drop (at_ + 4)).take N)) (w2.drewN q) (by rw [bstr_size, List.length_take]; omega) HTw.out
    rw [HP.out] at this; exact this
  have HML : Hid (((l.drop (at_ + 4)).take N).length = N) := by
    have := HN.out
    show ((l.drop (at_ + 4)).take N).length = N
    rw [List.length_take, List.length_drop]; omega
  have HF : Hid (∀ w4, Below w2.heap.size (w2.drewN q) w4 → RPost w w4 B r (some ⟨g, 0, none⟩) cap l at_) := fun w4 hb => by
    have h4' : ROk w4 B r (some ⟨g, 0, none⟩) cap l at_ := (HR2.out.drewN q).later (S := fun _ => False) (KeptIn.ofBelow hb) (fun h => h) (fun _ _ h => h)
    have k1 := keptIn_drewN HK2.out q
    have k2 : KeptIn (fun g => g = r) (w2.drewN q) w4 := KeptIn.ofBelow hb
    exact ⟨h4', k1.trans k2 (fun _ _ h => h)⟩
  have HCv : Hid (∀ a c, (cap = at_ + 4 ∧ a = (⟨g, 0, none⟩ : Addr)) ∨ a = ⟨g, at_ + 4, none⟩ → (convert 37 9 (.slice (some a) N c)).run Tryd.prog (w2.drewN q) = .ok (.string (bstr ((l.drop (at_ + 4)).take N))) (w2.drewN q)) := fun a c ha => by
    have hn := HN.out
    have := run_text (P := Tryd.prog) (w2.drewN q) 37 9 5 Tryd.underlying37 Tryd.underlying5 Tryd.underlying9 a c ((l.drop (at_ + 4)).take N) (by
      rcases ha with ⟨hc, rfl⟩ | rfl
      · intro j u hu
        have := (List.getElem?_eq_some_iff.1 hu).1
        simp at this; omega
      · exact drop_take_row (HA2.out.drewN q) (at_ + 4) N (by omega))
    rwa [HML.out] at this
  generalize hsb : bstr ((l.drop (at_ + 4)).take N) = s at *
  have HSb : Hid (bstr ((l.drop (at_ + 4)).take N) = s) := hsb
  clear hsb
  by_cases hce : cap = at_ + 4
  · have hcv := HCv.out ⟨g, 0, none⟩ 0 (.inl ⟨hce, rfl⟩)
    subst hce
    go_wp2_with fail
    refine HPl.out.mono ?_
    rintro e w4 ⟨rfl, hb⟩
    have HP4 : Hid (RPost w w4 B r (some ⟨g, 0, none⟩) _ l at_) := HF.out w4 hb
    clear hb
    go_wp2
    go_ret2
    exact ⟨rfl, HP4.out⟩
  · have hcv := HCv.out ⟨g, at_ + 4, none⟩ (cap - (at_ + 4)) (.inr rfl)
    go_wp2_with fail
    refine HPl.out.mono ?_
    rintro e w4 ⟨rfl, hb⟩
    have HP4 : Hid (RPost w w4 B r (some ⟨g, 0, none⟩) _ l at_) := HF.out w4 hb
    clear hb
    go_wp2
    go_ret2
    exact ⟨rfl, HP4.out⟩
end Go.Proofs.YtpkobgnbjmefnabDoor
