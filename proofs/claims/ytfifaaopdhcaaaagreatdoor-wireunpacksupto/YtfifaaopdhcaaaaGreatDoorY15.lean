import Derived.Test.YtfifaaopdhcaaaaGreatDoorY5
import Derived.Test.YtfifaaopdhcaaaaGreatDoorY14
import Derived.Test.YtfifaaopdhcaaaaGreatDoorY8
import Derived.Deep.RegionLaw
namespace Go.Proofs.YtfifaaopdhcaaaaGreatDoor
open Go.RowKit
set_option linter.unusedVariables false
set_option maxRecDepth 100000
theorem run_text {P : Program} (w : World) (src dst e : TypeId) (hs : P.underlying src = some (.slice e)) (he : P.underlying e = some (.int .u8)) (hd : P.underlying dst = some .string)
    (a : Addr) (c : Nat) (m : List Nat) (hm : ∀ j u, (m.map bv)[j]? = some u → w.cell? (a.add j) = some u) :
    (convert src dst (.slice (some a) m.length c)).run P w = .ok (.string (bstr m)) w := by
  rw [run_convert_bytes_string w src dst e _ _ c hs he hd]
  have hl := run_loadCells_list (P := P) (w := w) a (m.map bv) hm
  rw [List.length_map] at hl
  have := run_bytesToString (P := P) w a m.length c (m.map fun x : Nat => (x : Int)) (by rw [hl, List.map_map]; rfl)
  rw [this, foldl_push_bytes, List.map_map]
  congr 2
  unfold bstr
  simp

theorem Tabs.later {w w' : World} (h : Tabs w) (hb : Below w.heap.size w w') : Tabs w' :=
  ⟨fun c hc => cell_later hb (h.1 c hc), fun i hi => ⟨cell_later hb (h.2 i hi).1, cell_later hb (h.2 i hi).2⟩⟩
theorem Tabs.keptIn {S : Nat → Prop} {w w' : World} (h : Tabs w) (k : KeptIn S w w') (h3 : ¬ S (Tryz.laysValid_ren.g 3)) (h4 : ¬ S (Tryz.laysValid_ren.g 4)) : Tabs w' := by
  have lt3 := World.block_lt_of_cell? _ _ (h.1 0 (by decide))
  have lt4 := World.block_lt_of_cell? _ _ (h.2 0 (by decide)).1
  have e3 := k.block _ lt3 h3
  have e4 := k.block _ lt4 h4
  exact ⟨fun c hc => (World.cell?_of_block (w := w) (a := ⟨_, c, none⟩) e3).trans (h.1 c hc), fun i hi => ⟨(World.cell?_of_block (w := w) (a := ⟨_, 2 * i, none⟩) e4).trans (h.2 i hi).1, (World.cell?_of_block (w := w) (a := ⟨_, 2 * i + 1, none⟩) e4).trans (h.2 i hi).2⟩⟩
theorem Tabs.ne {w : World} (h : Tabs w) {r : Nat} (c0 : w.cell? ⟨r, 0, none⟩ = some (.bool true)) : Tryz.laysValid_ren.g 3 ≠ r ∧ Tryz.laysValid_ren.g 4 ≠ r := by
  refine ⟨fun e => ?_, fun e => ?_⟩
  · have := h.1 0 (by decide); rw [e, c0] at this; simp at this
  · have := (h.2 0 (by decide)).1; rw [e] at this; rw [c0] at this; simp at this
theorem Tabs.reader {w w' : World} (h : Tabs w) {r : Nat} (c0 : w.cell? ⟨r, 0, none⟩ = some (.bool true)) (k : KeptIn (fun g => g = r) w w') {q : Nat} : Tabs (w'.drewN q) := by
  have hn := h.ne c0
  exact h.keptIn (S := fun g => g = r) (keptIn_drewN k q) hn.1 hn.2

set_option maxRecDepth 100000 in
set_option maxHeartbeats 2000000 in
theorem rtext_ok (B r g cap : Nat) (l : List Nat) (at_ n N most : Nat) (w : World) (h : ROk w B r (some ⟨g, 0, none⟩) cap l at_) (hT : Tabs w) (HN : Hid (l.length = n)) (HV : Hid (valB ((l.drop at_).take 4) = N))
    (h4 : at_ + 4 ≤ n) (hm : N ≤ most) (hm2 : most ≤ 9223372036854775807) (hend : at_ + 4 + N ≤ n) (hB : B ≤ w.heap.size) (HP : Hid (plainB (bstr ((l.drop (at_ + 4)).take N)).data.toList = true)) :
    Calls Tryz.prog 74 #[.pointer (some ⟨r, 0, none⟩), .int .i64 (most : Int)] w fun e w' => e = .returned (.tuple #[.string (bstr ((l.drop (at_ + 4)).take N)), .int .i64 0]) ∧ RPost w w' B r (some ⟨g, 0, none⟩) cap l (at_ + 4 + N) := by
  have HU : Hid (Calls Tryz.prog 93 #[.pointer (some ⟨r, 0, none⟩)] w fun e w' => e = .returned (.bool true) ∧ w' = w) := rusable_true r w h.c0
  have c0 := h.c0
  have c1 := h.c1
  have c2 := h.c2
  have hlen := h.len
  rw [HN.out] at c1 hlen
  have HR : Hid (ROk w B r (some ⟨g, 0, none⟩) cap l at_) := h
  have HT : Hid (Tabs w) := hT
  clear h hT
  go_enter Tryz.func74, Tryz.ntmps74
  go_wp2_with fail
  refine HU.out.mono ?_
  rintro e w1 ⟨rfl, hw⟩
  rw [hw]; clear hw
  have HA : Hid (ROk (w.alloc (.cells #[.bool true, .slice (some ⟨g, 0, none⟩) n cap, .int .i64 (at_ : Int)] 170)) B w.heap.size (some ⟨g, 0, none⟩) cap l at_) := by
    have hn := HN.out
    subst hn
    exact ⟨heap_new w _, HR.out.own.alloc _, HR.out.lt, HR.out.len, HR.out.le, hB⟩
  have HN32 : Hid (Calls Tryz.prog 67 #[.pointer (some ⟨w.heap.size, 0, none⟩)] (w.alloc (.cells #[.bool true, .slice (some ⟨g, 0, none⟩) n cap, .int .i64 (at_ : Int)] 170)) fun e w' =>
      e = .returned (.tuple #[.int .u32 (N : Int), .int .i64 0]) ∧ ROk w' B w.heap.size (some ⟨g, 0, none⟩) cap l (at_ + 4) ∧ ROk w' B r (some ⟨g, 0, none⟩) cap l at_ ∧ KeptIn (fun g => g = r) w w' ∧ w.heap.size ≤ w'.heap.size) := by
    refine (ru32_any B w.heap.size _ cap l at_ _ HA.out).mono fun e w' hh => ?_
    have hn := HN.out
    rcases hh with ⟨hs, _⟩ | ⟨hs, he, hp⟩
    · omega
    · rw [HV.out] at he
      have hlt := block_lt HR.out.blk
      have k1 : KeptIn (fun _ => False) w (w.alloc (.cells #[.bool true, .slice (some ⟨g, 0, none⟩) n cap, .int .i64 (at_ : Int)] 170)) := KeptIn.ofBelow ((Below.refl _ _).alloc (Nat.le_refl _) _)
      have k2 : KeptIn (fun _ => False) w w' := k1.trans hp.kept (fun g hg _ e => by omega)
      exact ⟨he, hp.ok, HR.out.later k2 (fun h => h) (fun _ _ h => h), k2.mono (fun _ _ h => absurd h id), k2.size⟩
  have hN32 : N < 4294967296 := by rw [← HV.out]; exact valB_bound l at_ 4 HR.out.lt
  go_wp2_with fail
  refine HN32.out.mono ?_
  rintro e w2 ⟨rfl, ha, hr, hk, hz⟩
  have HA2 : Hid (ROk w2 B w.heap.size (some ⟨g, 0, none⟩) cap l (at_ + 4)) := ha
  have HR2 : Hid (ROk w2 B r (some ⟨g, 0, none⟩) cap l at_) := hr
  have HK2 : Hid (KeptIn (fun g => g = r) w w2) := hk
  have d1 := ha.c1
  have d2 := ha.c2
  rw [HN.out] at d1
  have f2 := blk_free hr.blk 2
  have hcap := ha.cap_ge
  rw [HN.out] at hcap
  obtain ⟨hcap1, hcap2⟩ := hcap
  have HLf : Hid (Calls Tryz.prog 66 #[.pointer (some ⟨w.heap.size, 0, none⟩)] w2 fun e w' => e = .returned (.int .i64 ((n : Int) - ((at_ + 4 : Nat) : Int))) ∧ ∃ q, w' = w2.drewN q) := rleft_any B w.heap.size _ cap l (at_ + 4) n w2 ha HN
  clear ha hr hk c0 c1 c2
  have t1 : decide ((most : Int) < 0) = false := by simp
  have t2 : decide ((most : Int) < (N : Int)) = false := by simp; omega
  go_wp2_with fail
  refine HLf.out.mono ?_
  rintro e w3 ⟨rfl, q, hw⟩
  rw [hw]; clear hw
  have hNle : (N : Int) ≤ (n : Int) - ((at_ : Int) + 4) := by omega
  have HTw : Hid (Tabs (w2.drewN q)) := HT.out.reader HR.out.c0 HK2.out
  have HPl : Hid (Calls Tryz.prog 92 #[.string (bstr ((l.drop (at_ + 4)).take N))] (w2.drewN q) fun e w' => e = .returned (.bool true) ∧ Below w2.heap.size (w2.drewN q) w') := by
    have := plain_any (bstr ((l.drop (at_ + 4)).take N)) (w2.drewN q) (by rw [bstr_size, List.length_take]; omega) HTw.out
    rw [HP.out] at this; exact this
  have HML : Hid (((l.drop (at_ + 4)).take N).length = N) := by
    have := HN.out
    show ((l.drop (at_ + 4)).take N).length = N
    rw [List.length_take, List.length_drop]; omega
  have HF : Hid (∀ w4, Below w2.heap.size (w2.drewN q) w4 → ((w4.cell? ⟨r, 2, none⟩ = some (.int .i64 (at_ : Int)) ∧ w4.frozen? ⟨r, 2, none⟩ = false) ∧ RPost w (w4.setCell ⟨r, 2, none⟩ (.int .i64 ((at_ + 4 + N : Nat) : Int))) B r (some ⟨g, 0, none⟩) cap l (at_ + 4 + N))) := fun w4 hb => by
    have h4' : ROk w4 B r (some ⟨g, 0, none⟩) cap l at_ := (HR2.out.drewN q).later (S := fun _ => False) (KeptIn.ofBelow hb) (fun h => h) (fun _ _ h => h)
    have hn := HN.out
    refine ⟨⟨h4'.c2, blk_free h4'.blk 2⟩, (h4'.move (at_ + 4 + N) (by omega)).1, ?_⟩
    have k1 := keptIn_drewN HK2.out q
    have k2 : KeptIn (fun g => g = r) (w2.drewN q) w4 := KeptIn.ofBelow hb
    exact (k1.trans k2 (fun _ _ h => h)).trans (h4'.move (at_ + 4 + N) (by omega)).2 (fun _ _ h => h)
  have HCv : Hid (∀ a c, (cap = at_ + 4 ∧ a = (⟨g, 0, none⟩ : Addr)) ∨ a = ⟨g, at_ + 4, none⟩ → (convert 22 9 (.slice (some a) N c)).run Tryz.prog (w2.drewN q) = .ok (.string (bstr ((l.drop (at_ + 4)).take N))) (w2.drewN q)) := fun a c ha => by
    have hn := HN.out
    have := run_text (P := Tryz.prog) (w2.drewN q) 22 9 5 Tryz.underlying22 Tryz.underlying5 Tryz.underlying9 a c ((l.drop (at_ + 4)).take N) (by
      rcases ha with ⟨hc, rfl⟩ | rfl
      · intro j u hu
        have := (List.getElem?_eq_some_iff.1 hu).1
        simp at this; omega
      · exact drop_take_row (HA2.out.drewN q) (at_ + 4) N (by omega))
    rwa [HML.out] at this
  generalize hsb : bstr ((l.drop (at_ + 4)).take N) = s at *
  have HSb : Hid (bstr ((l.drop (at_ + 4)).take N) = s) := hsb
  clear hsb
  by_cases hce : cap = at_ + 4
  · have hcv := HCv.out ⟨g, 0, none⟩ 0 (.inl ⟨hce, rfl⟩)
    subst hce
    go_wp2_with fail
    refine HPl.out.mono ?_
    rintro e w4 ⟨rfl, hb⟩
    obtain ⟨⟨c4, f4⟩, hp⟩ := HF.out w4 hb
    have HP4 : Hid _ := hp
    clear hp hb
    go_wp2
    go_ret2
    exact ⟨by rw [HSb.out]; rfl, HP4.out⟩
  · have hcv := HCv.out ⟨g, at_ + 4, none⟩ (cap - (at_ + 4)) (.inr rfl)
    go_wp2_with fail
    refine HPl.out.mono ?_
    rintro e w4 ⟨rfl, hb⟩
    obtain ⟨⟨c4, f4⟩, hp⟩ := HF.out w4 hb
    have HP4 : Hid _ := hp
    clear hp hb
    go_wp2
    go_ret2
    exact ⟨by rw [HSb.out]; rfl, HP4.out⟩
set_option maxHeartbeats 2000000 in
theorem rtext_none (B r : Nat) (ao : Option Addr) (cap : Nat) (l : List Nat) (at_ n : Nat) (most : Int) (w : World) (h : ROk w B r ao cap l at_) (HN : Hid (l.length = n)) (h4 : n - at_ < 4) (hB : B ≤ w.heap.size) :
    Calls Tryz.prog 74 #[.pointer (some ⟨r, 0, none⟩), .int .i64 most] w fun e w' => e = .returned (.tuple #[.string ⟨#[]⟩, .int .i64 10]) ∧ RPost w w' B r ao cap l at_ := by
  have HU : Hid (Calls Tryz.prog 93 #[.pointer (some ⟨r, 0, none⟩)] w fun e w' => e = .returned (.bool true) ∧ w' = w) := rusable_true r w h.c0
  have c0 := h.c0
  have c1 := h.c1
  have c2 := h.c2
  rw [HN.out] at c1
  have HR : Hid (ROk w B r ao cap l at_) := h
  clear h
  go_enter Tryz.func74, Tryz.ntmps74
  go_wp2_with fail
  refine HU.out.mono ?_
  rintro e w1 ⟨rfl, hw⟩
  rw [hw]; clear hw
  have HA : Hid (ROk (w.alloc (.cells #[.bool true, .slice ao n cap, .int .i64 (at_ : Int)] 170)) B w.heap.size ao cap l at_) := by
    have hn := HN.out
    subst hn
    exact ⟨heap_new w _, HR.out.own.alloc _, HR.out.lt, HR.out.len, HR.out.le, hB⟩
  have HN32 : Hid (Calls Tryz.prog 67 #[.pointer (some ⟨w.heap.size, 0, none⟩)] (w.alloc (.cells #[.bool true, .slice ao n cap, .int .i64 (at_ : Int)] 170)) fun e w' =>
      e = .returned (.tuple #[.int .u32 0, .int .i64 10]) ∧ RPost w w' B r ao cap l at_) := by
    refine (ru32_any B w.heap.size _ cap l at_ _ HA.out).mono fun e w' hh => ?_
    have hn := HN.out
    rcases hh with ⟨hs, he, hp⟩ | ⟨hs, _⟩
    · have hlt := block_lt HR.out.blk
      have k1 : KeptIn (fun _ => False) w (w.alloc (.cells #[.bool true, .slice ao n cap, .int .i64 (at_ : Int)] 170)) := KeptIn.ofBelow ((Below.refl _ _).alloc (Nat.le_refl _) _)
      have k2 : KeptIn (fun _ => False) w w' := k1.trans hp.kept (fun g hg _ e => by omega)
      exact ⟨he, HR.out.later k2 (fun h => h) (fun _ _ h => h), k2.mono (fun _ _ h => absurd h id)⟩
    · omega
  go_wp2_with fail
  refine HN32.out.mono ?_
  rintro e w2 ⟨rfl, hp⟩
  have HP : Hid (RPost w w2 B r ao cap l at_) := hp
  clear hp
  go_wp2
  go_ret2
  exact ⟨rfl, HP.out⟩
set_option maxHeartbeats 2000000 in
theorem rtext_big (B r g cap : Nat) (l : List Nat) (at_ n N : Nat) (most : Nat) (w : World) (h : ROk w B r (some ⟨g, 0, none⟩) cap l at_) (HN : Hid (l.length = n)) (HV : Hid (valB ((l.drop at_).take 4) = N)) (h4 : at_ + 4 ≤ n) (hB : B ≤ w.heap.size) (hm : most < N) (hm2 : most ≤ 9223372036854775807) :
    Calls Tryz.prog 74 #[.pointer (some ⟨r, 0, none⟩), .int .i64 (most : Int)] w fun e w' => e = .returned (.tuple #[.string ⟨#[]⟩, .int .i64 12]) ∧ RPost w w' B r (some ⟨g, 0, none⟩) cap l at_ := by
  have HU : Hid (Calls Tryz.prog 93 #[.pointer (some ⟨r, 0, none⟩)] w fun e w' => e = .returned (.bool true) ∧ w' = w) := rusable_true r w h.c0
  have c0 := h.c0
  have c1 := h.c1
  have c2 := h.c2
  have hlen := h.len
  rw [HN.out] at c1 hlen
  have HR : Hid (ROk w B r (some ⟨g, 0, none⟩) cap l at_) := h
  clear h
  go_enter Tryz.func74, Tryz.ntmps74
  go_wp2_with fail
  refine HU.out.mono ?_
  rintro e w1 ⟨rfl, hw⟩
  rw [hw]; clear hw
  have HA : Hid (ROk (w.alloc (.cells #[.bool true, .slice (some ⟨g, 0, none⟩) n cap, .int .i64 (at_ : Int)] 170)) B w.heap.size (some ⟨g, 0, none⟩) cap l at_) := by
    have hn := HN.out
    subst hn
    exact ⟨heap_new w _, HR.out.own.alloc _, HR.out.lt, HR.out.len, HR.out.le, hB⟩
  have HN32 : Hid (Calls Tryz.prog 67 #[.pointer (some ⟨w.heap.size, 0, none⟩)] (w.alloc (.cells #[.bool true, .slice (some ⟨g, 0, none⟩) n cap, .int .i64 (at_ : Int)] 170)) fun e w' =>
      e = .returned (.tuple #[.int .u32 (N : Int), .int .i64 0]) ∧ ROk w' B w.heap.size (some ⟨g, 0, none⟩) cap l (at_ + 4) ∧ ROk w' B r (some ⟨g, 0, none⟩) cap l at_ ∧ KeptIn (fun g => g = r) w w' ∧ w.heap.size ≤ w'.heap.size) := by
    refine (ru32_any B w.heap.size _ cap l at_ _ HA.out).mono fun e w' hh => ?_
    have hn := HN.out
    rcases hh with ⟨hs, _⟩ | ⟨hs, he, hp⟩
    · omega
    · rw [HV.out] at he
      have hlt := block_lt HR.out.blk
      have k1 : KeptIn (fun _ => False) w (w.alloc (.cells #[.bool true, .slice (some ⟨g, 0, none⟩) n cap, .int .i64 (at_ : Int)] 170)) := KeptIn.ofBelow ((Below.refl _ _).alloc (Nat.le_refl _) _)
      have k2 : KeptIn (fun _ => False) w w' := k1.trans hp.kept (fun g hg _ e => by omega)
      exact ⟨he, hp.ok, HR.out.later k2 (fun h => h) (fun _ _ h => h), k2.mono (fun _ _ h => absurd h id), k2.size⟩
  have hN32 : N < 4294967296 := by rw [← HV.out]; exact valB_bound l at_ 4 HR.out.lt
  go_wp2_with fail
  refine HN32.out.mono ?_
  rintro e w2 ⟨rfl, ha, hr, hk, hz⟩
  have HA2 : Hid (ROk w2 B w.heap.size (some ⟨g, 0, none⟩) cap l (at_ + 4)) := ha
  have HR2 : Hid (ROk w2 B r (some ⟨g, 0, none⟩) cap l at_) := hr
  have HK2 : Hid (KeptIn (fun g => g = r) w w2) := hk
  have d1 := ha.c1
  have d2 := ha.c2
  rw [HN.out] at d1
  have f2 := blk_free hr.blk 2
  have hcap := ha.cap_ge
  rw [HN.out] at hcap
  obtain ⟨hcap1, hcap2⟩ := hcap
  have HLf : Hid (Calls Tryz.prog 66 #[.pointer (some ⟨w.heap.size, 0, none⟩)] w2 fun e w' => e = .returned (.int .i64 ((n : Int) - ((at_ + 4 : Nat) : Int))) ∧ ∃ q, w' = w2.drewN q) := rleft_any B w.heap.size _ cap l (at_ + 4) n w2 ha HN
  clear ha hr hk c0 c1 c2
  have HRP : Hid (∀ q, RPost w (w2.drewN q) B r (some ⟨g, 0, none⟩) cap l at_) := fun q => ⟨HR2.out.drewN q, keptIn_drewN HK2.out q⟩
  have HRP0 : Hid (RPost w w2 B r (some ⟨g, 0, none⟩) cap l at_) := ⟨HR2.out, HK2.out⟩
  have t1 : decide ((most : Int) < 0) = false := by simp
  have t2 : decide ((most : Int) < (N : Int)) = true := by simp; omega
  go_wp2
  go_ret2
  exact ⟨rfl, HRP0.out⟩
set_option maxHeartbeats 2000000 in
theorem rtext_past (B r g cap : Nat) (l : List Nat) (at_ n N : Nat) (most : Nat) (w : World) (h : ROk w B r (some ⟨g, 0, none⟩) cap l at_) (HN : Hid (l.length = n)) (HV : Hid (valB ((l.drop at_).take 4) = N)) (h4 : at_ + 4 ≤ n) (hB : B ≤ w.heap.size) (hm : N ≤ most) (hm2 : most ≤ 9223372036854775807) (hend : n < at_ + 4 + N) :
    Calls Tryz.prog 74 #[.pointer (some ⟨r, 0, none⟩), .int .i64 (most : Int)] w fun e w' => e = .returned (.tuple #[.string ⟨#[]⟩, .int .i64 10]) ∧ RPost w w' B r (some ⟨g, 0, none⟩) cap l at_ := by
  have HU : Hid (Calls Tryz.prog 93 #[.pointer (some ⟨r, 0, none⟩)] w fun e w' => e = .returned (.bool true) ∧ w' = w) := rusable_true r w h.c0
  have c0 := h.c0
  have c1 := h.c1
  have c2 := h.c2
  have hlen := h.len
  rw [HN.out] at c1 hlen
  have HR : Hid (ROk w B r (some ⟨g, 0, none⟩) cap l at_) := h
  clear h
  go_enter Tryz.func74, Tryz.ntmps74
  go_wp2_with fail
  refine HU.out.mono ?_
  rintro e w1 ⟨rfl, hw⟩
  rw [hw]; clear hw
  have HA : Hid (ROk (w.alloc (.cells #[.bool true, .slice (some ⟨g, 0, none⟩) n cap, .int .i64 (at_ : Int)] 170)) B w.heap.size (some ⟨g, 0, none⟩) cap l at_) := by
    have hn := HN.out
    subst hn
    exact ⟨heap_new w _, HR.out.own.alloc _, HR.out.lt, HR.out.len, HR.out.le, hB⟩
  have HN32 : Hid (Calls Tryz.prog 67 #[.pointer (some ⟨w.heap.size, 0, none⟩)] (w.alloc (.cells #[.bool true, .slice (some ⟨g, 0, none⟩) n cap, .int .i64 (at_ : Int)] 170)) fun e w' =>
      e = .returned (.tuple #[.int .u32 (N : Int), .int .i64 0]) ∧ ROk w' B w.heap.size (some ⟨g, 0, none⟩) cap l (at_ + 4) ∧ ROk w' B r (some ⟨g, 0, none⟩) cap l at_ ∧ KeptIn (fun g => g = r) w w' ∧ w.heap.size ≤ w'.heap.size) := by
    refine (ru32_any B w.heap.size _ cap l at_ _ HA.out).mono fun e w' hh => ?_
    have hn := HN.out
    rcases hh with ⟨hs, _⟩ | ⟨hs, he, hp⟩
    · omega
    · rw [HV.out] at he
      have hlt := block_lt HR.out.blk
      have k1 : KeptIn (fun _ => False) w (w.alloc (.cells #[.bool true, .slice (some ⟨g, 0, none⟩) n cap, .int .i64 (at_ : Int)] 170)) := KeptIn.ofBelow ((Below.refl _ _).alloc (Nat.le_refl _) _)
      have k2 : KeptIn (fun _ => False) w w' := k1.trans hp.kept (fun g hg _ e => by omega)
      exact ⟨he, hp.ok, HR.out.later k2 (fun h => h) (fun _ _ h => h), k2.mono (fun _ _ h => absurd h id), k2.size⟩
  have hN32 : N < 4294967296 := by rw [← HV.out]; exact valB_bound l at_ 4 HR.out.lt
  go_wp2_with fail
  refine HN32.out.mono ?_
  rintro e w2 ⟨rfl, ha, hr, hk, hz⟩
  have HA2 : Hid (ROk w2 B w.heap.size (some ⟨g, 0, none⟩) cap l (at_ + 4)) := ha
  have HR2 : Hid (ROk w2 B r (some ⟨g, 0, none⟩) cap l at_) := hr
  have HK2 : Hid (KeptIn (fun g => g = r) w w2) := hk
  have d1 := ha.c1
  have d2 := ha.c2
  rw [HN.out] at d1
  have f2 := blk_free hr.blk 2
  have hcap := ha.cap_ge
  rw [HN.out] at hcap
  obtain ⟨hcap1, hcap2⟩ := hcap
  have HLf : Hid (Calls Tryz.prog 66 #[.pointer (some ⟨w.heap.size, 0, none⟩)] w2 fun e w' => e = .returned (.int .i64 ((n : Int) - ((at_ + 4 : Nat) : Int))) ∧ ∃ q, w' = w2.drewN q) := rleft_any B w.heap.size _ cap l (at_ + 4) n w2 ha HN
  clear ha hr hk c0 c1 c2
  have HRP : Hid (∀ q, RPost w (w2.drewN q) B r (some ⟨g, 0, none⟩) cap l at_) := fun q => ⟨HR2.out.drewN q, keptIn_drewN HK2.out q⟩
  have HRP0 : Hid (RPost w w2 B r (some ⟨g, 0, none⟩) cap l at_) := ⟨HR2.out, HK2.out⟩
  have t1 : decide ((most : Int) < 0) = false := by simp
  have t2 : decide ((most : Int) < (N : Int)) = false := by simp; omega
  go_wp2_with fail
  refine HLf.out.mono ?_
  rintro e w3 ⟨rfl, q, hw⟩
  rw [hw]; clear hw
  have HRq : Hid (RPost w (w2.drewN q) B r (some ⟨g, 0, none⟩) cap l at_) := HRP.out q
  have hNle : ((n : Int) - ((at_ : Int) + 4)) < (N : Int) := by omega
  go_wp2
  go_ret2
  exact ⟨rfl, HRq.out⟩
set_option maxHeartbeats 2000000 in
theorem rtext_bad (B r g cap : Nat) (l : List Nat) (at_ n N : Nat) (most : Nat) (w : World) (h : ROk w B r (some ⟨g, 0, none⟩) cap l at_) (HN : Hid (l.length = n)) (HV : Hid (valB ((l.drop at_).take 4) = N)) (h4 : at_ + 4 ≤ n) (hB : B ≤ w.heap.size) (hT : Tabs w) (hm : N ≤ most) (hm2 : most ≤ 9223372036854775807) (hend : at_ + 4 + N ≤ n) (HP : Hid (plainB (bstr ((l.drop (at_ + 4)).take N)).data.toList = false)) :
    Calls Tryz.prog 74 #[.pointer (some ⟨r, 0, none⟩), .int .i64 (most : Int)] w fun e w' => e = .returned (.tuple #[.string ⟨#[]⟩, .int .i64 13]) ∧ RPost w w' B r (some ⟨g, 0, none⟩) cap l at_ := by
  have HU : Hid (Calls Tryz.prog 93 #[.pointer (some ⟨r, 0, none⟩)] w fun e w' => e = .returned (.bool true) ∧ w' = w) := rusable_true r w h.c0
  have c0 := h.c0
  have c1 := h.c1
  have c2 := h.c2
  have hlen := h.len
  rw [HN.out] at c1 hlen
  have HR : Hid (ROk w B r (some ⟨g, 0, none⟩) cap l at_) := h
  have HT : Hid (Tabs w) := hT
  clear h hT
  go_enter Tryz.func74, Tryz.ntmps74
  go_wp2_with fail
  refine HU.out.mono ?_
  rintro e w1 ⟨rfl, hw⟩
  rw [hw]; clear hw
  have HA : Hid (ROk (w.alloc (.cells #[.bool true, .slice (some ⟨g, 0, none⟩) n cap, .int .i64 (at_ : Int)] 170)) B w.heap.size (some ⟨g, 0, none⟩) cap l at_) := by
    have hn := HN.out
    subst hn
    exact ⟨heap_new w _, HR.out.own.alloc _, HR.out.lt, HR.out.len, HR.out.le, hB⟩
  have HN32 : Hid (Calls Tryz.prog 67 #[.pointer (some ⟨w.heap.size, 0, none⟩)] (w.alloc (.cells #[.bool true, .slice (some ⟨g, 0, none⟩) n cap, .int .i64 (at_ : Int)] 170)) fun e w' =>
      e = .returned (.tuple #[.int .u32 (N : Int), .int .i64 0]) ∧ ROk w' B w.heap.size (some ⟨g, 0, none⟩) cap l (at_ + 4) ∧ ROk w' B r (some ⟨g, 0, none⟩) cap l at_ ∧ KeptIn (fun g => g = r) w w' ∧ w.heap.size ≤ w'.heap.size) := by
    refine (ru32_any B w.heap.size _ cap l at_ _ HA.out).mono fun e w' hh => ?_
    have hn := HN.out
    rcases hh with ⟨hs, _⟩ | ⟨hs, he, hp⟩
    · omega
    · rw [HV.out] at he
      have hlt := block_lt HR.out.blk
      have k1 : KeptIn (fun _ => False) w (w.alloc (.cells #[.bool true, .slice (some ⟨g, 0, none⟩) n cap, .int .i64 (at_ : Int)] 170)) := KeptIn.ofBelow ((Below.refl _ _).alloc (Nat.le_refl _) _)
      have k2 : KeptIn (fun _ => False) w w' := k1.trans hp.kept (fun g hg _ e => by omega)
      exact ⟨he, hp.ok, HR.out.later k2 (fun h => h) (fun _ _ h => h), k2.mono (fun _ _ h => absurd h id), k2.size⟩
  have hN32 : N < 4294967296 := by rw [← HV.out]; exact valB_bound l at_ 4 HR.out.lt
  go_wp2_with fail
  refine HN32.out.mono ?_
  rintro e w2 ⟨rfl, ha, hr, hk, hz⟩
  have HA2 : Hid (ROk w2 B w.heap.size (some ⟨g, 0, none⟩) cap l (at_ + 4)) := ha
  have HR2 : Hid (ROk w2 B r (some ⟨g, 0, none⟩) cap l at_) := hr
  have HK2 : Hid (KeptIn (fun g => g = r) w w2) := hk
  have d1 := ha.c1
  have d2 := ha.c2
  rw [HN.out] at d1
  have f2 := blk_free hr.blk 2
  have hcap := ha.cap_ge
  rw [HN.out] at hcap
  obtain ⟨hcap1, hcap2⟩ := hcap
  have HLf : Hid (Calls Tryz.prog 66 #[.pointer (some ⟨w.heap.size, 0, none⟩)] w2 fun e w' => e = .returned (.int .i64 ((n : Int) - ((at_ + 4 : Nat) : Int))) ∧ ∃ q, w' = w2.drewN q) := rleft_any B w.heap.size _ cap l (at_ + 4) n w2 ha HN
  clear ha hr hk c0 c1 c2
  have t1 : decide ((most : Int) < 0) = false := by simp
  have t2 : decide ((most : Int) < (N : Int)) = false := by simp; omega
  go_wp2_with fail
  refine HLf.out.mono ?_
  rintro e w3 ⟨rfl, q, hw⟩
  rw [hw]; clear hw
  have hNle : (N : Int) ≤ (n : Int) - ((at_ : Int) + 4) := by omega
  have HTw : Hid (Tabs (w2.drewN q)) := HT.out.reader HR.out.c0 HK2.out
  have HPl : Hid (Calls Tryz.prog 92 #[.string (bstr ((l.drop (at_ + 4)).take N))] (w2.drewN q) fun e w' => e = .returned (.bool false) ∧ Below w2.heap.size (w2.drewN q) w') := by
    have := plain_any (bstr ((l.drop (at_ + 4)).take N)) (w2.drewN q) (by rw [bstr_size, List.length_take]; omega) HTw.out
    rw [HP.out] at this; exact this
  have HML : Hid (((l.drop (at_ + 4)).take N).length = N) := by
    have := HN.out
    show ((l.drop (at_ + 4)).take N).length = N
    rw [List.length_take, List.length_drop]; omega
  have HF : Hid (∀ w4, Below w2.heap.size (w2.drewN q) w4 → RPost w w4 B r (some ⟨g, 0, none⟩) cap l at_) := fun w4 hb => by
    have h4' : ROk w4 B r (some ⟨g, 0, none⟩) cap l at_ := (HR2.out.drewN q).later (S := fun _ => False) (KeptIn.ofBelow hb) (fun h => h) (fun _ _ h => h)
    have k1 := keptIn_drewN HK2.out q
    have k2 : KeptIn (fun g => g = r) (w2.drewN q) w4 := KeptIn.ofBelow hb
    exact ⟨h4', k1.trans k2 (fun _ _ h => h)⟩
  have HCv : Hid (∀ a c, (cap = at_ + 4 ∧ a = (⟨g, 0, none⟩ : Addr)) ∨ a = ⟨g, at_ + 4, none⟩ → (convert 22 9 (.slice (some a) N c)).run Tryz.prog (w2.drewN q) = .ok (.string (bstr ((l.drop (at_ + 4)).take N))) (w2.drewN q)) := fun a c ha => by
    have hn := HN.out
    have := run_text (P := Tryz.prog) (w2.drewN q) 22 9 5 Tryz.underlying22 Tryz.underlying5 Tryz.underlying9 a c ((l.drop (at_ + 4)).take N) (by
      rcases ha with ⟨hc, rfl⟩ | rfl
      · intro j u hu
        have := (List.getElem?_eq_some_iff.1 hu).1
        simp at this; omega
      · exact drop_take_row (HA2.out.drewN q) (at_ + 4) N (by omega))
    rwa [HML.out] at this
  generalize hsb : bstr ((l.drop (at_ + 4)).take N) = s at *
  have HSb : Hid (bstr ((l.drop (at_ + 4)).take N) = s) := hsb
  clear hsb
  by_cases hce : cap = at_ + 4
  · have hcv := HCv.out ⟨g, 0, none⟩ 0 (.inl ⟨hce, rfl⟩)
    subst hce
    go_wp2_with fail
    refine HPl.out.mono ?_
    rintro e w4 ⟨rfl, hb⟩
    have HP4 : Hid (RPost w w4 B r (some ⟨g, 0, none⟩) _ l at_) := HF.out w4 hb
    clear hb
    go_wp2
    go_ret2
    exact ⟨rfl, HP4.out⟩
  · have hcv := HCv.out ⟨g, at_ + 4, none⟩ (cap - (at_ + 4)) (.inr rfl)
    go_wp2_with fail
    refine HPl.out.mono ?_
    rintro e w4 ⟨rfl, hb⟩
    have HP4 : Hid (RPost w w4 B r (some ⟨g, 0, none⟩) _ l at_) := HF.out w4 hb
    clear hb
    go_wp2
    go_ret2
    exact ⟨rfl, HP4.out⟩
end Go.Proofs.YtfifaaopdhcaaaaGreatDoor

namespace Go.Proofs.YtfifaaopdhcaaaaGreatDoor
open Go.RowKit
set_option linter.unusedVariables false
set_option linter.unusedSimpArgs false
set_option maxRecDepth 100000

abbrev TFd : TypeId := 147
/-- fields in memory, and the bytes that they are -/
def fcells (F : List (Nat × Nat)) : List Value := F.flatMap fun x => [.int .u64 (x.1 : Int), .int .i64 (x.2 : Int)]
def layF (F : List (Nat × Nat)) : List Nat := F.flatMap fun x => bigTo x.1 x.2 x.2
theorem layF_snoc (F : List (Nat × Nat)) (x : Nat × Nat) : layF (F ++ [x]) = layF F ++ bigTo x.1 x.2 x.2 := by simp [layF]
theorem layF_lt (F : List (Nat × Nat)) : ∀ x ∈ layF F, x < 256 := by
  intro x hx
  obtain ⟨y, _, hy⟩ := List.mem_flatMap.1 hx
  exact bigTo_lt _ _ _ x hy
theorem layF_len (F : List (Nat × Nat)) (h : ∀ x ∈ F, x.2 ≤ 8) : (layF F).length ≤ 8 * F.length := by
  induction F with
  | nil => simp [layF]
  | cons y F ih =>
    have h1 := h y (.head _)
    have h2 := ih (fun x hx => h x (.tail _ hx))
    simp only [layF, List.flatMap_cons, List.length_append, bigTo_length, List.length_cons] at h2 ⊢
    omega
theorem fcells_at : ∀ (F : List (Nat × Nat)) (k : Nat) (x : Nat × Nat), F[k]? = some x → (fcells F)[k * 2]? = some (.int .u64 (x.1 : Int)) ∧ (fcells F)[k * 2 + 1]? = some (.int .i64 (x.2 : Int))
  | [], k, x, h => by simp at h
  | y :: F, 0, x, h => by simp at h; subst h; exact ⟨rfl, rfl⟩
  | y :: F, k + 1, x, h => by
    have := fcells_at F k x (by simpa using h)
    rw [show (k + 1) * 2 = k * 2 + 1 + 1 by omega]
    exact this
theorem own_news {w : World} {B g n : Nat} {l : List Nat} (h : w.ownsRow B 5 1 (.slice (some ⟨g, 0, none⟩) n n) n (l.map bv)) : ∀ j u, (l.map bv)[j]? = some u → w.cell? ((⟨g, 0, none⟩ : Addr).add j) = some u := by
  intro j u hu
  have hj : j < n := by
    have h1 := (List.getElem?_eq_some_iff.1 hu).1
    have := h.1
    simp at this h1; omega
  rw [add_plain, Nat.zero_add, h.cellAt j (by omega), hu]
set_option maxHeartbeats 8000000 in
theorem lay_ok (F : List (Nat × Nat)) (g k0 : Nat) (ao : Option Addr) (cap : Nat) (d : List Nat) (w : World) (hF : w.heap[g]? = some (.cells (fcells F).toArray TFd (0, 0))) (hk0 : F.length = k0) (h8 : ∀ x ∈ F, x.1 < 18446744073709551616 ∧ 1 ≤ x.2 ∧ x.2 ≤ 8) (hk : k0 ≤ 10) (hd : BRow w ao cap d) (hn : d.length ≤ 1099511627776) :
    Calls Tryz.prog 72 #[.slice (some ⟨g, 0, none⟩) k0 k0, .slice ao d.length cap] w fun e w' => ∃ ao' cap', e = .returned (.slice ao' (layF F ++ d).length cap') ∧ Row w w' ao' cap' (layF F ++ d) := by
  obtain ⟨i0, hi, hz0, hz1, hz2⟩ := info_parts Tryz.info5
  have HD : Hid (BRow w ao cap d) := hd
  have HF : Hid (w.heap[g]? = some (.cells (fcells F).toArray TFd (0, 0))) := hF
  have H8 : Hid (∀ x ∈ F, x.1 < 18446744073709551616 ∧ 1 ≤ x.2 ∧ x.2 ≤ 8) := h8
  have HK : Hid (F.length = k0) := hk0
  have HLn : Hid (∀ k, (layF (F.take k)).length ≤ 80) := fun k => by
    have := layF_len (F.take k) (fun x hx => (H8.out x (List.mem_of_mem_take hx)).2.2)
    rw [List.length_take] at this
    omega
  clear hd hF h8 hk0
  go_enter Tryz.func72, Tryz.ntmps72
  go_wp2
  go_loopw [5, 6] (fun v i wr => ∃ k n ao' cap' : _, i = .int .i64 (k : Nat) ∧ k ≤ k0 ∧ v = .slice ao' n cap' ∧ Hid ((layF (F.take k)).length = n) ∧ Hid (wr.ownsRow w.heap.size 5 1 (.slice ao' n cap') n ((layF (F.take k)).map bv)) ∧ Hid (Below w.heap.size w wr)) (fun _ i _ => k0 - (intOf i).toNat)
  case atStart => exact ⟨0, 0, none, 0, rfl, Nat.zero_le _, rfl, by simp [layF, Hid], World.ownsRow_nil _ _ _ _, Below.refl _ _⟩
  case round =>
    obtain ⟨k, n, ao', cap', rfl, hkk, rfl, HNn, HO, HB⟩ := hrel
    have hn80 : n ≤ 80 := by rw [← HNn.out]; exact HLn.out k
    by_cases hlt : k < k0
    · obtain ⟨⟨x, m⟩, hx⟩ : ∃ x, F[k]? = some x := ⟨_, List.getElem?_eq_getElem (by rw [HK.out]; exact hlt)⟩
      obtain ⟨hx64, hm1, hm8⟩ := H8.out _ (List.mem_of_getElem? hx)
      simp only at hx64 hm1 hm8
      have hblk : wr.heap[g]? = some (.cells (fcells F).toArray TFd (0, 0)) := (HB.out.block g (block_lt HF.out)).trans HF.out
      have z0 : wr.cell? ⟨g, k * 2, none⟩ = some (.int .u64 (x : Int)) := by rw [blk_at hblk, List.getElem?_toArray]; exact (fcells_at F k _ hx).1
      have z1 : wr.cell? ⟨g, k * 2 + 1, none⟩ = some (.int .i64 (m : Int)) := by rw [blk_at hblk, List.getElem?_toArray]; exact (fcells_at F k _ hx).2
      have HT : Hid (layF (F.take (k + 1)) = layF (F.take k) ++ bigTo x m m) := by show _ = _; rw [List.take_add_one, hx]; exact layF_snoc _ _
      have HBig : Hid (Calls Tryz.prog 94 #[.int .u64 (x : Int), .int .i64 (m : Int)] wr.drew fun e w' => e = .returned (.slice (some ⟨wr.heap.size, 0, none⟩) m m) ∧ w'.ownsRow wr.heap.size 5 1 (.slice (some ⟨wr.heap.size, 0, none⟩) m m) m ((bigTo x m m).map bv) ∧ Below wr.heap.size wr.drew w') := rbig_any x m wr.drew hx64 hm8
      have hkz : (k : Int) < (k0 : Int) := by omega
      have HS : Hid (w.heap.size ≤ wr.heap.size) := HB.out.size
      clear hx hblk
      go_wp2
      go_region_law (first | (go_simp; go_at_call 94; refine HBig.out.mono ?_; rintro r W4 ⟨rfl, ho4, hb4⟩; have HO4 : Hid (W4.ownsRow wr.heap.size 5 1 (.slice (some ⟨wr.heap.size, 0, none⟩) m m) m ((bigTo x m m).map bv)) := ho4; have HB4 : Hid (Below wr.heap.size wr.drew W4) := hb4; clear ho4 hb4; dsimp only) | (refine step_append_two rfl (.tmp 13) (.tmp 24) 22 rfl w.heap.size 5 i0 (.int .u8 0) 1 Tryz.underlying22 hi hz0 hz1 hz2 rfl (.slice ao' n cap') n ((layF (F.take k)).map bv) (by first | (simp [Act.eval]; done) | simp [Act.eval, Act.put]) (owns_same HO.out fun g' hg' => HB4.out.block g' (owns_lt HO.out g' hg').1) ⟨wr.heap.size, 0, none⟩ m m ((bigTo x m m).map bv) (by first | (simp [Act.eval]; done) | simp [Act.eval, Act.put]) (by simp [bigTo_length]) (own_news HO4.out) (bv_one _) (by unfold maxLen; omega) (by omega) (Nat.le_trans HS.out HB4.out.size) ?_; intro ao5 cap5 W5 ho5 hg5 hf5))
      all_goals
        have hb5 : Below w.heap.size w W5 := (HB.out.trans ((show Below wr.heap.size wr W4 from ⟨HB4.out.os, HB4.out.tape, HB4.out.output, HB4.out.size, HB4.out.block⟩).mono HS.out)).grown hg5 (Nat.le_trans HS.out HB4.out.size) (fun g' hg' => (owns_lt HO.out g' hg').2)
        have HO5 : Hid (W5.ownsRow w.heap.size 5 1 (.slice ao5 (n + m) cap5) (n + m) ((layF (F.take (k + 1))).map bv)) := by rw [HT.out, List.map_append]; exact ho5
        have HB5 : Hid (Below w.heap.size w W5) := hb5
        have HN5 : Hid ((layF (F.take (k + 1))).length = n + m) := by show _ = _; rw [HT.out, List.length_append, bigTo_length, HNn.out]
        clear hb5 ho5 hg5 hf5 HO4 HB4
        go_wp2
        go_roundw
        case rel => exact ⟨k + 1, n + m, ao5, cap5, by go_num, by omega, rfl, HN5, HO5, HB5⟩
        case measure => simp [intOf]; omega
    · obtain rfl : k = k0 := by omega
      have HE : Hid (F.take k = F) := by show _ = _; rw [← HK.out]; exact List.take_length
      go_wp2_with (at_builtin; refine wpList_append_two _ rfl (.tmp 26) (.tmp 27) 22 rfl w.heap.size 5 i0 (.int .u8 0) 1 Tryz.underlying22 hi hz0 hz1 hz2 rfl (.slice ao' n cap') n ((layF (F.take k)).map bv) rfl HO.out ao d.length cap (d.map bv) rfl (HD.out.later HB.out).nil' (by simp) (HD.out.later HB.out).news (bv_one d) (by unfold maxLen; omega) (by omega) HB.out.size ?_)
      intro v' w1 ho hg hf
      have hb5 : Below w.heap.size w w1 := HB.out.grown hg HB.out.size (fun g' hg' => (owns_lt HO.out g' hg').2)
      obtain ⟨ao5, cap5, rfl⟩ := owns_form ho
      have HO5 : Hid (w1.ownsRow w.heap.size 5 1 (.slice ao5 (n + d.length) cap5) (n + d.length) ((layF F ++ d).map bv)) := by have := ho; rw [HE.out] at this; rw [List.map_append]; exact this
      have HB5 : Hid (Below w.heap.size w w1) := hb5
      have HN5 : Hid ((layF F ++ d).length = n + d.length) := by show _ = _; rw [List.length_append, ← HNn.out, HE.out]
      clear hb5 ho hg hf
      go_wp2
      go_ret
      refine ⟨ao5, cap5, by rw [HN5.out]; rfl, ?_, ?_, HB5.out⟩
      · rw [HN5.out]; exact HO5.out
      · intro x hx
        rcases List.mem_append.1 hx with hx | hx
        · exact layF_lt F x hx
        · exact HD.out.lt x hx
end Go.Proofs.YtfifaaopdhcaaaaGreatDoor
