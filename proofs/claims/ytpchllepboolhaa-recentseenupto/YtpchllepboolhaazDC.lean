import Derived.Test.YtpchllepboolhaazDB
namespace Go.Proofs.Ytpchllepboolhaa.D
open Go.RowKit Go.Proofs.Ytpchllepboolhaa.I
attribute [local go_sem] Oper.semAt_some
attribute [local go_sem ↓] Go.wp_at_zero Go.wp_at_succ
set_option linter.unusedVariables false
set_option linter.unusedSimpArgs false
set_option maxRecDepth 100000

theorem add_unmade {w : World} {bd : Nat} {v : Value} {A : List It} (h : RD w bd false v A) (k : Int) :
    Calls Try.prog 16 #[.pointer (some ⟨bd, 0, none⟩), .int .i64 k] w fun r w' => r = .returned (.bool false) ∧ w' = w := by
  have hc0 := h.c0
  go_enter Try.func16, Try.ntmps16
  go_wp2
  go_ret
  exact ⟨rfl, rfl⟩
theorem add_old {w : World} {bd : Nat} {v : Value} {A1 A2 : List It} {k : Int} {p : Nat} (h : RD w bd true v (A1 ++ (k, p) :: A2)) (hn : ∀ x ∈ A1, x.1 ≠ k) :
    Calls Try.prog 16 #[.pointer (some ⟨bd, 0, none⟩), .int .i64 k] w fun r w' => r = .returned (.bool false) ∧ w' = w := by
  have hc0 := h.c0
  have hat := at_in h hn
  have hq : (0 : Int) ≤ (A1.length : Int) := by omega
  generalize A1.length = q at *
  clear h hn
  go_enter Try.func16, Try.ntmps16
  go_wp2_with (go_at_call 58; refine hat.mono ?_; rintro e w9 ⟨rfl, hw9⟩; rw [hw9]; clear hw9)
  go_ret
  exact ⟨rfl, rfl⟩
theorem rd_store {w w1 : World} {bd : Nat} {md : Bool} {v v' : Value} {A A' : List It} {tmp : Obj} (h : RD w bd md v A) (hown : w1.ownsRow 0 TIt 2 v' A'.length (icells A')) (hg : (w.alloc tmp).grownBy w1 v.ownBlock) (hat : v'.ownBlock = v.ownBlock ∨ v'.ownBlock = some (w.heap.size + 1)) (hp : ∀ x ∈ A', x.2 ≤ 2147483647) (hl : A'.length ≤ 8796093022208) :
    w1.cell? ⟨bd, 1, none⟩ = some v ∧ w1.frozen? ⟨bd, 1, none⟩ = false ∧ DAct w (w1.setCell ⟨bd, 1, none⟩ v') bd md v v' A' := by
  have hlt := (Array.getElem?_eq_some_iff.1 h.blk).1
  have hnb : some bd ≠ v.ownBlock := by
    rcases h.row.2 with ⟨rfl, _⟩ | ⟨g, cap, cur, rfl, _, hgb, _⟩
    · simp [Value.ownBlock]
    · intro e
      obtain rfl : bd = g := by simpa [Value.ownBlock] using e
      have := h.blk.symm.trans hgb
      simp at this
      exact absurd this.2 (by decide)
  have hb1 : w1.heap[bd]? = some (.cells #[.bool md, v] TDo (0, 0)) := (hg.block bd (by rw [World.size_alloc]; omega) hnb).trans ((Below.heap_alloc _ _ _ hlt).trans h.blk)
  have hnb' : some bd ≠ v'.ownBlock := by
    rcases hown.2 with ⟨rfl, _⟩ | ⟨g, cap, cur, rfl, _, hgb, _⟩
    · simp [Value.ownBlock]
    · intro e
      obtain rfl : bd = g := by simpa [Value.ownBlock] using e
      have := hb1.symm.trans hgb
      simp at this
      exact absurd this.2 (by decide)
  refine ⟨(cell_of hb1).trans rfl, frozen_of hb1, ⟨⟨?_, ?_, hp, hl⟩, ?_, ?_⟩⟩
  · rw [heap_setCell_same _ _ _ _ _ _ hb1]; rfl
  · refine ⟨hown.1, ?_⟩
    rcases hown.2 with h0 | ⟨g, cap, cur, hv, hb, hgb, rest⟩
    · exact .inl h0
    · refine .inr ⟨g, cap, cur, hv, hb, ?_, rest⟩
      rw [heap_setCell_other _ _ _ _ (fun e => hnb' (by have e' : g = bd := e; rw [hv, ← e']; rfl))]; exact hgb
  · have k1 : Kp w w1 (fpd bd v) := by
      refine ⟨hg.os, hg.tape, hg.output, Nat.le_trans (by rw [World.size_alloc]; omega) hg.size, fun i hi hn => ?_⟩
      rw [hg.block i (by rw [World.size_alloc]; omega) (fun e => hn (by simp [fpd, ← e])), Below.heap_alloc _ _ _ hi]
    exact k1.set (.inl (by simp [fpd])) _
  · intro i hi
    simp only [fpd, List.mem_cons, Option.mem_toList] at hi ⊢
    rcases hi with h | h
    · exact .inl (.inl h)
    · rcases hat with e | e
      · exact .inl (.inr (by rw [← e]; exact h))
      · rw [e] at h; simp at h; exact .inr (by omega)
set_option maxHeartbeats 2000000 in
theorem add_new {w : World} {bd : Nat} {v : Value} {A : List It} (h : RD w bd true v A) {k : Int} (hn : ∀ x ∈ A, x.1 ≠ k) (hl : A.length < 8796093022208) :
    Calls Try.prog 16 #[.pointer (some ⟨bd, 0, none⟩), .int .i64 k] w fun r w' => r = .returned (.bool true) ∧ ∃ v', DAct w w' bd true v v' (A ++ [(k, 0)]) := by
  obtain ⟨i0, hi0, hz0, hz1, hz2⟩ := info_parts infoIt
  have hc0 := h.c0
  have hc1 := h.c1
  have hat := at_no h k hn
  have HR : Hid (w.ownsRow 0 TIt 2 v A.length (icells A)) := h.row
  have HS : Hid (∀ (w1 : World) (v' : Value), w1.ownsRow 0 TIt 2 v' (A ++ [(k, 0)]).length (icells (A ++ [(k, 0)])) → (w.alloc (.cells #[.int .i64 k, .int .i64 0] TIt)).grownBy w1 v.ownBlock → (v'.ownBlock = v.ownBlock ∨ v'.ownBlock = some (w.heap.size + 1)) → w1.cell? ⟨bd, 1, none⟩ = some v ∧ w1.frozen? ⟨bd, 1, none⟩ = false ∧ DAct w (w1.setCell ⟨bd, 1, none⟩ v') bd true v v' (A ++ [(k, 0)])) := fun w1 v' h1 h2 h3 => rd_store h h1 h2 h3 (fun x hx => by
    rcases List.mem_append.1 hx with hx | hx
    · exact h.pm x hx
    · simp at hx; subst hx; exact Nat.zero_le _) (by simp; omega)
  obtain ⟨m, hm⟩ : ∃ m, m = A.length := ⟨_, rfl⟩
  rw [← hm] at hl
  have HM : Hid (m = A.length) := hm
  rw [hm.symm] at HR
  clear h hn hm
  go_enter Try.func16, Try.ntmps16
  go_wp2_with (first | (go_at_call 58; refine hat.mono ?_; rintro e w9 ⟨rfl, hw9⟩; rw [hw9]; clear hw9) | (at_builtin; refine wpList_append_lies _ rfl _ _ TIts rfl 0 TIt i0 _ 2 16 Try.underlying26 hi0 hz0 hz1 hz2 rfl (by decide) v m (icells A) rfl (HR.out.alloc _) ⟨w.heap.size, 0, none⟩ 1 1 (icell (k, 0)) rfl rfl (World.news_of_block (heap_alloc_new w _)) (by simp [icell, Value.oneCell']) (by decide) (by unfold maxLen; omega) (by omega) (Nat.zero_le _) (w.heap.size + 1) (by simp) ?_; intro g' cap' w1 hown' hgrow hat' hlt'; have hs := HS.out w1 (.slice (some ⟨g', 0, none⟩) (m + 1) cap') (by rw [List.length_append, icells_append, ← HM.out]; simpa [icells] using hown') hgrow (by simpa [Value.ownBlock, eq_comm] using hat'); have hcs := hs.1; have hfs := hs.2.1; have HA : Hid (DAct w (w1.setCell ⟨bd, 1, none⟩ (.slice (some ⟨g', 0, none⟩) (m + 1) cap')) bd true v (.slice (some ⟨g', 0, none⟩) (m + 1) cap') (A ++ [(k, 0)])) := hs.2.2; clear hs hown' hgrow hat' hlt'))
  go_ret
  exact ⟨rfl, _, HA.out⟩

theorem drop_no {w : World} {bd : Nat} {md : Bool} {v : Value} {A : List It} (h : RD w bd md v A) (k : Int) (hn : ∀ x ∈ A, x.1 ≠ k) :
    Calls Try.prog 20 #[.pointer (some ⟨bd, 0, none⟩), .int .i64 k] w fun r w' => r = .returned (.bool false) ∧ w' = w := by
  have hat := at_no h k hn
  clear h
  go_enter Try.func20, Try.ntmps20
  go_wp2_with (go_at_call 58; refine hat.mono ?_; rintro e w9 ⟨rfl, hw9⟩; rw [hw9]; clear hw9)
  go_ret
  exact ⟨rfl, rfl⟩
/-- the store of a row that is new -/
theorem rd_new {w w1 : World} {bd : Nat} {md : Bool} {v v' : Value} {A A' : List It} (h : RD w bd md v A) (hown : w1.ownsRow w.heap.size TIt 2 v' A'.length (icells A')) (hb : Below w.heap.size w w1) (hp : ∀ x ∈ A', x.2 ≤ 2147483647) (hl : A'.length ≤ 8796093022208) :
    w1.cell? ⟨bd, 1, none⟩ = some v ∧ w1.frozen? ⟨bd, 1, none⟩ = false ∧ DAct w (w1.setCell ⟨bd, 1, none⟩ v') bd md v v' A' := by
  have hlt := (Array.getElem?_eq_some_iff.1 h.blk).1
  have hb1 : w1.heap[bd]? = some (.cells #[.bool md, v] TDo (0, 0)) := (hb.block bd hlt).trans h.blk
  refine ⟨(cell_of hb1).trans rfl, frozen_of hb1, ⟨⟨?_, ?_, hp, hl⟩, ?_, ?_⟩⟩
  · rw [heap_setCell_same _ _ _ _ _ _ hb1]; rfl
  · refine ⟨hown.1, ?_⟩
    rcases hown.2 with h0 | ⟨g, cap, cur, hv, hbg, hgb, rest⟩
    · exact .inl h0
    · refine .inr ⟨g, cap, cur, hv, Nat.zero_le _, ?_, rest⟩
      rw [heap_setCell_other _ _ _ _ (fun e => by have e' : g = bd := e; omega)]; exact hgb
  · exact (Kp.of_below hb (fpd bd v)).set (.inl (by simp [fpd])) _
  · intro i hi
    simp only [fpd, List.mem_cons, Option.mem_toList] at hi ⊢
    rcases hi with h | h
    · exact .inl (.inl h)
    · exact .inr (hown.lt i h).1
set_option maxHeartbeats 2000000 in
theorem drop_any {w : World} {bd : Nat} {md : Bool} {v : Value} {A1 A2 : List It} {k : Int} {p : Nat} (h : RD w bd md v (A1 ++ (k, p) :: A2)) (hn : ∀ x ∈ A1, x.1 ≠ k) :
    Calls Try.prog 20 #[.pointer (some ⟨bd, 0, none⟩), .int .i64 k] w fun r w' => r = .returned (.bool true) ∧ ∃ v', DAct w w' bd md v v' (A1 ++ A2) := by
  have hat := at_in h hn
  have hc1 := h.c1
  obtain ⟨ao, cap, rfl, ht⟩ := trow_of h.row
  have hl := h.len
  have hwo := without_any ao cap A1.length _ _ w rfl (by simp) h.len ht
  rw [cut_at] at hwo
  have HS : Hid (∀ (w1 : World) (v' : Value), w1.ownsRow w.heap.size TIt 2 v' (A1 ++ A2).length (icells (A1 ++ A2)) → Below w.heap.size w w1 → w1.cell? ⟨bd, 1, none⟩ = some (.slice ao (A1 ++ (k, p) :: A2).length cap) ∧ w1.frozen? ⟨bd, 1, none⟩ = false ∧ DAct w (w1.setCell ⟨bd, 1, none⟩ v') bd md (.slice ao (A1 ++ (k, p) :: A2).length cap) v' (A1 ++ A2)) := fun w1 v' h1 h2 => rd_new h h1 h2 (fun x hx => h.pm x (by rcases List.mem_append.1 hx with h | h <;> simp [h])) (by have := h.len; simp at this ⊢; omega)
  have hq : (0 : Int) ≤ (A1.length : Int) := by omega
  generalize (A1 ++ (k, p) :: A2).length = m at *
  generalize A1.length = q at *
  clear h hn ht hl
  go_enter Try.func20, Try.ntmps20
  go_wp2_with (first | (go_at_call 58; refine hat.mono ?_; rintro e w9 ⟨rfl, hw9⟩; rw [hw9]; clear hw9) | (go_at_call 60; refine hwo.mono ?_; rintro e w1 ⟨v', rfl, ho1, hb1⟩; obtain ⟨a1, c1, rfl, _⟩ := trow_of ho1; have hs := HS.out w1 _ ho1 hb1; have hcs := hs.1; have hfs := hs.2.1; have HA : Hid (DAct w (w1.setCell ⟨bd, 1, none⟩ (.slice a1 (A1 ++ A2).length c1)) bd md (.slice ao m cap) (.slice a1 (A1 ++ A2).length c1) (A1 ++ A2)) := hs.2.2; clear hs ho1 hb1; generalize (A1 ++ A2).length = m2 at *))
  go_ret
  exact ⟨rfl, _, HA.out⟩
end Go.Proofs.Ytpchllepboolhaa.D
