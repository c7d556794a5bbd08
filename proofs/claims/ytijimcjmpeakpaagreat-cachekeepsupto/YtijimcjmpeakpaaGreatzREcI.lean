import Derived.Test.YtijimcjmpeakpaaGreatG24
import Derived.Deep.Draws
namespace Go.Proofs.YtijimcjmpeakpaaGreat.I
open Go.RowKit Go.Maps
attribute [local go_sem] Oper.semAt_some
set_option linter.unusedVariables false
set_option linter.unusedSimpArgs false
set_option maxRecDepth 100000

theorem plc_o {w : World} {c : Nat} {k : Int} {n : Nat} {pv nx : Nat → Nat} (h : w.heap[c]? = some (plc k n (pv c) (nx c))) (a b : Nat) : (w.setCell ⟨a, 2, none⟩ (.pointer (some ⟨b, 0, none⟩))).heap[c]? = some (plc k n (upd pv a b c) (nx c)) := by
  by_cases e : c = a
  · subst e; rw [upd_same]; rw [heap_setCell_same _ _ _ _ _ _ h]; rfl
  · rw [heap_setCell_other _ _ _ _ e, upd_other e, h]
theorem plc_n {w : World} {c : Nat} {k : Int} {n : Nat} {pv nx : Nat → Nat} (h : w.heap[c]? = some (plc k n (pv c) (nx c))) (a b : Nat) : (w.setCell ⟨a, 3, none⟩ (.pointer (some ⟨b, 0, none⟩))).heap[c]? = some (plc k n (pv c) (upd nx a b c)) := by
  by_cases e : c = a
  · subst e; rw [upd_same]; rw [heap_setCell_same _ _ _ _ _ _ h]; rfl
  · rw [heap_setCell_other _ _ _ _ e, upd_other e, h]
theorem Kp.set {w w' : World} {F : List Nat} (h : Kp w w' F) {a : Addr} (ha : a.block ∈ F ∨ w.heap.size ≤ a.block) (v : Value) : Kp w (w'.setCell a v) F :=
  ⟨h.os, h.tape, h.output, by rw [World.size_setCell]; exact h.size, fun i hi hn => by rw [heap_setCell_other _ _ _ _ (fun e => by subst e; exact ha.elim (fun h => hn h) (fun h => by omega))]; exact h.block i hi hn⟩

theorem Kp.drew {w w' : World} {F : List Nat} (h : Kp w w' F) : Kp w w'.drew F := ⟨h.os, h.tape, h.output, h.size, h.block⟩
/-- the ring alone -/
def Rg (w : World) (g : Nat) (L : List Ent) : Prop := ∃ nx pv, RingL nx pv g (L.map (·.blk)) ∧ w.heap[g]? = some (plc 0 0 (pv g) (nx g)) ∧ ∀ e ∈ L, w.heap[e.blk]? = some (plc e.key e.pins (pv e.blk) (nx e.blk))

theorem enter_run {w : World} {p g o : Nat} {c0 c1 a b : Value} {k : Int} {n x : Nat} (hp : w.heap[p]? = some (.cells #[c0, c1, a, b] TPl (0, 0))) (hg : w.heap[g]? = some (plc k n o x)) (hpg : p ≠ g) (ho : ∃ k' n' o' x', w.heap[o]? = some (plc k' n' o' x')) (hop : o ≠ p) :
    Calls Tryz.prog 105 #[.pointer (some ⟨p, 0, none⟩), .pointer (some ⟨g, 0, none⟩)] w fun e w' => e = .returned (.tuple #[]) ∧ w' = ((((w.setCell ⟨p, 2, none⟩ (.pointer (some ⟨o, 0, none⟩))).setCell ⟨p, 3, none⟩ (.pointer (some ⟨g, 0, none⟩))).setCell ⟨o, 3, none⟩ (.pointer (some ⟨p, 0, none⟩))).setCell ⟨g, 2, none⟩ (.pointer (some ⟨p, 0, none⟩))) := by
  have p2 : w.cell? ⟨p, 2, none⟩ = some a := (cell_of hp).trans rfl
  have p3 : w.cell? ⟨p, 3, none⟩ = some b := (cell_of hp).trans rfl
  have pf2 : w.frozen? ⟨p, 2, none⟩ = false := frozen_of hp
  have pf3 : w.frozen? ⟨p, 3, none⟩ = false := frozen_of hp
  have g2 : w.cell? ⟨g, 2, none⟩ = some (.pointer (some ⟨o, 0, none⟩)) := (cell_of hg).trans rfl
  have gf2 : w.frozen? ⟨g, 2, none⟩ = false := frozen_of hg
  obtain ⟨k', n', o', x', ho⟩ := ho
  have o3 : w.cell? ⟨o, 3, none⟩ = some (.pointer (some ⟨x', 0, none⟩)) := (cell_of ho).trans rfl
  have of3 : w.frozen? ⟨o, 3, none⟩ = false := frozen_of ho
  have gp : g ≠ p := fun e => hpg e.symm
  clear hp hg ho
  go_enter Tryz.func105, Tryz.ntmps105
  go_wp2
  go_end0
  exact ⟨rfl, rfl⟩
theorem enter_any {w : World} {p g : Nat} {L : List Ent} {k : Int} {n : Nat} {a b : Value} (hr : Rg w g L) (hp : w.heap[p]? = some (.cells #[kv k, .int .i64 n, a, b] TPl (0, 0))) (hn : p ∉ g :: L.map (·.blk)) :
    Calls Tryz.prog 105 #[.pointer (some ⟨p, 0, none⟩), .pointer (some ⟨g, 0, none⟩)] w fun e w' => e = .returned (.tuple #[]) ∧ Rg w' g (L ++ [⟨k, n, p⟩]) ∧ Kp w w' (p :: g :: L.map (·.blk)) := by
  obtain ⟨nx, pv, rl, hg, hL⟩ := hr
  have hpg : p ≠ g := fun e => hn (by simp [e])
  have ho := rl.pvg
  have hall : ∀ c ∈ g :: L.map (·.blk), ∃ k' n', w.heap[c]? = some (plc k' n' (pv c) (nx c)) := by
    intro c hc
    rcases List.mem_cons.1 hc with rfl | hc
    · exact ⟨_, _, hg⟩
    · obtain ⟨e, he, rfl⟩ := List.mem_map.1 hc
      exact ⟨_, _, hL e he⟩
  obtain ⟨k', n', hpo⟩ := hall _ ho
  refine (enter_run hp hg hpg ⟨_, _, _, _, hpo⟩ (fun e => hn (e ▸ ho))).mono ?_
  rintro e w' ⟨rfl, rfl⟩
  refine ⟨rfl, ⟨_, _, by rw [List.map_append]; exact rl.enter hn, ?_, ?_⟩, ?_⟩
  · have h1 : ((w.setCell ⟨p, 2, none⟩ (.pointer (some ⟨pv g, 0, none⟩))).setCell ⟨p, 3, none⟩ (.pointer (some ⟨g, 0, none⟩))).heap[g]? = some (plc 0 0 (upd pv p (pv g) g) (upd nx p g g)) := plc_n (pv := upd pv p (pv g)) (plc_o hg _ _) _ _
    exact plc_o (nx := upd (upd nx p g) (pv g) p) (plc_n (pv := upd pv p (pv g)) h1 _ _) _ _
  · intro e he
    rcases List.mem_append.1 he with he | he
    · have h1 : ((w.setCell ⟨p, 2, none⟩ (.pointer (some ⟨pv g, 0, none⟩))).setCell ⟨p, 3, none⟩ (.pointer (some ⟨g, 0, none⟩))).heap[e.blk]? = some (plc e.key e.pins (upd pv p (pv g) e.blk) (upd nx p g e.blk)) := plc_n (pv := upd pv p (pv g)) (plc_o (hL e he) _ _) _ _
      exact plc_o (nx := upd (upd nx p g) (pv g) p) (plc_n (pv := upd pv p (pv g)) h1 _ _) _ _
    · simp only [List.mem_singleton] at he
      subst he
      have h0 : (w.setCell ⟨p, 2, none⟩ (.pointer (some ⟨pv g, 0, none⟩))).heap[p]? = some (.cells #[kv k, .int .i64 n, .pointer (some ⟨pv g, 0, none⟩), b] TPl (0, 0)) := by rw [heap_setCell_same _ _ _ _ _ _ hp]; rfl
      have h1 : ((w.setCell ⟨p, 2, none⟩ (.pointer (some ⟨pv g, 0, none⟩))).setCell ⟨p, 3, none⟩ (.pointer (some ⟨g, 0, none⟩))).heap[p]? = some (plc k n (upd pv p (pv g) p) (upd nx p g p)) := by rw [heap_setCell_same _ _ _ _ _ _ h0, upd_same, upd_same]; rfl
      exact plc_o (nx := upd (upd nx p g) (pv g) p) (plc_n (pv := upd pv p (pv g)) h1 _ _) _ _
  · exact ((((Kp.refl w _).set (.inl (by simp)) _).set (.inl (by simp)) _).set (.inl (List.mem_cons_of_mem _ ho)) _).set (.inl (by simp)) _

theorem leave_run {w : World} {p x y : Nat} {k : Int} {n : Nat} (hp : w.heap[p]? = some (plc k n x y)) (hx : ∃ k' n' o' x', w.heap[x]? = some (plc k' n' o' x')) (hy : ∃ k' n' o' x', w.heap[y]? = some (plc k' n' o' x')) (hxp : x ≠ p) (hyp : y ≠ p) :
    Calls Tryz.prog 104 #[.pointer (some ⟨p, 0, none⟩)] w fun e w' => e = .returned (.tuple #[]) ∧ w' = ((w.setCell ⟨x, 3, none⟩ (.pointer (some ⟨y, 0, none⟩))).setCell ⟨y, 2, none⟩ (.pointer (some ⟨x, 0, none⟩))).drew := by
  have p2 : w.cell? ⟨p, 2, none⟩ = some (.pointer (some ⟨x, 0, none⟩)) := (cell_of hp).trans rfl
  have p3 : w.cell? ⟨p, 3, none⟩ = some (.pointer (some ⟨y, 0, none⟩)) := (cell_of hp).trans rfl
  obtain ⟨k', n', o', x', hx⟩ := hx
  have x3 : w.cell? ⟨x, 3, none⟩ = some (.pointer (some ⟨x', 0, none⟩)) := (cell_of hx).trans rfl
  have xf3 : w.frozen? ⟨x, 3, none⟩ = false := frozen_of hx
  obtain ⟨k2, n2, o2, x2, hy⟩ := hy
  have y2 : w.cell? ⟨y, 2, none⟩ = some (.pointer (some ⟨o2, 0, none⟩)) := (cell_of hy).trans rfl
  have yf2 : w.frozen? ⟨y, 2, none⟩ = false := frozen_of hy
  clear hp hx hy
  go_enter Tryz.func104, Tryz.ntmps104
  go_wp2
  go_region
  all_goals go_wp2
  all_goals go_end0
  all_goals exact ⟨rfl, rfl⟩
theorem leave_any {w : World} {g : Nat} {L1 L2 : List Ent} {e : Ent} (hr : Rg w g (L1 ++ e :: L2)) :
    Calls Tryz.prog 104 #[.pointer (some ⟨e.blk, 0, none⟩)] w fun r w' => r = .returned (.tuple #[]) ∧ Rg w' g (L1 ++ L2) ∧ (∃ a b, w'.heap[e.blk]? = some (.cells #[kv e.key, .int .i64 e.pins, a, b] TPl (0, 0))) ∧ Kp w w' (g :: (L1 ++ L2).map (·.blk)) := by
  obtain ⟨nx, pv, rl, hg, hL⟩ := hr
  have hall : ∀ c ∈ g :: (L1 ++ e :: L2).map (·.blk), ∃ k' n' o' x', w.heap[c]? = some (plc k' n' o' x') := by
    intro c hc
    rcases List.mem_cons.1 hc with rfl | hc
    · exact ⟨_, _, _, _, hg⟩
    · obtain ⟨e, he, rfl⟩ := List.mem_map.1 hc
      exact ⟨_, _, _, _, hL e he⟩
  rw [List.map_append, List.map_cons] at rl
  obtain ⟨hx, hy⟩ := rl.mid
  have nd := rl.nd
  simp only [List.nodup_cons, List.mem_append, List.mem_cons, not_or, List.nodup_append] at nd
  obtain ⟨⟨g1, g2, g3⟩, n1, ⟨n2, n3⟩, n4⟩ := nd
  have hxp : pv e.blk ≠ e.blk := by
    intro h
    rw [h] at hx
    rcases List.mem_cons.1 hx with h | h
    · exact g2 h.symm
    · exact n4 _ h _ (.inl rfl) rfl
  have hyp : nx e.blk ≠ e.blk := by
    intro h
    rw [h] at hy
    rcases List.mem_append.1 hy with h | h
    · exact n2 h
    · simp only [List.mem_singleton] at h; exact g2 h.symm
  have hx' : pv e.blk ∈ g :: (L1 ++ L2).map (·.blk) := by
    rw [List.map_append]; rcases List.mem_cons.1 hx with h | h
    · rw [h]; simp
    · exact List.mem_cons_of_mem _ (List.mem_append_left _ h)
  have hy' : nx e.blk ∈ g :: (L1 ++ L2).map (·.blk) := by
    rw [List.map_append]; rcases List.mem_append.1 hy with h | h
    · exact List.mem_cons_of_mem _ (List.mem_append_right _ h)
    · simp only [List.mem_singleton] at h; rw [h]; simp
  have hsub : ∀ c ∈ g :: (L1 ++ L2).map (·.blk), c ∈ g :: (L1 ++ e :: L2).map (·.blk) := by
    intro c hc
    simp only [List.map_append, List.map_cons, List.mem_cons, List.mem_append] at hc ⊢
    rcases hc with h | h | h
    · exact .inl h
    · exact .inr (.inl h)
    · exact .inr (.inr (.inr h))
  refine (leave_run (hL e (by simp)) (hall _ (hsub _ hx')) (hall _ (hsub _ hy')) hxp hyp).mono ?_
  rintro r w' ⟨rfl, rfl⟩
  refine ⟨rfl, ⟨_, _, by rw [List.map_append]; exact rl.leave, ?_, ?_⟩, ⟨.pointer (some ⟨pv e.blk, 0, none⟩), .pointer (some ⟨nx e.blk, 0, none⟩), ?_⟩, ?_⟩
  · exact plc_o (nx := upd nx (pv e.blk) (nx e.blk)) (plc_n hg _ _) _ _
  · intro c hc
    exact plc_o (nx := upd nx (pv e.blk) (nx e.blk)) (plc_n (hL c (by rcases List.mem_append.1 hc with h | h <;> simp [h])) _ _) _ _
  · show ((w.setCell ⟨pv e.blk, 3, none⟩ (.pointer (some ⟨nx e.blk, 0, none⟩))).setCell ⟨nx e.blk, 2, none⟩ (.pointer (some ⟨pv e.blk, 0, none⟩))).heap[e.blk]? = _
    rw [heap_setCell_other _ _ _ _ (fun h => hyp h.symm), heap_setCell_other _ _ _ _ (fun h => hxp h.symm)]; exact hL e (by simp)
  · exact (((Kp.refl w _).set (.inl hx') _).set (.inl hy') _).drew
end Go.Proofs.YtijimcjmpeakpaaGreat.I
