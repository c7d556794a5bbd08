import Derived.Test.YtckfmpoddmccfaaFD
import Derived.Test.YtckfmpoddmccfaaFC
namespace Go.Proofs.Ytckfmpoddmccfaa
open Go.RowKit
set_option linter.unusedVariables false
set_option linter.unusedSimpArgs false
set_option maxRecDepth 100000

/-- an option's decoder in frame: the head alone of one that is too long is taken -/
def optF (most : Nat) (l : List Nat) : (Nat × Nat × Bool × List Nat) × Nat × Nat := ((optD most l).1, (optD most l).2.1, if (optD most l).2.2 = 12 then 0 else (optD most l).2.2)
theorem optF_n (most : Nat) (l : List Nat) (h : (optF most l).2.2 = 0) : (optF most l).2.1 ≤ l.length := by
  have h0 := optD_n most l
  unfold optF at h ⊢
  simp only at h ⊢
  by_cases h12 : (optD most l).2.2 = 12
  · unfold optD at h12 ⊢
    by_cases h1 : l.length < 16
    · rw [if_pos h1] at h12; simp at h12
    rw [if_neg h1] at h12 ⊢
    by_cases h2 : vl l 0 8 ≠ mHave
    · rw [if_pos h2] at h12; simp at h12
    rw [if_neg h2] at h12 ⊢
    by_cases h3 : most < vl l 12 4
    · rw [if_pos h3]; simp only; omega
    rw [if_neg h3] at h12 ⊢
    by_cases h4 : l.length < 16 + vl l 12 4
    · rw [if_pos h4] at h12; simp at h12
    rw [if_neg h4] at h12; simp at h12
  · rw [if_neg h12] at h
    exact h0 h
/-- what a decoder of options answers -/
def OptP (D : (Nat × Nat × Bool × List Nat) × Nat × Nat) (w : World) (e : Ending) (w' : World) : Prop :=
  ∃ (c k : Nat) (lg : Bool) (d : List Nat) (n er : Nat) (ao2 : Option Addr) (cap2 : Nat), e = .returned (.tuple #[.agg #[.int .u32 (c : Int), .int .u32 (k : Int), .bool lg, .slice ao2 d.length cap2], .int .i64 (n : Int), .int .i64 (er : Int)]) ∧ D = ((c, k, lg, d), n, er) ∧ Row w w' ao2 cap2 d
/-- boxes and a row, new ones, and else all is as it was -/
structure Bx (w W : World) (bs : List (Nat × Array Value × TypeId)) (dv : Value) (d : List Nat) : Prop where
  bel : Below w.heap.size w W
  box : ∀ x ∈ bs, W.heap[x.1]? = some (.cells x.2.1 x.2.2 (0, 0)) ∧ w.heap.size ≤ x.1 ∧ x.2.2 ≠ 5
  nd : (bs.map (·.1)).Nodup
  row : W.ownsRow w.heap.size 5 1 dv d.length (d.map bv)
section
variable {w W W' : World} {bs : List (Nat × Array Value × TypeId)} {dv : Value} {d : List Nat}
theorem Bx.start (w : World) : Bx w w [] (.slice none 0 0) [] := ⟨Below.refl _ _, by simp, by simp, World.ownsRow_nil _ _ _ _⟩
theorem Bx.later (h : Bx w W bs dv d) (hb : Below W.heap.size W W') : Bx w W' bs dv d :=
  ⟨h.bel.trans (hb.mono h.bel.size), fun x hx => ⟨(hb.block _ (block_lt (h.box x hx).1)).trans (h.box x hx).1, (h.box x hx).2⟩, h.nd, owns_same h.row fun g hg => hb.block g (owns_lt h.row g hg).1⟩
theorem Bx.alloc (h : Bx w W bs dv d) (cs : Array Value) (t : TypeId) (ht : t ≠ 5) : Bx w (W.alloc (.cells cs t)) ((W.heap.size, cs, t) :: bs) dv d := by
  have h2 := h.later (W' := W.alloc (.cells cs t)) ((Below.refl _ _).alloc (Nat.le_refl _) _)
  refine ⟨h2.bel, fun x hx => ?_, ?_, h2.row⟩
  · rcases List.mem_cons.1 hx with rfl | hx
    · exact ⟨heap_new W _, h.bel.size, ht⟩
    · exact h2.box x hx
  · rw [List.map_cons, List.nodup_cons]
    refine ⟨fun hm => ?_, h.nd⟩
    obtain ⟨x, hx, e⟩ := List.mem_map.1 hm
    have e' : x.1 = W.heap.size := e
    have := block_lt (h.box x hx).1
    omega
theorem Bx.told (h : Bx w W bs dv d) {ao : Option Addr} {cap : Nat} {d' : List Nat} (hr : Row W W' ao cap d') : Bx w W' bs (.slice ao d'.length cap) d' := by
  have h2 := h.later hr.bel
  exact ⟨h2.bel, h2.box, h2.nd, owns_mono hr.own h.bel.size⟩
theorem Bx.put {pre post : List (Nat × Array Value × TypeId)} {g : Nat} {cs : Array Value} {t : TypeId} (h : Bx w W (pre ++ (g, cs, t) :: post) dv d) (j : Nat) (u : Value) {cs' : Array Value} (hcs : cs.setIfInBounds j u = cs') : Bx w (W.setCell ⟨g, j, none⟩ u) (pre ++ (g, cs', t) :: post) dv d := by
  have hg : (g, cs, t) ∈ pre ++ (g, cs, t) :: post := by simp
  obtain ⟨h1, h2, h3⟩ := h.box _ hg
  have n2 : dv.ownBlock ≠ some g := fun e => by
    obtain ⟨cur, hc⟩ := owns_type h.row _ e
    have := h1.symm.trans hc
    simp at this
    exact h3 this.2
  have hnd := h.nd
  rw [List.map_append, List.map_cons, List.nodup_append, List.nodup_cons] at hnd
  obtain ⟨hn1, ⟨hn2, hn3⟩, hn4⟩ := hnd
  have hoth : ∀ x, x ∈ pre ∨ x ∈ post → x.1 ≠ g := by
    rintro x (hx | hx) e
    · exact hn4 x.1 (List.mem_map_of_mem hx) g (by simp) e
    · exact hn2 (List.mem_map.2 ⟨x, hx, e⟩)
  refine ⟨below_set h.bel h2, fun x hx => ?_, by simpa using h.nd, owns_same h.row fun k hk2 => Below.heap_setCell _ _ _ _ (fun e => n2 (by rw [hk2, e]))⟩
  have key : ∀ x, x ∈ pre ∨ x ∈ post → (W.setCell ⟨g, j, none⟩ u).heap[x.1]? = some (.cells x.2.1 x.2.2 (0, 0)) ∧ w.heap.size ≤ x.1 ∧ x.2.2 ≠ 5 := fun x hx' => by
    obtain ⟨k1, k2⟩ := h.box x (by rcases hx' with e | e <;> simp [e])
    exact ⟨(Below.heap_setCell _ _ _ _ (hoth x hx')).trans k1, k2⟩
  rcases List.mem_append.1 hx with hx' | hx'
  · exact key x (.inl hx')
  · rcases List.mem_cons.1 hx' with rfl | hx'
    · refine ⟨?_, h2, h3⟩
      have := heap_setCell_same W g j cs t u h1
      rw [this, hcs]
    · exact key x (.inr hx')
theorem Bx.c (h : Bx w W bs dv d) {g : Nat} {cs : Array Value} {t : TypeId} (hg : (g, cs, t) ∈ bs) (j : Nat) : W.cell? ⟨g, j, none⟩ = cs[j]? ∧ W.frozen? ⟨g, j, none⟩ = false :=
  ⟨blk_at (h.box _ hg).1 j, blk_free (h.box _ hg).1 j⟩
end
abbrev zOpt : Array Value := #[.int .u32 0, .int .u32 0, .bool false, nilV]
set_option maxHeartbeats 4000000 in
theorem decodeOptionF (ao : Option Addr) (cap : Nat) (l : List Nat) (most : Nat) (w : World) (h : CRow w ao cap l) (hm : most < 4294967296) :
    Calls Try.prog 62 #[.slice ao l.length cap, .int .u32 (most : Int)] w fun e w' => OptP (optF most l) w e w' := by
  have h5 : 57 ≠ 5 := by decide
  obtain ⟨W0, hW0⟩ : ∃ W0, W0 = w.alloc (.cells #[.int .u32 0, .int .u32 0, .bool false, Value.slice none 0 0] 57) := ⟨_, rfl⟩
  have hB0 := (Bx.start w).alloc #[.int .u32 0, .int .u32 0, .bool false, Value.slice none 0 0] 57 h5
  rw [← hW0] at hB0
  have H0 : Hid _ := hB0
  have HD : Hid _ := decOptionA ao cap l most W0 (h.later hB0.bel) hm
  obtain ⟨ln, hln⟩ : ∃ ln, l.length = ln := ⟨_, rfl⟩
  rw [hln] at HD
  rw [hln]
  clear hB0 h
  go_enter Try.func62, Try.ntmps62
  go_wp2_with fail
  rw [← hW0]
  clear hW0
  refine Calls.mono HD.out ?_
  rintro e W1 ⟨c, k, lg, d, n, er, ao2, cap2, rfl, hD, hr⟩
  have HDe : Hid (optD most l = ((c, k, lg, d), n, er)) := hD
  have HR : Hid (∀ x ∈ d, x < 256) := hr.lt
  have H2 : Hid _ := (H0.out.told hr).alloc #[.int .u32 (c : Int), .int .u32 (k : Int), .bool lg, .slice ao2 d.length cap2] 57 h5
  clear H0 HD hD hr
  obtain ⟨r0, f0⟩ := H2.out.c (.tail _ (.head _)) 0; obtain ⟨r1, f1⟩ := H2.out.c (.tail _ (.head _)) 1; obtain ⟨r2, f2⟩ := H2.out.c (.tail _ (.head _)) 2; obtain ⟨r3, f3⟩ := H2.out.c (.tail _ (.head _)) 3
  simp at r0 r1 r2 r3
  have H3 : Hid _ := Bx.put (pre := [_]) (Bx.put (pre := [_]) (Bx.put (pre := [_]) (Bx.put (pre := [_]) H2.out 0 (.int .u32 (c : Int)) (cs' := #[.int .u32 (c : Int), .int .u32 0, .bool false, Value.slice none 0 0]) rfl) 1 (.int .u32 (k : Int)) (cs' := #[.int .u32 (c : Int), .int .u32 (k : Int), .bool false, Value.slice none 0 0]) rfl) 2 (.bool lg) (cs' := #[.int .u32 (c : Int), .int .u32 (k : Int), .bool lg, Value.slice none 0 0]) rfl) 3 (.slice ao2 d.length cap2) (cs' := #[.int .u32 (c : Int), .int .u32 (k : Int), .bool lg, .slice ao2 d.length cap2]) rfl
  clear H2
  by_cases h12 : er = 12
  · subst h12
    go_wp2
    exact bodyPost_ret (results_cell_tmp2 rfl _ _ w.heap.size 57 #[.int .u32 (c : Int), .int .u32 (k : Int), .bool lg, .slice ao2 d.length cap2] (0, 0) _ rfl (H3.out.box _ (.tail _ (.head _))).1 Try.underlying57 rfl infoOpt) rfl ⟨c, k, lg, d, n, 0, ao2, cap2, rfl, by simp [optF, HDe.out], H3.out.row, HR.out, H3.out.bel⟩
  · have e12 : ¬ ((er : Int) = 12) := by omega
    go_wp2
    exact bodyPost_ret (results_cell_tmp2 rfl _ _ w.heap.size 57 #[.int .u32 (c : Int), .int .u32 (k : Int), .bool lg, .slice ao2 d.length cap2] (0, 0) _ rfl (H3.out.box _ (.tail _ (.head _))).1 Try.underlying57 rfl infoOpt) rfl ⟨c, k, lg, d, n, er, ao2, cap2, rfl, by simp [optF, HDe.out, h12], H3.out.row, HR.out, H3.out.bel⟩
end Go.Proofs.Ytckfmpoddmccfaa
