import Derived.Test.YthmonfmpgjbhmaaG15
namespace Go.Proofs.Ythmonfmpgjbhmaa.K
open Go.RowKit Go.Maps Go.Proofs.Ythmonfmpgjbhmaa
attribute [local go_sem] Oper.semAt_some
set_option linter.unusedVariables false
set_option linter.unusedSimpArgs false
set_option maxRecDepth 100000

abbrev TRf : TypeId := 35
abbrev TBs : TypeId := 22
set_option maxHeartbeats 400000 in
theorem rbytes_none (w : World) :
    Calls Try.prog 32 #[.slice none 0 0] w fun e w' => e = .returned (.slice none 0 0) ∧ w' = w := by
  obtain ⟨i0, hi, hz0, hz1, hz2⟩ := info_parts info5x
  go_enter Try.func32, Try.ntmps32
  go_wp2_with (at_builtin; refine wpList_append_own_none rfl _ _ TBs rfl w.heap.size 5 i0 1 Try.underlying22 hi _ 0 [] rfl (World.ownsRow_nil _ _ _ _) rfl ?_)
  go_ret
  exact ⟨rfl, rfl⟩
set_option maxHeartbeats 400000 in
theorem rbytes_some (ad : Addr) (cap : Nat) (l : List Nat) (w : World) (h : BRow w (some ad) cap l) :
    Calls Try.prog 32 #[.slice (some ad) l.length cap] w fun e w' => ∃ v, e = .returned v ∧ w'.ownsRow w.heap.size 5 1 v l.length (l.map bv) ∧ Below w.heap.size w w' := by
  obtain ⟨i0, hi, hz0, hz1, hz2⟩ := info_parts info5x
  have HN : Hid (∀ j u, (l.map bv)[j]? = some u → w.cell? (ad.add j) = some u) := by
    intro j u hu
    rw [List.getElem?_map] at hu
    by_cases hj : j < l.length
    · rw [List.getElem?_eq_getElem hj] at hu
      obtain ⟨b, off, e, hc⟩ := h.at_ (by rintro rfl; simp at hj)
      cases e
      simp only [Option.map_some, Option.some.injEq] at hu
      subst hu
      rw [add_plain]; exact hc j hj
    · rw [List.getElem?_eq_none (by omega)] at hu; simp at hu
  have hlen := h.len
  have H1 : Hid (∀ u ∈ l.map bv, u.oneCell' = true) := by
    intro u hu
    obtain ⟨x, _, rfl⟩ := List.mem_map.1 hu
    rfl
  clear h
  go_enter Try.func32, Try.ntmps32
  go_wp2_with (at_builtin; refine wpList_append_own _ rfl _ _ TBs rfl w.heap.size 5 i0 (.int .u8 0) 1 1 Try.underlying22 hi hz0 hz1 hz2 rfl (by decide) _ 0 [] rfl (World.ownsRow_nil _ _ _ _) ad l.length cap (l.map bv) rfl (by simp) HN.out H1.out (by unfold maxLen; omega) (by omega) (Nat.le_refl _) ?_)
  intro v' w1 hown hgrow _
  have hb : Below w.heap.size w w1 := (Below.refl _ _).grown hgrow (Nat.le_refl _) (by simp [Value.ownBlock])
  clear hgrow
  go_wp2
  go_ret
  exact ⟨_, rfl, hown, hb⟩
/-- a reference's disk that nothing was done to -/
def rcells (n : Nat) (bs : Value) (r : Int) : Array Value := #[.int .i64 n, bs, .slice none 0 0, .slice none 0 0, .slice none 0 0, .int .u64 r, .int .u64 0, .int .u64 0, .int .u64 0, .int .u64 0]
def RRf (w : World) (p n : Nat) (bs : Value) (r : Int) : Prop := w.heap[p]? = some (.cells (rcells n bs r) TRf)
theorem rnew_bad (w : World) (n : Int) (h : n < 1 ∨ 65536 < n) : Calls Try.prog 22 #[.int .i64 n] w fun r w' => r = .returned (.tuple #[.pointer none, .int .i64 30]) ∧ w' = w := by
  by_cases h1 : n < 1
  · go_enter Try.func22, Try.ntmps22
    go_wp2
    exact bodyPost_ret (results_tmp2 rfl _ _ _) rfl ⟨rfl, rfl⟩
  · have h2 : 65536 < n := h.resolve_left h1
    clear h
    go_enter Try.func22, Try.ntmps22
    go_wp2
    exact bodyPost_ret (results_tmp2 rfl _ _ _) rfl ⟨rfl, rfl⟩
theorem rnew_any (w : World) (n : Nat) (h0 : 1 ≤ n) (h1 : n ≤ 65536) : Calls Try.prog 22 #[.int .i64 n] w fun r w' => r = .returned (.tuple #[.pointer (some ⟨w.heap.size, 0, none⟩), .int .i64 0]) ∧ RRf w' w.heap.size n (.slice none 0 0) 0 ∧ Below w.heap.size w w' := by
  have d1 : ¬ ((n : Int) < 1) := by omega
  have d2 : ¬ ((65536 : Int) < (n : Int)) := by omega
  go_enter Try.func22, Try.ntmps22
  go_wp2
  go_ret2
  exact ⟨rfl, heap_alloc_new w _, (Below.refl _ w).alloc (Nat.le_refl _) _⟩
section
variable {w : World} {p n : Nat} {bs : Value} {r : Int}
theorem RRf.c (h : RRf w p n bs r) (j : Nat) : w.cell? ⟨p, j, none⟩ = (rcells n bs r)[j]? := cell_of h
theorem rhas_any (h : RRf w p n bs r) (s : Int) : Calls Try.prog 37 #[.pointer (some ⟨p, 0, none⟩), .int .i64 s] w fun r w' => r = .returned (.bool (decide (0 ≤ s ∧ s < n))) ∧ w' = w := by
  have c0 : w.cell? ⟨p, 0, none⟩ = some (.int .i64 n) := h.c 0
  clear h
  by_cases h1 : 0 ≤ s
  · by_cases h2 : s < n
    · rw [decide_eq_true ⟨h1, h2⟩]
      go_enter Try.func37, Try.ntmps37
      go_wp2
      go_ret
      exact ⟨rfl, rfl⟩
    · rw [decide_eq_false (fun h => h2 h.2)]
      go_enter Try.func37, Try.ntmps37
      go_wp2
      go_ret
      exact ⟨rfl, rfl⟩
  · rw [decide_eq_false (fun h => h1 h.1)]
    go_enter Try.func37, Try.ntmps37
    go_wp2
    go_ret
    exact ⟨rfl, rfl⟩
theorem rlast_none (w : World) (s : Int) : Calls Try.prog 50 #[.slice none 0 0, .int .i64 s] w fun r w' => r = .returned (.tuple #[.slice none 0 0, .bool false]) ∧ w' = w := by
  go_enter Try.func50, Try.ntmps50
  go_wp2
  go_loopw [6] (fun i wr => i = .int .i64 (-1) ∧ Hid (wr = w)) (fun i _ => 0)
  case atStart => exact ⟨rfl, rfl⟩
  case round =>
    obtain ⟨rfl, HW⟩ := hrel
    go_wp2
    exact bodyPost_ret (results_tmp2 rfl _ _ _) rfl ⟨rfl, HW.out⟩
theorem rfails_none (h : RRf w p n bs r) (k s : Int) : Calls Try.prog 38 #[.pointer (some ⟨p, 0, none⟩), .int .i64 k, .int .i64 s] w fun r w' => r = .returned (.tuple #[.bool false, .bool false]) ∧ w' = w := by
  have c4 : w.cell? ⟨p, 4, none⟩ = some (.slice none 0 0) := h.c 4
  clear h
  go_enter Try.func38, Try.ntmps38
  go_wp2
  go_loopw [8] (fun i wr => i = .int .i64 0 ∧ Hid (wr = w) ∧ wr.cell? ⟨p, 4, none⟩ = some (.slice none 0 0)) (fun i _ => 0)
  case atStart => exact ⟨rfl, rfl, c4⟩
  case round =>
    obtain ⟨rfl, HW, hc4⟩ := hrel
    go_wp2
    exact bodyPost_ret (results_tmp2 rfl _ _ _) rfl ⟨rfl, HW.out⟩
end
/-- with the bytes of an image -/
structure RL (w : World) (p n : Nat) (g cap : Nat) (l : List Nat) (r : Int) : Prop where
  rf : RRf w p n (.slice (some ⟨g, 0, none⟩) l.length cap) r
  bs : BRow w (some ⟨g, 0, none⟩) cap l
  len : l.length = n * 512
  n0 : 1 ≤ n
  n1 : n ≤ 65536
  cp : l.length ≤ cap
theorem RL.later {w w' : World} {p n g cap : Nat} {l : List Nat} {r : Int} (h : RL w p n g cap l r) (hb : Below w.heap.size w w') : RL w' p n g cap l r :=
  ⟨(hb.block p (Array.getElem?_eq_some_iff.1 h.rf).1).trans h.rf, h.bs.later hb, h.len, h.n0, h.n1, h.cp⟩
theorem brow_part {w : World} {g off cap cap' : Nat} {l l' : List Nat} {o : Nat} (h : BRow w (some ⟨g, off, none⟩) cap l) (hne : l ≠ []) (hl : ∀ j x, l'[j]? = some x → l[o + j]? = some x) (hlen : l'.length ≤ l.length) : BRow w (some ⟨g, off + o, none⟩) cap' l' := by
  obtain ⟨b, off', e, hc⟩ := h.at_ hne
  cases e
  refine ⟨fun x hx => ?_, Nat.le_trans hlen h.len, (fun e => by cases e), fun _ => ⟨g, off + o, rfl, fun k hk => ?_⟩⟩
  · obtain ⟨j, hj⟩ := List.getElem?_of_mem hx
    exact h.lt x (List.mem_of_getElem? (hl j x hj))
  · have h1 := hl k _ (List.getElem?_eq_getElem hk)
    obtain ⟨h2, h3⟩ := List.getElem?_eq_some_iff.1 h1
    rw [Nat.add_assoc, hc _ h2, h3]
end Go.Proofs.Ythmonfmpgjbhmaa.K
