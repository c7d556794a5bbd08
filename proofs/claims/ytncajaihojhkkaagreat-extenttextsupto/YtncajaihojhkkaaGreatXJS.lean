import Derived.Test.YtncajaihojhkkaaGreatXCS
import Derived.Deep.QuietTactic
import Derived.Laws.OwnMore
import Derived.OwnWalk
namespace Go.Proofs.YtncajaihojhkkaaGreat.S
open Go.RowKit Go.Sort
set_option linter.unusedVariables false
set_option linter.unusedSimpArgs false
set_option maxRecDepth 100000

theorem cell_later {w w' : World} {a : Addr} {v : Value} (hb : Below w.heap.size w w') (h : w.cell? a = some v) : w'.cell? a = some v :=
  (World.cell?_of_block (hb.block _ (World.block_lt_of_cell? _ _ h))).trans h
theorem owns_form {w : World} {base : Nat} {e : TypeId} {size : Nat} {v : Value} {n : Nat} {xs : List Value} (h : w.ownsRow base e size v n xs) : ∃ ao cap, v = .slice ao n cap := by
  rcases h.2 with ⟨hv, hn⟩ | ⟨g, cap, cur, hv, _⟩
  · exact ⟨none, 0, by rw [hv, hn]⟩
  · exact ⟨_, _, hv⟩
theorem owns_some {w : World} {base : Nat} {e : TypeId} {size : Nat} {v : Value} {n : Nat} {xs : List Value} (h : w.ownsRow base e size v n xs) (hn : 0 < n) : ∃ g cap, v = .slice (some ⟨g, 0, none⟩) n cap ∧ base ≤ g ∧ g < w.heap.size := by
  rcases h.2 with ⟨hv, hn⟩ | ⟨g, cap, cur, hv, hg, hc, _⟩
  · omega
  · exact ⟨g, cap, hv, hg, (Array.getElem?_eq_some_iff.1 hc).1⟩
theorem below_drewN {B : Nat} {w x : World} (h : Below B w x) (n : Nat) : Below B w (x.drewN n) := ⟨h.os, h.tape, h.output, h.size, h.block⟩
theorem news3 (W : World) (H : Nat) (hH : W.heap.size = H) (p : Rn ByteArray) : ∀ j u, (rcell E p)[j]? = some u → (W.alloc (.cells #[.int .i64 p.lo, .int .i64 p.hi, .string p.v] TRun)).cell? ((⟨H, 0, none⟩ : Addr).add j) = some u := by
  intro j u hu
  subst hH
  rw [WideShapes.add_plain, Nat.zero_add]
  have := World.cell?_alloc_mark W #[.int .i64 p.lo, .int .i64 p.hi, .string p.v] TRun (0, 0) j
  refine this.trans ?_
  simpa [rcell] using hu
theorem rcell_one (p : Rn ByteArray) : ∀ u ∈ rcell E p, u.oneCell' = true := by
  intro u hu
  simp only [rcell, List.mem_cons, List.not_mem_nil, or_false] at hu
  rcases hu with rfl | rfl | rfl <;> rfl
theorem wrap_nat (m : Nat) (h : m < 9223372036854775808) : IntKind.i64.wrap (m : Int) = (m : Int) := by
  rw [IntKind.wrap_i64]; omega
theorem set_hi (l : List (Rn ByteArray)) (q : Rn ByteArray) (h : Int) : (rcells E (l ++ [q])).set (l.length * 3 + 1) (.int .i64 h) = rcells E (l ++ [{ q with hi := h }]) := by
  rw [rcells_append, rcells_append, List.set_append_right _ _ (by rw [rcells_length]; omega), rcells_length, show l.length * 3 + 1 - l.length * 3 = 1 by omega]
  simp [rcells, rcell]
theorem infoRun : (Tryz.prog.info? TRun).map (fun i => (i.zero, i.size, i.bytes)) = some (some (.agg #[.int .i64 0, .int .i64 0, .string ByteArray.empty]), 3, 32) := by kernel_rfl
theorem rcells_one (rs : List (Rn ByteArray)) : ∀ u ∈ rcells E rs, u.oneCell' = true := by
  intro u hu
  obtain ⟨r, _, hr⟩ := List.mem_flatMap.1 hu
  simp only [rcell, List.mem_cons, List.not_mem_nil, or_false] at hr
  rcases hr with rfl | rfl | rfl <;> rfl
theorem joinStep_length (l : List (Rn ByteArray)) (p : Rn ByteArray) : (joinStep l p).length ≤ l.length + 1 := by
  unfold joinStep
  by_cases h : p.lo = p.hi
  · rw [if_pos h]; omega
  · rw [if_neg h]
    cases hl : l.getLast? with
    | none => simp
    | some q =>
      by_cases hv : q.v = p.v
      · simp only [if_pos hv, List.length_append, List.length_dropLast, List.length_cons, List.length_nil]; omega
      · simp [if_neg hv]
theorem joined_take_succ (ps : List (Rn ByteArray)) (k : Nat) (p : Rn ByteArray) (h : ps[k]? = some p) : joined (ps.take (k + 1)) = joinStep (joined (ps.take k)) p := by
  have hk := (List.getElem?_eq_some_iff.1 h).1
  rw [List.take_add_one, h]
  simp [joined]

set_option maxHeartbeats 4000000 in
theorem joined_any (bp cap : Nat) (ps : List (Rn ByteArray)) (w : World) (hs : ps.length ≤ 1000) (hp : ∀ j u, (rcells E ps)[j]? = some u → w.cell? ⟨bp, j, none⟩ = some u) :
    Calls Tryz.prog 16 #[.slice (some ⟨bp, 0, none⟩) ps.length cap] w fun e w' => ∃ v, e = .returned v ∧ w'.ownsRow w.heap.size TRun 3 v (joined ps).length (rcells E (joined ps)) ∧ Below w.heap.size w w' := by
  obtain ⟨i0, hi, hz0, hz1, hz2⟩ := info_parts infoRun
  have HP : Hid (∀ k p, ps[k]? = some p → w.cell? ⟨bp, k * 3, none⟩ = some (.int .i64 p.lo) ∧ w.cell? ⟨bp, k * 3 + 1, none⟩ = some (.int .i64 p.hi) ∧ w.cell? ⟨bp, k * 3 + 2, none⟩ = some (.string p.v)) := fun k p hk =>
    ⟨hp _ _ (rcells_get E ps k p hk 0 (by omega)), hp _ _ (rcells_get E ps k p hk 1 (by omega)), hp _ _ (rcells_get E ps k p hk 2 (by omega))⟩
  clear hp
  obtain ⟨n, hn⟩ : ∃ n, n = ps.length := ⟨_, rfl⟩
  rw [← hn] at hs ⊢
  have HN : Hid (n = ps.length) := hn
  clear hn
  go_enter Tryz.func16, Tryz.ntmps16
  go_wp2
  go_loopw [3, 9] (fun v i wr => ∃ (k : Nat) (l : List (Rn ByteArray)), k ≤ n ∧ i = .int .i64 k ∧ Hid (l = joined (ps.take k)) ∧ l.length ≤ k ∧ wr.ownsRow w.heap.size TRun 3 v l.length (rcells E l) ∧ Below w.heap.size w wr) (fun _ i _ => n - (intOf i).toNat)
  case atStart => exact ⟨0, [], Nat.zero_le _, rfl, rfl, Nat.zero_le _, World.ownsRow_nil _ _ _ _, Below.refl _ _⟩
  case round =>
    obtain ⟨k, l, hk, rfl, HL, hlk, hown, hb⟩ := hrel
    by_cases hlt : k < n
    · obtain ⟨p, hpk⟩ : ∃ p, ps[k]? = some p := ⟨_, List.getElem?_eq_getElem (by have := HN.out; omega)⟩
      have HJ : Hid (joined (ps.take (k + 1)) = joinStep l p) := by
        have := joined_take_succ ps k p hpk
        rw [← HL.out] at this; exact this
      have c0 := cell_later hb (HP.out k p hpk).1
      have c1 := cell_later hb (HP.out k p hpk).2.1
      have c2 := cell_later hb (HP.out k p hpk).2.2
      have hkz : (k : Int) < (n : Int) := by omega
      by_cases he : p.lo = p.hi
      · obtain ⟨ao, cp, rfl⟩ := owns_form hown
        have he' : (p.lo == p.hi) = true := by simpa using he
        have HO : Hid ((wr.alloc (.cells #[.int .i64 p.lo, .int .i64 p.hi, .string p.v] TRun)).ownsRow w.heap.size TRun 3 (.slice ao l.length cp) l.length (rcells E l)) := hown.alloc _
        have HE : Hid (l = joined (ps.take (k + 1))) := by
          show l = _
          rw [HJ.out]; unfold joinStep; rw [if_pos he]
        clear hown he
        go_wp2
        go_roundw
        case rel => exact ⟨k + 1, l, by omega, by go_num, HE, by omega, HO.out, hb.alloc hb.size _⟩
        case measure => simp [intOf]; omega
      · have he' : (p.lo == p.hi) = false := by simpa using he
        have HX : Hid (∀ (W w1 : World) (v v' : Value) (l1 : List (Rn ByteArray)), Below w.heap.size w W → W.ownsRow w.heap.size TRun 3 v l1.length (rcells E l1) → w1.ownsRow w.heap.size TRun 3 v' (l1.length + 1) (rcells E l1 ++ rcell E p) → W.grownBy w1 v.ownBlock → w1.ownsRow w.heap.size TRun 3 v' (l1 ++ [p]).length (rcells E (l1 ++ [p])) ∧ Below w.heap.size w w1) := by
          intro W w1 v v' l1 hB ho ho' hg
          refine ⟨?_, hB.grown hg hB.size (fun b hb' => (ho.lt b hb').1)⟩
          rw [rcells_append, List.length_append]
          simpa [rcells] using ho'
        by_cases hnil : l = []
        · subst hnil
          obtain ⟨ao, cp, rfl⟩ := owns_form hown
          have HE : Hid ([p] = joined (ps.take (k + 1))) := by
            show [p] = _
            rw [HJ.out]; unfold joinStep; rw [if_neg he]; rfl
          simp only [List.length_nil] at hown ⊢
          have HO : Hid (wr.ownsRow w.heap.size TRun 3 (.slice ao 0 cp) 0 (rcells E [])) := hown
          clear hown
          go_wp2
          go_quiet (fail)
          go_wp2_with (at_builtin; refine wpList_append_own _ rfl (.tmp 15) (.tmp 17) 50 rfl w.heap.size TRun i0 _ 3 32 Tryz.underlying50 hi hz0 hz1 hz2 rfl (by decide) _ 0 [] rfl (((HO.out).alloc _).alloc _) ⟨wr.heap.size + 1, 0, none⟩ 1 1 (rcell E p) rfl (by simp [rcell]) (news3 _ _ (by simp [World.drewN]) p) (rcell_one p) (by unfold maxLen; omega) (by omega) (by have := hb.size; simp [World.drewN]; omega) ?_)
          intro v' w1 hown' hgrow _
          have H1 := HX.out _ w1 _ v' [] ((below_drewN (hb.alloc hb.size _) nq).alloc (by have := hb.size; simp [World.drewN]; omega) _) (((HO.out).alloc _).alloc _) hown' hgrow
          obtain ⟨ao', cp', rfl⟩ := owns_form H1.1
          have H2 : Hid (w1.ownsRow w.heap.size TRun 3 (.slice ao' [p].length cp') [p].length (rcells E [p])) := H1.1
          have hb1 := H1.2
          clear H1 hown' hgrow
          go_wp2
          go_roundw
          case rel => exact ⟨k + 1, [p], by omega, by go_num, HE, by simp, H2.out, hb1⟩
          case measure => simp [intOf]; omega
        · obtain ⟨l', q, rfl⟩ : ∃ l' q, l = l' ++ [q] := by
            cases hq : l.getLast? with
            | none => exact absurd (by simpa using hq) hnil
            | some q => exact ⟨_, q, snoc_of_last hq⟩
          obtain ⟨g, cp, rfl, hg1, hg2⟩ := owns_some hown (by simp)
          have HQ := hown.cells (g := g) rfl
          have hq : wr.cell? ⟨g, l'.length * 3 + 2, none⟩ = some (.string q.v) := by
            have := HQ (l'.length * 3 + 2) (.string q.v) ((rcells_get E _ l'.length q (by simp) 2 (by omega)).trans rfl)
            rwa [WideShapes.add_plain, Nat.zero_add] at this
          have hq1 : wr.cell? ⟨g, l'.length * 3 + 1, none⟩ = some (.int .i64 q.hi) := by
            have := HQ (l'.length * 3 + 1) (.int .i64 q.hi) ((rcells_get E _ l'.length q (by simp) 1 (by omega)).trans rfl)
            rwa [WideShapes.add_plain, Nat.zero_add] at this
          clear HQ
          have AL := alike_any q.v p.v
          obtain ⟨m, hm⟩ : ∃ m, m = l'.length := ⟨_, rfl⟩
          have HM : Hid (m = l'.length) := hm
          have hlen : (l' ++ [q]).length = m + 1 := by simp [hm]
          rw [hlen] at hown hlk ⊢
          rw [← hm] at hq hq1
          clear hm hlen
          have hwm : IntKind.i64.wrap (m : Int) = (m : Int) := wrap_nat m (by omega)
          have hm1 : (m : Int) < (m : Int) + 1 := by omega
          have hm2 : (m : Int) < ((m + 1 : Nat) : Int) := by omega
          have hqd : ∀ N, ((wr.alloc (.cells #[.int .i64 p.lo, .int .i64 p.hi, .string p.v] TRun)).drewN N).cell? ⟨g, m * 3 + 2, none⟩ = some (.string q.v) := fun N => cell_later (below_drewN ((Below.refl wr.heap.size wr).alloc (Nat.le_refl _) _) N) hq
          have HO : Hid (wr.ownsRow w.heap.size TRun 3 (.slice (some ⟨g, 0, none⟩) (m + 1) cp) (m + 1) (rcells E (l' ++ [q]))) := hown
          clear hown hnil
          by_cases hv : q.v = p.v
          · have AL2 : ∀ W, Calls Tryz.prog 28 #[.string q.v, .string p.v] W fun e w' => e = .returned (.bool true) ∧ w' = W := fun W => by
              have := AL W
              simpa only [hv, decide_true] using this
            have HV : Hid (q.v = p.v) := hv
            clear hv AL
            have hfz : wr.frozen? ⟨g, m * 3 + 1, none⟩ = false := HO.out.frozenAt _
            have HE : Hid (l' ++ [{ q with hi := p.hi }] = joined (ps.take (k + 1))) := by
              show _ = _
              rw [HJ.out]; unfold joinStep; rw [if_neg he, List.getLast?_concat]; simp [HV.out]
            have H3 : Hid (∀ N, (((wr.alloc (.cells #[.int .i64 p.lo, .int .i64 p.hi, .string p.v] TRun)).drewN N).setCell ⟨g, m * 3 + 1, none⟩ (.int .i64 p.hi)).ownsRow w.heap.size TRun 3 (.slice (some ⟨g, 0, none⟩) (m + 1) cp) (l' ++ [{ q with hi := p.hi }]).length (rcells E (l' ++ [{ q with hi := p.hi }])) ∧
                Below w.heap.size w (((wr.alloc (.cells #[.int .i64 p.lo, .int .i64 p.hi, .string p.v] TRun)).drewN N).setCell ⟨g, m * 3 + 1, none⟩ (.int .i64 p.hi))) := by
              intro N
              have h0 : ((wr.alloc (.cells #[.int .i64 p.lo, .int .i64 p.hi, .string p.v] TRun)).drewN N).ownsRow w.heap.size TRun 3 (.slice (some ⟨g, 0, none⟩) (m + 1) cp) (m + 1) (rcells E (l' ++ [q])) := (HO.out).alloc _
              obtain ⟨h1, h2⟩ := h0.stored (m * 3 + 1) (.int .i64 p.hi)
              refine ⟨?_, (below_drewN (hb.alloc hb.size _) N).setCell (p := ⟨g, m * 3 + 1, none⟩) hg1 _⟩
              have e1 : (l' ++ [{ q with hi := p.hi }]).length = m + 1 := by have := HM.out; simp; omega
              rw [e1, ← set_hi, ← HM.out]
              exact h1
            go_wp2
            go_quiet (first | (go_at_call 28; exact Calls.quiet_of_same (AL2 _)) | skip)
            go_wp2
            go_roundw
            case rel => exact ⟨k + 1, l' ++ [{ q with hi := p.hi }], by omega, by go_num, HE, by have := HM.out; simp; omega, (H3.out nq).1, (H3.out nq).2⟩
            case measure => simp [intOf]; omega
          · have AL2 : ∀ W, Calls Tryz.prog 28 #[.string q.v, .string p.v] W fun e w' => e = .returned (.bool false) ∧ w' = W := fun W => by
              have := AL W
              simpa only [hv, decide_false] using this
            have HV : Hid (¬ q.v = p.v) := hv
            clear hv AL
            have HE : Hid (l' ++ [q] ++ [p] = joined (ps.take (k + 1))) := by
              show _ = _
              rw [HJ.out]; unfold joinStep; rw [if_neg he, List.getLast?_concat]; simp [HV.out]
            go_wp2
            go_quiet (first | (go_at_call 28; exact Calls.quiet_of_same (AL2 _)) | skip)
            go_wp2_with (at_builtin; refine wpList_append_own _ rfl (.tmp 15) (.tmp 17) 50 rfl w.heap.size TRun i0 _ 3 32 Tryz.underlying50 hi hz0 hz1 hz2 rfl (by decide) _ (m + 1) (rcells E (l' ++ [q])) rfl (((HO.out).alloc _).alloc _) ⟨wr.heap.size + 1, 0, none⟩ 1 1 (rcell E p) rfl (by simp [rcell]) (news3 _ _ (by simp [World.drewN]) p) (rcell_one p) (by unfold maxLen; omega) (by omega) (by have := hb.size; simp [World.drewN]; omega) ?_)
            intro v' w1 hown' hgrow _
            have hlen : (l' ++ [q]).length = m + 1 := by have := HM.out; simp; omega
            have H1 := HX.out _ w1 _ v' (l' ++ [q]) ((below_drewN (hb.alloc hb.size _) nq).alloc (by have := hb.size; simp [World.drewN]; omega) _) (by rw [hlen]; exact ((HO.out).alloc _).alloc _) (by rw [hlen]; exact hown') hgrow
            obtain ⟨ao', cp', rfl⟩ := owns_form H1.1
            have H2 : Hid (w1.ownsRow w.heap.size TRun 3 (.slice ao' (l' ++ [q] ++ [p]).length cp') (l' ++ [q] ++ [p]).length (rcells E (l' ++ [q] ++ [p]))) := H1.1
            have hb1 := H1.2
            have hl2 : Hid ((l' ++ [q] ++ [p]).length ≤ k + 1) := by show _ ≤ _; rw [List.length_append, hlen]; simp; omega
            clear H1 hown' hgrow hlen
            go_wp2
            go_roundw
            case rel => exact ⟨k + 1, l' ++ [q] ++ [p], by omega, by go_num, HE, hl2.out, H2.out, hb1⟩
            case measure => simp [intOf]; omega
    · have e : k = n := by omega
      subst e
      have HE : Hid (l = joined ps) := by have := HL.out; rwa [HN.out, List.take_length] at this
      obtain ⟨ao, cp, rfl⟩ := owns_form hown
      have HO : Hid (wr.ownsRow w.heap.size TRun 3 (.slice ao l.length cp) l.length (rcells E l)) := hown
      clear hown HL
      go_wp2
      go_ret
      have := HE.out
      subst this
      exact ⟨_, rfl, HO.out, hb⟩
end Go.Proofs.YtncajaihojhkkaaGreat.S
