import Derived.Test.YtoabigjajnikcaaTRa
import Derived.RangeFuncBox
import Derived.Deep.AppendLies
namespace Go.Proofs.Ytoabigjajnikcaa.X
open Go.RowKit Go.Maps Go.Proofs.Ytoabigjajnikcaa
attribute [local go_sem] Oper.semAt_some
set_option linter.unusedVariables false
set_option linter.unusedSimpArgs false
set_option maxRecDepth 100000

theorem one_vcl {w : World} {F : Nat → Prop} {v : Value} {e : En} (h : PV w F v e) : ∀ z ∈ vcl v, z.oneCell' = true := by
  obtain ⟨da, dc, aa, ac, rfl, _, _⟩ := h.ex
  intro z hz
  have h1 := oneEcl e da aa dc ac
  rw [Array.all_eq_true] at h1
  have hz' : z ∈ (ecl e da dc aa ac) := by simpa [vcl] using hz
  obtain ⟨i, hi, rfl⟩ := List.getElem_of_mem hz'
  exact h1 i (by simpa using hi)
/-- a row of entries behind nothing -/
theorem wpList_want (w : World) {ops : Array Oper} {rest : List Oper} {o : Oper} {a : Act} {Q : Exit → Act → World → Prop} (hgd : o.guard = none) (s x : Operand)
    (ho : o.op = .call { callee := .builtin .append, args := #[s, x], argTypes := #[TEns, TEns] }) (hs : a.eval s = .slice none 0 0)
    (u : Value) (m : Nat) (news : List Value) (hx : a.eval x = u) (hu : w.ownsRow 0 TEn 9 u m news) (h1 : ∀ z ∈ news, z.oneCell' = true) (hm : m ≤ 64)
    (h : ∀ ao cap w', w'.ownsRow w.heap.size TEn 9 (.slice ao m cap) m news → Below w.heap.size w w' → wpList Try.prog ops Q rest (a.put o.dst (.slice ao m cap)) w') : wpList Try.prog ops Q (o :: rest) a w := by
  obtain ⟨i0, hi, hz0, hz1, hz2⟩ := info_parts infoE
  rcases hu.2 with ⟨hv, hn⟩ | ⟨g, cap, cur, hv, _, hg, hnc, hcm, hsz, htk⟩
  · subst hv; subst hn
    have hxs : news = [] := List.eq_nil_of_length_eq_zero (by simpa using hu.1)
    subst hxs
    refine wpList_append_own_none hgd s x TEns ho w.heap.size TEn i0 9 Try.underlying61 hi (.slice none 0 0) 0 [] hs (World.ownsRow_nil _ _ _ _) hx ?_
    exact h none 0 w (World.ownsRow_nil _ _ _ _) (Below.refl _ _)
  · subst hv
    refine wpList_append_own w hgd s x TEns ho w.heap.size TEn i0 (.agg zC) 9 96 Try.underlying61 hi hz0 hz1 hz2 rfl (by omega) (.slice none 0 0) 0 [] hs (World.ownsRow_nil _ _ _ _) ⟨g, 0, none⟩ m cap news hx hu.1 (fun j z hz => ?_) h1 (by unfold maxLen; omega) (by omega) (Nat.le_refl _) ?_
    · rw [add_plain, Nat.zero_add, hu.cellAt j (by have := (List.getElem?_eq_some_iff.1 hz).1; have := hu.1; omega)]; exact hz
    · intro v1 w1 ho1 hg1 hn1
      rw [Nat.zero_add] at ho1
      obtain ⟨ao, cp, rfl⟩ := owns_form9 ho1
      exact h ao cp w1 ho1 ((Below.refl _ _).grown hg1 (Nat.le_refl _) (by intro k hk; simp [Value.ownBlock] at hk))
theorem _root_.Go.Proofs.Ytoabigjajnikcaa.P2.mono {w : World} {n0 n1 : Nat} {F G : Nat → Prop} {b bm p : Nat} {V U : Int → Value} {v : Value} {S S2 : St} (h : P2 w n0 F G b bm p V v U S S2) (hn : n1 ≤ n0) : P2 w n1 F G b bm p V v U S S2 := ⟨h.t, h.r, h.ap, fun g hg => Nat.le_trans hn (h.lo g hg), Nat.le_trans hn h.le⟩
set_option maxHeartbeats 8000000 in
theorem ranges_bad (w : World) (most stop : Int) (hm : most < 1 ∨ 64 < most) (v1 : Value) : Calls Try.prog 8 #[.int .i64 most, v1, .int .i64 stop] w fun r w' => r = .returned (.bool true) ∧ Below w.heap.size w w' := by
  refine (callsIn_wide (n := 4)).1 ?_
  have f0 : Fence.wide.fn 8 := trivial
  refine callsIn_of_wp_marks Try.func8 rfl f0 ?_ rfl
  simp only [Try.ntmps8, List.size_toArray, List.length_cons, List.length_nil, Nat.reduceAdd, Nat.reduceSub, Array.replicate_succ, Array.replicate_zero, List.push_toArray, List.append_toArray, List.nil_append, List.cons_append]
  refine wpIn_wide.2 ?_
  go_wp2_with fail
  refine Calls.mono (made_bad _ most hm) ?_
  rintro r w1 ⟨rfl, hw⟩
  rw [hw]; clear hw w1
  have HX : Hid _ := mkb2 (w.alloc (.cells #[.int .i64 stop] 3)) #[.pointer none] #[.pointer none] 22 23
  have H0 : Hid _ := below1 w (.cells #[.int .i64 stop] 3)
  go_wp2_with fail
  refine Calls.mono (heads_any _) ?_
  rintro r w1 ⟨rfl, hb⟩
  have HB : Hid _ := HX.out.later hb
  have c1 : w1.cell? ⟨w.heap.size + 1, 0, none⟩ = some (.pointer none) := by
    have := (blk_at HB.out.a 0).trans rfl
    rw [size1] at this; exact this
  clear hb
  go_wp2
  refine ⟨_, results_tmp rfl _ _ _, rfl, H0.out.trans (HB.out.bel.mono (by rw [size1]; omega))⟩
end Go.Proofs.Ytoabigjajnikcaa.X
