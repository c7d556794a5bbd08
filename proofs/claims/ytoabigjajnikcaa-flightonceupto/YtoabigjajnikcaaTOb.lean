import Derived.Test.YtoabigjajnikcaaTOa
namespace Go.Proofs.Ytoabigjajnikcaa.O
open Go.RowKit Go.Maps Go.Proofs.Ytoabigjajnikcaa
attribute [local go_sem] Oper.semAt_some
set_option linter.unusedVariables false
set_option linter.unusedSimpArgs false
set_option maxRecDepth 100000

section
variable {W W' : World} {F F' : Nat → Prop} {b bm : Nat} {V V' : Int → Value} {S S' : St} {vi vq vr va vi' vq' vr' va' : Value} {D D' : Nat → Prop} {Is Is' : List Int} {Qs Qs' : List Qx} {Rs Rs' : List Bool} {As As' : List Ax}
theorem Same.lens (h : Same S Is Qs Rs As) {n : Nat} (hn : S.L.length = n) : Is.length = n ∧ Qs.length = n ∧ Rs.length = n ∧ As.length = n := by
  have h1 := congrArg List.length h.q
  have h2 := congrArg List.length h.a
  have h3 := congrArg List.length h.r
  have h4 := congrArg List.length h.i
  simp [ids] at h1 h2 h3 h4
  omega
theorem On.forms (h : On W F b bm V S vi vq vr va D Is Qs Rs As) (hs : Same S Is Qs Rs As) {n : Nat} (hn : S.L.length = n) : ∃ ai ci aq cq ar cr aa ca, vi = .slice ai n ci ∧ vq = .slice aq n cq ∧ vr = .slice ar n cr ∧ va = .slice aa n ca := by
  obtain ⟨h1, h2, h3, h4⟩ := hs.lens hn
  obtain ⟨ai, ci, e1⟩ := owns_form9 h.i
  obtain ⟨aq, cq, e2⟩ := owns_form9 h.q
  obtain ⟨ar, cr, e3⟩ := owns_form9 h.r
  obtain ⟨aa, ca, e4⟩ := owns_form9 h.a
  rw [h1] at e1; rw [h2] at e2; rw [h3] at e3; rw [h4] at e4
  exact ⟨ai, ci, aq, cq, ar, cr, aa, ca, e1, e2, e3, e4⟩
def LoV (n0 : Nat) (vi vq vr va : Value) : Prop := ∀ g, vi.ownBlock = some g ∨ vq.ownBlock = some g ∨ vr.ownBlock = some g ∨ va.ownBlock = some g → n0 ≤ g
theorem On.idCell (h : On W F b bm V S vi vq vr va D Is Qs Rs As) {ai : Option Addr} {n ci : Nat} (hv : vi = .slice ai n ci) (hn : Is.length = n) (k : Nat) (hk : k < n) : ∃ g, ai = some ⟨g, 0, none⟩ ∧ W.cell? ⟨g, k, none⟩ = some (.int .i64 (Is[k]?.getD 0)) := by
  have ho := h.i
  rw [hv, hn] at ho
  obtain ⟨g, rfl⟩ : ∃ g, ai = some ⟨g, 0, none⟩ := by
    rcases ho.2 with ⟨_, h0⟩ | ⟨g, c, cur, hv, _⟩
    · omega
    · simp only [Value.slice.injEq] at hv; exact ⟨g, hv.1⟩
  exact ⟨g, rfl, iv_cell ho hn k hk⟩
end
/-- where a number stands -/
def AtP (Is : List Int) (id : Int) (k : Nat) (at_ : Int) : Prop := (at_ = -1 ∧ ∀ j, j < k → Is[j]?.getD 0 ≠ id) ∨ ∃ j : Nat, j < k ∧ at_ = j ∧ Is[j]?.getD 0 = id
set_option maxHeartbeats 8000000 in
theorem once_bad (w : World) (most : Int) (hm : most < 1 ∨ 64 < most) (v1 : Value) : Calls Try.prog 7 #[.int .i64 most, v1] w fun r w' => r = .returned (.bool true) ∧ Below w.heap.size w w' := by
  rcases hm with hm | hm
  · go_enter Try.func7, Try.ntmps7
    go_wp2_with fail
    refine Calls.mono (heads_any w) ?_
    rintro r w1 ⟨rfl, hb⟩
    have HB : Hid _ := hb
    clear hb
    go_wp2_with fail
    refine Calls.mono (new_bad most (.inl hm)) ?_
    rintro r w2 ⟨rfl, hw⟩
    rw [hw]; clear hw
    go_wp2
    go_ret
    exact ⟨rfl, HB.out⟩
  · have h1 : ¬ most < 1 := by omega
    go_enter Try.func7, Try.ntmps7
    go_wp2_with fail
    refine Calls.mono (heads_any w) ?_
    rintro r w1 ⟨rfl, hb⟩
    have HB : Hid _ := hb
    clear hb
    go_wp2_with fail
    refine Calls.mono (new_bad most (.inr hm)) ?_
    rintro r w2 ⟨rfl, hw⟩
    rw [hw]; clear hw
    go_wp2
    go_ret
    exact ⟨rfl, HB.out⟩
end Go.Proofs.Ytoabigjajnikcaa.O
