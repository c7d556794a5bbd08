import Derived.Test.YtefgdhoapmikhaaDoorRtK
import Derived.Test.YtefgdhoapmikhaaDoorRpCf
namespace Go.Proofs.YtefgdhoapmikhaaDoor
open Go.RowKit
set_option linter.unusedVariables false
set_option linter.unusedSimpArgs false
set_option maxRecDepth 100000
set_option maxHeartbeats 2000000 in
/-- an error is one chunk -/
theorem chunks_none (ix : Int) (st ex : Bool) (co : Option Addr) (cn cc : Nat) (fl ty ck off len : Nat) (d : Value) (cd : Nat) (pl : Bool) (at_ : Nat) (po : Option Addr) (pn pc : Nat) (lo : Option Addr) (ln lc : Nat) (w : World) (eo : Nat) (heo : (eo : Int) = if ex = true then (off : Int) else 0) (hcd : cd = 0) (hty : ty = 0) (hlen : len = 0) :
    Calls Tryd.prog 41 #[.agg #[.int .i64 ix, .bool st, .bool ex, .slice co cn cc, .int .u16 (fl : Int), .int .u16 (ty : Int), .int .u64 (ck : Int), .int .u64 (off : Int), .int .u64 (len : Int), d, .int .u32 (cd : Int), .bool pl, .int .u64 (at_ : Int), .slice po pn pc, .slice lo ln lc]] w fun e w' => ∃ g cap L, e = .returned (.slice (some ⟨g, 0, none⟩) L.length cap) ∧ Cks w w' (.slice (some ⟨g, 0, none⟩) L.length cap) L ∧ L.map Ck.say = [(1, 0, ck, eo, [])] ∧ Below w.heap.size w w' := by
  have f1 : ((cd : Int) != 0) = false := by rw [bne_eq_false_iff_eq]; omega
  have f2 : ((ty : Int) == 0) = true := by rw [beq_iff_eq]; omega
  have f3 : decide ((0 : Int) < (len : Int)) = false := by simp; omega
  have f3' : ¬ (0 : Int) < (len : Int) := by omega
  have f4 : ((ty : Int) == 7) = false := by rw [beq_eq_false_iff_ne]; omega
  obtain ⟨a0, c0, hz9⟩ : ∃ (a0 : Option Addr) (c0 : Nat), a0 = none ∧ c0 = 0 := ⟨none, 0, rfl, rfl⟩
  have HZ9 : Hid _ := hz9
  have HFl : Hid (∀ W, Calls Tryd.prog 73 #[.agg #[.int .i64 ix, .bool st, .bool ex, .slice co cn cc, .int .u16 (fl : Int), .int .u16 (ty : Int), .int .u64 (ck : Int), .int .u64 (off : Int), .int .u64 (len : Int), d, .int .u32 (cd : Int), .bool pl, .int .u64 (at_ : Int), .slice po pn pc, .slice lo ln lc], .int .u16 0, .slice none 0 0] W fun e w' => e = .returned (.agg #[.int .u16 0, .int .u16 0, .int .u64 (ck : Int), .int .u64 (eo : Int), .slice a0 0 c0]) ∧ Below W.heap.size W w') := fun W => by
    rw [HZ9.out.1, HZ9.out.2]
    exact heo ▸ chunk_any ix st ex co cn cc fl ty ck off len d cd pl at_ po pn pc lo ln lc W 0 none 0 0
  clear hcd hty hlen heo hz9
  obtain ⟨i0, hi, hz0, hz1, hz2⟩ := info_parts infoCk
  go_enter Tryd.func41, Tryd.ntmps41
  go_wp2_with fail
  have hx := mkb1 w #[.int .i64 ix, .bool st, .bool ex, .slice co cn cc, .int .u16 (fl : Int), .int .u16 (ty : Int), .int .u64 (ck : Int), .int .u64 (off : Int), .int .u64 (len : Int), d, .int .u32 (cd : Int), .bool pl, .int .u64 (at_ : Int), .slice po pn pc, .slice lo ln lc] 105
  generalize w.alloc (Obj.cells #[.int .i64 ix, .bool st, .bool ex, .slice co cn cc, .int .u16 (fl : Int), .int .u16 (ty : Int), .int .u64 (ck : Int), .int .u64 (off : Int), .int .u64 (len : Int), d, .int .u32 (cd : Int), .bool pl, .int .u64 (at_ : Int), .slice po pn pc, .slice lo ln lc] 105) = W0 at *
  refine (HFl.out _).mono ?_
  rintro e W1 ⟨rfl, hr⟩
  have H1 : Hid (Bx1 w W1 #[.int .i64 ix, .bool st, .bool ex, .slice co cn cc, .int .u16 (fl : Int), .int .u16 (ty : Int), .int .u64 (ck : Int), .int .u64 (off : Int), .int .u64 (len : Int), d, .int .u32 (cd : Int), .bool pl, .int .u64 (at_ : Int), .slice po pn pc, .slice lo ln lc] 105 ∧ Cks w W1 (.slice none 0 0) [] ∧ W1.ownsRow w.heap.size 5 1 (.slice a0 0 c0) 0 [] ∧ ∀ x ∈ ([] : List Nat), x < 256) := ⟨hx.later hr, ((Cks.nil w).later hx.bel).later hr, by rw [HZ9.out.1, HZ9.out.2]; exact World.ownsRow_nil _ _ _ _, by simp⟩
  clear hr hx HFl
  have hO : (W1.alloc (.cells (⟨0, 0, ck, eo, a0, c0, []⟩ : Ck).cells.toArray 70)).ownsRow w.heap.size 70 5 (.slice none 0 0) 0 (([] : List Ck).flatMap Ck.cells) := (H1.out.2.1.later (below1 W1 _)).own
  obtain ⟨vo, k, vc, hnil, hk0⟩ : ∃ vo k vc, Value.slice none 0 0 = Value.slice vo k vc ∧ k = 0 := ⟨none, 0, 0, rfl, rfl⟩
  have HNil : Hid (Value.slice none 0 0 = Value.slice vo k vc) := hnil
  have HK0 : Hid (k = 0) := hk0
  have hO' : (W1.alloc (.cells (⟨0, 0, ck, eo, a0, c0, []⟩ : Ck).cells.toArray 70)).ownsRow w.heap.size 70 5 (.slice vo k vc) k (([] : List Ck).flatMap Ck.cells) := by rw [← hnil]; subst hk0; exact hO
  have HO : Hid _ := hO'
  rw [hnil]
  clear hO hnil hO' hk0
  go_wp2_with (at_builtin; refine wpList_append_lies _ rfl _ _ 50 rfl w.heap.size 70 i0 (.agg #[.int .u16 0, .int .u16 0, .int .u64 0, .int .u64 0, .slice none 0 0]) 5 48 Tryd.underlying50 hi hz0 hz1 hz2 rfl (by decide) (.slice vo k vc) k (([] : List Ck).flatMap Ck.cells) rfl HO.out ⟨W1.heap.size, 0, none⟩ 1 1 (⟨0, 0, ck, eo, a0, c0, []⟩ : Ck).cells rfl rfl (news5 W1 ⟨0, 0, ck, eo, a0, c0, []⟩ _) (ck_one _) (by decide) (by rw [HK0.out]; decide) (by rw [HK0.out]; decide) (Nat.le_trans H1.out.1.bel.size (by simp)) (W1.heap.size + 1) (by simp) ?_)
  intro g7 cap7 W7 ho7 hg7 _ _
  rw [← HNil.out] at hg7
  obtain rfl := HK0.out
  have h7 := push_all H1.out.1 (by decide) H1.out.2.1 (k := 0) rfl ⟨0, 0, ck, eo, a0, c0, []⟩ _ H1.out.2.2.1 H1.out.2.2.2 ho7 hg7
  obtain ⟨g, cp, hv, hg1, hg2, hg3, hg4, hg5, u, hg6⟩ := cks_form h7.2 (by simp)
  simp at hv
  obtain ⟨rfl, rfl⟩ := hv
  simp at hg5 hg6
  have H7 : Hid (Bx1 w W7 #[.int .i64 ix, .bool st, .bool ex, .slice co cn cc, .int .u16 (fl : Int), .int .u16 (ty : Int), .int .u64 (ck : Int), .int .u64 (off : Int), .int .u64 (len : Int), d, .int .u32 (cd : Int), .bool pl, .int .u64 (at_ : Int), .slice po pn pc, .slice lo ln lc] 105 ∧ Cks w W7 (.slice (some ⟨g7, 0, none⟩) 1 cap7) [⟨0, 0, ck, eo, a0, c0, []⟩]) := h7
  clear ho7 hg7 HO H1 h7
  go_wp2
  go_ret
  refine ⟨g7, cap7, doneK [⟨0, 0, ck, eo, a0, c0, []⟩], rfl, H7.out.2.done rfl (by decide), ⟨_, rfl, rfl⟩, H7.out.1.bel.setCell hg1 _⟩
end Go.Proofs.YtefgdhoapmikhaaDoor
