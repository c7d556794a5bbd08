import Derived.Test.YtijafckdbhklmabYX
import Derived.Test.YtijafckdbhklmabXO
import Derived.Deep.QuietTactic
import Derived.BigQuiet
namespace Go.Proofs.Ytijafckdbhklmab.B
open Go.RowKit Go.Sort Go.Lib Go.Shelf
attribute [local go_sem] Oper.semAt_some
set_option linter.unusedVariables false
set_option linter.unusedSimpArgs false
set_option maxRecDepth 100000

/-- a list of ranges in a value -/
def SL (w : World) (v : Value) (l : List (Int × Int)) : Prop := ∃ ao cap, v = .slice ao l.length cap ∧ l.length ≤ 8796093022207 ∧ Rngs w ao l
theorem SL.later {w w' : World} {v : Value} {l : List (Int × Int)} (h : SL w v l) (hb : Below w.heap.size w w') : SL w' v l := by
  obtain ⟨ao, cap, e, h1, h2⟩ := h
  exact ⟨ao, cap, e, h1, h2.later hb⟩
theorem sl_row {w : World} {B : Nat} {v : Value} {L : List (Int × Int)} (h : w.ownsRow B TRng 2 v L.length (pcells L)) (hl : L.length ≤ 8796093022207) : SL w v L := by
  rcases h.2 with ⟨hv, hn⟩ | ⟨g, cap, cur, hv, _⟩
  · exact ⟨none, 0, by rw [hn]; exact hv, hl, fun k p hk => by have := (List.getElem?_eq_some_iff.1 hk).1; omega⟩
  · refine ⟨some ⟨g, 0, none⟩, cap, hv, hl, fun k p hk => ⟨g, 0, rfl, ?_⟩⟩
    obtain ⟨h1, h2⟩ := pcells_get L k p hk
    have c1 := h.cells (g := g) (by rw [hv]; rfl) _ _ h1
    have c2 := h.cells (g := g) (by rw [hv]; rfl) _ _ h2
    rw [WideShapes.add_plain] at c1 c2
    exact ⟨c1, by rw [Nat.add_assoc]; exact c2⟩
theorem norm_pick {p : Bool → Bool → Bool} {ra rb : List (Rn Bool)} {la lb : List (Int × Int)} {S : Int → Prop} (ha : SetR ra la) (hb : SetR rb lb) (hS : ∀ i x y, (x = true ↔ inL la i) → (y = true ↔ inL lb i) → (p x y = true ↔ S i)) : Norm (lst (pickR p (side ra rb))) S := by
  obtain ⟨t, a⟩ := pickR_good p (side ra rb)
  refine ⟨_, t, a, fun i h0 h1 => ?_, rfl⟩
  obtain ⟨x, hx⟩ := ha.1.covers h0 h1
  obtain ⟨y, hy⟩ := hb.1.covers h0 h1
  have hxy := pick_side p ha.1 hb.1 hx hy
  have ex : x = true ↔ inL la i := ⟨fun e => ((ha.2.2 i).1 (by rw [← e]; exact hx)).2.2, fun e => ha.1.one hx ((ha.2.2 i).2 ⟨h0, h1, e⟩)⟩
  have ey : y = true ↔ inL lb i := ⟨fun e => ((hb.2.2 i).1 (by rw [← e]; exact hy)).2.2, fun e => hb.1.one hy ((hb.2.2 i).2 ⟨h0, h1, e⟩)⟩
  rw [← hS i x y ex ey]
  exact ⟨fun h => t.one hxy h, fun h => by rw [← h]; exact hxy⟩
theorem union_any {w : World} {v1 v2 : Value} {la lb : List (Int × Int)} (h1 : SL w v1 la) (h2 : SL w v2 lb) :
    Calls Try.prog 26 #[v1, v2] w fun e w' => ∃ v L, e = .returned v ∧ Norm L (fun i => inL la i ∨ inL lb i) ∧ SL w' v L ∧ Below w.heap.size w w' := by
  obtain ⟨ao, ca, rfl, hna, HA⟩ := h1
  obtain ⟨bo, cb, rfl, hnb, HB⟩ := h2
  have HP : Hid (Calls Try.prog 48 #[.slice ao la.length ca, .slice bo lb.length cb, .func (.func 49) #[] #[]] w fun e w' => ∃ v L, e = .returned v ∧ Norm L (fun i => inL la i ∨ inL lb i) ∧ SL w' v L ∧ Below w.heap.size w w') := by
    refine (picked_any (.inl ⟨rfl, rfl⟩) ao bo ca _ cb _ la lb w rfl hna HA rfl hnb HB).mono ?_
    rintro e w' ⟨v, ra, rb, rfl, sa, sb, ho, hb⟩
    have hN := norm_pick (p := fun a b => a || b) (S := fun i => inL la i ∨ inL lb i) sa sb (fun i x y hx hy => by rw [← hx, ← hy, Bool.or_eq_true])
    exact ⟨v, _, rfl, hN, sl_row ho (by have := norm_len hN; omega), hb⟩
  clear HA HB hna hnb
  go_enter Try.func26, Try.ntmps26
  go_wp2_with (go_at_call 48; refine HP.out.mono ?_; rintro e w9 ⟨v9, L, rfl, hr⟩)
  go_ret
  exact ⟨v9, L, rfl, hr⟩
theorem minus_any {w : World} {v1 v2 : Value} {la lb : List (Int × Int)} (h1 : SL w v1 la) (h2 : SL w v2 lb) :
    Calls Try.prog 27 #[v1, v2] w fun e w' => ∃ v L, e = .returned v ∧ Norm L (fun i => inL la i ∧ ¬ inL lb i) ∧ SL w' v L ∧ Below w.heap.size w w' := by
  obtain ⟨ao, ca, rfl, hna, HA⟩ := h1
  obtain ⟨bo, cb, rfl, hnb, HB⟩ := h2
  have HP : Hid (Calls Try.prog 48 #[.slice ao la.length ca, .slice bo lb.length cb, .func (.func 50) #[] #[]] w fun e w' => ∃ v L, e = .returned v ∧ Norm L (fun i => inL la i ∧ ¬ inL lb i) ∧ SL w' v L ∧ Below w.heap.size w w') := by
    refine (picked_any (.inr (.inl ⟨rfl, rfl⟩)) ao bo ca _ cb _ la lb w rfl hna HA rfl hnb HB).mono ?_
    rintro e w' ⟨v, ra, rb, rfl, sa, sb, ho, hb⟩
    have hN := norm_pick (p := fun a b => a && !b) (S := fun i => inL la i ∧ ¬ inL lb i) sa sb (fun i x y hx hy => by rw [← hx, ← hy, Bool.and_eq_true]; cases y <;> simp)
    exact ⟨v, _, rfl, hN, sl_row ho (by have := norm_len hN; omega), hb⟩
  clear HA HB hna hnb
  go_enter Try.func27, Try.ntmps27
  go_wp2_with (go_at_call 48; refine HP.out.mono ?_; rintro e w9 ⟨v9, L, rfl, hr⟩)
  go_ret
  exact ⟨v9, L, rfl, hr⟩
theorem meet_any {w : World} {v1 v2 : Value} {la lb : List (Int × Int)} (h1 : SL w v1 la) (h2 : SL w v2 lb) :
    Calls Try.prog 28 #[v1, v2] w fun e w' => ∃ v L, e = .returned v ∧ Norm L (fun i => inL la i ∧ inL lb i) ∧ SL w' v L ∧ Below w.heap.size w w' := by
  obtain ⟨ao, ca, rfl, hna, HA⟩ := h1
  obtain ⟨bo, cb, rfl, hnb, HB⟩ := h2
  have HP : Hid (Calls Try.prog 48 #[.slice ao la.length ca, .slice bo lb.length cb, .func (.func 51) #[] #[]] w fun e w' => ∃ v L, e = .returned v ∧ Norm L (fun i => inL la i ∧ inL lb i) ∧ SL w' v L ∧ Below w.heap.size w w') := by
    refine (picked_any (.inr (.inr ⟨rfl, rfl⟩)) ao bo ca _ cb _ la lb w rfl hna HA rfl hnb HB).mono ?_
    rintro e w' ⟨v, ra, rb, rfl, sa, sb, ho, hb⟩
    have hN := norm_pick (p := fun a b => a && b) (S := fun i => inL la i ∧ inL lb i) sa sb (fun i x y hx hy => by rw [← hx, ← hy, Bool.and_eq_true])
    exact ⟨v, _, rfl, hN, sl_row ho (by have := norm_len hN; omega), hb⟩
  clear HA HB hna hnb
  go_enter Try.func28, Try.ntmps28
  go_wp2_with (go_at_call 48; refine HP.out.mono ?_; rintro e w9 ⟨v9, L, rfl, hr⟩)
  go_ret
  exact ⟨v9, L, rfl, hr⟩
theorem normal_sl {w : World} {v1 : Value} {la : List (Int × Int)} (h1 : SL w v1 la) :
    Calls Try.prog 22 #[v1] w fun e w' => ∃ v L, e = .returned v ∧ Norm L (inL la) ∧ SL w' v L ∧ Below w.heap.size w w' := by
  obtain ⟨ao, ca, rfl, hna, HA⟩ := h1
  refine (normal_any ao ca _ la w rfl hna HA).mono ?_
  rintro e w' ⟨v, L, rfl, hN, ho, hb⟩
  exact ⟨v, L, rfl, hN, sl_row ho (by have := norm_len hN; omega), hb⟩
theorem sum_part : ∀ {R : List (Rn Bool)} {lo hi : Int}, Tiles lo hi R → ∀ k, 0 ≤ sumL ((lst R).take k) ∧ sumL ((lst R).take k) ≤ hi - lo
  | [], lo, hi, h, k => by
    simp only [Tiles] at h
    simp [lst, sumL]; omega
  | r :: R, lo, hi, ⟨e, h1, h2⟩, k => by
    have h3 := h2.le
    cases hv : r.v with
    | true =>
      have el : lst (r :: R) = (r.lo, r.hi) :: lst R := by simp [lst, hv]
      rw [el]
      cases k with
      | zero => simp [sumL]; omega
      | succ k =>
        have := sum_part h2 k
        simp only [List.take_succ_cons, sumL, List.map_cons, List.sum_cons] at this ⊢
        omega
    | false =>
      have el : lst (r :: R) = lst R := by simp [lst, hv]
      rw [el]
      have := sum_part h2 k
      omega
theorem norm_elem {L : List (Int × Int)} {S : Int → Prop} (h : Norm L S) {q : Int × Int} (hq : q ∈ L) : 0 ≤ q.1 ∧ q.1 < q.2 ∧ q.2 ≤ 1099511627776 := by
  obtain ⟨R, t, a, hh, rfl⟩ := h
  obtain ⟨r, hr, rfl⟩ := List.mem_map.1 hq
  have := tiles_within (a := 0) (Int.le_refl 0) t r (List.mem_filter.1 hr).1
  exact this
set_option maxHeartbeats 4000000 in
theorem sum_any {w : World} {v1 : Value} {la : List (Int × Int)} (h1 : SL w v1 la) :
    Calls Try.prog 24 #[v1] w fun e w' => e = .returned (.int .i64 (cnt (inB la) 0 1099511627776)) ∧ Below w.heap.size w w' := by
  have HN : Hid (Calls Try.prog 22 #[v1] w fun e w' => ∃ ao cap L, e = .returned (.slice ao L.length cap) ∧ Norm L (inL la) ∧ L.length ≤ 8796093022207 ∧ Rngs w' ao L ∧ Below w.heap.size w w') := (normal_sl h1).mono fun e w' ⟨v, L, he, hN, ⟨ao, cap, hv, hl, hR⟩, hb⟩ => ⟨ao, cap, L, by rw [he, hv], hN, hl, hR, hb⟩
  clear h1
  go_enter Try.func24, Try.ntmps24
  go_wp2_with (go_at_call 22; refine HN.out.mono ?_; rintro e w1 ⟨ao, cap, L, rfl, hN, hl, hR, hb1⟩)
  have HS : Hid (sumL L = cnt (inB la) 0 1099511627776) := norm_sum hN _ (fun i _ _ => inB_iff la i)
  have HE : Hid (∀ q ∈ L, 0 ≤ q.1 ∧ q.1 < q.2 ∧ q.2 ≤ 1099511627776) := fun q hq => norm_elem hN hq
  have HPt : Hid (∀ k, 0 ≤ sumL (L.take k) ∧ sumL (L.take k) ≤ 1099511627776) := fun k => by
    obtain ⟨R, t, a, hh, rfl⟩ := hN
    have := sum_part t k
    omega
  have HR : Hid (Rngs w1 ao L) := hR
  have HB1 : Hid (Below w.heap.size w w1) := hb1
  obtain ⟨n, hn⟩ : ∃ n, n = L.length := ⟨_, rfl⟩
  rw [← hn] at hl ⊢
  have HL : Hid (n = L.length) := hn
  clear hn hN hR hb1 HN
  go_loopw [3, 9] (fun s i wr => ∃ (k : Nat), k ≤ n ∧ i = .int .i64 k ∧ s = .int .i64 (sumL (L.take k)) ∧ Hid (Below w1.heap.size w1 wr)) (fun _ i _ => n - (intOf i).toNat)
  case atStart => exact ⟨0, Nat.zero_le _, rfl, rfl, Below.refl _ _⟩
  case round =>
    obtain ⟨k, hk, rfl, rfl, HBk⟩ := hrel
    by_cases hlt : k < n
    · obtain ⟨q, hq⟩ : ∃ q, L[k]? = some q := ⟨_, List.getElem?_eq_getElem (by have := HL.out; omega)⟩
      obtain ⟨b, off, rfl, d0, d1⟩ := HR.out k q hq
      have c0 := cell_later HBk.out d0
      have c1 := cell_later HBk.out d1
      have hkz : (k : Int) < (n : Int) := by omega
      have HT : Hid (sumL (L.take (k + 1)) = sumL (L.take k) + (q.2 - q.1)) := by
        show _ = _
        rw [List.take_add_one, hq]; simp [sumL]
      have hqe := HE.out q (List.mem_of_getElem? hq)
      have hp1 := HPt.out k
      obtain ⟨cur, hcur⟩ : ∃ cur, cur = sumL (L.take k) := ⟨_, rfl⟩
      rw [← hcur] at hp1 HT ⊢
      have w1' : IntKind.i64.wrap (q.2 - q.1) = q.2 - q.1 := by rw [IntKind.wrap_i64]; omega
      have w2' : IntKind.i64.wrap (cur + (q.2 - q.1)) = cur + (q.2 - q.1) := by rw [IntKind.wrap_i64]; omega
      have HB2 : Hid (∀ o, Below w1.heap.size w1 (wr.alloc o)) := fun o => HBk.out.alloc HBk.out.size o
      clear d0 d1 hq hqe hp1 hcur
      go_wp2
      go_roundw
      case rel => exact ⟨k + 1, by omega, by go_num, by rw [HT.out], HB2.out _⟩
      case measure => simp [intOf]; omega
    · have e : k = n := by omega
      subst e
      have HE2 : Hid (L.take k = L) := by show _ = _; rw [HL.out, List.take_length]
      rw [HE2.out, HS.out]
      go_wp2
      go_ret
      exact ⟨rfl, HB1.out.trans (HBk.out.mono HB1.out.size)⟩
theorem neqRng (a b : Int) (w : World) : (binOp .neq 57 (.agg #[.int .i64 a, .int .i64 b]) (.agg #[.int .i64 a, .int .i64 b])).run Try.prog w = .ok (.bool false) w := by
  have u3 := Try.underlying2
  have a3 := Try.isAgg2
  have z3 := Try.sizeOf2
  have hS : Try.prog.underlying 57 = some (.struct (Try.prog.fieldsOf 57)) := by kernel_rfl
  have hp : Try.prog.stoodInHeld 57 = false := by kernel_rfl
  rw [run_neq_struct, show (10000 : Nat) = 9999 + 1 from rfl, run_equalIn_agg w 9999 57 _ _ hS hp]
  simp only [Program.fieldsOf, Try.underlying57]
  go_simp
set_option maxHeartbeats 4000000 in
theorem ranges_same {w : World} {v1 v2 : Value} {L : List (Int × Int)} (h1 : SL w v1 L) (h2 : SL w v2 L) :
    Calls Try.prog 21 #[v1, v2] w fun e w' => e = .returned (.bool true) ∧ Below w.heap.size w w' := by
  obtain ⟨ao, ca, rfl, hl, hA⟩ := h1
  obtain ⟨bo, cb, rfl, _, hB⟩ := h2
  have HA : Hid (Rngs w ao L) := hA
  have HB : Hid (Rngs w bo L) := hB
  have HQ := neqRng
  obtain ⟨n, hn⟩ : ∃ n, n = L.length := ⟨_, rfl⟩
  rw [← hn] at hl ⊢
  have HL : Hid (n = L.length) := hn
  have dn : ((n : Int) != (n : Int)) = false := by simp
  clear hn hA hB
  go_enter Try.func21, Try.ntmps21
  go_wp2
  go_loopw [5] (fun i wr => ∃ (k : Nat), k ≤ n ∧ i = .int .i64 k ∧ Hid (∃ d, wr = w.drewN d)) (fun i _ => n - (intOf i).toNat)
  case atStart => exact ⟨0, Nat.zero_le _, rfl, 0, rfl⟩
  case round =>
    obtain ⟨k, hk, rfl, HD⟩ := hrel
    by_cases hlt : k < n
    · obtain ⟨q, hq⟩ : ∃ q, L[k]? = some q := ⟨_, List.getElem?_eq_getElem (by have := HL.out; omega)⟩
      obtain ⟨b, off, rfl, c0, c1⟩ := HA.out k q hq
      obtain ⟨b', off', rfl, e0, e1⟩ := HB.out k q hq
      have ec : ∀ a, wr.cell? a = w.cell? a := fun a => by obtain ⟨d, rfl⟩ := HD.out; rfl
      rw [← ec] at c0 c1 e0 e1
      have HD2 : Hid (∀ n, ∃ d, wr.drewN n = w.drewN d) := fun n => by obtain ⟨d, rfl⟩ := HD.out; exact ⟨d + n, World.drewN_drewN _ _ _⟩
      have hkz : (k : Int) < (n : Int) := by omega
      clear ec hq
      go_wp2
      go_quiet (fail)
      go_wp2
      go_roundw
      case rel => exact ⟨k + 1, by omega, by go_num, HD2.out _⟩
      case measure => simp [intOf]; omega
    · have e : k = n := by omega
      subst e
      have HD3 : Hid (Below w.heap.size w wr) := by obtain ⟨d, rfl⟩ := HD.out; exact below_drewB w d
      go_wp2
      go_ret
      exact ⟨rfl, HD3.out⟩
end Go.Proofs.Ytijafckdbhklmab.B
