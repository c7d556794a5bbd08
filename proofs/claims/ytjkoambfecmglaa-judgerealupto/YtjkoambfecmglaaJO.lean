import Derived.Test.YtjkoambfecmglaaVTz
import Derived.Handy
import Derived.Defers
import Derived.Recover
import Derived.Laws.Pointers
import Derived.Deep.RegionHeld3
import Derived.Test.YtjkoambfecmglaaVYrz
import Derived.Test.YtjkoambfecmglaaJN
namespace Go.Proofs.Ytjkoambfecmglaa
open Go.RowKit
set_option linter.unusedVariables false
set_option linter.unusedSimpArgs false
set_option maxRecDepth 100000
set_option maxHeartbeats 8000000 in
theorem mustBe_no1 (k fr t off len : Int) (da : Option Addr) (n dc : Nat) (sy : Bool) (size : Nat) (w : World) (hTm : ∀ W, Calls Try.prog 61 #[.agg #[.int .i64 k, .int .i64 fr, .int .i64 t, .int .i64 off, .int .i64 len, .slice da n dc, .bool sy]] W fun e w' => byOp e ∧ Below W.heap.size W w') : Calls Try.prog 41 #[.agg (Opv.mk k fr t off len da n dc sy).cells, .int .i64 (size : Int)] w fun e w' => byOp e ∧ Below w.heap.size w w' := by
  have HB : Hid (Below w.heap.size w (w.alloc (.cells #[.int .i64 k, .int .i64 fr, .int .i64 t, .int .i64 off, .int .i64 len, .slice da n dc, .bool sy] 50))) := (Below.refl w.heap.size w).alloc (Nat.le_refl _) _
  have HC : Hid (∀ V, Below (w.heap.size + 1) (w.alloc (.cells #[.int .i64 k, .int .i64 fr, .int .i64 t, .int .i64 off, .int .i64 len, .slice da n dc, .bool sy] 50)) V → Below w.heap.size w V ∧ Below (w.heap.size + 1) (w.alloc (.cells #[.int .i64 k, .int .i64 fr, .int .i64 t, .int .i64 off, .int .i64 len, .slice da n dc, .bool sy] 50)) V ∧ w.heap.size + 1 ≤ V.heap.size ∧ V.cell? ⟨w.heap.size, 0, none⟩ = some (.int .i64 k) ∧ V.cell? ⟨w.heap.size, 1, none⟩ = some (.int .i64 fr) ∧ V.cell? ⟨w.heap.size, 2, none⟩ = some (.int .i64 t) ∧ V.cell? ⟨w.heap.size, 3, none⟩ = some (.int .i64 off) ∧ V.cell? ⟨w.heap.size, 4, none⟩ = some (.int .i64 len) ∧ V.cell? ⟨w.heap.size, 5, none⟩ = some (.slice da n dc) ∧ V.cell? ⟨w.heap.size, 6, none⟩ = some (.bool sy)) := fun V hV => by
    have h1 := box_cells rfl V hV
    have h2 := hV.size
    rw [World.size_alloc] at h2
    exact ⟨HB.out.trans (hV.mono (by omega)), hV, h2, h1 0 _ rfl, h1 1 _ rfl, h1 2 _ rfl, h1 3 _ rfl, h1 4 _ rfl, h1 5 _ rfl, h1 6 _ rfl⟩
  have HTm : Hid _ := hTm
  clear hTm
  go_enter Try.func41, Try.ntmps41
  go_wp2_with fail
  refine (HTm.out _).mono ?_
  rintro e W1 ⟨rfl, hb⟩
  have H1 : Hid _ := HC.out W1 (hb.mono (by rw [World.size_alloc]; exact Nat.le_refl _))
  exact ⟨rfl, rfl, H1.out.1⟩
set_option maxHeartbeats 8000000 in
theorem mustBe_no2 (k fr t off len : Int) (da : Option Addr) (n dc : Nat) (sy : Bool) (size : Nat) (w : World) (hTm : ∀ W, Calls Try.prog 61 #[.agg #[.int .i64 k, .int .i64 fr, .int .i64 t, .int .i64 off, .int .i64 len, .slice da n dc, .bool sy]] W fun e w' => e = .returned (.tuple #[]) ∧ Below W.heap.size W w') (hIn : ∀ W, Calls Try.prog 62 #[.agg #[.int .i64 k, .int .i64 fr, .int .i64 t, .int .i64 off, .int .i64 len, .slice da n dc, .bool sy], .int .i64 (size : Int)] W fun e w' => byOp e ∧ Below W.heap.size W w') : Calls Try.prog 41 #[.agg (Opv.mk k fr t off len da n dc sy).cells, .int .i64 (size : Int)] w fun e w' => byOp e ∧ Below w.heap.size w w' := by
  have HB : Hid (Below w.heap.size w (w.alloc (.cells #[.int .i64 k, .int .i64 fr, .int .i64 t, .int .i64 off, .int .i64 len, .slice da n dc, .bool sy] 50))) := (Below.refl w.heap.size w).alloc (Nat.le_refl _) _
  have HC : Hid (∀ V, Below (w.heap.size + 1) (w.alloc (.cells #[.int .i64 k, .int .i64 fr, .int .i64 t, .int .i64 off, .int .i64 len, .slice da n dc, .bool sy] 50)) V → Below w.heap.size w V ∧ Below (w.heap.size + 1) (w.alloc (.cells #[.int .i64 k, .int .i64 fr, .int .i64 t, .int .i64 off, .int .i64 len, .slice da n dc, .bool sy] 50)) V ∧ w.heap.size + 1 ≤ V.heap.size ∧ V.cell? ⟨w.heap.size, 0, none⟩ = some (.int .i64 k) ∧ V.cell? ⟨w.heap.size, 1, none⟩ = some (.int .i64 fr) ∧ V.cell? ⟨w.heap.size, 2, none⟩ = some (.int .i64 t) ∧ V.cell? ⟨w.heap.size, 3, none⟩ = some (.int .i64 off) ∧ V.cell? ⟨w.heap.size, 4, none⟩ = some (.int .i64 len) ∧ V.cell? ⟨w.heap.size, 5, none⟩ = some (.slice da n dc) ∧ V.cell? ⟨w.heap.size, 6, none⟩ = some (.bool sy)) := fun V hV => by
    have h1 := box_cells rfl V hV
    have h2 := hV.size
    rw [World.size_alloc] at h2
    exact ⟨HB.out.trans (hV.mono (by omega)), hV, h2, h1 0 _ rfl, h1 1 _ rfl, h1 2 _ rfl, h1 3 _ rfl, h1 4 _ rfl, h1 5 _ rfl, h1 6 _ rfl⟩
  have HTm : Hid _ := hTm
  have HIn : Hid _ := hIn
  clear hTm hIn
  go_enter Try.func41, Try.ntmps41
  go_wp2_with fail
  refine (HTm.out _).mono ?_
  rintro e W1 ⟨rfl, hb⟩
  have H1 : Hid _ := HC.out W1 (hb.mono (by rw [World.size_alloc]; exact Nat.le_refl _))
  clear hb
  obtain ⟨_, _, _, c0, c1, c2, c3, c4, c5, c6⟩ := H1.out
  go_wp2_with fail
  refine (HIn.out _).mono ?_
  rintro e W2 ⟨rfl, hb⟩
  have H2 : Hid _ := HC.out W2 (H1.out.2.1.trans (hb.mono H1.out.2.2.1))
  exact ⟨rfl, rfl, H2.out.1⟩
theorem may_eq (o : Opv) (size : Nat) : o.may size = (decide (0 ≤ o.fr) && ((!(o.to_ != -1) || decide (o.fr ≤ o.to_)) && ((o.to_ != -1) || !o.sy)) && ((decide (0 ≤ o.off) && decide (o.off ≤ (size : Int))) && (decide (0 ≤ o.len) && decide (o.len ≤ (size : Int) - o.off))) && kOK o.k o.off o.len o.n (o.to_ != -1) o.sy) := by
  rw [Bool.eq_iff_iff]
  constructor
  · intro h
    obtain ⟨k1, k4, fr0, to1, off0, len0, offn, lenn, fl, sy, da⟩ := Opv.may_of h
    have a1 : decide (0 ≤ o.fr) = true := decide_eq_true fr0
    have a2 : (decide (0 ≤ o.off) && decide (o.off ≤ (size : Int)) && (decide (0 ≤ o.len) && decide (o.len ≤ (size : Int) - o.off))) = true := by simp; omega
    have a3 : ((!(o.to_ != -1) || decide (o.fr ≤ o.to_)) && ((o.to_ != -1) || !o.sy)) = true := by
      cases hs : o.sy with
      | true => have := (sy hs).1; simp; omega
      | false => simp; omega
    rw [a1, a2, a3]
    simp only [Bool.true_and, Bool.and_true]
    unfold kOK
    by_cases e1 : o.k = 1
    · have hs : o.sy = false := by
        cases hs : o.sy with
        | true => exact absurd e1 (sy hs).2
        | false => rfl
      rw [if_pos e1, hs]
      by_cases ht : o.to_ = -1
      · rw [if_neg (by omega)] at da
        simp [ht, da]
      · rw [if_pos (.inr ⟨e1, ht⟩)] at da
        simp [ht, da]
    rw [if_neg e1]
    by_cases e2 : o.k = 2
    · rw [if_pos e2]
      rw [if_pos (.inl e2)] at da
      simpa using da
    rw [if_neg e2]
    rw [if_neg (by omega)] at da
    by_cases e3 : o.k = 3
    · rw [if_pos e3]; simpa using da
    rw [if_neg e3, if_pos (by omega)]
    have := fl (by omega)
    simp [da, this.1, this.2]
  · intro h
    simp only [Bool.and_eq_true] at h
    obtain ⟨⟨⟨a1, a3, a4⟩, ⟨b1, b2⟩, b3, b4⟩, hk⟩ := h
    have a1 := of_decide_eq_true a1
    have b1 := of_decide_eq_true b1
    have b2 := of_decide_eq_true b2
    have b3 := of_decide_eq_true b3
    have b4 := of_decide_eq_true b4
    have a3' : o.to_ = -1 ∨ o.fr ≤ o.to_ := by
      rcases (Bool.or_eq_true_iff.1 a3) with h | h
      · left; simpa using h
      · right; exact of_decide_eq_true h
    have a4' : o.sy = true → o.to_ ≠ -1 := by
      intro hs; rw [hs] at a4; simpa using a4
    unfold kOK at hk
    have key : 1 ≤ o.k ∧ o.k ≤ 4 ∧ (o.k = 4 → o.off = 0 ∧ o.len = 0) ∧ (o.k = 1 → o.sy = false) ∧ (if o.k = 2 ∨ (o.k = 1 ∧ o.to_ ≠ -1) then ((o.n : Int) == o.len) else ((o.n : Int) == 0)) = true := by
      by_cases e1 : o.k = 1
      · rw [if_pos e1] at hk
        by_cases ht : o.to_ = -1
        · rw [if_neg (by omega)]
          simp [ht] at hk
          exact ⟨by omega, by omega, fun h => absurd h (by omega), fun _ => hk.1, by simpa using hk.2⟩
        · rw [if_pos (.inr ⟨e1, ht⟩)]
          simp [ht] at hk
          exact ⟨by omega, by omega, fun h => absurd h (by omega), fun _ => hk.1, by simpa using hk.2⟩
      rw [if_neg e1] at hk
      by_cases e2 : o.k = 2
      · rw [if_pos e2] at hk
        rw [if_pos (.inl e2)]
        exact ⟨by omega, by omega, fun h => absurd h (by omega), fun h => absurd h e1, hk⟩
      rw [if_neg e2] at hk
      rw [if_neg (by omega)]
      by_cases e3 : o.k = 3
      · rw [if_pos e3] at hk
        exact ⟨by omega, by omega, fun h => absurd h (by omega), fun h => absurd h e1, hk⟩
      rw [if_neg e3] at hk
      by_cases e4 : o.k = 4
      · rw [if_pos e4] at hk
        simp at hk
        exact ⟨by omega, by omega, fun _ => hk.2, fun h => absurd h e1, by simpa using hk.1⟩
      · rw [if_neg e4] at hk; cases hk
    obtain ⟨k1, k4, kf, ks, kd⟩ := key
    unfold Opv.may
    rw [if_neg (by omega), if_neg (by omega), if_neg (by omega), if_neg (by omega), if_neg (by omega), if_neg (by omega), if_neg (by omega), if_neg (by omega), if_neg (by rintro ⟨h1, h2⟩; have := kf h1; omega), if_neg (by rintro ⟨h1, h2 | h2⟩; exact a4' h1 h2; have := ks h2; rw [h1] at this; cases this)]
    exact kd
theorem mustBe_any (o : Opv) (size : Nat) (w : World) (hs : size ≤ 4096) : Calls Try.prog 41 #[.agg o.cells, .int .i64 (size : Int)] w fun e w' => endsBy (o.may size) e ∧ Below w.heap.size w w' := by
  rw [may_eq]
  obtain ⟨k, fr, t, off, len, da, n, dc, sy⟩ := o
  by_cases hf : fr < 0
  · refine (mustBe_no1 k fr t off len da n dc sy size w (fun W => timed_neg k fr t off len da n dc sy W hf)).mono ?_
    rintro e w' ⟨rfl, hb⟩
    exact ⟨.no (by have : decide (0 ≤ fr) = false := decide_eq_false (by omega); simp only [this, Bool.false_and]), hb⟩
  have h0 : decide (0 ≤ fr) = true := decide_eq_true (by omega)
  cases hT : ((!(t != -1) || decide (fr ≤ t)) && ((t != -1) || !sy)) with
  | false =>
    refine (mustBe_no1 k fr t off len da n dc sy size w (fun W => (timed_ok k fr t off len da n dc sy W hf).mono (fun e w' h => ⟨h.1.2 hT, h.2⟩))).mono ?_
    rintro e w' ⟨rfl, hb⟩
    exact ⟨.no (by simp only [hT, Bool.and_false, Bool.false_and]), hb⟩
  | true =>
    cases hI : ((decide (0 ≤ off) && decide (off ≤ (size : Int))) && (decide (0 ≤ len) && decide (len ≤ (size : Int) - off))) with
    | false =>
      refine (mustBe_no2 k fr t off len da n dc sy size w (fun W => (timed_ok k fr t off len da n dc sy W hf).mono (fun e w' h => ⟨h.1.1 hT, h.2⟩)) (fun W => (inside_any k fr t off len da n dc sy size W hs).mono (fun e w' h => ⟨h.1.2 hI, h.2⟩))).mono ?_
      rintro e w' ⟨rfl, hb⟩
      exact ⟨.no (by simp only [hI, Bool.and_false, Bool.false_and]), hb⟩
    | true =>
      refine (kinds_any k fr t off len da n dc sy size w hs hf hT hI).mono ?_
      rintro e w' ⟨he, hb⟩
      refine ⟨?_, hb⟩
      simp only [h0, hT, hI, Bool.true_and]
      exact he
end Go.Proofs.Ytjkoambfecmglaa

namespace Go.Proofs.Ytjkoambfecmglaa
open Go.RowKit
set_option linter.unusedVariables false
set_option linter.unusedSimpArgs false
set_option maxRecDepth 100000
theorem assert_errno (n : Int) (w : World) : (Instr.typeAssert (.iface 27 (.int .i64 n)) 20 27 true).run Try.prog w = .ok (.tuple #[.int .i64 n, .bool true]) w := by
  simp [Instr.typeAssert, run_underlying Try.underlying27, go_sem]
theorem assert_nil (w : World) : (Instr.typeAssert .nilIface 20 27 true).run Try.prog w = .ok (.tuple #[.int .i64 0, .bool false]) w := by
  have hz : (Try.prog.info? 27).map (·.zero) = some (some (.int .i64 0)) := by kernel_rfl
  obtain ⟨i, hi, hz⟩ := Option.map_eq_some_iff.1 hz
  simp [Instr.typeAssert, run_underlying Try.underlying27, go_sem, zeroValue, typeInfo, hi, hz]
set_option maxHeartbeats 4000000 in
theorem catch_panicking (p : Addr) (x : Value) (n : Int) (older : List PanicEntry) (w : World) (hc : w.cell? p = some x) (hz : w.frozen? p = false) :
    CallsD Try.prog 40 #[.pointer (some p)] (.panicking ({ v := .iface 27 (.int .i64 n), recovered := false } :: older)) w fun e u' w' =>
      e = .returned (.tuple #[]) ∧ u' = .panicking ({ v := .iface 27 (.int .i64 n), recovered := true } :: older) ∧ w' = w.setCell p (.int .i64 n) := by
  refine callsD_of_wpS Try.func40 rfl fun c₀ cs hu => ?_
  have ha := fun w => assert_errno n w
  apply wpS_seq
  apply wpS_region
  simp [wpOpsS, go_sem, recoverD, hu, Try.ntmps40, Exit.thenS, ha]
  apply wpS_seq
  apply wpS_region
  simp [wpOpsS, go_sem, Exit.thenS]
  refine wpS_cond (t := true) (by simp [Act.eval]) ?_
  simp only [if_true]
  apply wpS_region
  simp [wpOpsS, go_sem, hc, hz, bodyPostS, results, Try.results40]
theorem catch_idle (p : Addr) (w : World) :
    CallsD Try.prog 40 #[.pointer (some p)] .returning w fun e u' w' => e = .returned (.tuple #[]) ∧ u' = .returning ∧ w' = w := by
  refine callsD_of_wpS Try.func40 rfl fun c₀ cs hu => ?_
  have ha := fun w => assert_nil w
  apply wpS_seq
  apply wpS_region
  simp [wpOpsS, go_sem, recoverD, hu, Try.ntmps40, Exit.thenS, ha]
  apply wpS_seq
  apply wpS_region
  simp [wpOpsS, go_sem, Exit.thenS]
  refine wpS_cond (t := false) (by simp [Act.eval]) ?_
  simp only [Bool.false_eq_true, if_false]
  refine wpS_of_wp (wp_skip ?_)
  cases c₀
  simp_all [bodyPostS, results, Try.results40]
end Go.Proofs.Ytjkoambfecmglaa

namespace Go.Proofs.Ytjkoambfecmglaa
open Go.RowKit
set_option linter.unusedVariables false
set_option linter.unusedSimpArgs false
set_option maxRecDepth 100000
set_option maxHeartbeats 8000000 in
theorem refused_many (fa oa : Option Addr) (n fc m oc : Nat) (w : World) (h9 : 4096 < n) :
    Calls Try.prog 24 #[.slice fa n fc, .slice oa m oc] w fun e w' => e = .returned (.int .i64 170) ∧ Below w.heap.size w w' := by
  have HB : Hid (Below w.heap.size w (w.alloc (.cells #[.int .i64 170] 27))) := (Below.refl w.heap.size w).alloc (Nat.le_refl _) _
  have hmf : ∀ (fn : Fn) (first cap : Array Value) (w : World), (Instr.makeFunc fn first cap).run Try.prog w = .ok (.func fn first cap) w := fun _ _ _ _ => rfl
  have g1 : decide ((4096 : Int) < (n : Int)) = true := by simp; omega
  have g2 : (4096 : Int) < (n : Int) := by omega
  go_enter_defers Try.func24, Try.ntmps24
  go_wp2
  refine leaves_cons (f := 40) (args := #[.pointer (some ⟨w.heap.size, 0, none⟩)]) (by simp) (by simp [go_sem]) ?_
  refine (catch_idle ⟨w.heap.size, 0, none⟩ _).mono ?_
  rintro e u' w'' ⟨rfl, rfl, rfl⟩
  simp [Leaves, settle, results, Try.results24, go_sem]
  exact HB.out
set_option maxHeartbeats 16000000 in
theorem refused_few (fa oa : Option Addr) (n fc m oc : Nat) (l : List Opv) (w : World) (h9 : ¬ 4096 < n) (h : OpsR w oa l) (hm : l.length = m) (hs : m ≤ 1099511627776) :
    Calls Try.prog 24 #[.slice fa n fc, .slice oa m oc] w fun e w' => e = .returned (.int .i64 (wrg n l : Int)) ∧ Below w.heap.size w w' := by
  have HR : Hid (OpsR w oa l ∧ l.length = m ∧ n ≤ 4096) := ⟨h, hm, by omega⟩
  have HX : Hid (Below w.heap.size w (w.alloc (.cells #[.int .i64 0] 27)) ∧ (w.alloc (.cells #[.int .i64 0] 27)).heap[w.heap.size]? = some (.cells #[.int .i64 0] 27 (0, 0))) := ⟨(Below.refl w.heap.size w).alloc (Nat.le_refl _) _, heap_new _ _⟩
  have hmf : ∀ (fn : Fn) (first cap : Array Value) (w : World), (Instr.makeFunc fn first cap).run Try.prog w = .ok (.func fn first cap) w := fun _ _ _ _ => rfl
  have g1 : decide ((4096 : Int) < (n : Int)) = false := by simp; omega
  have g2 : ¬ (4096 : Int) < (n : Int) := by omega
  obtain ⟨z, hz⟩ : ∃ z, ((wrg n l : Nat) : Int) = z := ⟨_, rfl⟩
  have HZ : Hid (((wrg n l : Nat) : Int) = z) := hz
  rw [hz]
  clear h hm hz
  go_enter_defers Try.func24, Try.ntmps24
  go_wp2
  go_loopw [13] (fun iv wr => ∃ i : Nat, i ≤ m ∧ iv = .int .i64 (i : Int) ∧ Hid (Below w.heap.size w wr ∧ wr.heap[w.heap.size]? = some (.cells #[.int .i64 0] 27 (0, 0)) ∧ (l.take i).all (fun o => o.may n) = true)) (fun iv _ => m - (intOf iv).toNat)
  case atStart => exact ⟨0, Nat.zero_le _, rfl, HX.out.1, HX.out.2, by simp⟩
  case round =>
    obtain ⟨i, hi, rfl, HB⟩ := hrel
    have cz : wr.cell? ⟨w.heap.size, 0, none⟩ = some (.int .i64 0) := blk_at HB.out.2.1 0
    have fz : wr.frozen? ⟨w.heap.size, 0, none⟩ = false := blk_free HB.out.2.1 0
    by_cases hlt : i < m
    · have hil : i < l.length := by rw [HR.out.2.1]; exact hlt
      obtain ⟨b, off, rfl, hc⟩ := HR.out.1.at_ (by rintro rfl; simp at hil)
      obtain ⟨o, ho⟩ : ∃ o, l[i] = o := ⟨_, rfl⟩
      have hc2 := hc i hil
      rw [ho] at hc2
      have c0 : wr.cell? ⟨b, off + i * 7, none⟩ = some (.int .i64 o.k) := cell_later HB.out.1 (hc2 0 _ rfl)
      have c1 : wr.cell? ⟨b, off + i * 7 + 1, none⟩ = some (.int .i64 o.fr) := cell_later HB.out.1 (hc2 1 _ rfl)
      have c2 : wr.cell? ⟨b, off + i * 7 + 2, none⟩ = some (.int .i64 o.to_) := cell_later HB.out.1 (hc2 2 _ rfl)
      have c3 : wr.cell? ⟨b, off + i * 7 + 3, none⟩ = some (.int .i64 o.off) := cell_later HB.out.1 (hc2 3 _ rfl)
      have c4 : wr.cell? ⟨b, off + i * 7 + 4, none⟩ = some (.int .i64 o.len) := cell_later HB.out.1 (hc2 4 _ rfl)
      have c5 : wr.cell? ⟨b, off + i * 7 + 5, none⟩ = some (.slice o.da o.n o.dc) := cell_later HB.out.1 (hc2 5 _ rfl)
      have c6 : wr.cell? ⟨b, off + i * 7 + 6, none⟩ = some (.bool o.sy) := cell_later HB.out.1 (hc2 6 _ rfl)
      have n9 : decide ((i : Int) < (m : Int)) = true := by simp; omega
      have ii0 : (0 : Int) ≤ (i : Int) := by omega
      have ii9 : (i : Int) < (m : Int) := by omega
      have HMy : Hid (∀ W, Calls Try.prog 41 #[.agg #[.int .i64 o.k, .int .i64 o.fr, .int .i64 o.to_, .int .i64 o.off, .int .i64 o.len, .slice o.da o.n o.dc, .bool o.sy], .int .i64 (n : Int)] W fun e w' => endsBy (o.may n) e ∧ Below W.heap.size W w') := fun W => mustBe_any o n W HR.out.2.2
      have HT : Hid (l.take (i + 1) = l.take i ++ [o]) := by show _ = _; rw [List.take_succ_eq_append_getElem hil, ho]
      have HO : Hid (o ∈ l) := by show _ ∈ _; rw [← ho]; exact List.getElem_mem hil
      have HL : Hid (w.heap.size < wr.heap.size) := (Array.getElem?_eq_some_iff.1 HB.out.2.1).1
      clear hc hc2 ho
      go_wp2_with fail
      refine (HMy.out _).mono ?_
      rintro e W2 ⟨he, hb2⟩
      have hA : Below wr.heap.size wr (wr.alloc (.cells #[.int .i64 o.k, .int .i64 o.fr, .int .i64 o.to_, .int .i64 o.off, .int .i64 o.len, .slice o.da o.n o.dc, .bool o.sy] 50)) := (Below.refl _ wr).alloc (Nat.le_refl _) _
      have hA2 : Below wr.heap.size wr W2 := hA.trans (hb2.mono hA.size)
      have HB2 : Hid (Below w.heap.size w W2 ∧ W2.heap[w.heap.size]? = some (.cells #[.int .i64 0] 27 (0, 0))) := ⟨HB.out.1.trans (hA2.mono HB.out.1.size), by rw [hA2.block _ HL.out]; exact HB.out.2.1⟩
      have HE : Hid (endsBy (o.may n) e) := he
      clear he hA hA2 hb2 c0 c1 c2 c3 c4 c5 c6 cz fz HMy
      cases hy : o.may n with
      | true =>
        have HA : Hid ((l.take (i + 1)).all (fun o => o.may n) = true) := by show _ = _; rw [HT.out, List.all_append, HB.out.2.2]; simp [hy]
        obtain rfl := HE.out.1 hy
        clear HE hy
        go_wp2
        go_roundw
        case rel => exact ⟨i + 1, by omega, by go_num, HB2.out.1, HB2.out.2, HA.out⟩
        case measure => simp [intOf]; omega
      | false =>
        have HE1 : Hid (wrg n l = 171) := by
          show _ = _
          unfold wrg
          rw [if_neg h9, if_neg]
          intro hall
          have := List.all_eq_true.1 hall o HO.out
          rw [hy] at this; cases this
        obtain rfl : e = _ := HE.out.2 hy
        obtain rfl : z = 171 := by rw [← HZ.out, HE1.out]; rfl
        clear HE hy HZ
        have cz : W2.cell? ⟨w.heap.size, 0, none⟩ = some (.int .i64 0) := blk_at HB2.out.2 0
        have fz : W2.frozen? ⟨w.heap.size, 0, none⟩ = false := blk_free HB2.out.2 0
        have HN : Hid (Below w.heap.size w (W2.setCell ⟨w.heap.size, 0, none⟩ (.int .i64 171))) := HB2.out.1.setCell (Nat.le_refl _) _
        have cs : (W2.setCell ⟨w.heap.size, 0, none⟩ (.int .i64 171)).cell? ⟨w.heap.size, 0, none⟩ = some (.int .i64 171) := World.cell?_setCell_same _ _ _ (by rw [cz])
        refine leaves_cons (f := 40) (args := #[.pointer (some ⟨w.heap.size, 0, none⟩)]) (by simp) (by simp [go_sem]) ?_
        refine (catch_panicking ⟨w.heap.size, 0, none⟩ (.int .i64 0) 171 [] _ cz fz).mono ?_
        rintro e u' w'' ⟨rfl, rfl, rfl⟩
        simp [Leaves, settle, results, Try.results24, go_sem, cs]
        exact HN.out
    · have n9 : decide ((i : Int) < (m : Int)) = false := by simp; omega
      obtain rfl : i = m := by omega
      have HE : Hid (wrg n l = 0) := by
        show _ = _
        have h5 := HB.out.2.2
        rw [List.take_of_length_le (by rw [HR.out.2.1]; omega)] at h5
        unfold wrg; rw [if_neg h9, if_pos h5]
      have HN : Hid (Below w.heap.size w (wr.setCell ⟨w.heap.size, 0, none⟩ (.int .i64 0))) := HB.out.1.setCell (Nat.le_refl _) _
      have cs : (wr.setCell ⟨w.heap.size, 0, none⟩ (.int .i64 0)).cell? ⟨w.heap.size, 0, none⟩ = some (.int .i64 0) := World.cell?_setCell_same _ _ _ (by rw [cz])
      obtain rfl : z = 0 := by rw [← HZ.out, HE.out]; rfl
      clear HZ
      go_wp2
      refine leaves_cons (f := 40) (args := #[.pointer (some ⟨w.heap.size, 0, none⟩)]) (by simp) (by simp [go_sem]) ?_
      refine (catch_idle ⟨w.heap.size, 0, none⟩ _).mono ?_
      rintro e u' w'' ⟨rfl, rfl, rfl⟩
      simp [Leaves, settle, results, Try.results24, go_sem, cs]
      exact HN.out
/-- the program refuses what the document refuses -/
theorem refused_any (fa oa : Option Addr) (n fc m oc : Nat) (l : List Opv) (w : World) (h : OpsR w oa l) (hm : l.length = m) (hs : m ≤ 1099511627776) :
    Calls Try.prog 24 #[.slice fa n fc, .slice oa m oc] w fun e w' => e = .returned (.int .i64 (wrg n l : Int)) ∧ Below w.heap.size w w' := by
  by_cases h9 : 4096 < n
  · have e1 : wrg n l = 170 := by unfold wrg; rw [if_pos h9]
    rw [e1]
    exact refused_many fa oa n fc m oc w h9
  · exact refused_few fa oa n fc m oc l w h9 h hm hs
end Go.Proofs.Ytjkoambfecmglaa

namespace Go.Proofs.Ytjkoambfecmglaa
open Go.RowKit
set_option linter.unusedVariables false
set_option linter.unusedSimpArgs false
set_option maxRecDepth 100000
/-- the four fields of a walk: operations, bytes now, what was played, what is owed -/
structure Wk (W : World) (P : Nat) (oa : Option Addr) (m oc : Nat) (na : Option Addr) (n nc : Nat) (pa : Option Addr) (pc : Nat) (wa : Option Addr) (d dc : Nat) : Prop where
  c0 : W.cell? ⟨P, 0, none⟩ = some (.slice oa m oc)
  c1 : W.cell? ⟨P, 1, none⟩ = some (.slice na n nc)
  c2 : W.cell? ⟨P, 2, none⟩ = some (.slice pa m pc)
  c3 : W.cell? ⟨P, 3, none⟩ = some (.slice wa d dc)
theorem whole_any {W : World} {P m oc n nc pc d dc : Nat} {oa na pa wa : Option Addr} (h : Wk W P oa m oc na n nc pa pc wa d dc) : Calls Try.prog 27 #[.pointer (some ⟨P, 0, none⟩)] W fun e w' => e = .returned (.bool (decide (d = 0))) ∧ w' = W := by
  have c3 := h.c3
  clear h
  by_cases hd : d = 0
  · subst hd
    go_enter Try.func27, Try.ntmps27
    go_wp2
    go_ret
    exact ⟨rfl, rfl⟩
  · have e1 : decide (d = 0) = false := decide_eq_false hd
    have e2 : ((d : Int) == 0) = false := by simp; omega
    rw [e1]
    clear hd
    go_enter Try.func27, Try.ntmps27
    go_wp2
    go_ret
    exact ⟨rfl, rfl⟩
end Go.Proofs.Ytjkoambfecmglaa

namespace Go.Proofs.Ytjkoambfecmglaa
open Go.RowKit
set_option linter.unusedVariables false
set_option linter.unusedSimpArgs false
set_option maxRecDepth 100000
theorem Nx.goes {l : List Opv} {dss : List (List Nat)} {ord : List Int} {bs : List Nat} {i k : Nat} {p : Opv} {ds : List Nat} {q : Int} (hq : ord[i]? = some q) (h : Nx l dss (ord.take i) bs q k p ds) : Goes l dss ord bs i k p ds := by
  obtain ⟨h1, h2⟩ := h
  subst h1
  exact ⟨hq, h2⟩
theorem Goes.nx {l : List Opv} {dss : List (List Nat)} {ord : List Int} {bs : List Nat} {i k : Nat} {p : Opv} {ds : List Nat} {q : Int} (hq : ord[i]? = some q) (h : Goes l dss ord bs i k p ds) : Nx l dss (ord.take i) bs q k p ds := by
  obtain ⟨h1, h2⟩ := h
  rw [hq] at h1
  cases h1
  exact ⟨rfl, h2⟩
/-- what is answered is new memory -/
def NewB (B : Nat) (w' : World) (v : Value) : Prop := ∃ bs : List Nat, w'.ownsRow B 5 1 v bs.length (bs.map bv) ∧ (∀ x ∈ bs, x < 256) ∧ bs.length ≤ 4096
theorem NewB.none (B : Nat) (w' : World) : NewB B w' (.slice none 0 0) := ⟨[], ⟨rfl, .inl ⟨rfl, rfl⟩⟩, by simp, by simp⟩
set_option maxHeartbeats 16000000 in
/-- the program's Follow -/
theorem follow_any (fa oa za : Option Addr) (n fc m oc d zc : Nat) (first : List Nat) (l : List Opv) (dss : List (List Nat)) (ord : List Int) (w : World) (hb : BRow w fa fc first) (hn : first.length = n) (h : OpsD w oa l dss) (hm : l.length = m) (hs : m ≤ 1099511627776) (hz : ZRow w za ord) (hd : ord.length = d) (hds : d ≤ 1099511627776) :
    Calls Try.prog 11 #[.slice fa n fc, .slice oa m oc, .slice za d zc] w fun e w' => ∃ v at_ en, e = .returned (.tuple #[v, .int .i64 at_, .int .i64 en]) ∧ FolOut l dss ord first n w' v at_ en ∧ NewB w.heap.size w' v ∧ Below w.heap.size w w' := by
  have HRf : Hid _ := refused_any fa oa n fc m oc l w h.ops hm hs
  have HD : Hid (BRow w fa fc first ∧ first.length = n ∧ OpsD w oa l dss ∧ l.length = m ∧ ZRow w za ord ∧ ord.length = d) := ⟨hb, hn, h, hm, hz, hd⟩
  have HM : Hid (m ≤ 1099511627776) := hs
  clear hb hn h hm hz hd
  go_enter Try.func11, Try.ntmps11
  go_wp2_with fail
  refine Calls.mono HRf.out ?_
  rintro e W0 ⟨rfl, hb0⟩
  have HB0 : Hid (Below w.heap.size w W0) := hb0
  clear hb0 HRf
  by_cases hw : wrg n l = 0
  · have HWr : Hid (wrg n l = 0) := hw
    have hns : n ≤ 4096 := (wrg_zero hw).1
    have hw' : ((wrg n l : Nat) : Int) = 0 := by rw [hw]; rfl
    rw [hw']
    have HBe : Hid _ := begin_any fa oa n fc m oc first l W0 (HD.out.1.later HB0.out) HD.out.2.1 (HD.out.2.2.1.ops.later HB0.out) HD.out.2.2.2.1 HM.out hns
    clear hw hw'
    go_wp2_with fail
    refine Calls.mono HBe.out ?_
    rintro e W1 ⟨P, na, nc, pa, pc, wa, dc, ow, rfl, hb1, hwm, hws⟩
    have HS1 : Hid (Below w.heap.size w W1 ∧ Wm W1 (W0.heap.size + 1) P oa m oc na n nc first pa pc (List.replicate m false) wa dc ow ∧ WkS l [] (List.replicate m false) ow) := ⟨HB0.out.trans (hb1.mono HB0.out.size), hwm, hws⟩
    clear hb1 hwm hws HBe
    go_wp2_with fail
    go_loopw [24] (fun xv wr => ∃ (i : Nat) (bs : List Nat) (pl : List Bool) (wa : Option Addr) (dc : Nat) (ow : List Nat), i ≤ d ∧ xv = .int .i64 (i : Int) ∧ Hid (Below w.heap.size w wr ∧ Wm wr (W0.heap.size + 1) P oa m oc na n nc bs pa pc pl wa dc ow ∧ WkS l (ord.take i) pl ow ∧ HdN (ord.take i) ow ∧ FolR l dss ord first i bs)) (fun xv _ => d - (intOf xv).toNat)
    case atStart => exact ⟨0, first, List.replicate m false, wa, dc, ow, Nat.zero_le _, rfl, HS1.out.1, HS1.out.2.1, HS1.out.2.2, fun _ _ _ => by simp, .nil⟩
    case round =>
      obtain ⟨i, bs, pl, wa, dc, ow, hi, rfl, HB⟩ := hrel
      have hBw : W0.heap.size + 1 ≤ wr.heap.size := Nat.le_trans HB.out.2.1.hP (Nat.le_of_lt (block_lt HB.out.2.1.blk))
      by_cases hlt : i < d
      · have n9 : decide ((i : Int) < (d : Int)) = true := decide_eq_true (by omega)
        have ii0 : (0 : Int) ≤ (i : Int) := by omega
        have ii9 : (i : Int) < (d : Int) := by omega
        have hil : i < ord.length := by rw [HD.out.2.2.2.2.2]; exact hlt
        obtain ⟨zb, zo, e0, hc⟩ := HD.out.2.2.2.2.1.at_ (by rintro rfl; simp at hil)
        subst e0
        obtain ⟨q, hq⟩ : ∃ q, ord[i] = q := ⟨_, rfl⟩
        have HQ : Hid (ord[i]? = some q) := by show _ = _; rw [List.getElem?_eq_getElem hil, hq]
        have cq : wr.cell? ⟨zb, zo + i, none⟩ = some (.int .i64 q) := by rw [← hq]; exact cell_later HB.out.1 (hc i hil)
        have HT : Hid (ord.take (i + 1) = ord.take i ++ [q]) := by show _ = _; rw [List.take_succ_eq_append_getElem hil, hq]
        have HSt : Hid _ := step_any HB.out.2.1 HB.out.2.2.1 HB.out.2.2.2.1 (HD.out.2.2.1.later HB.out.1) HD.out.2.2.2.1 hns (wrg_zero HWr.out).2 hBw q
        clear hc hq
        go_wp2_with fail
        refine Calls.mono HSt.out ?_
        rintro e W2 ⟨r, rfl, hb2, hno, hyes⟩
        have HB2 : Hid (Below w.heap.size w W2) := HB.out.1.trans (hb2.mono (Nat.le_succ_of_le HB0.out.size))
        clear hb2 HSt
        cases r with
        | false =>
          have HF : Hid (∀ k p ds, ¬ Goes l dss ord bs i k p ds) := fun k p ds hg => hno rfl k p ds (hg.nx HQ.out)
          clear hno hyes
          go_wp2
          go_ret3
          exact ⟨_, _, _, rfl, .inr (.inl ⟨HWr.out, i, bs, HB.out.2.2.2.2, hil, HF.out, rfl, rfl, rfl⟩), NewB.none _ _, HB2.out⟩
        | true =>
          obtain ⟨k, p, ds, wa', dc', ow', hnx, hwm, hws, hhd⟩ := hyes rfl
          have HY : Hid (Below w.heap.size w W2 ∧ Wm W2 (W0.heap.size + 1) P oa m oc na n nc (p.eff bs ds) pa pc (pl.set k true) wa' dc' ow' ∧ WkS l (ord.take (i + 1)) (pl.set k true) ow' ∧ HdN (ord.take (i + 1)) ow' ∧ FolR l dss ord first (i + 1) (p.eff bs ds)) := by
            refine ⟨HB2.out, hwm, ?_, ?_, .step HB.out.2.2.2.2 (hnx.goes HQ.out)⟩
            · rw [HT.out]; exact hws
            · rw [HT.out]; exact hhd
          clear hno hyes hnx hwm hws hhd
          go_wp2
          go_roundw
          case rel => exact ⟨i + 1, p.eff bs ds, pl.set k true, wa', dc', ow', by omega, by go_num, HY.out⟩
          case measure => simp [intOf]; omega
      · have n9 : decide ((i : Int) < (d : Int)) = false := decide_eq_false (by omega)
        obtain rfl : i = d := by omega
        have HWh : Hid _ := whole_any (W := wr) (P := P) (m := m) (oc := oc) (n := n) (nc := nc) (pc := pc) (d := ow.length) (dc := dc) (oa := oa) (na := na) (pa := pa) (wa := wa) ⟨HB.out.2.1.c0, HB.out.2.1.c1, HB.out.2.1.c2, HB.out.2.1.c3⟩
        have HTk : Hid (ord.take i = ord) := List.take_of_length_le (by rw [HD.out.2.2.2.2.2]; exact Nat.le_refl _)
        have HLn : Hid ((i : Int) = (ord.length : Int)) := by
          have := HD.out.2.2.2.2.2
          show _ = _
          omega
        have HFl : Hid (FolR l dss ord first ord.length bs) := by
          have := HB.out.2.2.2.2
          rwa [← HD.out.2.2.2.2.2] at this
        have HW9 : Hid (Whl l ord l.length ↔ ow = []) := by
          have := HB.out.2.2.1.whole HB.out.2.2.2.1
          rwa [HTk.out] at this
        go_wp2_with fail
        refine Calls.mono HWh.out ?_
        rintro e W2 ⟨rfl, rfl⟩
        clear HWh
        by_cases hw0 : ow.length = 0
        · have e1 : decide (ow.length = 0) = true := decide_eq_true hw0
          have HYW : Hid (Whl l ord l.length) := HW9.out.2 (List.eq_nil_of_length_eq_zero hw0)
          have c1 := HB.out.2.1.c1
          rw [e1]
          clear e1 hw0
          go_wp2
          go_ret3
          have hnow := HB.out.2.1
          have hbn := hnow.bsn
          refine ⟨_, _, _, rfl, .inr (.inr (.inr ⟨HWr.out, bs, na, nc, HFl.out, HYW.out, rfl, hnow.brow hns, hbn, rfl, rfl⟩)), ⟨bs, ?_, hnow.blt, by omega⟩, HB.out.1⟩
          rw [hbn]
          exact owns_mono hnow.now (Nat.le_succ_of_le HB0.out.size)
        · have e1 : decide (ow.length = 0) = false := decide_eq_false hw0
          have HNW : Hid (¬ Whl l ord l.length) := fun h => hw0 (by rw [HW9.out.1 h]; rfl)
          rw [e1]
          clear e1 hw0
          go_wp2
          go_ret3
          exact ⟨_, _, _, rfl, .inr (.inr (.inl ⟨HWr.out, bs, HFl.out, HNW.out, rfl, HLn.out, rfl⟩)), NewB.none _ _, HB.out.1⟩
  · have hw0 : (((wrg n l : Nat) : Int) != 0) = true := by rw [bne_iff_ne]; omega
    have HWr : Hid (¬ wrg n l = 0) := hw
    obtain ⟨z, hz9⟩ : ∃ z : Int, ((wrg n l : Nat) : Int) = z := ⟨_, rfl⟩
    have HZ : Hid (((wrg n l : Nat) : Int) = z) := hz9
    rw [hz9] at hw0 ⊢
    clear hz9 hw
    go_wp2
    go_ret3
    exact ⟨_, _, _, rfl, .inl ⟨HWr.out, rfl, rfl, HZ.out.symm⟩, NewB.none _ _, HB0.out⟩
end Go.Proofs.Ytjkoambfecmglaa
