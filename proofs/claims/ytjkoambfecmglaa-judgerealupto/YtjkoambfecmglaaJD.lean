import Derived.Test.YtjkoambfecmglaaVSlz
import Derived.Test.YtjkoambfecmglaaJO
import Derived.Deep.QuietTactic
import Derived.BigQuiet
namespace Go.Proofs.Ytjkoambfecmglaa
open Go.RowKit Go.Maps
set_option linter.unusedVariables false
set_option linter.unusedSimpArgs false
set_option maxRecDepth 100000
/-- what Order answers -/
def OrdOut (B : Nat) (l : List Opv) (dss : List (List Nat)) (first : List Nat) (n : Nat) (w' : World) (v : Value) (ok : Bool) (en : Nat) : Prop :=
  (10 < l.length ∧ v = .slice none 0 0 ∧ ok = false ∧ en = 170) ∨
  (l.length ≤ 10 ∧ wrg n l ≠ 0 ∧ v = .slice none 0 0 ∧ ok = false ∧ en = wrg n l) ∨
  (l.length ≤ 10 ∧ wrg n l = 0 ∧ en = 0 ∧ ok = true ∧ ∃ ks za zc, v = .slice za ks.length zc ∧ (spOf l dss (mask (owOf l l.length)) (ahOf l l.length)).Finds 0 first ks ∧ w'.ownsRow B 3 1 (.slice za ks.length zc) ks.length (ks.map iv)) ∨
  (l.length ≤ 10 ∧ wrg n l = 0 ∧ en = 0 ∧ ok = false ∧ v = .slice none 0 0 ∧ (spOf l dss (mask (owOf l l.length)) (ahOf l l.length)).Dead 0 first)
/-- .. as a post of a call -/
def OrdEnd (w : World) (l : List Opv) (dss : List (List Nat)) (first : List Nat) (n : Nat) (e : Ending) (w' : World) : Prop :=
  ∃ v ok en, e = .returned (.tuple #[v, .bool ok, .int .i64 (en : Nat)]) ∧ OrdOut w.heap.size l dss first n w' v ok en ∧ Below w.heap.size w w'
theorem OrdEnd.mk {w w' : World} {l : List Opv} {dss : List (List Nat)} {first : List Nat} {n : Nat} {e : Ending} (v : Value) (ok : Bool) (en : Nat) (h1 : e = .returned (.tuple #[v, .bool ok, .int .i64 (en : Nat)])) (h2 : OrdOut w.heap.size l dss first n w' v ok en) (h3 : Below w.heap.size w w') : OrdEnd w l dss first n e w' := ⟨v, ok, en, h1, h2, h3⟩
theorem ahOf_lt {l : List Opv} {i m : Nat} (hl : l.length = m) (hm : m ≤ 10) : ∀ x ∈ ahOf l i, x < 65536 := fun x hx => by
  unfold ahOf at hx
  rw [List.mem_map] at hx
  obtain ⟨k, _, rfl⟩ := hx
  split
  · split
    · exact befOf_mask (m := m) (by omega) hm
    · decide
  · decide
set_option maxHeartbeats 16000000 in
/-- the program's Order -/
theorem order_any (fa oa : Option Addr) (n fc m oc : Nat) (first : List Nat) (l : List Opv) (dss : List (List Nat)) (w : World) (hb : BRow w fa fc first) (hn : first.length = n) (h : OpsD w oa l dss) (hm : l.length = m) (hs : m ≤ 1099511627776) :
    Calls Try.prog 17 #[.slice fa n fc, .slice oa m oc] w (OrdEnd w l dss first n) := by
  have HRf : Hid _ := refused_any fa oa n fc m oc l w h.ops hm hs
  have HD : Hid (BRow w fa fc first ∧ first.length = n ∧ OpsD w oa l dss ∧ l.length = m) := ⟨hb, hn, h, hm⟩
  clear hb hn h hm
  go_enter Try.func17, Try.ntmps17
  by_cases h10 : 10 < m
  · have n9 : decide ((10 : Int) < (m : Int)) = true := decide_eq_true (by omega)
    have HM10 : Hid (10 < l.length) := by show 10 < l.length; rw [HD.out.2.2.2]; exact h10
    go_wp2_with fail
    go_ret3
    exact OrdEnd.mk _ false 170 rfl (.inl ⟨HM10.out, rfl, rfl, rfl⟩) (Below.refl _ _)
  · have n9 : decide ((10 : Int) < (m : Int)) = false := decide_eq_false (by omega)
    have HM10 : Hid (l.length ≤ 10 ∧ m ≤ 10) := by constructor; rw [HD.out.2.2.2]; omega; omega
    clear h10
    go_wp2_with fail
    refine Calls.mono HRf.out ?_
    rintro e W0 ⟨rfl, hb0⟩
    have HB0 : Hid (Below w.heap.size w W0) := hb0
    clear hb0 HRf
    by_cases hw : wrg n l = 0
    · have HWr : Hid (wrg n l = 0) := hw
      have hw' : ((wrg n l : Nat) : Int) = 0 := by rw [hw]; rfl
      rw [hw']
      have HSe : Hid _ := searchIn_any (w := W0) (n := n) (fc := fc) (m := m) (oc := oc) (fa := fa) (oa := oa) (l := l) (dss := dss) (first := first) (HD.out.1.later HB0.out) HD.out.2.1 (HD.out.2.2.1.ops.later HB0.out) HD.out.2.2.2 HM10.out.2 (wrg_zero hw).1
      clear hw hw'
      go_wp2_with fail
      refine Calls.mono HSe.out ?_
      rintro e W1 ⟨Q, gh, gv, vc, r, L, rfl, hb1, hSm, hLv⟩
      have HB1 : Hid (Below W0.heap.size W0 W1) := hb1
      have HFi : Hid _ := find_any (l := l) (dss := dss) (first := first) hSm (fun U hU => HD.out.2.2.1.later (HB0.out.trans ((hb1.trans hU).mono HB0.out.size))) HD.out.2.2.2 (wrg_zero HWr.out).2 HM10.out.2 (wrg_zero HWr.out).1 (by rw [ahOf_len]; exact HD.out.2.2.2) (ahOf_lt HD.out.2.2.2 HM10.out.2) (owOf_mask (Nat.le_refl _) HM10.out.2) (fun i hi => by rw [mask_bit] at hi; exact (owOf_mem.1 (of_decide_eq_true hi)).1) hb1.size HD.out.2.1 HD.out.1.lt (by
        obtain ⟨v, hv⟩ : ∃ v, L[0]? = some v := ⟨_, List.getElem?_eq_getElem (by rw [hSm.len]; omega)⟩
        exact ⟨v, hv, hLv 0 v hv⟩)
      clear hb1 hSm hLv HSe
      go_wp2_with fail
      refine Calls.mono HFi.out ?_
      rintro e W2 ⟨hb2, hres⟩
      have HBe : Hid (Below w.heap.size w W2) := HB0.out.trans ((HB1.out.trans hb2).mono HB0.out.size)
      clear hb2 HFi
      rcases hres with ⟨ks, za, zc, rfl, hF, ho⟩ | ⟨rfl, hDd⟩
      · have HF : Hid ((spOf l dss (mask (owOf l m)) (ahOf l m)).Finds 0 first ks ∧ W2.ownsRow W0.heap.size 3 1 (.slice za ks.length zc) ks.length (ks.map iv)) := ⟨hF, ho⟩
        clear hF ho
        go_wp2_with fail
        go_ret3
        refine OrdEnd.mk _ true 0 rfl (.inr (.inr (.inl ⟨HM10.out.1, HWr.out, rfl, rfl, ks, za, zc, rfl, ?_, owns_mono HF.out.2 HB0.out.size⟩))) HBe.out
        rw [HD.out.2.2.2]; exact HF.out.1
      · have HF : Hid ((spOf l dss (mask (owOf l m)) (ahOf l m)).Dead 0 first) := hDd
        clear hDd
        go_wp2_with fail
        go_ret3
        refine OrdEnd.mk _ false 0 rfl (.inr (.inr (.inr ⟨HM10.out.1, HWr.out, rfl, rfl, rfl, ?_⟩))) HBe.out
        rw [HD.out.2.2.2]; exact HF.out
    · have HWr : Hid (wrg n l ≠ 0) := hw
      obtain ⟨x, hx⟩ : ∃ x, wrg n l = x := ⟨_, rfl⟩
      rw [hx]
      have n8 : ((x : Int) == 0) = false := by rw [beq_eq_false_iff_ne]; omega
      have n7 : ((x : Int) != 0) = true := by rw [bne_iff_ne]; omega
      have HXx : Hid (wrg n l = x) := hx
      clear hx hw
      go_wp2_with fail
      go_ret3
      exact OrdEnd.mk _ false x rfl (.inr (.inl ⟨HM10.out.1, HWr.out, rfl, rfl, HXx.out.symm⟩)) HB0.out
end Go.Proofs.Ytjkoambfecmglaa

namespace Go.Proofs.Ytjkoambfecmglaa
open Go.RowKit Go.Maps
set_option linter.unusedVariables false
set_option linter.unusedSimpArgs false
set_option maxRecDepth 100000
theorem ZRow.drewN {w : World} {ao : Option Addr} {l : List Int} (h : ZRow w ao l) (q : Nat) : ZRow (w.drewN q) ao l :=
  h.later ⟨rfl, rfl, rfl, Nat.le_refl _, fun _ _ => rfl⟩
theorem zrow_own {W : World} {B n : Nat} {v : Value} {ks : List Int} (h : W.ownsRow B 3 1 v n (ks.map (Value.int .i64))) (hn : ks.length = n) : ∃ ao cap, v = .slice ao n cap ∧ ZRow W ao ks := by
  rcases h.2 with ⟨rfl, h0⟩ | ⟨gv, cap, cur, rfl, hb, hg, hc, _, hsz, ht⟩
  · exact ⟨none, 0, by rw [h0], ⟨fun hl => absurd (List.eq_nil_of_length_eq_zero (by omega)) hl⟩⟩
  · refine ⟨_, cap, rfl, ⟨fun _ => ⟨gv, 0, rfl, fun k hk => ?_⟩⟩⟩
    have h1 : (ks.map (Value.int .i64))[k]? = some (.int .i64 ks[k]) := by rw [List.getElem?_map, List.getElem?_eq_getElem hk]; rfl
    rw [← ht, List.getElem?_take, if_pos (by omega)] at h1
    unfold World.cell?; simp only [hg]; simpa using h1
set_option maxHeartbeats 1000000 in
/-- the same numbers are the same -/
theorem sameInts_any (ao bo : Option Addr) (c c' n : Nat) (l : List Int) (w : World) (hl : l.length = n) (hn : n ≤ 17592186044416) (h : ZRow w ao l) (h' : ZRow w bo l) :
    Calls Try.prog 15 #[.slice ao n c, .slice bo n c'] w fun e w' => e = .returned (.bool true) ∧ ∃ q, w' = w.drewN q := by
  have HL : Hid (l.length = n) := hl
  have HZ : Hid (ZRow w ao l ∧ ZRow w bo l) := ⟨h, h'⟩
  clear h h' hl
  go_enter Try.func15, Try.ntmps15
  go_wp2
  go_loopw [5] (fun i wr => ∃ k q : Nat, k ≤ n ∧ i = .int .i64 k ∧ wr = w.drewN q) (fun i _ => n - (intOf i).toNat)
  case atStart => exact ⟨0, 0, Nat.zero_le _, rfl, rfl⟩
  case round =>
    obtain ⟨k, q, hk, rfl, rfl⟩ := hrel
    by_cases hlt : k < n
    · have hkl : k < l.length := by have := HL.out; omega
      obtain ⟨b, off, rfl, hc⟩ := HZ.out.1.at_ (by rintro rfl; simp at hkl)
      obtain ⟨b', off', e2, hd⟩ := HZ.out.2.at_ (by rintro rfl; simp at hkl)
      subst e2
      obtain ⟨x, hx⟩ : ∃ x, l[k] = x := ⟨_, rfl⟩
      have h1 := hc k hkl
      have h2 := hd k hkl
      rw [hx] at h1 h2
      clear hc hd hx hkl
      go_wp2
      go_quiet (fail)
      go_wp2
      go_roundw
      case rel => exact ⟨k + 1, _, by omega, by go_num, rfl⟩
      case measure => simp [intOf]; omega
    · go_wp2
      go_ret
      exact ⟨rfl, _, rfl⟩
end Go.Proofs.Ytjkoambfecmglaa

namespace Go.Proofs.Ytjkoambfecmglaa
open Go.RowKit Go.Maps
set_option linter.unusedVariables false
set_option linter.unusedSimpArgs false
set_option maxRecDepth 100000
/-- the chapter's first two examples -/
def ex1 (wa ra : Option Addr) (wc rc : Nat) : List Opv := [⟨2, 0, 3, 0, 1, wa, 1, wc, false⟩, ⟨1, 1, 2, 0, 1, ra, 1, rc, false⟩]
def ex2 (wa ra : Option Addr) (wc rc : Nat) : List Opv := [⟨2, 0, 1, 0, 1, wa, 1, wc, false⟩, ⟨1, 2, 3, 0, 1, ra, 1, rc, false⟩]
def exS1 (wa ra : Option Addr) (wc rc : Nat) : SP := spOf (ex1 wa ra wc rc) [[97], [48]] (mask (owOf (ex1 wa ra wc rc) 2)) (ahOf (ex1 wa ra wc rc) 2)
def exS2 (wa ra : Option Addr) (wc rc : Nat) : SP := spOf (ex2 wa ra wc rc) [[97], [48]] (mask (owOf (ex2 wa ra wc rc) 2)) (ahOf (ex2 wa ra wc rc) 2)
section
variable (wa ra : Option Addr) (wc rc : Nat)
theorem ex1_wrg : wrg 4 (ex1 wa ra wc rc) = 0 := by kernel_rfl
theorem ex2_wrg : wrg 4 (ex2 wa ra wc rc) = 0 := by kernel_rfl
theorem exS1_finds : (exS1 wa ra wc rc).Finds 0 [48, 48, 48, 48] [1, 0] := by
  refine .step (by kernel_rfl) (show 1 < 2 by decide) (by kernel_rfl) ?_ ?_
  · intro j hj _
    obtain rfl : j = 0 := by omega
    refine SP.dead_of (by kernel_rfl) ?_
    intro k hk hok
    have hk2 : k < 2 := hk
    exfalso
    rcases (by omega : k = 0 ∨ k = 1) with rfl | rfl
    · have h0 : (exS1 wa ra wc rc).ok (0 ||| 2 ^ 0) ((exS1 wa ra wc rc).eff 0 [48, 48, 48, 48]) 0 = false := by kernel_rfl
      rw [h0] at hok; cases hok
    · have h0 : (exS1 wa ra wc rc).ok (0 ||| 2 ^ 0) ((exS1 wa ra wc rc).eff 0 [48, 48, 48, 48]) 1 = false := by kernel_rfl
      rw [h0] at hok; cases hok
  · refine .step (by kernel_rfl) (show 0 < 2 by decide) (by kernel_rfl) (fun j hj => absurd hj (Nat.not_lt_zero _)) ?_
    exact .done (by kernel_rfl)
theorem exS2_dead : (exS2 wa ra wc rc).Dead 0 [48, 48, 48, 48] := by
  refine SP.dead_of (by kernel_rfl) ?_
  intro k hk hok
  have hk2 : k < 2 := hk
  rcases (by omega : k = 0 ∨ k = 1) with rfl | rfl
  · refine SP.dead_of (by kernel_rfl) ?_
    intro j hj hok2
    have hj2 : j < 2 := hj
    exfalso
    rcases (by omega : j = 0 ∨ j = 1) with rfl | rfl
    · have h0 : (exS2 wa ra wc rc).ok (0 ||| 2 ^ 0) ((exS2 wa ra wc rc).eff 0 [48, 48, 48, 48]) 0 = false := by kernel_rfl
      rw [h0] at hok2; cases hok2
    · have h0 : (exS2 wa ra wc rc).ok (0 ||| 2 ^ 0) ((exS2 wa ra wc rc).eff 0 [48, 48, 48, 48]) 1 = false := by kernel_rfl
      rw [h0] at hok2; cases hok2
  · exfalso
    have h0 : (exS2 wa ra wc rc).ok 0 [48, 48, 48, 48] 1 = false := by kernel_rfl
    rw [h0] at hok; cases hok
end
/-- what Order says of them -/
theorem ex1_out {B : Nat} {w' : World} {v : Value} {ok : Bool} {en : Nat} {wa ra : Option Addr} {wc rc : Nat} (h : OrdOut B (ex1 wa ra wc rc) [[97], [48]] [48, 48, 48, 48] 4 w' v ok en) : en = 0 ∧ ok = true ∧ ∃ za zc, v = .slice za 2 zc ∧ ZRow w' za [1, 0] := by
  rcases h with ⟨h1, _⟩ | ⟨_, h2, _⟩ | ⟨_, _, h3, h4, ks, za, zc, rfl, hF, ho⟩ | ⟨_, _, _, _, _, hD⟩
  · exact absurd h1 (by show ¬ 10 < 2; decide)
  · exact absurd (ex1_wrg wa ra wc rc) h2
  · have e : [1, 0] = ks := (exS1_finds wa ra wc rc).det hF
    subst e
    obtain ⟨ao, cap, e1, hz⟩ := zrow_own (ks := [1, 0]) ho rfl
    exact ⟨h3, h4, ao, cap, e1, hz⟩
  · exact absurd hD (exS1_finds wa ra wc rc).alive
theorem ex2_out {B : Nat} {w' : World} {v : Value} {ok : Bool} {en : Nat} {wa ra : Option Addr} {wc rc : Nat} (h : OrdOut B (ex2 wa ra wc rc) [[97], [48]] [48, 48, 48, 48] 4 w' v ok en) : en = 0 ∧ ok = false ∧ v = .slice none 0 0 := by
  rcases h with ⟨h1, _⟩ | ⟨_, h2, _⟩ | ⟨_, _, h3, h4, ks, za, zc, rfl, hF, ho⟩ | ⟨_, _, h3, h4, h5, hD⟩
  · exact absurd h1 (by show ¬ 10 < 2; decide)
  · exact absurd (ex2_wrg wa ra wc rc) h2
  · exact absurd (exS2_dead wa ra wc rc) hF.alive
  · exact ⟨h3, h4, h5⟩
end Go.Proofs.Ytjkoambfecmglaa
