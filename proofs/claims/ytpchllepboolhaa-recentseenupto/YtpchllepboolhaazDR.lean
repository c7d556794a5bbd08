import Derived.Test.YtpchllepboolhaazDQ
import Derived.Test.YtpchllepboolhaazRVIA
import Derived.Test.YtpchllepboolhaazRVIF
namespace Go.Proofs.Ytpchllepboolhaa.D
open Go.RowKit Go.Proofs.Ytpchllepboolhaa.I
attribute [local go_sem] Oper.semAt_some
attribute [local go_sem ↓] Go.wp_at_zero Go.wp_at_succ
set_option linter.unusedVariables false
set_option linter.unusedSimpArgs false
set_option maxRecDepth 100000

theorem picked_all (L : List Ent) : A.picked L = keysOf (L.map I.kp) := by
  unfold A.picked keysOf
  have e1 : L.filter A.sel = L := List.filter_eq_self.2 (fun x _ => rfl)
  rw [e1, List.map_map]; rfl
theorem picked_free (L : List Ent) : F.picked L = freeOf (L.map I.kp) := by
  unfold F.picked freeOf
  induction L with
  | nil => rfl
  | cons e L ih =>
    by_cases hp : e.pins = 0
    · simp [F.sel, I.kp, hp] at ih ⊢; exact ih
    · simp [F.sel, I.kp, hp] at ih ⊢; exact ih

set_option maxHeartbeats 16000000 in
theorem told_any {W : World} {bo bm g : Nat} {L : List Ent} {bd : Nat} {v : Value} (h : St W bo bm g L bd v) (k : Int) (hk : wfK k) (hl : L.length ≤ 8796093022208) :
    Calls Try.prog 11 #[.pointer (some ⟨bo, 0, none⟩), .pointer (some ⟨bd, 0, none⟩), .int .i64 k] W fun r W' => r = .returned (.bool true) ∧ Below W.heap.size W W' := by
  have hc1 := h.d.c1
  obtain ⟨ao, cap, hv, _⟩ := trow_of h.d.row
  subst hv
  have bq : ∀ (w : World) (b : Bool), (binOp .eql 4 (.bool b) (.bool b)).run Try.prog w = .ok (.bool true) w := fun w b => by cases b <;> rfl
  obtain ⟨m, hm⟩ : ∃ m, m = (L.map I.kp).length := ⟨_, rfl⟩
  have HC : Hid (∀ X, Below W.heap.size W X → X.cell? ⟨bd, 1, none⟩ = some (.slice ao m cap)) := fun X hX => by rw [hm]; exact cell_later hX hc1
  have HOo : Hid (∀ X, Below W.heap.size W X → Calls Try.prog 32 #[.pointer (some ⟨bo, 0, none⟩)] X fun r w' => r = .returned (.tuple #[.int .i64 ((oldOf (L.map I.kp)).getD 0), .bool (oldOf (L.map I.kp)).isSome]) ∧ Below X.heap.size X w') := fun X hX => o_oldest (h.later hX).o
  have HOd : Hid (∀ X, Below W.heap.size W X → Calls Try.prog 47 #[.pointer (some ⟨bd, 0, none⟩)] X fun r w' => r = .returned (.tuple #[.int .i64 ((oldOf (L.map I.kp)).getD 0), .bool (oldOf (L.map I.kp)).isSome]) ∧ Below X.heap.size X w') := fun X hX => oldest_any (h.later hX).d
  have HPo : Hid (∀ X, Below W.heap.size W X → Calls Try.prog 39 #[.pointer (some ⟨bo, 0, none⟩), .int .i64 k] X fun r w' => r = .returned (.int .i64 ((pinsOf k (L.map I.kp)).getD 0 : Nat)) ∧ w' = X) := fun X hX => o_pins (h.later hX).o hk
  have HPd : Hid (∀ X, Below W.heap.size W X → Calls Try.prog 48 #[.pointer (some ⟨bd, 0, none⟩), .int .i64 k] X fun r w' => r = .returned (.int .i64 ((pinsOf k (L.map I.kp)).getD 0 : Nat)) ∧ w' = X) := fun X hX => d_pins (h.later hX).d k
  have HHo : Hid (∀ X, Below W.heap.size W X → Calls Try.prog 40 #[.pointer (some ⟨bo, 0, none⟩), .int .i64 k] X fun r w' => r = .returned (.bool (pinsOf k (L.map I.kp)).isSome) ∧ w' = X) := fun X hX => o_has (h.later hX).o hk
  have HHd : Hid (∀ X, Below W.heap.size W X → Calls Try.prog 26 #[.pointer (some ⟨bd, 0, none⟩), .int .i64 k] X fun r w' => r = .returned (.bool (pinsOf k (L.map I.kp)).isSome) ∧ w' = X) := fun X hX => d_has (h.later hX).d k
  have HLo : Hid (∀ X, Below W.heap.size W X → Calls Try.prog 31 #[.pointer (some ⟨bo, 0, none⟩)] X fun r w' => r = .returned (.int .i64 m) ∧ w' = X) := fun X hX => by
    rw [hm, List.length_map]; exact len_any (h.later hX).o
  obtain ⟨ks, hks⟩ : ∃ ks, ks = keysOf (L.map I.kp) := ⟨_, rfl⟩
  obtain ⟨fs, hfs⟩ : ∃ fs, fs = freeOf (L.map I.kp) := ⟨_, rfl⟩
  obtain ⟨km, hkm⟩ : ∃ km, km = ks.length := ⟨_, rfl⟩
  obtain ⟨fm, hfm⟩ : ∃ fm, fm = fs.length := ⟨_, rfl⟩
  have hkl : ks.length ≤ 8796093022208 := by rw [hks]; simp [keysOf]; exact hl
  have hfl : fs.length ≤ 8796093022208 := by rw [hfs]; exact Nat.le_trans (freeOf_le _) (by simpa using hl)
  have HAo : Hid (∀ X, Below W.heap.size W X → Calls Try.prog 36 #[.pointer (some ⟨bo, 0, none⟩)] X fun r w' => ∃ a c, r = .returned (.slice a km c) ∧ IRow w' a ks ∧ Below X.heap.size X w') := fun X hX => by
    refine (A.law_any (h.later hX).o (by omega)).mono ?_
    rintro r w' ⟨v, rfl, ho, hb⟩
    rw [picked_all, ← hks] at ho
    obtain ⟨a, c, rfl, hi⟩ := irow_of ho
    exact ⟨a, c, by rw [hkm], hi, hb⟩
  have HFo : Hid (∀ X, Below W.heap.size W X → Calls Try.prog 42 #[.pointer (some ⟨bo, 0, none⟩)] X fun r w' => ∃ a c, r = .returned (.slice a fm c) ∧ IRow w' a fs ∧ Below X.heap.size X w') := fun X hX => by
    refine (F.law_any (h.later hX).o (by omega)).mono ?_
    rintro r w' ⟨v, rfl, ho, hb⟩
    rw [picked_free, ← hfs] at ho
    obtain ⟨a, c, rfl, hi⟩ := irow_of ho
    exact ⟨a, c, by rw [hfm], hi, hb⟩
  have HAd : Hid (∀ X, Below W.heap.size W X → Calls Try.prog 27 #[.pointer (some ⟨bd, 0, none⟩)] X fun r w' => ∃ a c, r = .returned (.slice a km c) ∧ IRow w' a ks ∧ Below X.heap.size X w') := fun X hX => by
    refine (all_any (h.later hX).d).mono ?_
    rintro r w' ⟨v, rfl, ho, hb⟩
    rw [← hks] at ho
    obtain ⟨a, c, rfl, hi⟩ := irow_of ho
    exact ⟨a, c, by rw [hkm], hi, hb⟩
  have HFd : Hid (∀ X, Below W.heap.size W X → Calls Try.prog 44 #[.pointer (some ⟨bd, 0, none⟩)] X fun r w' => ∃ a c, r = .returned (.slice a fm c) ∧ IRow w' a fs ∧ Below X.heap.size X w') := fun X hX => by
    refine (free_any (h.later hX).d).mono ?_
    rintro r w' ⟨v, rfl, ho, hb⟩
    rw [← hfs] at ho
    obtain ⟨a, c, rfl, hi⟩ := irow_of ho
    exact ⟨a, c, by rw [hfm], hi, hb⟩
  have HSk : Hid (∀ (X : World) (a a' : Option Addr) (c c' : Nat), IRow X a ks → IRow X a' ks → Calls Try.prog 35 #[.slice a km c, .slice a' km c'] X fun r w' => r = .returned (.bool true) ∧ Below X.heap.size X w') := fun X a a' c c' h1 h2 => by
    rw [hkm]
    refine (same_any a a' c c' ks ks X (by omega) (by omega) h1 h2).mono ?_
    rintro r w' ⟨rfl, q, rfl⟩
    exact ⟨by simp, below_drewN X q⟩
  have HSf : Hid (∀ (X : World) (a a' : Option Addr) (c c' : Nat), IRow X a fs → IRow X a' fs → Calls Try.prog 35 #[.slice a fm c, .slice a' fm c'] X fun r w' => r = .returned (.bool true) ∧ Below X.heap.size X w') := fun X a a' c c' h1 h2 => by
    rw [hfm]
    refine (same_any a a' c c' fs fs X (by omega) (by omega) h1 h2).mono ?_
    rintro r w' ⟨rfl, q, rfl⟩
    exact ⟨by simp, below_drewN X q⟩
  generalize (oldOf (L.map I.kp)).getD 0 = od at *
  generalize (oldOf (L.map I.kp)).isSome = ob at *
  generalize (pinsOf k (L.map I.kp)).getD 0 = pn at *
  generalize (pinsOf k (L.map I.kp)).isSome = hb at *
  have HB0 : Hid (Below W.heap.size W W) := Below.refl _ _
  have hml : m ≤ 8796093022208 := by rw [hm]; simpa using hl
  clear h hc1 hm hks hfs hkm hfm hkl hfl hl hk
  go_enter Try.func11, Try.ntmps11
  go_wp2_with (first | (go_at_call 32; refine (HOo.out _ HB0.out).mono ?_; rintro e w1 ⟨rfl, hb1⟩; have HB1 : Hid (Below W.heap.size W w1) := hb1; clear hb1) | (go_at_call 47; refine (HOd.out _ HB1.out).mono ?_; rintro e w2 ⟨rfl, hb2⟩; have HB2 : Hid (Below W.heap.size W w2.drew) := (by have := HB1.out.trans (hb2.mono HB1.out.size); exact ⟨this.os, this.tape, this.output, this.size, this.block⟩); clear hb2))
  have hcw : w2.cell? ⟨bd, 1, none⟩ = some (.slice ao m cap) := HC.out w2.drew HB2.out
  go_region_held3 (fun w' => w'.cell? ⟨bd, 1, none⟩ = some (.slice ao m cap)) (first | go_keep | exact HC.out _ HB8.out | exact HC.out _ HB7.out | exact HC.out _ HB6.out | exact HC.out _ HB5.out | exact HC.out _ HB4.out | exact HC.out _ HB3.out) (first | (go_at_call 39; refine (HPo.out _ HB2.out).mono ?_; rintro e w9 ⟨rfl, hw9⟩; rw [hw9]; clear hw9) | (go_at_call 48; refine (HPd.out _ HB2.out).mono ?_; rintro e w9 ⟨rfl, hw9⟩; rw [hw9]; clear hw9) | (go_at_call 40; refine (HHo.out _ HB2.out).mono ?_; rintro e w9 ⟨rfl, hw9⟩; rw [hw9]; clear hw9) | (go_at_call 26; refine (HHd.out _ HB2.out).mono ?_; rintro e w9 ⟨rfl, hw9⟩; rw [hw9]; clear hw9) | (go_at_call 31; refine (HLo.out _ HB2.out).mono ?_; rintro e w9 ⟨rfl, hw9⟩; rw [hw9]; clear hw9) | (go_at_call 36; refine (HAo.out _ HB2.out).mono ?_; rintro e w3 ⟨a3, c3, rfl, hi3, hb3⟩; have HB3 : Hid (Below W.heap.size W w3) := HB2.out.trans (hb3.mono HB2.out.size); clear hb3) | (go_at_call 27; refine (HAd.out _ HB3.out).mono ?_; rintro e w4 ⟨a4, c4, rfl, hi4, hb4⟩; have HB4 : Hid (Below W.heap.size W w4) := HB3.out.trans (hb4.mono HB3.out.size); have hs1 := HSk.out w4 a3 a4 c3 c4 (hi3.later hb4) hi4; clear hb4 hi3 hi4) | (go_at_call 35; refine hs2.mono ?_; rintro e w8 ⟨rfl, hb8⟩; have HB8 : Hid (Below W.heap.size W w8) := HB7.out.trans (hb8.mono HB7.out.size); clear hb8) | (go_at_call 35; refine hs1.mono ?_; clear hs1; rintro e w5 ⟨rfl, hb5⟩; have HB5 : Hid (Below W.heap.size W w5) := HB4.out.trans (hb5.mono HB4.out.size); clear hb5) | (go_at_call 42; refine (HFo.out _ HB5.out).mono ?_; rintro e w6 ⟨a6, c6, rfl, hi6, hb6⟩; have HB6 : Hid (Below W.heap.size W w6) := HB5.out.trans (hb6.mono HB5.out.size); clear hb6) | (go_at_call 44; refine (HFd.out _ HB6.out).mono ?_; rintro e w7 ⟨a7, c7, rfl, hi7, hb7⟩; have HB7 : Hid (Below W.heap.size W w7) := HB6.out.trans (hb7.mono HB6.out.size); have hs2 := HSf.out w7 a6 a7 c6 c7 (hi6.later hb7) hi7; clear hb7 hi6 hi7))
  go_wp2
  go_ret
  exact ⟨rfl, HB8.out⟩
end Go.Proofs.Ytpchllepboolhaa.D
