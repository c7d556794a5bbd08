import Derived.Test.YtckfmpoddmccfaaFA
import Derived.Deep.RegionLaw
namespace Go.Proofs.Ytckfmpoddmccfaa
open Go.RowKit
set_option linter.unusedVariables false
set_option linter.unusedSimpArgs false
set_option maxRecDepth 100000

/-- a part of a row -/
theorem CRow.part {w : World} {ao : Option Addr} {cap : Nat} {m : List Nat} (h : CRow w ao cap m) (p k : Nat) (hp : p + k ≤ m.length) : ∀ a, ao = some a → BRow w (if cap = p then some a else some ⟨a.block, a.off + p, none⟩) (cap - p) ((m.drop p).take k) := by
  rintro a rfl
  refine ⟨fun x hx => h.row.lt x (List.mem_of_mem_drop (List.mem_of_mem_take hx)), by have := h.row.len; rw [List.length_take, List.length_drop]; omega, fun e => by split at e <;> simp at e, fun hne => ?_⟩
  have hkp : 0 < k ∧ p < m.length := by
    constructor
    · rcases Nat.eq_zero_or_pos k with e | e
      · subst e; simp at hne
      · exact e
    · rcases Nat.lt_or_ge p m.length with e | e
      · exact e
      · rw [List.drop_eq_nil_of_le e] at hne; simp at hne
  obtain ⟨b, off, e, hc⟩ := h.row.at_ (by rintro rfl; simp at hkp)
  simp only [Option.some.injEq] at e
  subst e
  have hcp := h.cap1
  rw [if_neg (by omega)]
  refine ⟨b, off + p, rfl, fun j hj => ?_⟩
  rw [List.length_take, List.length_drop] at hj
  rw [Nat.add_assoc, hc (p + j) (by omega)]
  simp
set_option maxHeartbeats 400000 in
theorem newI (r : Nat) (h1 : 1 ≤ r) (h2 : r ≤ 2097152) (w : World) :
    Calls Try.prog 18 #[.int .i64 (r : Int)] w fun e w' => e = .returned (.tuple #[.pointer (some ⟨w.heap.size, 0, none⟩), .int .i64 0]) ∧ Inb w' w.heap.size w.heap.size (.slice none 0 0) r 0 [] ∧ Below w.heap.size w w' := by
  have t1 : decide ((r : Int) < 1) = false := by simp; omega
  have t2 : decide ((2097152 : Int) < (r : Int)) = false := by simp; omega
  have t3 : ¬ ((2097152 : Int) < (r : Int)) := by omega
  have t4 : ¬ ((r : Int) < 1) := by omega
  have HP : Hid (Inb (w.alloc (.cells #[.int .i64 (r : Int), .slice none 0 0, .int .u32 0] TIn)) w.heap.size w.heap.size (.slice none 0 0) r 0 [] ∧ Below w.heap.size w (w.alloc (.cells #[.int .i64 (r : Int), .slice none 0 0, .int .u32 0] TIn))) :=
    ⟨⟨heap_new w _, ⟨by simp, by simp, .inl (World.ownsRow_nil _ _ _ _)⟩, Nat.le_refl _, h1, h2, by simp, by decide⟩, (Below.refl _ _).alloc (Nat.le_refl _) _⟩
  go_enter Try.func18, Try.ntmps18
  go_wp2
  go_ret2
  exact ⟨rfl, HP.out.1, HP.out.2⟩
set_option maxHeartbeats 400000 in
theorem newI_bad (r : Int) (h : r < 1 ∨ 2097152 < r) (w : World) :
    Calls Try.prog 18 #[.int .i64 r] w fun e w' => e = .returned (.tuple #[.pointer none, .int .i64 90]) ∧ w' = w := by
  by_cases t1 : r < 1
  · go_enter Try.func18, Try.ntmps18
    go_wp2
    go_ret2
    exact ⟨rfl, rfl⟩
  · have t2 : 2097152 < r := by omega
    have t3 : decide (2097152 < r) = true := by simp; omega
    go_enter Try.func18, Try.ntmps18
    go_wp2
    go_ret2
    exact ⟨rfl, rfl⟩
set_option maxHeartbeats 4000000 in
theorem feedI {w : World} {B b : Nat} {v : Value} {rm ov : Nat} {l : List Nat} (h : Inb w B b v rm ov l) (ao : Option Addr) (cap n : Nat) (m : List Nat) (hm : CRow w ao cap m) (HN : Hid (m.length = n)) (hn : n ≤ 1099511627776) (p k : Nat) (hp : min n ov = p) (hk : min (n - p) (rm - l.length) = k) :
    Calls Try.prog 19 #[.pointer (some ⟨b, 0, none⟩), .slice ao n cap] w fun e w' => e = .returned (.int .i64 ((p + k : Nat) : Int)) ∧ ∃ v', Inb w' B b v' rm (ov - p) (l ++ (m.drop p).take k) ∧ IAct w w' b v v' := by
  obtain ⟨i0, hi, hz0, hz1, hz2⟩ := info_parts Try.info5
  have HU : Hid (Calls Try.prog 27 #[.pointer (some ⟨b, 0, none⟩)] w fun e w' => e = .returned (.bool true) ∧ w' = w) := usableI h
  have HPs : Hid _ := passI h n p (by omega) hp
  have HC : Hid (CRow w ao cap m) := hm
  have HI0 : Hid (Inb w B b v rm ov l) := h
  have hB : B ≤ w.heap.size := Nat.le_trans h.hb (Nat.le_of_lt (block_lt h.blk))
  have hr2 := h.r2
  have hle := h.le
  have hov := h.ov4
  clear h hm
  go_enter Try.func19, Try.ntmps19
  go_wp2_with fail
  refine HU.out.mono ?_
  rintro e w1 ⟨rfl, hw1⟩
  rw [hw1]; clear hw1 HU
  go_wp2_with fail
  refine Calls.mono HPs.out ?_
  rintro e w1 ⟨rfl, hI1, hA1⟩
  have HI1 : Hid _ := hI1
  have HA1 : Hid (IAct w w1 b v v) := IAct.ofKept hA1
  have HC1 : Hid (CRow w1 ao cap m) := HC.out.past HI0.out hA1
  have HR : Hid _ := roomI hI1
  clear hI1 hA1 HPs
  obtain ⟨R, hR⟩ : ∃ R, rm - l.length = R := ⟨_, rfl⟩
  obtain ⟨N1, hN1⟩ : ∃ N1, n - p = N1 := ⟨_, rfl⟩
  obtain ⟨T, hT⟩ : ∃ T, p + k = T := ⟨_, rfl⟩
  rw [hR] at HR hk
  rw [hN1] at hk
  have q1 : IntKind.i64.wrap ((n : Int) - (p : Int)) = (N1 : Int) := by rw [IntKind.wrap_i64]; omega
  go_wp2_with fail
  refine Calls.mono HR.out ?_
  rintro e w2 ⟨rfl, q, hw2⟩
  have HI2 : Hid (Inb w2 B b v rm (ov - p) l) := by rw [hw2]; exact HI1.out.drewN q
  have HA2 : Hid (IAct w w2 b v v) := by rw [hw2]; exact HA1.out.trans (IAct.drewN q)
  have HC2 : Hid (∀ a, ao = some a → BRow w2 (if cap = p then some a else some ⟨a.block, a.off + p, none⟩) (cap - p) ((m.drop p).take k)) := by rw [hw2]; exact (HC1.out.later (w' := w1.drewN q) ⟨rfl, rfl, rfl, Nat.le_refl _, fun _ _ => rfl⟩).part p k (by rw [HN.out]; omega)
  have hcap1 := HC1.out.cap1
  have hcap2 := HC1.out.cap2
  have hnil := HC1.out.row.nil
  rw [HN.out] at hcap1
  clear HI1 HA1 HR hw2 HC HI0
  have hB2 : B ≤ w2.heap.size := Nat.le_trans HI2.out.hb (Nat.le_of_lt (block_lt HI2.out.blk))
  have hD : Below w2.heap.size w2 w2.drew := ⟨rfl, rfl, rfl, Nat.le_refl _, fun _ _ => rfl⟩
  by_cases hn0 : n = 0
  · have hm0 : m = [] := List.eq_nil_of_length_eq_zero (by have := HN.out; omega)
    obtain rfl : N1 = 0 := by omega
    obtain rfl : k = 0 := by omega
    have hp0 : p = 0 := by omega
    obtain rfl : T = 0 := by omega
    subst hp0 hm0 hn0
    have c1 := HI2.out.c 1
    have f1 := HI2.out.f 1
    simp at c1
    have hnl : ao = none → cap = 0 := fun e => (hnil e).2
    have hlt : ¬ R < 0 := by omega
    clear HC2 HC1 hnil HN hR
    cases ao with
    | none =>
      obtain rfl := hnl rfl
      have HX : Hid (HRow w2.drew B v l ∧ (∀ ao c, (ao = none → c = 0) → BRow w2.drew ao c []) ∧ B ≤ w2.drew.heap.size) := ⟨HI2.out.row.later hD, (fun ao c h => ⟨by simp, by simp, fun e => ⟨rfl, h e⟩, fun h => absurd rfl h⟩), hB2⟩
      have HF : Hid (∀ (W' : World) ao' c', HRow W' B (.slice ao' (l.length + 0) c') (l ++ []) → w2.drew.grownBy W' v.ownBlock → Fresh w2.drew v (.slice ao' (l.length + 0) c') → (W'.cell? ⟨b, 1, none⟩ = some v ∧ W'.frozen? ⟨b, 1, none⟩ = false) ∧ Inb (W'.setCell ⟨b, 1, none⟩ (.slice ao' (l.length + 0) c')) B b (.slice ao' (l.length + 0) c') rm (ov - 0) (l ++ []) ∧ IAct w (W'.setCell ⟨b, 1, none⟩ (.slice ao' (l.length + 0) c')) b v (.slice ao' (l.length + 0) c')) := fun W' ao' c' hr hg hf => by
        have hi := HI2.out.later hD
        have := hi.putV hg hr hf (by simp; omega)
        exact ⟨this.1, this.2.1, HA2.out.trans ((IAct.ofBelow hD).trans this.2.2)⟩
      clear HI2 HA2
      go_wp2
      go_region_law (refine step_append_held rfl (.tmp 29) (.tmp 33) 22 rfl B i0 (.int .u8 0) Try.underlying22 hi hz0 hz1 hz2 rfl v l (by simp [Act.eval, Act.put]) HX.out.1 none 0 0 [] (by simp [Act.eval, Act.put]) (HX.out.2.1 _ _ (by simp)) rfl (by omega) HX.out.2.2 ?_; intro ao' c' w3 hr3 hg3 hf3; obtain ⟨⟨c3, f3⟩, hp3⟩ := HF.out w3 ao' c' hr3 hg3 hf3; have HP3 : Hid _ := hp3; clear hp3 hr3 hg3 hf3)
      all_goals
        go_wp2
        go_ret
        have hp3 := HP3.out
        simp only [List.append_nil, Nat.add_zero] at hp3
        simp
        exact ⟨_, hp3.1, hp3.2⟩

    | some a =>
      by_cases hcp : cap = 0
      · subst hcp
        have HX : Hid (HRow w2.drew B v l ∧ (∀ ao c, (ao = none → c = 0) → BRow w2.drew ao c []) ∧ B ≤ w2.drew.heap.size) := ⟨HI2.out.row.later hD, (fun ao c h => ⟨by simp, by simp, fun e => ⟨rfl, h e⟩, fun h => absurd rfl h⟩), hB2⟩
        have HF : Hid (∀ (W' : World) ao' c', HRow W' B (.slice ao' (l.length + 0) c') (l ++ []) → w2.drew.grownBy W' v.ownBlock → Fresh w2.drew v (.slice ao' (l.length + 0) c') → (W'.cell? ⟨b, 1, none⟩ = some v ∧ W'.frozen? ⟨b, 1, none⟩ = false) ∧ Inb (W'.setCell ⟨b, 1, none⟩ (.slice ao' (l.length + 0) c')) B b (.slice ao' (l.length + 0) c') rm (ov - 0) (l ++ []) ∧ IAct w (W'.setCell ⟨b, 1, none⟩ (.slice ao' (l.length + 0) c')) b v (.slice ao' (l.length + 0) c')) := fun W' ao' c' hr hg hf => by
          have hi := HI2.out.later hD
          have := hi.putV hg hr hf (by simp; omega)
          exact ⟨this.1, this.2.1, HA2.out.trans ((IAct.ofBelow hD).trans this.2.2)⟩
        clear HI2 HA2
        go_wp2
        go_region_law (refine step_append_held rfl (.tmp 29) (.tmp 33) 22 rfl B i0 (.int .u8 0) Try.underlying22 hi hz0 hz1 hz2 rfl v l (by simp [Act.eval, Act.put]) HX.out.1 (some a) 0 0 [] (by simp [Act.eval, Act.put]) (HX.out.2.1 _ _ (by simp)) rfl (by omega) HX.out.2.2 ?_; intro ao' c' w3 hr3 hg3 hf3; obtain ⟨⟨c3, f3⟩, hp3⟩ := HF.out w3 ao' c' hr3 hg3 hf3; have HP3 : Hid _ := hp3; clear hp3 hr3 hg3 hf3)
        all_goals
          go_wp2
          go_ret
          have hp3 := HP3.out
          simp only [List.append_nil, Nat.add_zero] at hp3
          simp
          exact ⟨_, hp3.1, hp3.2⟩

      · have hcp2 : ¬ ((cap : Int) = 0) := by omega
        have HX : Hid (HRow w2.drew B v l ∧ (∀ ao c, (ao = none → c = 0) → BRow w2.drew ao c []) ∧ B ≤ w2.drew.heap.size) := ⟨HI2.out.row.later hD, (fun ao c h => ⟨by simp, by simp, fun e => ⟨rfl, h e⟩, fun h => absurd rfl h⟩), hB2⟩
        have HF : Hid (∀ (W' : World) ao' c', HRow W' B (.slice ao' (l.length + 0) c') (l ++ []) → w2.drew.grownBy W' v.ownBlock → Fresh w2.drew v (.slice ao' (l.length + 0) c') → (W'.cell? ⟨b, 1, none⟩ = some v ∧ W'.frozen? ⟨b, 1, none⟩ = false) ∧ Inb (W'.setCell ⟨b, 1, none⟩ (.slice ao' (l.length + 0) c')) B b (.slice ao' (l.length + 0) c') rm (ov - 0) (l ++ []) ∧ IAct w (W'.setCell ⟨b, 1, none⟩ (.slice ao' (l.length + 0) c')) b v (.slice ao' (l.length + 0) c')) := fun W' ao' c' hr hg hf => by
          have hi := HI2.out.later hD
          have := hi.putV hg hr hf (by simp; omega)
          exact ⟨this.1, this.2.1, HA2.out.trans ((IAct.ofBelow hD).trans this.2.2)⟩
        clear HI2 HA2
        go_wp2
        go_region_law (refine step_append_held rfl (.tmp 29) (.tmp 33) 22 rfl B i0 (.int .u8 0) Try.underlying22 hi hz0 hz1 hz2 rfl v l (by simp [Act.eval, Act.put]) HX.out.1 _ 0 _ [] (by rfl) (HX.out.2.1 _ _ (by simp)) rfl (by omega) HX.out.2.2 ?_; intro ao' c' w3 hr3 hg3 hf3; obtain ⟨⟨c3, f3⟩, hp3⟩ := HF.out w3 ao' c' hr3 hg3 hf3; have HP3 : Hid _ := hp3; clear hp3 hr3 hg3 hf3)
        all_goals
          go_wp2
          go_ret
          have hp3 := HP3.out
          simp only [List.append_nil, Nat.add_zero] at hp3
          simp
          exact ⟨_, hp3.1, hp3.2⟩

  have hk2 : (R = k ∧ R < N1) ∨ (N1 = k ∧ ¬ R < N1) := by omega
  rcases hk2 with ⟨hRk, hlt⟩ | ⟨hRk, hlt⟩
  · subst hRk
    have q2 : IntKind.i64.wrap ((p : Int) + (R : Int)) = (T : Int) := by rw [IntKind.wrap_i64]; omega
    have q3 : (p : Int) ≤ (T : Int) := by omega
    have q4 : (T : Int) ≤ (cap : Int) := by omega
    have q5 : T - p = R := by omega
    have q6 : (T : Int) - (p : Int) = (R : Int) := by omega
    have c1 := HI2.out.c 1
    have f1 := HI2.out.f 1
    simp at c1
    have HLn : Hid (((m.drop p).take R).length = R) := by show _ = _; have := HN.out; rw [List.length_take, List.length_drop]; omega
    obtain ⟨ab, aof, rfl⟩ : ∃ ab aof, ao = some ⟨ab, aof, none⟩ := by
      obtain ⟨x, y, e, _⟩ := HC1.out.row.at_ (by intro e; have := HN.out; rw [e] at this; simp at this; omega)
      exact ⟨x, y, e⟩
    have hB0 := HC2.out _ rfl
    clear HC2 HC1 hnil
    by_cases hcp : p = cap
    · subst hcp
      rw [if_pos rfl] at hB0
      simp only [Nat.sub_self] at hB0
      have HB : Hid _ := hB0
      clear hB0
      have HX : Hid (HRow w2.drew B v l ∧ BRow w2.drew (some ⟨ab, aof, none⟩) 0 ((m.drop p).take R) ∧ B ≤ w2.drew.heap.size) := ⟨HI2.out.row.later hD, HB.out.later hD, hB2⟩
      have HF : Hid (∀ (W' : World) ao' c', HRow W' B (.slice ao' (l.length + R) c') (l ++ ((m.drop p).take R)) → w2.drew.grownBy W' v.ownBlock → Fresh w2.drew v (.slice ao' (l.length + R) c') → (W'.cell? ⟨b, 1, none⟩ = some v ∧ W'.frozen? ⟨b, 1, none⟩ = false) ∧ Inb (W'.setCell ⟨b, 1, none⟩ (.slice ao' (l.length + R) c')) B b (.slice ao' (l.length + R) c') rm (ov - p) (l ++ ((m.drop p).take R)) ∧ IAct w (W'.setCell ⟨b, 1, none⟩ (.slice ao' (l.length + R) c')) b v (.slice ao' (l.length + R) c')) := fun W' ao' c' hr hg hf => by
        have hi := HI2.out.later hD
        have := hi.putV hg hr hf (by rw [List.length_append, HLn.out]; omega)
        exact ⟨this.1, this.2.1, HA2.out.trans ((IAct.ofBelow hD).trans this.2.2)⟩
      clear HI2 HA2
      go_wp2
      go_region_law (refine step_append_held rfl (.tmp 29) (.tmp 33) 22 rfl B i0 (.int .u8 0) Try.underlying22 hi hz0 hz1 hz2 rfl v l (by simp [Act.eval, Act.put]) HX.out.1 (some ⟨ab, aof, none⟩) R 0 ((m.drop p).take R) (by simp [Act.eval, Act.put]) HX.out.2.1 HLn.out (by omega) HX.out.2.2 ?_; intro ao' c' w3 hr3 hg3 hf3; obtain ⟨⟨c3, f3⟩, hp3⟩ := HF.out w3 ao' c' hr3 hg3 hf3; have HP3 : Hid _ := hp3; clear hp3 hr3 hg3 hf3)
      all_goals
        go_wp2
        go_ret
        exact ⟨ret_i64 (by omega), _, HP3.out.1, HP3.out.2⟩

    · rw [if_neg (fun e => hcp e.symm)] at hB0
      have HB : Hid _ := hB0
      have hca : ((cap - p : Nat) : Int) = (cap : Int) - (p : Int) := by omega
      have hcn : ¬ (cap - p = 0) := by omega
      have hcn3 : ¬ (cap = p) := fun e => hcp e.symm
      have hcn2 : ¬ ((cap : Int) - (p : Int) = 0) := by omega
      clear hB0
      have HX : Hid (HRow w2.drew B v l ∧ BRow w2.drew (some ⟨ab, aof + p, none⟩) (cap - p) ((m.drop p).take R) ∧ B ≤ w2.drew.heap.size) := ⟨HI2.out.row.later hD, HB.out.later hD, hB2⟩
      have HF : Hid (∀ (W' : World) ao' c', HRow W' B (.slice ao' (l.length + R) c') (l ++ ((m.drop p).take R)) → w2.drew.grownBy W' v.ownBlock → Fresh w2.drew v (.slice ao' (l.length + R) c') → (W'.cell? ⟨b, 1, none⟩ = some v ∧ W'.frozen? ⟨b, 1, none⟩ = false) ∧ Inb (W'.setCell ⟨b, 1, none⟩ (.slice ao' (l.length + R) c')) B b (.slice ao' (l.length + R) c') rm (ov - p) (l ++ ((m.drop p).take R)) ∧ IAct w (W'.setCell ⟨b, 1, none⟩ (.slice ao' (l.length + R) c')) b v (.slice ao' (l.length + R) c')) := fun W' ao' c' hr hg hf => by
        have hi := HI2.out.later hD
        have := hi.putV hg hr hf (by rw [List.length_append, HLn.out]; omega)
        exact ⟨this.1, this.2.1, HA2.out.trans ((IAct.ofBelow hD).trans this.2.2)⟩
      clear HI2 HA2
      go_wp2
      go_region_law (refine step_append_held rfl (.tmp 29) (.tmp 33) 22 rfl B i0 (.int .u8 0) Try.underlying22 hi hz0 hz1 hz2 rfl v l (by simp [Act.eval, Act.put]) HX.out.1 (some ⟨ab, aof + p, none⟩) R (cap - p) ((m.drop p).take R) (by simp [Act.eval, Act.put]; try omega) HX.out.2.1 HLn.out (by omega) HX.out.2.2 ?_; intro ao' c' w3 hr3 hg3 hf3; obtain ⟨⟨c3, f3⟩, hp3⟩ := HF.out w3 ao' c' hr3 hg3 hf3; have HP3 : Hid _ := hp3; clear hp3 hr3 hg3 hf3)
      all_goals
        go_wp2
        go_ret
        exact ⟨ret_i64 (by omega), _, HP3.out.1, HP3.out.2⟩

  · subst hRk
    have q2 : IntKind.i64.wrap ((p : Int) + (N1 : Int)) = (T : Int) := by rw [IntKind.wrap_i64]; omega
    have q3 : (p : Int) ≤ (T : Int) := by omega
    have q4 : (T : Int) ≤ (cap : Int) := by omega
    have q5 : T - p = N1 := by omega
    have q6 : (T : Int) - (p : Int) = (N1 : Int) := by omega
    have c1 := HI2.out.c 1
    have f1 := HI2.out.f 1
    simp at c1
    have HLn : Hid (((m.drop p).take N1).length = N1) := by show _ = _; have := HN.out; rw [List.length_take, List.length_drop]; omega
    obtain ⟨ab, aof, rfl⟩ : ∃ ab aof, ao = some ⟨ab, aof, none⟩ := by
      obtain ⟨x, y, e, _⟩ := HC1.out.row.at_ (by intro e; have := HN.out; rw [e] at this; simp at this; omega)
      exact ⟨x, y, e⟩
    have hB0 := HC2.out _ rfl
    clear HC2 HC1 hnil
    by_cases hcp : p = cap
    · subst hcp
      rw [if_pos rfl] at hB0
      simp only [Nat.sub_self] at hB0
      have HB : Hid _ := hB0
      clear hB0
      have HX : Hid (HRow w2.drew B v l ∧ BRow w2.drew (some ⟨ab, aof, none⟩) 0 ((m.drop p).take N1) ∧ B ≤ w2.drew.heap.size) := ⟨HI2.out.row.later hD, HB.out.later hD, hB2⟩
      have HF : Hid (∀ (W' : World) ao' c', HRow W' B (.slice ao' (l.length + N1) c') (l ++ ((m.drop p).take N1)) → w2.drew.grownBy W' v.ownBlock → Fresh w2.drew v (.slice ao' (l.length + N1) c') → (W'.cell? ⟨b, 1, none⟩ = some v ∧ W'.frozen? ⟨b, 1, none⟩ = false) ∧ Inb (W'.setCell ⟨b, 1, none⟩ (.slice ao' (l.length + N1) c')) B b (.slice ao' (l.length + N1) c') rm (ov - p) (l ++ ((m.drop p).take N1)) ∧ IAct w (W'.setCell ⟨b, 1, none⟩ (.slice ao' (l.length + N1) c')) b v (.slice ao' (l.length + N1) c')) := fun W' ao' c' hr hg hf => by
        have hi := HI2.out.later hD
        have := hi.putV hg hr hf (by rw [List.length_append, HLn.out]; omega)
        exact ⟨this.1, this.2.1, HA2.out.trans ((IAct.ofBelow hD).trans this.2.2)⟩
      clear HI2 HA2
      go_wp2
      go_region_law (refine step_append_held rfl (.tmp 29) (.tmp 33) 22 rfl B i0 (.int .u8 0) Try.underlying22 hi hz0 hz1 hz2 rfl v l (by simp [Act.eval, Act.put]) HX.out.1 (some ⟨ab, aof, none⟩) N1 0 ((m.drop p).take N1) (by simp [Act.eval, Act.put]) HX.out.2.1 HLn.out (by omega) HX.out.2.2 ?_; intro ao' c' w3 hr3 hg3 hf3; obtain ⟨⟨c3, f3⟩, hp3⟩ := HF.out w3 ao' c' hr3 hg3 hf3; have HP3 : Hid _ := hp3; clear hp3 hr3 hg3 hf3)
      all_goals
        go_wp2
        go_ret
        exact ⟨ret_i64 (by omega), _, HP3.out.1, HP3.out.2⟩

    · rw [if_neg (fun e => hcp e.symm)] at hB0
      have HB : Hid _ := hB0
      have hca : ((cap - p : Nat) : Int) = (cap : Int) - (p : Int) := by omega
      have hcn : ¬ (cap - p = 0) := by omega
      have hcn3 : ¬ (cap = p) := fun e => hcp e.symm
      have hcn2 : ¬ ((cap : Int) - (p : Int) = 0) := by omega
      clear hB0
      have HX : Hid (HRow w2.drew B v l ∧ BRow w2.drew (some ⟨ab, aof + p, none⟩) (cap - p) ((m.drop p).take N1) ∧ B ≤ w2.drew.heap.size) := ⟨HI2.out.row.later hD, HB.out.later hD, hB2⟩
      have HF : Hid (∀ (W' : World) ao' c', HRow W' B (.slice ao' (l.length + N1) c') (l ++ ((m.drop p).take N1)) → w2.drew.grownBy W' v.ownBlock → Fresh w2.drew v (.slice ao' (l.length + N1) c') → (W'.cell? ⟨b, 1, none⟩ = some v ∧ W'.frozen? ⟨b, 1, none⟩ = false) ∧ Inb (W'.setCell ⟨b, 1, none⟩ (.slice ao' (l.length + N1) c')) B b (.slice ao' (l.length + N1) c') rm (ov - p) (l ++ ((m.drop p).take N1)) ∧ IAct w (W'.setCell ⟨b, 1, none⟩ (.slice ao' (l.length + N1) c')) b v (.slice ao' (l.length + N1) c')) := fun W' ao' c' hr hg hf => by
        have hi := HI2.out.later hD
        have := hi.putV hg hr hf (by rw [List.length_append, HLn.out]; omega)
        exact ⟨this.1, this.2.1, HA2.out.trans ((IAct.ofBelow hD).trans this.2.2)⟩
      clear HI2 HA2
      go_wp2
      go_region_law (refine step_append_held rfl (.tmp 29) (.tmp 33) 22 rfl B i0 (.int .u8 0) Try.underlying22 hi hz0 hz1 hz2 rfl v l (by simp [Act.eval, Act.put]) HX.out.1 (some ⟨ab, aof + p, none⟩) N1 (cap - p) ((m.drop p).take N1) (by simp [Act.eval, Act.put]; try omega) HX.out.2.1 HLn.out (by omega) HX.out.2.2 ?_; intro ao' c' w3 hr3 hg3 hf3; obtain ⟨⟨c3, f3⟩, hp3⟩ := HF.out w3 ao' c' hr3 hg3 hf3; have HP3 : Hid _ := hp3; clear hp3 hr3 hg3 hf3)
      all_goals
        go_wp2
        go_ret
        exact ⟨ret_i64 (by omega), _, HP3.out.1, HP3.out.2⟩

end Go.Proofs.Ytckfmpoddmccfaa
