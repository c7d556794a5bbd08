import Derived.Test.YtpkobgnbjmefnabDoorUnqM
import Derived.Test.YtpkobgnbjmefnabDoorUnhexW
import Derived.Test.YtpkobgnbjmefnabDoorShelfQ
import Derived.OwnWalk
namespace Go.Proofs.YtpkobgnbjmefnabDoor
open Go.RowKit
set_option linter.unusedVariables false
set_option maxRecDepth 100000

theorem sbytes_get (s : ByteArray) (i : Nat) (h : i < s.size) : (sbytes s)[i]? = some (sb s i) := by
  have h1 : i < s.data.toList.length := by simpa using h
  unfold sbytes
  rw [List.getElem?_map, List.getElem?_eq_getElem h1, Option.map_some, ← sb_elem s i h]
  simp; rfl
theorem sbytes_one (s : ByteArray) (h : 0 < s.size) : ∃ t, sbytes s = sb s 0 :: t ∧ t.length = s.size - 1 := by
  have h0 := sbytes_get s 0 h
  have hl := sbytes_length s
  cases hs : sbytes s with
  | nil => rw [hs] at h0; simp at h0
  | cons c t => rw [hs] at h0 hl; simp at h0 hl; exact ⟨t, by rw [h0], by omega⟩
theorem sbytes_two (s : ByteArray) (h : 1 < s.size) : ∃ t, sbytes s = sb s 0 :: sb s 1 :: t ∧ t.length = s.size - 2 := by
  have h1 := sbytes_get s 1 h
  obtain ⟨t, e, hl⟩ := sbytes_one s (by omega)
  rw [e] at h1
  cases t with
  | nil => simp at h1
  | cons d u => simp at h1 hl; exact ⟨u, by rw [e, h1], by omega⟩
theorem sbytes_four (s : ByteArray) (h : 3 < s.size) : ∃ t, sbytes s = sb s 0 :: sb s 1 :: sb s 2 :: sb s 3 :: t := by
  have h2 := sbytes_get s 2 (by omega)
  have h3 := sbytes_get s 3 h
  obtain ⟨t, e, hl⟩ := sbytes_two s (by omega)
  rw [e] at h2 h3
  cases t with
  | nil => simp at h2
  | cons d u =>
    cases u with
    | nil => simp at h3
    | cons f v => simp at h2 h3; exact ⟨v, by rw [e, h2, h3]⟩
theorem sb_extract (s : ByteArray) (a b i : Nat) (hb : b ≤ s.size) (hi : a + i < b) : sb (s.extract a b) i = sb s (a + i) := by
  have h1 : i < (s.extract a b).size := by rw [ByteArray.size_extract]; omega
  rw [← sb_elem _ i h1, ← sb_elem s (a + i) (by omega)]
  rw [ByteArray.getElem_extract]
theorem unhex_pair (s : ByteArray) (h : 3 < s.size) : unhexR (s.extract 2 4) = (match hv (sb s 2), hv (sb s 3) with | some x, some y => some [16 * x + y] | _, _ => none) := by
  have hz : (s.extract 2 4).size = 2 := by rw [ByteArray.size_extract]; omega
  have e0 : sb (s.extract 2 4) 0 = sb s 2 := sb_extract s 2 4 0 (by omega) (by omega)
  have e1 : sb (s.extract 2 4) 1 = sb s 3 := sb_extract s 2 4 1 (by omega) (by omega)
  have hp : pairOk (s.extract 2 4) 0 = ((hv (sb s 2)).isSome && (hv (sb s 3)).isSome) := by show ((hv (sb _ 0)).isSome && (hv (sb _ 1)).isSome) = _; rw [e0, e1]
  have hv' : pairV (s.extract 2 4) 0 = 16 * (hv (sb s 2)).getD 0 + (hv (sb s 3)).getD 0 := by show 16 * (hv (sb _ 0)).getD 0 + (hv (sb _ 1)).getD 0 = _; rw [e0, e1]
  unfold unhexR
  rw [hz]
  have ho : okTo (s.extract 2 4) 1 = pairOk (s.extract 2 4) 0 := by simp [okTo, List.range_succ]
  have hd : decTo (s.extract 2 4) 1 = [pairV (s.extract 2 4) 0] := by simp [decTo, List.range_succ]
  show (if 2 % 2 = 0 ∧ okTo (s.extract 2 4) 1 = true then some (decTo (s.extract 2 4) 1) else none) = _
  rw [ho, hp, hd, hv']
  cases h2 : hv (sb s 2) <;> cases h3 : hv (sb s 3) <;> simp
def fbE (r : Option (Nat × Nat)) : Ending := match r with
  | some (b, k) => .returned (.tuple #[.int .u8 (b : Int), .int .i64 (k : Int), .bool true])
  | none => .returned (.tuple #[.int .u8 0, .int .i64 0, .bool false])

set_option maxHeartbeats 8000000 in
theorem firstB_any (s : ByteArray) (w : World) (h0 : 0 < s.size) (hs : s.size ≤ 268435456) :
    Calls Tryd.prog 77 #[.string s] w fun e w' => e = fbE (fBL (sbytes s)) ∧ Below w.heap.size w w' := by
  have g0 := sb_elem s 0
  have g1 := sb_elem s 1
  have l0 := sb_lt s 0
  have l1 := sb_lt s 1
  by_cases hc : sb s 0 = 92
  · have t0 : ((sb s 0 : Int) != 92) = false := by rw [bne_eq_false_iff_eq]; omega
    by_cases h2 : 2 ≤ s.size
    · have t1 : decide (2 ≤ (s.size : Int)) = true := by simp; omega
      have hs1 : 1 < s.size := by omega
      obtain ⟨t, eT, hT⟩ := sbytes_two s hs1
      by_cases hn : sb s 1 = 110
      · have HF : Hid (fBL (sbytes s) = some (10, 2)) := by show _ = _; rw [eT, hc, hn]; simp [fBL]
        rw [HF.out]
        have t2 : ((sb s 1 : Int) == 110) = true := by rw [beq_iff_eq]; omega
        clear hc hn eT hT
        generalize sb s 0 = c at *
        generalize sb s 1 = d at *
        go_enter Tryd.func77, Tryd.ntmps77
        go_wp2
        go_ret3
        exact ⟨rfl, Below.refl _ _⟩
      have t2 : ((sb s 1 : Int) == 110) = false := by rw [beq_eq_false_iff_ne]; omega
      by_cases hq : sb s 1 = 34
      · have HF : Hid (fBL (sbytes s) = some (sb s 1, 2)) := by show _ = _; rw [eT, hc, hq]; simp [fBL]
        rw [HF.out]
        have t3 : ((sb s 1 : Int) == 34) = true := by rw [beq_iff_eq]; omega
        clear hc hn hq eT hT
        generalize sb s 0 = c at *
        generalize sb s 1 = d at *
        go_enter Tryd.func77, Tryd.ntmps77
        go_wp2
        go_ret3
        exact ⟨rfl, Below.refl _ _⟩
      have t3 : ((sb s 1 : Int) == 34) = false := by rw [beq_eq_false_iff_ne]; omega
      by_cases hq2 : sb s 1 = 92
      · have HF : Hid (fBL (sbytes s) = some (sb s 1, 2)) := by show _ = _; rw [eT, hc, hq2]; simp [fBL]
        rw [HF.out]
        have t4 : ((sb s 1 : Int) == 92) = true := by rw [beq_iff_eq]; omega
        clear hc hn hq hq2 eT hT
        generalize sb s 0 = c at *
        generalize sb s 1 = d at *
        go_enter Tryd.func77, Tryd.ntmps77
        go_wp2
        go_ret3
        exact ⟨rfl, Below.refl _ _⟩
      have t4 : ((sb s 1 : Int) == 92) = false := by rw [beq_eq_false_iff_ne]; omega
      by_cases hx : sb s 1 = 120
      · have t6 : ((sb s 1 : Int) == 120) = true := by rw [beq_iff_eq]; omega
        by_cases h4 : 4 ≤ s.size
        · have t5 : decide (4 ≤ (s.size : Int)) = true := by simp; omega
          obtain ⟨u, eU⟩ := sbytes_four s (by omega)
          have hF : fBL (sbytes s) = (match hv (sb s 2), hv (sb s 3) with | some x, some y => some (16 * x + y, 4) | _, _ => none) := by
            rw [eU, hc, hx]; simp only [fBL]; cases hv (sb s 2) <;> cases hv (sb s 3) <;> simp
          have hu := unhex_pair s (by omega)
          have HU : Hid (Calls Tryd.prog 98 #[.string (s.extract 2 4)] w (UnRes (s.extract 2 4) w)) := unhex_any _ w (by rw [ByteArray.size_extract]; omega)
          cases hp : unhexR (s.extract 2 4) with
          | none =>
            have HF : Hid (fBL (sbytes s) = none) := by
              show _ = _
              rw [hF]
              rw [hp] at hu
              cases h2' : hv (sb s 2) <;> cases h3' : hv (sb s 3) <;> simp [h2', h3'] at hu ⊢
            rw [HF.out]
            have HU2 : Hid (Calls Tryd.prog 98 #[.string (s.extract 2 4)] w fun e w' => e = .returned (.tuple #[.slice none 0 0, .int .i64 15]) ∧ Below w.heap.size w w') := HU.out.mono fun e w' hh => by
              obtain ⟨hh1 | ⟨l, ao, cap, hh1, _⟩, hb⟩ := hh
              · exact ⟨hh1.2, hb⟩
              · rw [hp] at hh1; cases hh1
            clear hF hu hp HU hc hn hq hq2 hx eT hT eU
            generalize sb s 0 = c at *
            generalize sb s 1 = d at *
            go_enter Tryd.func77, Tryd.ntmps77
            go_wp2_with fail
            refine HU2.out.mono ?_
            rintro e w1 ⟨rfl, hb⟩
            have HB : Hid (Below w.heap.size w w1) := hb
            clear hb
            go_wp2
            go_ret3
            exact ⟨rfl, HB.out⟩
          | some l =>
            obtain ⟨b, hl⟩ : ∃ b, l = [b] := by
              rw [hp] at hu
              cases h2' : hv (sb s 2) <;> cases h3' : hv (sb s 3) <;> simp [h2', h3'] at hu
              exact ⟨_, hu⟩
            subst hl
            have HF : Hid (fBL (sbytes s) = some (b, 4)) := by
              show _ = _
              rw [hF]
              rw [hp] at hu
              cases h2' : hv (sb s 2) <;> cases h3' : hv (sb s 3) <;> simp [h2', h3'] at hu ⊢
              omega
            rw [HF.out]
            have HU2 : Hid (Calls Tryd.prog 98 #[.string (s.extract 2 4)] w fun e w' => ∃ g cap, e = .returned (.tuple #[.slice (some ⟨g, 0, none⟩) 1 cap, .int .i64 0]) ∧ w'.cell? ⟨g, 0, none⟩ = some (.int .u8 (b : Int)) ∧ Below w.heap.size w w') := HU.out.mono fun e w' hh => by
              obtain ⟨hh1 | ⟨l, ao, cap, hh1, hh2, hh3⟩, hb⟩ := hh
              · rw [hp] at hh1; cases hh1.1
              · rw [hp] at hh1
                cases hh1
                rcases hh3.2 with ⟨_, h0'⟩ | ⟨g, cap', cur, hv', _⟩
                · simp at h0'
                · simp only [Value.slice.injEq] at hv'
                  obtain ⟨rfl, _, rfl⟩ := hv'
                  refine ⟨g, cap, hh2, ?_, hb⟩
                  rw [hh3.cellAt 0 (by simp)]; rfl
            clear hF hu hp HU hc hn hq hq2 hx eT hT eU
            generalize sb s 0 = c at *
            generalize sb s 1 = d at *
            go_enter Tryd.func77, Tryd.ntmps77
            go_wp2_with fail
            refine HU2.out.mono ?_
            rintro e w1 ⟨g, cap, rfl, hcell, hb⟩
            have HB : Hid (Below w.heap.size w w1) := hb
            clear hb
            go_wp2
            go_ret3
            exact ⟨rfl, HB.out⟩
        · have t5 : decide (4 ≤ (s.size : Int)) = false := by simp; omega
          have HF : Hid (fBL (sbytes s) = none) := by
            show _ = _
            rw [eT, hc, hx]
            simp only [fBL]
            cases t with
            | nil => simp
            | cons a u =>
              cases u with
              | nil => simp
              | cons b v => simp at hT; omega
          rw [HF.out]
          clear hc hn hq hq2 hx eT hT
          generalize sb s 0 = c at *
          generalize sb s 1 = d at *
          go_enter Tryd.func77, Tryd.ntmps77
          go_wp2
          go_ret3
          exact ⟨rfl, Below.refl _ _⟩
      · have t6 : ((sb s 1 : Int) == 120) = false := by rw [beq_eq_false_iff_ne]; omega
        have HF : Hid (fBL (sbytes s) = none) := by show _ = _; rw [eT, hc]; simp [fBL, hn, hq, hq2, hx]
        rw [HF.out]
        clear hc hn hq hq2 hx eT hT
        generalize sb s 0 = c at *
        generalize sb s 1 = d at *
        go_enter Tryd.func77, Tryd.ntmps77
        go_wp2
        all_goals
          go_ret3
          exact ⟨rfl, Below.refl _ _⟩
    · have t1 : decide (2 ≤ (s.size : Int)) = false := by simp; omega
      have t5 : decide (4 ≤ (s.size : Int)) = false := by simp; omega
      obtain ⟨t, eT, hT⟩ := sbytes_one s h0
      have HF : Hid (fBL (sbytes s) = none) := by
        show _ = _
        have : t = [] := List.eq_nil_of_length_eq_zero (by omega)
        rw [eT, hc, this]; simp [fBL]
      rw [HF.out]
      clear hc eT hT
      generalize sb s 0 = c at *
      go_enter Tryd.func77, Tryd.ntmps77
      go_wp2
      go_ret3
      exact ⟨rfl, Below.refl _ _⟩
  · have t0 : ((sb s 0 : Int) != 92) = true := by rw [bne_iff_ne]; omega
    obtain ⟨t, eT, hT⟩ := sbytes_one s h0
    have HF : Hid (fBL (sbytes s) = some (sb s 0, 1)) := by show _ = _; rw [eT]; simp [fBL, hc]
    rw [HF.out]
    clear hc eT hT
    generalize sb s 0 = c at *
    go_enter Tryd.func77, Tryd.ntmps77
    go_wp2
    go_ret3
    exact ⟨rfl, Below.refl _ _⟩
end Go.Proofs.YtpkobgnbjmefnabDoor
