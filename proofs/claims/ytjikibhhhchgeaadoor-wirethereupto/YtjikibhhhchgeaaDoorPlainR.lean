import Derived.Test.YtjikibhhhchgeaaDoorPlainM
namespace Go.Proofs.YtjikibhhhchgeaaDoor
open Go.RowKit
set_option linter.unusedVariables false

theorem index_neg (l : List UInt8) (c : UInt8) : Lib.indexByte l c < 0 ↔ c ∉ l := by
  induction l with
  | nil => simp [Lib.indexByte]
  | cons b l ih =>
    have hge := Lib.indexByte_ge l c
    simp only [Lib.indexByte]
    by_cases hb : b = c
    · subst hb; simp
    · rw [if_neg (by simpa using hb)]
      by_cases hi : Lib.indexByte l c = -1
      · rw [if_pos (by simpa using hi)]
        have : c ∉ l := ih.1 (by omega)
        simp [this, Ne.symm hb]
      · rw [if_neg (by simpa using hi)]
        have : ¬ c ∉ l := fun h => by have := ih.2 h; omega
        simp only [List.mem_cons, not_or]
        constructor
        · intro h; omega
        · intro h; exact absurd h.2 this
theorem plainB_eq (l : List UInt8) : plainB l = (Lib.validD l && decide ((0 : UInt8) ∉ l)) := by
  unfold plainB
  congr 1
  exact decide_eq_decide.2 (index_neg l 0)

theorem contOk_ge (lo hi : Nat) (B : Nat → Nat) (hlo : 128 ≤ lo) (k : Nat) (hk : 1 ≤ k) (h : contOk lo hi B k = true) : 128 ≤ B k := by
  match k, hk with
  | 1, _ => rw [cont_one] at h; simp at h; omega
  | k + 2, _ => rw [cont_more] at h; simp at h; omega
theorem cls_lo (c : Nat) : 128 ≤ (cls c).2.1 ∧ (cls c).1 ≤ 4 := by
  unfold cls; repeat' split
  all_goals simp
theorem ret_bool' {a b : Bool} (h : a = b) : Ending.returned (.bool a) = .returned (.bool b) := by rw [h]
theorem runeF_spec (n : Nat) (B : Nat → Nat) (hn : 1 ≤ n) (h : runeF n B ≠ 0) : runeF n B ≤ n ∧ ∀ j, 1 ≤ j → j < runeF n B → 128 ≤ B j := by
  unfold runeF at *
  by_cases h0 : B 0 < 128
  · rw [if_pos h0]; exact ⟨hn, fun j h1 h2 => by omega⟩
  · rw [if_neg h0] at h ⊢
    by_cases h1 : (cls (B 0)).1 = 0 ∨ n < (cls (B 0)).1
    · rw [if_pos h1] at h; exact absurd rfl h
    · rw [if_neg h1] at h ⊢
      by_cases h2 : contOk (cls (B 0)).2.1 (cls (B 0)).2.2 B ((cls (B 0)).1 - 1) = true
      · rw [if_pos h2]
        refine ⟨by omega, fun j hj1 hj2 => ?_⟩
        exact contOk_ge _ _ B (cls_lo _).1 j hj1 (contOk_le _ _ B j _ (by omega) h2)
      · rw [if_neg h2] at h; exact absurd rfl h

/-- what is left from place i on -/
def pl (s : ByteArray) (i : Nat) : Bool := plainB (s.data.toList.drop i)
theorem size_list (s : ByteArray) : s.data.toList.length = s.size := by simp
theorem drop_ne (s : ByteArray) (i : Nat) (hi : i < s.size) : s.data.toList.drop i ≠ [] := by
  intro h; have := congrArg List.length h; rw [List.length_drop, size_list] at this; simp at this; omega
theorem pl_end (s : ByteArray) (i : Nat) (hi : s.size ≤ i) : pl s i = true := by
  unfold pl; rw [List.drop_eq_nil_of_le (by rw [size_list]; exact hi)]; decide
theorem pl_bad (s : ByteArray) (i : Nat) (hi : i < s.size) (h : runeF (s.size - i) (byt s i) = 0) : pl s i = false := by
  unfold pl plainB
  rw [Lib.validD_step _ (drop_ne s i hi), if_pos ((step_at s i hi).1.2 h)]; rfl
theorem getElem_list (s : ByteArray) (i : Nat) (hi : i < s.size) : s.data.toList[i]'(by rw [size_list]; exact hi) = s[i] := by simp; rfl
theorem pl_zero (s : ByteArray) (i : Nat) (hi : i < s.size) (h : (s[i]).toNat = 0) : pl s i = false := by
  unfold pl
  rw [plainB_eq]
  have hz : s[i] = 0 := UInt8.toNat_inj.1 h
  have : (0 : UInt8) ∈ s.data.toList.drop i := by
    rw [List.drop_eq_getElem_cons (by rw [size_list]; exact hi), getElem_list s i hi, hz]; simp
  simp [this]
theorem pl_step (s : ByteArray) (i : Nat) (hi : i < s.size) (h : runeF (s.size - i) (byt s i) ≠ 0) (hz : (s[i]).toNat ≠ 0) : pl s i = pl s (i + runeF (s.size - i) (byt s i)) ∧ i + runeF (s.size - i) (byt s i) ≤ s.size := by
  obtain ⟨hle, hge⟩ := runeF_spec _ _ (by omega) h
  obtain ⟨k1, k2⟩ := step_at s i hi
  have k2 := k2 h
  generalize hr : runeF (s.size - i) (byt s i) = r at *
  refine ⟨?_, by omega⟩
  unfold pl
  rw [plainB_eq, plainB_eq, Lib.validD_step _ (drop_ne s i hi), if_neg (fun hh => h (k1.1 hh)), k2, List.drop_drop]
  congr 1
  apply decide_eq_decide.2
  have hsplit : s.data.toList.drop i = (s.data.toList.drop i).take r ++ s.data.toList.drop (i + r) := by
    rw [← List.drop_drop, List.take_append_drop]
  rw [hsplit, List.mem_append, not_or]
  constructor
  · exact fun hh => hh.2
  · refine fun hh => ⟨fun hm => ?_, hh⟩
    obtain ⟨j, hj, he⟩ := List.getElem_of_mem hm
    have hjr : j < r := by rw [List.length_take, List.length_drop, size_list] at hj; omega
    have hb : ((s.data.toList.drop i).take r)[j] = s[i + j]'(by omega) := by
      rw [List.getElem_take, List.getElem_drop, getElem_list s (i + j) (by omega)]
    rw [he] at hb
    by_cases hj0 : j = 0
    · subst hj0; exact hz (by rw [show s[i] = 0 from hb.symm]; rfl)
    · have := hge j (by omega) hjr
      rw [byt_at s i j (by omega), ← hb] at this
      simp at this

set_option maxRecDepth 100000 in
set_option maxHeartbeats 1000000 in
theorem refPlain_any (s : ByteArray) (w : World) (hs : s.size ≤ 9223372036854775807) :
    Calls Tryd.prog 116 #[.string s] w fun e w' => e = .returned (.bool (plainB s.data.toList)) ∧ w' = w := by
  have HP : Hid (pl s 0 = plainB s.data.toList) := by show pl s 0 = _; unfold pl; rw [List.drop_zero]
  go_enter Tryd.func116, Tryd.ntmps116
  go_wp2
  go_loop [3] (fun i => ∃ k : Nat, k ≤ s.size ∧ i = .int .i64 k ∧ pl s 0 = pl s k) (fun i => s.size - (intOf i).toNat)
  case atStart => exact ⟨0, Nat.zero_le _, rfl, rfl⟩
  case round =>
    obtain ⟨k, hk, rfl, hrel⟩ := hrel
    have HR : Hid (pl s 0 = pl s k) := hrel
    clear hrel
    by_cases hlt : k < s.size
    · have HC : Hid (Calls Tryd.prog 122 #[.string s, .int .i64 k] w fun e w' => e = .returned (.int .i64 (runeF (s.size - k) (byt s k) : Nat)) ∧ w' = w) := rune_any s k w hlt hs
      by_cases hr : runeF (s.size - k) (byt s k) = 0
      · have HF : Hid (pl s k = false) := pl_bad s k hlt hr
        rw [hr] at HC
        go_wp2_with fail
        refine HC.out.mono ?_
        rintro e w' ⟨rfl, hw⟩
        rw [hw]; clear hw
        go_wp2
        go_ret
        exact ⟨ret_bool' (by rw [← HP.out, HR.out, HF.out]), rfl⟩
      · by_cases hz : (s[k]).toNat = 0
        · have HF : Hid (pl s k = false) := pl_zero s k hlt hz
          have t1 : ((((runeF (s.size - k) (byt s k)) : Nat) : Int) == 0) = false := by rw [beq_eq_false_iff_ne]; omega
          have t2 : (((s[k]).toNat : Int) == 0) = true := by rw [beq_iff_eq]; omega
          clear hr hz
          generalize runeF (s.size - k) (byt s k) = r at *
          go_wp2_with fail
          refine HC.out.mono ?_
          rintro e w' ⟨rfl, hw⟩
          rw [hw]; clear hw
          go_wp2
          go_ret
          exact ⟨ret_bool' (by rw [← HP.out, HR.out, HF.out]), rfl⟩
        · have HF : Hid (pl s k = pl s (k + runeF (s.size - k) (byt s k)) ∧ k + runeF (s.size - k) (byt s k) ≤ s.size) := pl_step s k hlt hr hz
          have t1 : ((((runeF (s.size - k) (byt s k)) : Nat) : Int) == 0) = false := by rw [beq_eq_false_iff_ne]; omega
          have t2 : (((s[k]).toNat : Int) == 0) = false := by rw [beq_eq_false_iff_ne]; omega
          have hle := HF.out.2
          have hpos : 0 < runeF (s.size - k) (byt s k) := by omega
          clear hr hz
          generalize runeF (s.size - k) (byt s k) = r at *
          go_wp2_with fail
          refine HC.out.mono ?_
          rintro e w' ⟨rfl, hw⟩
          rw [hw]; clear hw
          go_wp2
          go_round
          case rel => exact ⟨k + r, hle, by go_num, HR.out.trans HF.out.1⟩
          case measure => simp [intOf]; omega
    · have HF : Hid (pl s k = true) := pl_end s k (by omega)
      go_wp2
      go_ret
      exact ⟨ret_bool' (by rw [← HP.out, HR.out, HF.out]), rfl⟩
end Go.Proofs.YtjikibhhhchgeaaDoor
