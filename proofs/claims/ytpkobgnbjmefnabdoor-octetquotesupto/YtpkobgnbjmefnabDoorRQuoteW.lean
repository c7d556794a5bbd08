import Derived.Test.YtpkobgnbjmefnabDoorRQM
namespace Go.Proofs.YtpkobgnbjmefnabDoor
open Go.RowKit
set_option linter.unusedVariables false
set_option maxRecDepth 100000

theorem news_many (W : World) (vs : Array Value) (e : TypeId) : ∀ ad, some (⟨W.heap.size, 0, none⟩ : Addr) = some ad → ∀ j u, vs.toList[j]? = some u → (W.alloc (.cells vs e)).cell? (ad.add j) = some u := by
  intro ad had j u hu
  cases had
  rw [add_plain, Nat.zero_add, World.cell?_alloc_mark]
  simpa using hu
theorem byt_get (s : ByteArray) (i : Nat) (h : i < s.size) : (s[i]'h).toNat = byt s i 0 := (byt_at s i 0 h).symm
/-- a row of bytes that is one's own -/
def RowSt (w wr : World) (v : Value) (l : List Nat) : Prop := wr.ownsRow w.heap.size 5 1 v l.length (l.map bv) ∧ Below w.heap.size w wr
theorem RowSt.grow {w wr W0 w' : World} {v v' : Value} {l ys : List Nat} {news : List Value} {m : Nat} (h : RowSt w wr v l) (h0 : Below wr.heap.size wr W0) (hm : m = (l ++ ys).length) (h1 : w'.ownsRow w.heap.size 5 1 v' m (l.map bv ++ news)) (h2 : W0.grownBy w' v.ownBlock) (hy : ys.map bv = news) : RowSt w w' v' (l ++ ys) := by
  have := grow_row h.2 h.1 h0 h1 h2 hy
  rw [hm] at this
  exact this
set_option maxHeartbeats 8000000 in
theorem rquote_any (s : ByteArray) (w : World) (hs : s.size ≤ 16777216) :
    Calls Tryd.prog 15 #[.string s] w fun e w' => e = .returned (.string ⟨(quoteL s.data.toList).toArray⟩) ∧ Below w.heap.size w w' := by
  obtain ⟨i0, hi, hz0, hz1, hz2⟩ := info_parts Tryd.info5
  have H0 : Hid (RowSt w (w.alloc (.cells #[.int .u8 34] 5)) (.slice (some ⟨w.heap.size, 0, none⟩) 1 1) [34]) :=
    ⟨⟨by simp, .inr ⟨w.heap.size, 1, #[.int .u8 34], rfl, Nat.le_refl _, heap_new w _, Nat.le_refl _, by unfold maxLen; omega, rfl, rfl⟩⟩, (Below.refl _ _).alloc (Nat.le_refl _) _⟩
  have HEnd : Hid (∀ acc : List Nat, 34 :: qn s 0 = acc → bstr (acc ++ [34]) = ⟨(quoteL s.data.toList).toArray⟩) := fun acc h => by
    rw [← h, ← bstr_nat]
    unfold qn quoteL
    simp
  go_enter Tryd.func15, Tryd.ntmps15
  go_wp2
  go_loopw [3, 4] (fun v i wr => ∃ (k : Nat) (acc : List Nat), k ≤ s.size ∧ i = .int .i64 k ∧ acc.length ≤ 4 * k + 1 ∧ RowSt w wr v acc ∧ 34 :: qn s 0 = acc ++ qn s k) (fun _ i _ => s.size - (intOf i).toNat)
  case atStart => exact ⟨0, [34], Nat.zero_le _, rfl, by simp, H0.out, by simp⟩
  case round =>
    obtain ⟨k, acc, hk, rfl, hal, hrow, hacc⟩ := hrel
    obtain ⟨ao, cp, hv⟩ := owns_form hrow.1
    subst hv
    have HR : Hid (RowSt w wr (.slice ao acc.length cp) acc) := hrow
    have HA : Hid (34 :: qn s 0 = acc ++ qn s k) := hacc
    have HZ : Hid (w.heap.size ≤ wr.heap.size) := hrow.2.size
    clear hrow hacc
    by_cases hlt : k < s.size
    · have HC : Hid (Calls Tryd.prog 38 #[.string s, .int .i64 k] wr fun e w' => e = .returned (.int .i64 (runeF (s.size - k) (byt s k) : Nat)) ∧ w' = wr) := rune_any s k wr hlt (by omega)
      have g0 := byt_get s k
      have hb := byt_lt s k 0
      have HEsc : Hid (byt s k 0 = 34 ∨ byt s k 0 = 92 → qn s k = [92, byt s k 0] ++ qn s (k + 1)) := rq_esc s k hlt
      have HNl : Hid (byt s k 0 = 10 → qn s k = [92, 110] ++ qn s (k + 1)) := rq_nl s k hlt
      have HHx : Hid ((byt s k 0 < 32 ∧ byt s k 0 ≠ 10) ∨ byt s k 0 = 127 ∨ runeF (s.size - k) (byt s k) = 0 → qn s k = [92, 120, dig (byt s k 0 / 16), dig (byt s k 0 % 16)] ++ qn s (k + 1)) := rq_hex s k hlt
      have HPl : Hid (byt s k 0 ≠ 34 → byt s k 0 ≠ 92 → 32 ≤ byt s k 0 → byt s k 0 ≠ 127 → runeF (s.size - k) (byt s k) ≠ 0 → qn s k = sbytes (s.extract k (k + runeF (s.size - k) (byt s k))) ++ qn s (k + runeF (s.size - k) (byt s k)) ∧ k + runeF (s.size - k) (byt s k) ≤ s.size) := rq_plain s k hlt
      have hone : byt s k 0 < 128 → runeF (s.size - k) (byt s k) = 1 := runeF_one _ _
      generalize runeF (s.size - k) (byt s k) = n at *
      generalize byt s k 0 = c at *
      by_cases h34 : c = 34
      · have hn : n = 1 := hone (by omega)
        subst hn
        have HS : Hid (34 :: qn s 0 = (acc ++ [92, c]) ++ qn s (k + 1)) := by
          show _ = _
          rw [HA.out, HEsc.out (.inl h34)]; simp
        have t1 : ((c : Int) == 34) = true := by rw [beq_iff_eq]; omega
        clear h34 HEsc HNl HHx HPl HA hone
        go_wp2_with fail
        refine HC.out.mono ?_
        rintro e w' ⟨rfl, hw⟩
        rw [hw]; clear hw
        go_wp2_with (at_builtin; refine wpList_append_two _ rfl _ _ 37 rfl w.heap.size 5 i0 (.int .u8 0) 1 Tryd.underlying37 hi hz0 hz1 hz2 rfl (.slice ao acc.length cp) acc.length (acc.map bv) rfl (HR.out.1.alloc _) (some ⟨wr.heap.size, 0, none⟩) 2 2 [.int .u8 92, .int .u8 (c : Int)] rfl (by simp) rfl (news_many wr _ _) (by simp [Value.oneCell']) (by unfold maxLen; omega) (by omega) (by have := HZ.out; simp; omega) ?_)
        intro v1 w1 ho1 hg1 hf1
        have HR1 : Hid (RowSt w w1 v1 (acc ++ [92, c])) := HR.out.grow ((Below.refl _ _).alloc (Nat.le_refl _) _) (by simp) ho1 hg1 rfl
        clear ho1 hg1 hf1
        go_wp2
        go_roundw
        case rel => exact ⟨k + 1, acc ++ [92, c], by omega, by go_num, by simp; omega, HR1.out, HS.out⟩
        case measure => simp [intOf]; omega
      by_cases h92 : c = 92
      · have hn : n = 1 := hone (by omega)
        subst hn
        have HS : Hid (34 :: qn s 0 = (acc ++ [92, c]) ++ qn s (k + 1)) := by
          show _ = _
          rw [HA.out, HEsc.out (.inr h92)]; simp
        have t1 : ((c : Int) == 34) = false := by rw [beq_eq_false_iff_ne]; omega
        have t2 : ((c : Int) == 92) = true := by rw [beq_iff_eq]; omega
        clear h34 h92 HEsc HNl HHx HPl HA hone
        go_wp2_with fail
        refine HC.out.mono ?_
        rintro e w' ⟨rfl, hw⟩
        rw [hw]; clear hw
        go_wp2_with (at_builtin; refine wpList_append_two _ rfl _ _ 37 rfl w.heap.size 5 i0 (.int .u8 0) 1 Tryd.underlying37 hi hz0 hz1 hz2 rfl (.slice ao acc.length cp) acc.length (acc.map bv) rfl (HR.out.1.alloc _) (some ⟨wr.heap.size, 0, none⟩) 2 2 [.int .u8 92, .int .u8 (c : Int)] rfl (by simp) rfl (news_many wr _ _) (by simp [Value.oneCell']) (by unfold maxLen; omega) (by omega) (by have := HZ.out; simp; omega) ?_)
        intro v1 w1 ho1 hg1 hf1
        have HR1 : Hid (RowSt w w1 v1 (acc ++ [92, c])) := HR.out.grow ((Below.refl _ _).alloc (Nat.le_refl _) _) (by simp) ho1 hg1 rfl
        clear ho1 hg1 hf1
        go_wp2
        go_roundw
        case rel => exact ⟨k + 1, acc ++ [92, c], by omega, by go_num, by simp; omega, HR1.out, HS.out⟩
        case measure => simp [intOf]; omega
      by_cases h10 : c = 10
      · have hn : n = 1 := hone (by omega)
        subst hn
        have HS : Hid (34 :: qn s 0 = (acc ++ [92, 110]) ++ qn s (k + 1)) := by
          show _ = _
          rw [HA.out, HNl.out h10]; simp
        have t1 : ((c : Int) == 34) = false := by rw [beq_eq_false_iff_ne]; omega
        have t2 : ((c : Int) == 92) = false := by rw [beq_eq_false_iff_ne]; omega
        have t3 : ((c : Int) == 10) = true := by rw [beq_iff_eq]; omega
        clear h34 h92 h10 HEsc HNl HHx HPl HA hone
        go_wp2_with fail
        refine HC.out.mono ?_
        rintro e w' ⟨rfl, hw⟩
        rw [hw]; clear hw
        go_wp2_with (at_builtin; refine wpList_append_two _ rfl _ _ 37 rfl w.heap.size 5 i0 (.int .u8 0) 1 Tryd.underlying37 hi hz0 hz1 hz2 rfl (.slice ao acc.length cp) acc.length (acc.map bv) rfl (HR.out.1.alloc _) (some ⟨wr.heap.size, 0, none⟩) 2 2 [.int .u8 92, .int .u8 110] rfl (by simp) rfl (news_many wr _ _) (by simp [Value.oneCell']) (by unfold maxLen; omega) (by omega) (by have := HZ.out; simp; omega) ?_)
        intro v1 w1 ho1 hg1 hf1
        have HR1 : Hid (RowSt w w1 v1 (acc ++ [92, 110])) := HR.out.grow ((Below.refl _ _).alloc (Nat.le_refl _) _) (by simp) ho1 hg1 rfl
        clear ho1 hg1 hf1
        go_wp2
        go_roundw
        case rel => exact ⟨k + 1, acc ++ [92, 110], by omega, by go_num, by simp; omega, HR1.out, HS.out⟩
        case measure => simp [intOf]; omega
      by_cases h0 : n = 0
      · subst h0
        have HS : Hid (34 :: qn s 0 = (acc ++ [92, 120, dig (c / 16), dig (c % 16)]) ++ qn s (k + 1)) := by
          show _ = _
          rw [HA.out, HHx.out (.inr (.inr rfl))]; simp
        have t1 : ((c : Int) == 34) = false := by rw [beq_eq_false_iff_ne]; omega
        have t2 : ((c : Int) == 92) = false := by rw [beq_eq_false_iff_ne]; omega
        have t3 : ((c : Int) == 10) = false := by rw [beq_eq_false_iff_ne]; omega
        clear h34 h92 h10 HEsc HNl HHx HPl HA hone
        have h16 : c / 16 < 16 := by omega
        have hm16 : c % 16 < 16 := by omega
        have e1 : (c : Int) / 16 = ((c / 16 : Nat) : Int) := by omega
        have e2 : bits .and .u8 (c : Int) 15 = ((c % 16 : Nat) : Int) := and15 c hb
        generalize c / 16 = q at *
        generalize c % 16 = r at *
        have hnm : ¬ Tryd.f39.name = "runtime.NumGoroutine" := by decide
        have hbd : ¬ Tryd.f39.body = none := fun h => by cases h
        have HD1 : Hid (∀ W : World, Calls Tryd.prog 39 #[.int .u8 (q : Int)] W fun e w' => e = .returned (.int .u8 ((dig q : Nat) : Int)) ∧ w' = W) := fun W => digit_any q W h16
        have HD2 : Hid (∀ W : World, Calls Tryd.prog 39 #[.int .u8 (r : Int)] W fun e w' => e = .returned (.int .u8 ((dig r : Nat) : Int)) ∧ w' = W) := fun W => digit_any r W hm16
        go_wp2_with fail
        refine HC.out.mono ?_
        rintro e w' ⟨rfl, hw⟩
        rw [hw]; clear hw
        go_wp2_with fail
        refine (HD1.out _).mono ?_
        rintro e w' ⟨rfl, hw⟩
        rw [hw]; clear hw
        go_wp2_with fail
        refine (HD2.out _).mono ?_
        rintro e w' ⟨rfl, hw⟩
        rw [hw]; clear hw
        go_wp2_with (at_builtin; refine wpList_append_two _ rfl _ _ 37 rfl w.heap.size 5 i0 (.int .u8 0) 1 Tryd.underlying37 hi hz0 hz1 hz2 rfl (.slice ao acc.length cp) acc.length (acc.map bv) rfl (HR.out.1.alloc _) (some ⟨wr.heap.size, 0, none⟩) 4 4 [.int .u8 92, .int .u8 120, .int .u8 ((dig q : Nat) : Int), .int .u8 ((dig r : Nat) : Int)] rfl (by simp) rfl (news_many wr _ _) (by simp [Value.oneCell']) (by unfold maxLen; omega) (by omega) (by have := HZ.out; simp; omega) ?_)
        intro v1 w1 ho1 hg1 hf1
        have HR2 : Hid (RowSt w w1 v1 (acc ++ [92, 120, dig q, dig r])) := HR.out.grow ((Below.refl _ _).alloc (Nat.le_refl _) _) (by simp) ho1 hg1 rfl
        clear ho1 hg1 hf1
        go_wp2
        go_roundw
        case rel => exact ⟨k + 1, acc ++ [92, 120, dig q, dig r], by omega, by go_num, by simp; omega, HR2.out, HS.out⟩
        case measure => simp [intOf]; omega
      by_cases h32 : c < 32
      · have hn : n = 1 := hone (by omega)
        subst hn
        have HS : Hid (34 :: qn s 0 = (acc ++ [92, 120, dig (c / 16), dig (c % 16)]) ++ qn s (k + 1)) := by
          show _ = _
          rw [HA.out, HHx.out (.inl ⟨h32, h10⟩)]; simp
        have t1 : ((c : Int) == 34) = false := by rw [beq_eq_false_iff_ne]; omega
        have t2 : ((c : Int) == 92) = false := by rw [beq_eq_false_iff_ne]; omega
        have t3 : ((c : Int) == 10) = false := by rw [beq_eq_false_iff_ne]; omega
        have t4 : decide ((c : Int) < 32) = true := by simp; omega
        clear h34 h92 h10 h32 h0 HEsc HNl HHx HPl HA hone
        have h16 : c / 16 < 16 := by omega
        have hm16 : c % 16 < 16 := by omega
        have e1 : (c : Int) / 16 = ((c / 16 : Nat) : Int) := by omega
        have e2 : bits .and .u8 (c : Int) 15 = ((c % 16 : Nat) : Int) := and15 c hb
        generalize c / 16 = q at *
        generalize c % 16 = r at *
        have hnm : ¬ Tryd.f39.name = "runtime.NumGoroutine" := by decide
        have hbd : ¬ Tryd.f39.body = none := fun h => by cases h
        have HD1 : Hid (∀ W : World, Calls Tryd.prog 39 #[.int .u8 (q : Int)] W fun e w' => e = .returned (.int .u8 ((dig q : Nat) : Int)) ∧ w' = W) := fun W => digit_any q W h16
        have HD2 : Hid (∀ W : World, Calls Tryd.prog 39 #[.int .u8 (r : Int)] W fun e w' => e = .returned (.int .u8 ((dig r : Nat) : Int)) ∧ w' = W) := fun W => digit_any r W hm16
        go_wp2_with fail
        refine HC.out.mono ?_
        rintro e w' ⟨rfl, hw⟩
        rw [hw]; clear hw
        go_wp2_with fail
        refine (HD1.out _).mono ?_
        rintro e w' ⟨rfl, hw⟩
        rw [hw]; clear hw
        go_wp2_with fail
        refine (HD2.out _).mono ?_
        rintro e w' ⟨rfl, hw⟩
        rw [hw]; clear hw
        go_wp2_with (at_builtin; refine wpList_append_two _ rfl _ _ 37 rfl w.heap.size 5 i0 (.int .u8 0) 1 Tryd.underlying37 hi hz0 hz1 hz2 rfl (.slice ao acc.length cp) acc.length (acc.map bv) rfl (HR.out.1.alloc _) (some ⟨wr.heap.size, 0, none⟩) 4 4 [.int .u8 92, .int .u8 120, .int .u8 ((dig q : Nat) : Int), .int .u8 ((dig r : Nat) : Int)] rfl (by simp) rfl (news_many wr _ _) (by simp [Value.oneCell']) (by unfold maxLen; omega) (by omega) (by have := HZ.out; simp; omega) ?_)
        intro v1 w1 ho1 hg1 hf1
        have HR2 : Hid (RowSt w w1 v1 (acc ++ [92, 120, dig q, dig r])) := HR.out.grow ((Below.refl _ _).alloc (Nat.le_refl _) _) (by simp) ho1 hg1 rfl
        clear ho1 hg1 hf1
        go_wp2
        go_roundw
        case rel => exact ⟨k + 1, acc ++ [92, 120, dig q, dig r], by omega, by go_num, by simp; omega, HR2.out, HS.out⟩
        case measure => simp [intOf]; omega
      by_cases h127 : c = 127
      · have hn : n = 1 := hone (by omega)
        subst hn
        have HS : Hid (34 :: qn s 0 = (acc ++ [92, 120, dig (c / 16), dig (c % 16)]) ++ qn s (k + 1)) := by
          show _ = _
          rw [HA.out, HHx.out (.inr (.inl h127))]; simp
        have t1 : ((c : Int) == 34) = false := by rw [beq_eq_false_iff_ne]; omega
        have t2 : ((c : Int) == 92) = false := by rw [beq_eq_false_iff_ne]; omega
        have t3 : ((c : Int) == 10) = false := by rw [beq_eq_false_iff_ne]; omega
        have t4 : decide ((c : Int) < 32) = false := by simp; omega
        have t5 : ((c : Int) == 127) = true := by rw [beq_iff_eq]; omega
        clear h34 h92 h10 h32 h127 h0 HEsc HNl HHx HPl HA hone
        have h16 : c / 16 < 16 := by omega
        have hm16 : c % 16 < 16 := by omega
        have e1 : (c : Int) / 16 = ((c / 16 : Nat) : Int) := by omega
        have e2 : bits .and .u8 (c : Int) 15 = ((c % 16 : Nat) : Int) := and15 c hb
        generalize c / 16 = q at *
        generalize c % 16 = r at *
        have hnm : ¬ Tryd.f39.name = "runtime.NumGoroutine" := by decide
        have hbd : ¬ Tryd.f39.body = none := fun h => by cases h
        have HD1 : Hid (∀ W : World, Calls Tryd.prog 39 #[.int .u8 (q : Int)] W fun e w' => e = .returned (.int .u8 ((dig q : Nat) : Int)) ∧ w' = W) := fun W => digit_any q W h16
        have HD2 : Hid (∀ W : World, Calls Tryd.prog 39 #[.int .u8 (r : Int)] W fun e w' => e = .returned (.int .u8 ((dig r : Nat) : Int)) ∧ w' = W) := fun W => digit_any r W hm16
        go_wp2_with fail
        refine HC.out.mono ?_
        rintro e w' ⟨rfl, hw⟩
        rw [hw]; clear hw
        go_wp2_with fail
        refine (HD1.out _).mono ?_
        rintro e w' ⟨rfl, hw⟩
        rw [hw]; clear hw
        go_wp2_with fail
        refine (HD2.out _).mono ?_
        rintro e w' ⟨rfl, hw⟩
        rw [hw]; clear hw
        go_wp2_with (at_builtin; refine wpList_append_two _ rfl _ _ 37 rfl w.heap.size 5 i0 (.int .u8 0) 1 Tryd.underlying37 hi hz0 hz1 hz2 rfl (.slice ao acc.length cp) acc.length (acc.map bv) rfl (HR.out.1.alloc _) (some ⟨wr.heap.size, 0, none⟩) 4 4 [.int .u8 92, .int .u8 120, .int .u8 ((dig q : Nat) : Int), .int .u8 ((dig r : Nat) : Int)] rfl (by simp) rfl (news_many wr _ _) (by simp [Value.oneCell']) (by unfold maxLen; omega) (by omega) (by have := HZ.out; simp; omega) ?_)
        intro v1 w1 ho1 hg1 hf1
        have HR2 : Hid (RowSt w w1 v1 (acc ++ [92, 120, dig q, dig r])) := HR.out.grow ((Below.refl _ _).alloc (Nat.le_refl _) _) (by simp) ho1 hg1 rfl
        clear ho1 hg1 hf1
        go_wp2
        go_roundw
        case rel => exact ⟨k + 1, acc ++ [92, 120, dig q, dig r], by omega, by go_num, by simp; omega, HR2.out, HS.out⟩
        case measure => simp [intOf]; omega
      have HSt := HPl.out h34 h92 (by omega) h127 h0
      have hle := HSt.2
      have HS : Hid (34 :: qn s 0 = (acc ++ sbytes (s.extract k (k + n))) ++ qn s (k + n)) := by
        show _ = _
        rw [HA.out, HSt.1]; simp
      have t1 : ((c : Int) == 34) = false := by rw [beq_eq_false_iff_ne]; omega
      have t2 : ((c : Int) == 92) = false := by rw [beq_eq_false_iff_ne]; omega
      have t3 : ((c : Int) == 10) = false := by rw [beq_eq_false_iff_ne]; omega
      have t4 : decide ((c : Int) < 32) = false := by simp; omega
      have t5 : ((c : Int) == 127) = false := by rw [beq_eq_false_iff_ne]; omega
      have t6 : ((n : Int) == 0) = false := by rw [beq_eq_false_iff_ne]; omega
      have hsz : (s.extract k (k + n)).size = n := by rw [ByteArray.size_extract]; omega
      have HSz : Hid ((sbytes (s.extract k (k + n))).length = n) := by show _ = _; rw [sbytes_length]; exact hsz
      have hpos : 0 < n := by omega
      clear h34 h92 h10 h32 h127 h0 HEsc HNl HHx HPl HA hone HSt
      go_wp2_with fail
      refine HC.out.mono ?_
      rintro e w' ⟨rfl, hw⟩
      rw [hw]; clear hw
      go_wp2_with (at_builtin; refine wpList_append_two_string _ rfl _ _ 37 9 rfl w.heap.size 5 i0 Tryd.underlying37 Tryd.underlying9 hi hz0 hz1 hz2 (.slice ao acc.length cp) acc.length (acc.map bv) rfl HR.out.1 (s.extract k (k + n)) rfl (by rw [hsz]; omega) HZ.out ?_)
      intro ao1 cp1 w1 ho1 hg1 hf1
      have HR1 : Hid (RowSt w w1 (.slice ao1 (acc.length + n) cp1) (acc ++ sbytes (s.extract k (k + n)))) := HR.out.grow (Below.refl _ _) (by rw [List.length_append, HSz.out]) ho1 hg1 (strCells_bv _).symm
      clear ho1 hg1 hf1
      go_wp2
      go_roundw
      case rel => exact ⟨k + n, acc ++ sbytes (s.extract k (k + n)), by omega, by go_num, by rw [List.length_append, HSz.out]; omega, HR1.out, HS.out⟩
      case measure => simp [intOf]; omega
    · obtain rfl : k = s.size := by omega
      have HE : Hid (bstr (acc ++ [34]) = ⟨(quoteL s.data.toList).toArray⟩) := HEnd.out acc (by have := HA.out; rw [qn_end] at this; simpa using this)
      clear HA HEnd
      go_wp2_with (at_builtin; refine wpList_append_two _ rfl _ _ 37 rfl w.heap.size 5 i0 (.int .u8 0) 1 Tryd.underlying37 hi hz0 hz1 hz2 rfl (.slice ao acc.length cp) acc.length (acc.map bv) rfl (HR.out.1.alloc _) (some ⟨wr.heap.size, 0, none⟩) 1 1 [.int .u8 34] rfl (by simp) rfl (news_many wr _ _) (by simp [Value.oneCell']) (by unfold maxLen; omega) (by omega) (by have := HZ.out; simp; omega) ?_)
      intro v1 w1 ho1 hg1 hf1
      have HR1 : Hid (RowSt w w1 v1 (acc ++ [34])) := HR.out.grow ((Below.refl _ _).alloc (Nat.le_refl _) _) (by simp) ho1 hg1 rfl
      clear ho1 hg1 hf1
      have hcv : (convert 37 9 v1).run Tryd.prog w1 = .ok (.string (bstr (acc ++ [34]))) w1 := conv_own HR1.out.1
      go_wp2
      go_ret
      exact ⟨by rw [← HE.out]; rfl, HR1.out.2⟩
end Go.Proofs.YtpkobgnbjmefnabDoor
