import Derived.Test.YtjkoambfecmglaaVE
namespace Go.Proofs.Ytjkoambfecmglaa
open Go.RowKit
set_option linter.unusedVariables false
set_option linter.unusedSimpArgs false
set_option maxRecDepth 100000
def Opv.may (o : Opv) (size : Nat) : Bool :=
  if o.k < 1 then false else if 4 < o.k then false else if o.fr < 0 then false else if o.to_ ≠ -1 ∧ o.to_ < o.fr then false else if o.off < 0 then false else if o.len < 0 then false else if (size : Int) < o.off then false else if (size : Int) - o.off < o.len then false else if o.k = 4 ∧ (o.off ≠ 0 ∨ o.len ≠ 0) then false else if o.sy = true ∧ (o.to_ = -1 ∨ o.k = 1) then false else if o.k = 2 ∨ (o.k = 1 ∧ o.to_ ≠ -1) then ((o.n : Int) == o.len) else ((o.n : Int) == 0)
set_option maxHeartbeats 16000000 in
theorem rMay_any (o : Opv) (size : Nat) (w : World) (hsz : size ≤ 4096) : Calls Try.prog 50 #[.agg o.cells, .int .i64 (size : Int)] w fun e w' => e = .returned (.bool (o.may size)) ∧ Below w.heap.size w w' := by
  obtain ⟨k, fr, t, off, len, da, n, dc, sy⟩ := o
  have HB : Hid (∀ o, Below w.heap.size w (w.alloc o)) := fun o => (Below.refl w.heap.size w).alloc (Nat.le_refl _) o
  by_cases h1 : k < 1
  · have d1 : decide (k < 1) = true := decide_eq_true h1
    first
      | (exfalso; omega)
      | (have e1 : Opv.may (⟨k, fr, t, off, len, da, n, dc, sy⟩ : Opv) size = false := by first | (simp [Opv.may, *]; done) | (simp [Opv.may, *]; omega)
         rw [e1]
         clear e1
         go_enter Try.func50, Try.ntmps50
         go_wp2
         all_goals go_ret
         all_goals exact ⟨by first | rfl | simp_all, HB.out _⟩)
  · have d1 : decide (k < 1) = false := decide_eq_false h1
    by_cases h2 : 4 < k
    · have d2 : decide (4 < k) = true := decide_eq_true h2
      first
        | (exfalso; omega)
        | (have e1 : Opv.may (⟨k, fr, t, off, len, da, n, dc, sy⟩ : Opv) size = false := by first | (simp [Opv.may, *]; done) | (simp [Opv.may, *]; omega)
           rw [e1]
           clear e1
           go_enter Try.func50, Try.ntmps50
           go_wp2
           all_goals go_ret
           all_goals exact ⟨by first | rfl | simp_all, HB.out _⟩)
    · have d2 : decide (4 < k) = false := decide_eq_false h2
      by_cases h3 : fr < 0
      · have d3 : decide (fr < 0) = true := decide_eq_true h3
        first
          | (exfalso; omega)
          | (have e1 : Opv.may (⟨k, fr, t, off, len, da, n, dc, sy⟩ : Opv) size = false := by first | (simp [Opv.may, *]; done) | (simp [Opv.may, *]; omega)
             rw [e1]
             clear e1
             go_enter Try.func50, Try.ntmps50
             go_wp2
             all_goals go_ret
             all_goals exact ⟨by first | rfl | simp_all, HB.out _⟩)
      · have d3 : decide (fr < 0) = false := decide_eq_false h3
        by_cases h4 : t = -1
        · have d4 : (t == -1) = true := by simp [h4]
          have q4 : (t != -1) = false := by simp [h4]
          by_cases h5 : off < 0
          · have d5 : decide (off < 0) = true := decide_eq_true h5
            first
              | (exfalso; omega)
              | (have e1 : Opv.may (⟨k, fr, t, off, len, da, n, dc, sy⟩ : Opv) size = false := by first | (simp [Opv.may, *]; done) | (simp [Opv.may, *]; omega)
                 rw [e1]
                 clear e1
                 go_enter Try.func50, Try.ntmps50
                 go_wp2
                 all_goals go_ret
                 all_goals exact ⟨by first | rfl | simp_all, HB.out _⟩)
          · have d5 : decide (off < 0) = false := decide_eq_false h5
            by_cases h6 : len < 0
            · have d6 : decide (len < 0) = true := decide_eq_true h6
              first
                | (exfalso; omega)
                | (have e1 : Opv.may (⟨k, fr, t, off, len, da, n, dc, sy⟩ : Opv) size = false := by first | (simp [Opv.may, *]; done) | (simp [Opv.may, *]; omega)
                   rw [e1]
                   clear e1
                   go_enter Try.func50, Try.ntmps50
                   go_wp2
                   all_goals go_ret
                   all_goals exact ⟨by first | rfl | simp_all, HB.out _⟩)
            · have d6 : decide (len < 0) = false := decide_eq_false h6
              by_cases h7 : (size : Int) < off
              · have d7 : decide ((size : Int) < off) = true := decide_eq_true h7
                first
                  | (exfalso; omega)
                  | (have e1 : Opv.may (⟨k, fr, t, off, len, da, n, dc, sy⟩ : Opv) size = false := by first | (simp [Opv.may, *]; done) | (simp [Opv.may, *]; omega)
                     rw [e1]
                     clear e1
                     go_enter Try.func50, Try.ntmps50
                     go_wp2
                     all_goals go_ret
                     all_goals exact ⟨by first | rfl | simp_all, HB.out _⟩)
              · have d7 : decide ((size : Int) < off) = false := decide_eq_false h7
                have wz : IntKind.i64.wrap ((size : Int) - off) = (size : Int) - off := by rw [IntKind.wrap_i64]; omega
                by_cases h8 : (size : Int) - off < len
                · have d8 : decide ((size : Int) - off < len) = true := decide_eq_true h8
                  first
                    | (exfalso; omega)
                    | (have e1 : Opv.may (⟨k, fr, t, off, len, da, n, dc, sy⟩ : Opv) size = false := by first | (simp [Opv.may, *]; done) | (simp [Opv.may, *]; omega)
                       rw [e1]
                       clear e1
                       go_enter Try.func50, Try.ntmps50
                       go_wp2
                       all_goals go_ret
                       all_goals exact ⟨by first | rfl | simp_all, HB.out _⟩)
                · have d8 : decide ((size : Int) - off < len) = false := decide_eq_false h8
                  by_cases h9 : k = 4
                  · have d9 : (k == 4) = true := by simp [h9]
                    have q9 : (k != 4) = false := by simp [h9]
                    by_cases h10 : off = 0
                    · have d10 : (off == 0) = true := by simp [h10]
                      have q10 : (off != 0) = false := by simp [h10]
                      by_cases h11 : len = 0
                      · have d11 : (len == 0) = true := by simp [h11]
                        have q11 : (len != 0) = false := by simp [h11]
                        by_cases hsy : sy = true
                        · skip
                          first
                            | (exfalso; omega)
                            | (have e1 : Opv.may (⟨k, fr, t, off, len, da, n, dc, sy⟩ : Opv) size = false := by first | (simp [Opv.may, *]; done) | (simp [Opv.may, *]; omega)
                               rw [e1]
                               clear e1
                               go_enter Try.func50, Try.ntmps50
                               go_wp2
                               all_goals go_ret
                               all_goals exact ⟨by first | rfl | simp_all, HB.out _⟩)
                        · have hsy2 : sy = false := by simpa using hsy
                          by_cases h13 : k = 2
                          · have d13 : (k == 2) = true := by simp [h13]
                            have q13 : (k != 2) = false := by simp [h13]
                            first
                              | (exfalso; omega)
                              | (have e1 : Opv.may (⟨k, fr, t, off, len, da, n, dc, sy⟩ : Opv) size = ((n : Int) == len) := by first | (simp [Opv.may, *]; done) | (simp [Opv.may, *]; omega)
                                 rw [e1]
                                 clear e1
                                 go_enter Try.func50, Try.ntmps50
                                 go_wp2
                                 all_goals go_ret
                                 all_goals exact ⟨by first | rfl | simp_all, HB.out _⟩)
                          · have d13 : (k == 2) = false := by rw [beq_eq_false_iff_ne]; exact h13
                            have q13 : (k != 2) = true := by simp [bne, d13]
                            by_cases h14 : k = 1
                            · have d14 : (k == 1) = true := by simp [h14]
                              have q14 : (k != 1) = false := by simp [h14]
                              first
                                | (exfalso; omega)
                                | (have e1 : Opv.may (⟨k, fr, t, off, len, da, n, dc, sy⟩ : Opv) size = ((n : Int) == 0) := by first | (simp [Opv.may, *]; done) | (simp [Opv.may, *]; omega)
                                   rw [e1]
                                   clear e1
                                   go_enter Try.func50, Try.ntmps50
                                   go_wp2
                                   all_goals go_ret
                                   all_goals exact ⟨by first | rfl | simp_all, HB.out _⟩)
                            · have d14 : (k == 1) = false := by rw [beq_eq_false_iff_ne]; exact h14
                              have q14 : (k != 1) = true := by simp [bne, d14]
                              first
                                | (exfalso; omega)
                                | (have e1 : Opv.may (⟨k, fr, t, off, len, da, n, dc, sy⟩ : Opv) size = ((n : Int) == 0) := by first | (simp [Opv.may, *]; done) | (simp [Opv.may, *]; omega)
                                   rw [e1]
                                   clear e1
                                   go_enter Try.func50, Try.ntmps50
                                   go_wp2
                                   all_goals go_ret
                                   all_goals exact ⟨by first | rfl | simp_all, HB.out _⟩)
                      · have d11 : (len == 0) = false := by rw [beq_eq_false_iff_ne]; exact h11
                        have q11 : (len != 0) = true := by simp [bne, d11]
                        first
                          | (exfalso; omega)
                          | (have e1 : Opv.may (⟨k, fr, t, off, len, da, n, dc, sy⟩ : Opv) size = false := by first | (simp [Opv.may, *]; done) | (simp [Opv.may, *]; omega)
                             rw [e1]
                             clear e1
                             go_enter Try.func50, Try.ntmps50
                             go_wp2
                             all_goals go_ret
                             all_goals exact ⟨by first | rfl | simp_all, HB.out _⟩)
                    · have d10 : (off == 0) = false := by rw [beq_eq_false_iff_ne]; exact h10
                      have q10 : (off != 0) = true := by simp [bne, d10]
                      first
                        | (exfalso; omega)
                        | (have e1 : Opv.may (⟨k, fr, t, off, len, da, n, dc, sy⟩ : Opv) size = false := by first | (simp [Opv.may, *]; done) | (simp [Opv.may, *]; omega)
                           rw [e1]
                           clear e1
                           go_enter Try.func50, Try.ntmps50
                           go_wp2
                           all_goals go_ret
                           all_goals exact ⟨by first | rfl | simp_all, HB.out _⟩)
                  · have d9 : (k == 4) = false := by rw [beq_eq_false_iff_ne]; exact h9
                    have q9 : (k != 4) = true := by simp [bne, d9]
                    by_cases hsy : sy = true
                    · skip
                      first
                        | (exfalso; omega)
                        | (have e1 : Opv.may (⟨k, fr, t, off, len, da, n, dc, sy⟩ : Opv) size = false := by first | (simp [Opv.may, *]; done) | (simp [Opv.may, *]; omega)
                           rw [e1]
                           clear e1
                           go_enter Try.func50, Try.ntmps50
                           go_wp2
                           all_goals go_ret
                           all_goals exact ⟨by first | rfl | simp_all, HB.out _⟩)
                    · have hsy2 : sy = false := by simpa using hsy
                      by_cases h16 : k = 2
                      · have d16 : (k == 2) = true := by simp [h16]
                        have q16 : (k != 2) = false := by simp [h16]
                        first
                          | (exfalso; omega)
                          | (have e1 : Opv.may (⟨k, fr, t, off, len, da, n, dc, sy⟩ : Opv) size = ((n : Int) == len) := by first | (simp [Opv.may, *]; done) | (simp [Opv.may, *]; omega)
                             rw [e1]
                             clear e1
                             go_enter Try.func50, Try.ntmps50
                             go_wp2
                             all_goals go_ret
                             all_goals exact ⟨by first | rfl | simp_all, HB.out _⟩)
                      · have d16 : (k == 2) = false := by rw [beq_eq_false_iff_ne]; exact h16
                        have q16 : (k != 2) = true := by simp [bne, d16]
                        by_cases h17 : k = 1
                        · have d17 : (k == 1) = true := by simp [h17]
                          have q17 : (k != 1) = false := by simp [h17]
                          first
                            | (exfalso; omega)
                            | (have e1 : Opv.may (⟨k, fr, t, off, len, da, n, dc, sy⟩ : Opv) size = ((n : Int) == 0) := by first | (simp [Opv.may, *]; done) | (simp [Opv.may, *]; omega)
                               rw [e1]
                               clear e1
                               go_enter Try.func50, Try.ntmps50
                               go_wp2
                               all_goals go_ret
                               all_goals exact ⟨by first | rfl | simp_all, HB.out _⟩)
                        · have d17 : (k == 1) = false := by rw [beq_eq_false_iff_ne]; exact h17
                          have q17 : (k != 1) = true := by simp [bne, d17]
                          first
                            | (exfalso; omega)
                            | (have e1 : Opv.may (⟨k, fr, t, off, len, da, n, dc, sy⟩ : Opv) size = ((n : Int) == 0) := by first | (simp [Opv.may, *]; done) | (simp [Opv.may, *]; omega)
                               rw [e1]
                               clear e1
                               go_enter Try.func50, Try.ntmps50
                               go_wp2
                               all_goals go_ret
                               all_goals exact ⟨by first | rfl | simp_all, HB.out _⟩)
        · have d4 : (t == -1) = false := by rw [beq_eq_false_iff_ne]; exact h4
          have q4 : (t != -1) = true := by simp [bne, d4]
          by_cases h18 : t < fr
          · have d18 : decide (t < fr) = true := decide_eq_true h18
            first
              | (exfalso; omega)
              | (have e1 : Opv.may (⟨k, fr, t, off, len, da, n, dc, sy⟩ : Opv) size = false := by first | (simp [Opv.may, *]; done) | (simp [Opv.may, *]; omega)
                 rw [e1]
                 clear e1
                 go_enter Try.func50, Try.ntmps50
                 go_wp2
                 all_goals go_ret
                 all_goals exact ⟨by first | rfl | simp_all, HB.out _⟩)
          · have d18 : decide (t < fr) = false := decide_eq_false h18
            by_cases h19 : off < 0
            · have d19 : decide (off < 0) = true := decide_eq_true h19
              first
                | (exfalso; omega)
                | (have e1 : Opv.may (⟨k, fr, t, off, len, da, n, dc, sy⟩ : Opv) size = false := by first | (simp [Opv.may, *]; done) | (simp [Opv.may, *]; omega)
                   rw [e1]
                   clear e1
                   go_enter Try.func50, Try.ntmps50
                   go_wp2
                   all_goals go_ret
                   all_goals exact ⟨by first | rfl | simp_all, HB.out _⟩)
            · have d19 : decide (off < 0) = false := decide_eq_false h19
              by_cases h20 : len < 0
              · have d20 : decide (len < 0) = true := decide_eq_true h20
                first
                  | (exfalso; omega)
                  | (have e1 : Opv.may (⟨k, fr, t, off, len, da, n, dc, sy⟩ : Opv) size = false := by first | (simp [Opv.may, *]; done) | (simp [Opv.may, *]; omega)
                     rw [e1]
                     clear e1
                     go_enter Try.func50, Try.ntmps50
                     go_wp2
                     all_goals go_ret
                     all_goals exact ⟨by first | rfl | simp_all, HB.out _⟩)
              · have d20 : decide (len < 0) = false := decide_eq_false h20
                by_cases h21 : (size : Int) < off
                · have d21 : decide ((size : Int) < off) = true := decide_eq_true h21
                  first
                    | (exfalso; omega)
                    | (have e1 : Opv.may (⟨k, fr, t, off, len, da, n, dc, sy⟩ : Opv) size = false := by first | (simp [Opv.may, *]; done) | (simp [Opv.may, *]; omega)
                       rw [e1]
                       clear e1
                       go_enter Try.func50, Try.ntmps50
                       go_wp2
                       all_goals go_ret
                       all_goals exact ⟨by first | rfl | simp_all, HB.out _⟩)
                · have d21 : decide ((size : Int) < off) = false := decide_eq_false h21
                  have wz : IntKind.i64.wrap ((size : Int) - off) = (size : Int) - off := by rw [IntKind.wrap_i64]; omega
                  by_cases h22 : (size : Int) - off < len
                  · have d22 : decide ((size : Int) - off < len) = true := decide_eq_true h22
                    first
                      | (exfalso; omega)
                      | (have e1 : Opv.may (⟨k, fr, t, off, len, da, n, dc, sy⟩ : Opv) size = false := by first | (simp [Opv.may, *]; done) | (simp [Opv.may, *]; omega)
                         rw [e1]
                         clear e1
                         go_enter Try.func50, Try.ntmps50
                         go_wp2
                         all_goals go_ret
                         all_goals exact ⟨by first | rfl | simp_all, HB.out _⟩)
                  · have d22 : decide ((size : Int) - off < len) = false := decide_eq_false h22
                    by_cases h23 : k = 4
                    · have d23 : (k == 4) = true := by simp [h23]
                      have q23 : (k != 4) = false := by simp [h23]
                      by_cases h24 : off = 0
                      · have d24 : (off == 0) = true := by simp [h24]
                        have q24 : (off != 0) = false := by simp [h24]
                        by_cases h25 : len = 0
                        · have d25 : (len == 0) = true := by simp [h25]
                          have q25 : (len != 0) = false := by simp [h25]
                          by_cases hsy : sy = true
                          · skip
                            by_cases h27 : k = 1
                            · have d27 : (k == 1) = true := by simp [h27]
                              have q27 : (k != 1) = false := by simp [h27]
                              first
                                | (exfalso; omega)
                                | (have e1 : Opv.may (⟨k, fr, t, off, len, da, n, dc, sy⟩ : Opv) size = false := by first | (simp [Opv.may, *]; done) | (simp [Opv.may, *]; omega)
                                   rw [e1]
                                   clear e1
                                   go_enter Try.func50, Try.ntmps50
                                   go_wp2
                                   all_goals go_ret
                                   all_goals exact ⟨by first | rfl | simp_all, HB.out _⟩)
                            · have d27 : (k == 1) = false := by rw [beq_eq_false_iff_ne]; exact h27
                              have q27 : (k != 1) = true := by simp [bne, d27]
                              by_cases h28 : k = 2
                              · have d28 : (k == 2) = true := by simp [h28]
                                have q28 : (k != 2) = false := by simp [h28]
                                first
                                  | (exfalso; omega)
                                  | (have e1 : Opv.may (⟨k, fr, t, off, len, da, n, dc, sy⟩ : Opv) size = ((n : Int) == len) := by first | (simp [Opv.may, *]; done) | (simp [Opv.may, *]; omega)
                                     rw [e1]
                                     clear e1
                                     go_enter Try.func50, Try.ntmps50
                                     go_wp2
                                     all_goals go_ret
                                     all_goals exact ⟨by first | rfl | simp_all, HB.out _⟩)
                              · have d28 : (k == 2) = false := by rw [beq_eq_false_iff_ne]; exact h28
                                have q28 : (k != 2) = true := by simp [bne, d28]
                                by_cases h29 : k = 1
                                · have d29 : (k == 1) = true := by simp [h29]
                                  have q29 : (k != 1) = false := by simp [h29]
                                  first
                                    | (exfalso; omega)
                                    | (have e1 : Opv.may (⟨k, fr, t, off, len, da, n, dc, sy⟩ : Opv) size = ((n : Int) == len) := by first | (simp [Opv.may, *]; done) | (simp [Opv.may, *]; omega)
                                       rw [e1]
                                       clear e1
                                       go_enter Try.func50, Try.ntmps50
                                       go_wp2
                                       all_goals go_ret
                                       all_goals exact ⟨by first | rfl | simp_all, HB.out _⟩)
                                · have d29 : (k == 1) = false := by rw [beq_eq_false_iff_ne]; exact h29
                                  have q29 : (k != 1) = true := by simp [bne, d29]
                                  first
                                    | (exfalso; omega)
                                    | (have e1 : Opv.may (⟨k, fr, t, off, len, da, n, dc, sy⟩ : Opv) size = ((n : Int) == 0) := by first | (simp [Opv.may, *]; done) | (simp [Opv.may, *]; omega)
                                       rw [e1]
                                       clear e1
                                       go_enter Try.func50, Try.ntmps50
                                       go_wp2
                                       all_goals go_ret
                                       all_goals exact ⟨by first | rfl | simp_all, HB.out _⟩)
                          · have hsy2 : sy = false := by simpa using hsy
                            by_cases h30 : k = 2
                            · have d30 : (k == 2) = true := by simp [h30]
                              have q30 : (k != 2) = false := by simp [h30]
                              first
                                | (exfalso; omega)
                                | (have e1 : Opv.may (⟨k, fr, t, off, len, da, n, dc, sy⟩ : Opv) size = ((n : Int) == len) := by first | (simp [Opv.may, *]; done) | (simp [Opv.may, *]; omega)
                                   rw [e1]
                                   clear e1
                                   go_enter Try.func50, Try.ntmps50
                                   go_wp2
                                   all_goals go_ret
                                   all_goals exact ⟨by first | rfl | simp_all, HB.out _⟩)
                            · have d30 : (k == 2) = false := by rw [beq_eq_false_iff_ne]; exact h30
                              have q30 : (k != 2) = true := by simp [bne, d30]
                              by_cases h31 : k = 1
                              · have d31 : (k == 1) = true := by simp [h31]
                                have q31 : (k != 1) = false := by simp [h31]
                                first
                                  | (exfalso; omega)
                                  | (have e1 : Opv.may (⟨k, fr, t, off, len, da, n, dc, sy⟩ : Opv) size = ((n : Int) == len) := by first | (simp [Opv.may, *]; done) | (simp [Opv.may, *]; omega)
                                     rw [e1]
                                     clear e1
                                     go_enter Try.func50, Try.ntmps50
                                     go_wp2
                                     all_goals go_ret
                                     all_goals exact ⟨by first | rfl | simp_all, HB.out _⟩)
                              · have d31 : (k == 1) = false := by rw [beq_eq_false_iff_ne]; exact h31
                                have q31 : (k != 1) = true := by simp [bne, d31]
                                first
                                  | (exfalso; omega)
                                  | (have e1 : Opv.may (⟨k, fr, t, off, len, da, n, dc, sy⟩ : Opv) size = ((n : Int) == 0) := by first | (simp [Opv.may, *]; done) | (simp [Opv.may, *]; omega)
                                     rw [e1]
                                     clear e1
                                     go_enter Try.func50, Try.ntmps50
                                     go_wp2
                                     all_goals go_ret
                                     all_goals exact ⟨by first | rfl | simp_all, HB.out _⟩)
                        · have d25 : (len == 0) = false := by rw [beq_eq_false_iff_ne]; exact h25
                          have q25 : (len != 0) = true := by simp [bne, d25]
                          first
                            | (exfalso; omega)
                            | (have e1 : Opv.may (⟨k, fr, t, off, len, da, n, dc, sy⟩ : Opv) size = false := by first | (simp [Opv.may, *]; done) | (simp [Opv.may, *]; omega)
                               rw [e1]
                               clear e1
                               go_enter Try.func50, Try.ntmps50
                               go_wp2
                               all_goals go_ret
                               all_goals exact ⟨by first | rfl | simp_all, HB.out _⟩)
                      · have d24 : (off == 0) = false := by rw [beq_eq_false_iff_ne]; exact h24
                        have q24 : (off != 0) = true := by simp [bne, d24]
                        first
                          | (exfalso; omega)
                          | (have e1 : Opv.may (⟨k, fr, t, off, len, da, n, dc, sy⟩ : Opv) size = false := by first | (simp [Opv.may, *]; done) | (simp [Opv.may, *]; omega)
                             rw [e1]
                             clear e1
                             go_enter Try.func50, Try.ntmps50
                             go_wp2
                             all_goals go_ret
                             all_goals exact ⟨by first | rfl | simp_all, HB.out _⟩)
                    · have d23 : (k == 4) = false := by rw [beq_eq_false_iff_ne]; exact h23
                      have q23 : (k != 4) = true := by simp [bne, d23]
                      by_cases hsy : sy = true
                      · skip
                        by_cases h33 : k = 1
                        · have d33 : (k == 1) = true := by simp [h33]
                          have q33 : (k != 1) = false := by simp [h33]
                          first
                            | (exfalso; omega)
                            | (have e1 : Opv.may (⟨k, fr, t, off, len, da, n, dc, sy⟩ : Opv) size = false := by first | (simp [Opv.may, *]; done) | (simp [Opv.may, *]; omega)
                               rw [e1]
                               clear e1
                               go_enter Try.func50, Try.ntmps50
                               go_wp2
                               all_goals go_ret
                               all_goals exact ⟨by first | rfl | simp_all, HB.out _⟩)
                        · have d33 : (k == 1) = false := by rw [beq_eq_false_iff_ne]; exact h33
                          have q33 : (k != 1) = true := by simp [bne, d33]
                          by_cases h34 : k = 2
                          · have d34 : (k == 2) = true := by simp [h34]
                            have q34 : (k != 2) = false := by simp [h34]
                            first
                              | (exfalso; omega)
                              | (have e1 : Opv.may (⟨k, fr, t, off, len, da, n, dc, sy⟩ : Opv) size = ((n : Int) == len) := by first | (simp [Opv.may, *]; done) | (simp [Opv.may, *]; omega)
                                 rw [e1]
                                 clear e1
                                 go_enter Try.func50, Try.ntmps50
                                 go_wp2
                                 all_goals go_ret
                                 all_goals exact ⟨by first | rfl | simp_all, HB.out _⟩)
                          · have d34 : (k == 2) = false := by rw [beq_eq_false_iff_ne]; exact h34
                            have q34 : (k != 2) = true := by simp [bne, d34]
                            by_cases h35 : k = 1
                            · have d35 : (k == 1) = true := by simp [h35]
                              have q35 : (k != 1) = false := by simp [h35]
                              first
                                | (exfalso; omega)
                                | (have e1 : Opv.may (⟨k, fr, t, off, len, da, n, dc, sy⟩ : Opv) size = ((n : Int) == len) := by first | (simp [Opv.may, *]; done) | (simp [Opv.may, *]; omega)
                                   rw [e1]
                                   clear e1
                                   go_enter Try.func50, Try.ntmps50
                                   go_wp2
                                   all_goals go_ret
                                   all_goals exact ⟨by first | rfl | simp_all, HB.out _⟩)
                            · have d35 : (k == 1) = false := by rw [beq_eq_false_iff_ne]; exact h35
                              have q35 : (k != 1) = true := by simp [bne, d35]
                              first
                                | (exfalso; omega)
                                | (have e1 : Opv.may (⟨k, fr, t, off, len, da, n, dc, sy⟩ : Opv) size = ((n : Int) == 0) := by first | (simp [Opv.may, *]; done) | (simp [Opv.may, *]; omega)
                                   rw [e1]
                                   clear e1
                                   go_enter Try.func50, Try.ntmps50
                                   go_wp2
                                   all_goals go_ret
                                   all_goals exact ⟨by first | rfl | simp_all, HB.out _⟩)
                      · have hsy2 : sy = false := by simpa using hsy
                        by_cases h36 : k = 2
                        · have d36 : (k == 2) = true := by simp [h36]
                          have q36 : (k != 2) = false := by simp [h36]
                          first
                            | (exfalso; omega)
                            | (have e1 : Opv.may (⟨k, fr, t, off, len, da, n, dc, sy⟩ : Opv) size = ((n : Int) == len) := by first | (simp [Opv.may, *]; done) | (simp [Opv.may, *]; omega)
                               rw [e1]
                               clear e1
                               go_enter Try.func50, Try.ntmps50
                               go_wp2
                               all_goals go_ret
                               all_goals exact ⟨by first | rfl | simp_all, HB.out _⟩)
                        · have d36 : (k == 2) = false := by rw [beq_eq_false_iff_ne]; exact h36
                          have q36 : (k != 2) = true := by simp [bne, d36]
                          by_cases h37 : k = 1
                          · have d37 : (k == 1) = true := by simp [h37]
                            have q37 : (k != 1) = false := by simp [h37]
                            first
                              | (exfalso; omega)
                              | (have e1 : Opv.may (⟨k, fr, t, off, len, da, n, dc, sy⟩ : Opv) size = ((n : Int) == len) := by first | (simp [Opv.may, *]; done) | (simp [Opv.may, *]; omega)
                                 rw [e1]
                                 clear e1
                                 go_enter Try.func50, Try.ntmps50
                                 go_wp2
                                 all_goals go_ret
                                 all_goals exact ⟨by first | rfl | simp_all, HB.out _⟩)
                          · have d37 : (k == 1) = false := by rw [beq_eq_false_iff_ne]; exact h37
                            have q37 : (k != 1) = true := by simp [bne, d37]
                            first
                              | (exfalso; omega)
                              | (have e1 : Opv.may (⟨k, fr, t, off, len, da, n, dc, sy⟩ : Opv) size = ((n : Int) == 0) := by first | (simp [Opv.may, *]; done) | (simp [Opv.may, *]; omega)
                                 rw [e1]
                                 clear e1
                                 go_enter Try.func50, Try.ntmps50
                                 go_wp2
                                 all_goals go_ret
                                 all_goals exact ⟨by first | rfl | simp_all, HB.out _⟩)
end Go.Proofs.Ytjkoambfecmglaa
