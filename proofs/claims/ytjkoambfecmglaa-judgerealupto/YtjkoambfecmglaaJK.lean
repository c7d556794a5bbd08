import Derived.Test.YtjkoambfecmglaaJB
import Derived.Deep.RegionHeld3
import Derived.Laws.Runes
namespace Go.Proofs.Ytjkoambfecmglaa
open Go.RowKit
set_option linter.unusedVariables false
set_option linter.unusedSimpArgs false
set_option maxRecDepth 100000
/-- how many sectors -/
def secs (n : Nat) : Nat := (n + 511) / 512
/-- a sector's bytes -/
def prt (bs : List Nat) (k : Nat) : List Nat := (bs.drop (k * 512)).take 512
theorem secs_lt {n k : Nat} : k < secs n ↔ k * 512 < n := by unfold secs; omega
theorem secs_div (n : Nat) : ((n : Int) + 512 - 1).tdiv 512 = ((secs n : Nat) : Int) := by
  unfold secs
  rw [Int.tdiv_eq_ediv_of_nonneg (by omega)]
  omega
theorem secs_wrap {n : Nat} (hs : n ≤ 4096) : wrap64 ((secs n : Nat) : Int) = ((secs n : Nat) : Int) := by
  have : secs n ≤ 8 := by unfold secs; omega
  unfold wrap64
  omega
set_option maxHeartbeats 2000000 in
theorem sectors_any (na : Option Addr) (n nc : Nat) (w : World) (hs : n ≤ 4096) : Calls Try.prog 58 #[.slice na n nc] w fun e w' => e = .returned (.int .i64 ((secs n : Nat) : Int)) ∧ w' = w := by
  have q1 := secs_div n
  have q2 : wrap64 ((secs n : Nat) : Int) = ((secs n : Nat) : Int) := secs_wrap hs
  go_enter Try.func58, Try.ntmps58
  go_wp2
  go_ret
  exact ⟨congrArg (fun x => Ending.returned (Value.int .i64 x)) q2, rfl⟩
/-- a part of a row of bytes -/
theorem BRow.sub {W : World} {ao : Option Addr} {c : Nat} {l : List Nat} (h : BRow W ao c l) (lo m c' : Nat) (hm : lo + m ≤ l.length) (hc : l.length ≤ c) (ao' : Option Addr) (hao : ao' = if c = lo then ao else Option.map (fun x => x.add lo) ao) (hc' : c' = c - lo) : BRow W ao' c' ((l.drop lo).take m) where
  lt x hx := h.lt x (List.mem_of_mem_drop (List.mem_of_mem_take hx))
  len := by have := h.len; simp; omega
  nil e := by
    subst hao hc'
    cases ao with
    | none =>
      obtain ⟨h1, h2⟩ := h.nil rfl
      subst h1 h2
      exact ⟨by simp, by omega⟩
    | some a => split at e <;> cases e
  at_ hne := by
    subst hao
    have hl : l ≠ [] := by rintro rfl; simp at hne
    obtain ⟨b, off, rfl, hk⟩ := h.at_ hl
    have hm0 : 0 < m ∧ lo < l.length := by
      constructor
      · rcases Nat.eq_zero_or_pos m with h0 | h0
        · subst h0; simp at hne
        · exact h0
      · rcases Nat.lt_or_ge lo l.length with h0 | h0
        · exact h0
        · rw [List.drop_eq_nil_of_le h0] at hne; simp at hne
    rw [if_neg (by omega)]
    refine ⟨b, off + lo, ?_, fun k hk2 => ?_⟩
    · show some ((⟨b, off, none⟩ : Addr).add lo) = _
      rw [add_plain]
    · rw [List.length_take, List.length_drop] at hk2
      rw [Nat.add_assoc, hk (lo + k) (by omega)]
      simp
theorem prt_len (bs : List Nat) (k : Nat) : (prt bs k).length = min ((k + 1) * 512) bs.length - k * 512 := by
  unfold prt
  rw [List.length_take, List.length_drop]; omega
theorem prt_take {bs : List Nat} {k m : Nat} (hm : m = min ((k + 1) * 512) bs.length - k * 512) : (bs.drop (k * 512)).take m = prt bs k := by
  unfold prt
  by_cases h : bs.length ≤ (k + 1) * 512
  · rw [List.take_of_length_le (by rw [List.length_drop]; omega), List.take_of_length_le (by rw [List.length_drop]; omega)]
  · congr 1; omega
set_option maxHeartbeats 4000000 in
theorem sector_any (na : Option Addr) (n nc k : Nat) (bs : List Nat) (w : World) (hb : BRow w na nc bs) (hn : bs.length = n) (hnc : n ≤ nc) (hs : n ≤ 4096) (hk : k < secs n) :
    Calls Try.prog 68 #[.slice na n nc, .int .i64 (k : Int)] w fun e w' => ∃ sa m c, e = .returned (.slice sa m c) ∧ w' = w ∧ BRow w sa c (prt bs k) ∧ (prt bs k).length = m := by
  have h0 : k * 512 < n := secs_lt.1 hk
  obtain ⟨lo, hlo⟩ : ∃ lo, k * 512 = lo := ⟨_, rfl⟩
  have HS : Hid (∀ q, min ((k + 1) * 512) n = q → BRow w (Option.map (fun x => x.add lo) na) (nc - lo) (prt bs k) ∧ (prt bs k).length = q - lo) := fun q hq => by
    refine ⟨?_, by rw [prt_len, hn, hq, hlo]⟩
    have := hb.sub lo (q - lo) (nc - lo) (by omega) (by omega) _ (if_neg (by omega)).symm rfl
    rw [← hlo] at this
    rw [prt_take (by rw [hn, hq])] at this
    rw [hlo] at this
    exact this
  have q1 : (k : Int) * 512 = (lo : Int) := by omega
  have q2 : (0 : Int) ≤ (lo : Int) := by omega
  rw [hlo] at h0
  by_cases h9 : (k + 1) * 512 ≤ n
  · obtain ⟨q, hq⟩ : ∃ q, (k + 1) * 512 = q := ⟨_, rfl⟩
    have HR : Hid _ := HS.out q (by omega)
    have q3 : (lo : Int) ≤ (q : Int) := by omega
    have q4 : (q : Int) ≤ (nc : Int) := by omega
    have q5 : (q : Int) ≤ (n : Int) := by omega
    have q6 : (0 : Int) ≤ (q : Int) := by omega
    have q7 : ((k : Int) + 1) * 512 = (q : Int) := by omega
    have q8 : decide ((q : Int) ≤ (n : Int)) = true := decide_eq_true q5
    have q9 : decide ((n : Int) < (q : Int)) = false := decide_eq_false (by omega)
    clear hb hk hq hlo hn h9 HS
    go_enter Try.func68, Try.ntmps68
    go_wp2
    go_ret
    exact ⟨_, q - lo, nc - lo, rfl, rfl, HR.out⟩
  · have HR : Hid _ := HS.out n (by omega)
    obtain ⟨q, hq⟩ : ∃ q, (k + 1) * 512 = q := ⟨_, rfl⟩
    have q3 : (lo : Int) ≤ (n : Int) := by omega
    have q4 : (n : Int) ≤ (nc : Int) := by omega
    have q7 : ((k : Int) + 1) * 512 = (q : Int) := by omega
    have q8 : decide ((q : Int) ≤ (n : Int)) = false := decide_eq_false (by omega)
    have q9 : decide ((n : Int) < (q : Int)) = true := decide_eq_true (by omega)
    have q10 : (n : Int) < (q : Int) := by omega
    have q11 : q ≤ 8192 := by omega
    clear hb hk hq hlo hn h9 HS
    go_enter Try.func68, Try.ntmps68
    go_wp2
    go_ret
    exact ⟨_, n - lo, nc - lo, rfl, rfl, HR.out⟩
end Go.Proofs.Ytjkoambfecmglaa

namespace Go.Proofs.Ytjkoambfecmglaa
open Go.RowKit
set_option linter.unusedVariables false
set_option linter.unusedSimpArgs false
set_option maxRecDepth 100000
set_option maxHeartbeats 4000000 in
/-- is a sector the same? -/
theorem csame_any (aa na : Option Addr) (P n ac nc k : Nat) (after now : List Nat) (w : World) (hc : w.cell? ⟨P, 0, none⟩ = some (.slice aa n ac)) (ha : BRow w aa ac after) (han : after.length = n) (hac : n ≤ ac) (hb : BRow w na nc now) (hn : now.length = n) (hnc : n ≤ nc) (hs : n ≤ 4096) (hk : k < secs n) :
    Calls Try.prog 59 #[.pointer (some ⟨P, 0, none⟩), .slice na n nc, .int .i64 (k : Int)] w fun e w' => e = .returned (.bool (decide (prt now k = prt after k))) ∧ Below w.heap.size w w' := by
  have HBd : Hid (Below w.heap.size w w.drew) := ⟨rfl, rfl, rfl, Nat.le_refl _, fun _ _ => rfl⟩
  have K1 : True := trivial
  have HS1 : Hid _ := sector_any na n nc k now w.drew (hb.later HBd.out) hn hnc hs hk
  have HS2 : Hid _ := sector_any aa n ac k after w.drew (ha.later HBd.out) han hac hs hk
  have c0 := hc
  have HC : Hid (w.cell? ⟨P, 0, none⟩ = some (.slice aa n ac)) := hc
  clear hc ha han hac hb hn hnc hs hk
  go_enter Try.func59, Try.ntmps59
  go_wp2
  go_region_held3 (fun w' => w'.cell? ⟨P, 0, none⟩ = some (.slice aa n ac)) (first | exact cell_later HB4.out HC.out | go_keep) (first | (have hk := K1; clear hk K1; go_at_call 68; refine Calls.mono HS1.out ?_; rintro e W2 ⟨sa, m1, c1, rfl, rfl, hr1, hl1⟩; have HR1 : Hid (BRow w.drew sa c1 (prt now k) ∧ (prt now k).length = m1) := ⟨hr1, hl1⟩; clear hr1 hl1) | (go_at_call 68; refine Calls.mono HS2.out ?_; rintro e W3 ⟨sb, m2, c2, rfl, rfl, hr2, hl2⟩; have HR2 : Hid (BRow w.drew sb c2 (prt after k) ∧ (prt after k).length = m2) := ⟨hr2, hl2⟩; clear hr2 hl2) | (go_at_call 67; refine Calls.mono (equal_any sa sb m1 m2 c1 c2 (prt now k) (prt after k) w.drew HR1.out.1 HR1.out.2 HR2.out.1 HR2.out.2) ?_; rintro e W4 ⟨rfl, hb4⟩; have HB4 : Hid (Below w.heap.size w W4) := HBd.out.trans hb4; clear hb4))
  go_wp2
  go_ret
  exact ⟨rfl, HB4.out⟩
end Go.Proofs.Ytjkoambfecmglaa

namespace Go.Proofs.Ytjkoambfecmglaa
open Go.RowKit
set_option linter.unusedVariables false
set_option linter.unusedSimpArgs false
set_option maxRecDepth 100000
/-- the sectors that an operation reaches -/
def rlo (k : Int) (off m : Nat) : Nat := if k = 4 then 0 else if m = 0 then 0 else off / 512
def rhi (n : Nat) (k : Int) (off m : Nat) : Nat := if k = 4 then secs n else if m = 0 then 0 else (off + m - 1) / 512 + 1
theorem rnum {off m n : Nat} (hm : m ≠ 0) (h : off + m ≤ n) (hs : n ≤ 4096) : ((off : Int)).tdiv 512 = ((off / 512 : Nat) : Int) ∧ ((off : Int) + (m : Int) - 1).tdiv 512 = (((off + m - 1) / 512 : Nat) : Int) ∧ wrap64 ((off / 512 : Nat) : Int) = ((off / 512 : Nat) : Int) ∧ wrap64 (((off + m - 1) / 512 : Nat) : Int) = (((off + m - 1) / 512 : Nat) : Int) ∧ wrap64 ((((off + m - 1) / 512 : Nat) : Int) + 1) = (((off + m - 1) / 512 + 1 : Nat) : Int) := by
  have h1 : off / 512 ≤ 8 := by omega
  have h2 : (off + m - 1) / 512 ≤ 8 := by omega
  refine ⟨?_, ?_, ?_, ?_, ?_⟩
  · rw [Int.tdiv_eq_ediv_of_nonneg (by omega)]; omega
  · rw [Int.tdiv_eq_ediv_of_nonneg (by omega)]; omega
  · unfold wrap64; omega
  · unfold wrap64; omega
  · unfold wrap64; omega
set_option maxHeartbeats 4000000 in
theorem reach_any (na da : Option Addr) (n nc k9 dc off m : Nat) (kd fr t : Int) (sy : Bool) (w : World) (hin : off + m ≤ n) (hs : n ≤ 4096) :
    Calls Try.prog 60 #[.slice na n nc, .agg #[.int .i64 kd, .int .i64 fr, .int .i64 t, .int .i64 (off : Int), .int .i64 (m : Int), .slice da k9 dc, .bool sy]] w fun e w' => e = .returned (.tuple #[.int .i64 (rlo kd off m : Nat), .int .i64 (rhi n kd off m : Nat)]) ∧ Below w.heap.size w w' := by
  have HB : Hid (Below w.heap.size w (w.alloc (.cells #[.int .i64 kd, .int .i64 fr, .int .i64 t, .int .i64 (off : Int), .int .i64 (m : Int), .slice da k9 dc, .bool sy] 50))) := (Below.refl _ w).alloc (Nat.le_refl _) _
  have HC : Hid (∀ w' : World, (∀ j v, (#[.int .i64 kd, .int .i64 fr, .int .i64 t, .int .i64 (off : Int), .int .i64 (m : Int), .slice da k9 dc, .bool sy] : Array Value)[j]? = some v → w'.cell? ⟨w.heap.size, j, none⟩ = some v) → w'.cell? ⟨w.heap.size, 0, none⟩ = some (.int .i64 kd) ∧ w'.cell? ⟨w.heap.size, 3, none⟩ = some (.int .i64 (off : Int)) ∧ w'.cell? ⟨w.heap.size, 4, none⟩ = some (.int .i64 (m : Int))) := fun w' hj =>
    ⟨hj 0 _ rfl, hj 3 _ rfl, hj 4 _ rfl⟩
  have HX : Hid (∀ j v, (#[.int .i64 kd, .int .i64 fr, .int .i64 t, .int .i64 (off : Int), .int .i64 (m : Int), .slice da k9 dc, .bool sy] : Array Value)[j]? = some v → (w.alloc (.cells #[.int .i64 kd, .int .i64 fr, .int .i64 t, .int .i64 (off : Int), .int .i64 (m : Int), .slice da k9 dc, .bool sy] 50)).cell? ⟨w.heap.size, j, none⟩ = some v) := fun j v hv => by
    rw [blk_at (heap_new _ _) j]; exact hv
  obtain ⟨V, hV⟩ : ∃ V, V = w.alloc (.cells #[.int .i64 kd, .int .i64 fr, .int .i64 t, .int .i64 (off : Int), .int .i64 (m : Int), .slice da k9 dc, .bool sy] 50) := ⟨_, rfl⟩
  rw [← hV] at HB HX
  obtain ⟨c0, c3, c4⟩ := HC.out V HX.out
  by_cases hk : kd = 4
  · have n1 : (kd == 4) = true := by simp [hk]
    have HL : Hid (rlo kd off m = 0 ∧ rhi n kd off m = secs n) := by constructor; (unfold rlo; rw [if_pos hk]); (unfold rhi; rw [if_pos hk])
    have HSe : Hid _ := sectors_any na n nc V hs
    clear hk
    go_enter Try.func60, Try.ntmps60
    go_wp2_with fail
    rw [← hV]
    go_wp2_with fail
    refine Calls.mono HSe.out ?_
    rintro e W2 ⟨rfl, rfl⟩
    clear hV
    go_wp2_with fail
    go_ret2
    exact ⟨by rw [HL.out.1, HL.out.2]; rfl, HB.out⟩
  · have n1 : (kd == 4) = false := by rw [beq_eq_false_iff_ne]; exact hk
    by_cases h0 : m = 0
    · have n2 : ((m : Int) == 0) = true := by simp [h0]
      have HL : Hid (rlo kd off m = 0 ∧ rhi n kd off m = 0) := by constructor; (unfold rlo; rw [if_neg hk, if_pos h0]); (unfold rhi; rw [if_neg hk, if_pos h0])
      clear hk h0
      go_enter Try.func60, Try.ntmps60
      go_wp2_with fail
      rw [← hV]
      clear hV
      go_wp2_with fail
      go_ret2
      exact ⟨by rw [HL.out.1, HL.out.2]; rfl, HB.out⟩
    · have n2 : ((m : Int) == 0) = false := by rw [beq_eq_false_iff_ne]; omega
      have HL : Hid (rlo kd off m = off / 512 ∧ rhi n kd off m = (off + m - 1) / 512 + 1) := by constructor; (unfold rlo; rw [if_neg hk, if_neg h0]); (unfold rhi; rw [if_neg hk, if_neg h0])
      obtain ⟨q1, q2, q3, q4, q5⟩ := rnum h0 hin hs
      obtain ⟨x, hx⟩ : ∃ x, off / 512 = x := ⟨_, rfl⟩
      obtain ⟨y, hy⟩ : ∃ y, (off + m - 1) / 512 = y := ⟨_, rfl⟩
      rw [hx, hy] at HL
      rw [hx] at q1 q3
      rw [hy] at q2 q4 q5
      have HQ : Hid (wrap64 (x : Int) = (x : Int) ∧ wrap64 (y : Int) = (y : Int) ∧ wrap64 ((y : Int) + 1) = ((y + 1 : Nat) : Int)) := ⟨q3, q4, q5⟩
      have q6 : y ≤ 8 := by omega
      have q7 : x ≤ 8 := by omega
      have HM0 : Hid (m ≠ 0) := h0
      clear hk h0 hx hy q3 q4 q5
      go_enter Try.func60, Try.ntmps60
      go_wp2_with fail
      rw [← hV]
      clear hV
      go_wp2_with fail
      go_region_held3 (fun w' => w'.cell? ⟨w.heap.size, 3, none⟩ = some (.int .i64 (off : Int)) ∧ w'.cell? ⟨w.heap.size, 4, none⟩ = some (.int .i64 (m : Int))) (first | go_keep) (fail)
      go_wp2_with fail
      go_ret2
      refine ⟨?_, HB.out.trans ⟨rfl, rfl, rfl, Nat.le_refl _, fun _ _ => rfl⟩⟩
      rw [HL.out.1, HL.out.2]
      have h0 : m ≠ 0 := HM0.out
      show Ending.returned (.tuple #[.int .i64 (IntKind.i64.wrap (x : Int)), .int .i64 (IntKind.i64.wrap (IntKind.i64.wrap ((IntKind.i64.wrap (IntKind.i64.wrap ((off : Int) + (m : Int)) - 1)).tdiv 512) + 1))]) = _
      rw [wrap_small ((off : Int) + (m : Int)) (by omega) (by omega), wrap_small ((off : Int) + (m : Int) - 1) (by omega) (by omega), q2, wrap_small (y : Int) (by omega) (by omega), wrap_small ((y : Int) + 1) (by omega) (by omega), wrap_small (x : Int) (by omega) (by omega)]
      rfl
end Go.Proofs.Ytjkoambfecmglaa
