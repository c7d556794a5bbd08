import Derived.Test.YtfifaaopdhcaaaaGreatDoorY6
import Derived.Test.YtfifaaopdhcaaaaGreatDoorY1
import Derived.Test.YtfifaaopdhcaaaaGreatDoorY3
import Derived.RangeFuncNested
import Derived.RangeFuncBound
import Derived.RangeFuncCalls
import Derived.RangeFuncLeaves
import Derived.Shelf.Abstract
import Derived.Shelf.RegionOpen
import Derived.OwnWalkIn
import Derived.TacticsInMore
import Derived.LoopNIn
import Derived.LoopIn
import Derived.Maps.OwnIn
import Derived.Test.YtfifaaopdhcaaaaGreatDoorCards
import Derived.Test.YtfifaaopdhcaaaaGreatDoorTie
import Derived.ProofKit
import Derived.OpenShut
import Derived.ShutString
import Derived.ChangeOld
import Derived.SizedLaws
import Derived.JoinedCond
import Derived.Deep.DeepHandedRow
import Derived.Lib.LaidTab
import Derived.Lib.LaidIn
import Derived.Lib.LaidU8
import Derived.Lib.LaidU8T
import Derived.PinnedBridge
import Derived.Deep.DeepWitnessRowRef
import Derived.Test.YtfifaaopdhcaaaaGreatDoorRows
import Derived.Deep.Slices
namespace Go.Proofs.YtfifaaopdhcaaaaGreatDoor
open Go.RowKit
set_option linter.unusedVariables false

theorem index_neg (l : List UInt8) (c : UInt8) : Lib.indexByte l c < 0 ↔ c ∉ l := by
  induction l with
  | nil => simp [Lib.indexByte]
  | cons b l ih =>
    have hge := Lib.indexByte_ge l c
    simp only [Lib.indexByte]
    by_cases hb : b = c
    · subst hb; simp
    · rw [if_neg (by simpa using hb)]
      by_cases hi : Lib.indexByte l c = -1
      · rw [if_pos (by simpa using hi)]
        have : c ∉ l := ih.1 (by omega)
        simp [this, Ne.symm hb]
      · rw [if_neg (by simpa using hi)]
        have : ¬ c ∉ l := fun h => by have := ih.2 h; omega
        simp only [List.mem_cons, not_or]
        constructor
        · intro h; omega
        · intro h; exact absurd h.2 this
theorem plainB_eq (l : List UInt8) : plainB l = (Lib.validD l && decide ((0 : UInt8) ∉ l)) := by
  unfold plainB
  congr 1
  exact decide_eq_decide.2 (index_neg l 0)

theorem contOk_ge (lo hi : Nat) (B : Nat → Nat) (hlo : 128 ≤ lo) (k : Nat) (hk : 1 ≤ k) (h : contOk lo hi B k = true) : 128 ≤ B k := by
  match k, hk with
  | 1, _ => rw [cont_one] at h; simp at h; omega
  | k + 2, _ => rw [cont_more] at h; simp at h; omega
theorem cls_lo (c : Nat) : 128 ≤ (cls c).2.1 ∧ (cls c).1 ≤ 4 := by
  unfold cls; repeat' split
  all_goals simp
theorem ret_bool' {a b : Bool} (h : a = b) : Ending.returned (.bool a) = .returned (.bool b) := by rw [h]
theorem runeF_spec (n : Nat) (B : Nat → Nat) (hn : 1 ≤ n) (h : runeF n B ≠ 0) : runeF n B ≤ n ∧ ∀ j, 1 ≤ j → j < runeF n B → 128 ≤ B j := by
  unfold runeF at *
  by_cases h0 : B 0 < 128
  · rw [if_pos h0]; exact ⟨hn, fun j h1 h2 => by omega⟩
  · rw [if_neg h0] at h ⊢
    by_cases h1 : (cls (B 0)).1 = 0 ∨ n < (cls (B 0)).1
    · rw [if_pos h1] at h; exact absurd rfl h
    · rw [if_neg h1] at h ⊢
      by_cases h2 : contOk (cls (B 0)).2.1 (cls (B 0)).2.2 B ((cls (B 0)).1 - 1) = true
      · rw [if_pos h2]
        refine ⟨by omega, fun j hj1 hj2 => ?_⟩
        exact contOk_ge _ _ B (cls_lo _).1 j hj1 (contOk_le _ _ B j _ (by omega) h2)
      · rw [if_neg h2] at h; exact absurd rfl h

/-- what is left from place i on -/
def pl (s : ByteArray) (i : Nat) : Bool := plainB (s.data.toList.drop i)
theorem size_list (s : ByteArray) : s.data.toList.length = s.size := by simp
theorem drop_ne (s : ByteArray) (i : Nat) (hi : i < s.size) : s.data.toList.drop i ≠ [] := by
  intro h; have := congrArg List.length h; rw [List.length_drop, size_list] at this; simp at this; omega
theorem pl_end (s : ByteArray) (i : Nat) (hi : s.size ≤ i) : pl s i = true := by
  unfold pl; rw [List.drop_eq_nil_of_le (by rw [size_list]; exact hi)]; decide
theorem pl_bad (s : ByteArray) (i : Nat) (hi : i < s.size) (h : runeF (s.size - i) (byt s i) = 0) : pl s i = false := by
  unfold pl plainB
  rw [Lib.validD_step _ (drop_ne s i hi), if_pos ((step_at s i hi).1.2 h)]; rfl
theorem getElem_list (s : ByteArray) (i : Nat) (hi : i < s.size) : s.data.toList[i]'(by rw [size_list]; exact hi) = s[i] := by simp; rfl
theorem pl_zero (s : ByteArray) (i : Nat) (hi : i < s.size) (h : (s[i]).toNat = 0) : pl s i = false := by
  unfold pl
  rw [plainB_eq]
  have hz : s[i] = 0 := UInt8.toNat_inj.1 h
  have : (0 : UInt8) ∈ s.data.toList.drop i := by
    rw [List.drop_eq_getElem_cons (by rw [size_list]; exact hi), getElem_list s i hi, hz]; simp
  simp [this]
theorem pl_step (s : ByteArray) (i : Nat) (hi : i < s.size) (h : runeF (s.size - i) (byt s i) ≠ 0) (hz : (s[i]).toNat ≠ 0) : pl s i = pl s (i + runeF (s.size - i) (byt s i)) ∧ i + runeF (s.size - i) (byt s i) ≤ s.size := by
  obtain ⟨hle, hge⟩ := runeF_spec _ _ (by omega) h
  obtain ⟨k1, k2⟩ := step_at s i hi
  have k2 := k2 h
  generalize hr : runeF (s.size - i) (byt s i) = r at *
  refine ⟨?_, by omega⟩
  unfold pl
  rw [plainB_eq, plainB_eq, Lib.validD_step _ (drop_ne s i hi), if_neg (fun hh => h (k1.1 hh)), k2, List.drop_drop]
  congr 1
  apply decide_eq_decide.2
  have hsplit : s.data.toList.drop i = (s.data.toList.drop i).take r ++ s.data.toList.drop (i + r) := by
    rw [← List.drop_drop, List.take_append_drop]
  rw [hsplit, List.mem_append, not_or]
  constructor
  · exact fun hh => hh.2
  · refine fun hh => ⟨fun hm => ?_, hh⟩
    obtain ⟨j, hj, he⟩ := List.getElem_of_mem hm
    have hjr : j < r := by rw [List.length_take, List.length_drop, size_list] at hj; omega
    have hb : ((s.data.toList.drop i).take r)[j] = s[i + j]'(by omega) := by
      rw [List.getElem_take, List.getElem_drop, getElem_list s (i + j) (by omega)]
    rw [he] at hb
    by_cases hj0 : j = 0
    · subst hj0; exact hz (by rw [show s[i] = 0 from hb.symm]; rfl)
    · have := hge j (by omega) hjr
      rw [byt_at s i j (by omega), ← hb] at this
      simp at this

set_option maxRecDepth 100000 in
set_option maxHeartbeats 1000000 in
theorem refPlain_any (s : ByteArray) (w : World) (hs : s.size ≤ 9223372036854775807) :
    Calls Tryz.prog 76 #[.string s] w fun e w' => e = .returned (.bool (plainB s.data.toList)) ∧ w' = w := by
  have HP : Hid (pl s 0 = plainB s.data.toList) := by show pl s 0 = _; unfold pl; rw [List.drop_zero]
  go_enter Tryz.func76, Tryz.ntmps76
  go_wp2
  go_loop [3] (fun i => ∃ k : Nat, k ≤ s.size ∧ i = .int .i64 k ∧ pl s 0 = pl s k) (fun i => s.size - (intOf i).toNat)
  case atStart => exact ⟨0, Nat.zero_le _, rfl, rfl⟩
  case round =>
    obtain ⟨k, hk, rfl, hrel⟩ := hrel
    have HR : Hid (pl s 0 = pl s k) := hrel
    clear hrel
    by_cases hlt : k < s.size
    · have HC : Hid (Calls Tryz.prog 95 #[.string s, .int .i64 k] w fun e w' => e = .returned (.int .i64 (runeF (s.size - k) (byt s k) : Nat)) ∧ w' = w) := rune_any s k w hlt hs
      by_cases hr : runeF (s.size - k) (byt s k) = 0
      · have HF : Hid (pl s k = false) := pl_bad s k hlt hr
        rw [hr] at HC
        go_wp2_with fail
        refine HC.out.mono ?_
        rintro e w' ⟨rfl, hw⟩
        rw [hw]; clear hw
        go_wp2
        go_ret
        exact ⟨ret_bool' (by rw [← HP.out, HR.out, HF.out]), rfl⟩
      · by_cases hz : (s[k]).toNat = 0
        · have HF : Hid (pl s k = false) := pl_zero s k hlt hz
          have t1 : ((((runeF (s.size - k) (byt s k)) : Nat) : Int) == 0) = false := by rw [beq_eq_false_iff_ne]; omega
          have t2 : (((s[k]).toNat : Int) == 0) = true := by rw [beq_iff_eq]; omega
          clear hr hz
          generalize runeF (s.size - k) (byt s k) = r at *
          go_wp2_with fail
          refine HC.out.mono ?_
          rintro e w' ⟨rfl, hw⟩
          rw [hw]; clear hw
          go_wp2
          go_ret
          exact ⟨ret_bool' (by rw [← HP.out, HR.out, HF.out]), rfl⟩
        · have HF : Hid (pl s k = pl s (k + runeF (s.size - k) (byt s k)) ∧ k + runeF (s.size - k) (byt s k) ≤ s.size) := pl_step s k hlt hr hz
          have t1 : ((((runeF (s.size - k) (byt s k)) : Nat) : Int) == 0) = false := by rw [beq_eq_false_iff_ne]; omega
          have t2 : (((s[k]).toNat : Int) == 0) = false := by rw [beq_eq_false_iff_ne]; omega
          have hle := HF.out.2
          have hpos : 0 < runeF (s.size - k) (byt s k) := by omega
          clear hr hz
          generalize runeF (s.size - k) (byt s k) = r at *
          go_wp2_with fail
          refine HC.out.mono ?_
          rintro e w' ⟨rfl, hw⟩
          rw [hw]; clear hw
          go_wp2
          go_round
          case rel => exact ⟨k + r, hle, by go_num, HR.out.trans HF.out.1⟩
          case measure => simp [intOf]; omega
    · have HF : Hid (pl s k = true) := pl_end s k (by omega)
      go_wp2
      go_ret
      exact ⟨ret_bool' (by rw [← HP.out, HR.out, HF.out]), rfl⟩
end Go.Proofs.YtfifaaopdhcaaaaGreatDoor

namespace Go.Proofs.YtfifaaopdhcaaaaGreatDoor
open Go.RowKit
set_option linter.unusedVariables false
set_option maxRecDepth 100000

def Tabs (w : World) : Prop := Lib.Utf8Tabs (Tryz.laysValid_ren.g 3) (Tryz.laysValid_ren.g 4) w
set_option maxRecDepth 100000 in
set_option maxHeartbeats 1000000 in
theorem plain_any (s : ByteArray) (w : World) (hs : s.size ≤ 9223372036854775807) (hT : Tabs w) :
    Calls Tryz.prog 92 #[.string s] w fun e w' => e = .returned (.bool (plainB s.data.toList)) ∧ Below w.heap.size w w' := by
  have HV : Hid (Calls Tryz.prog 99 #[.string s] w fun e w' => e = .returned (.bool (Lib.validD s.data.toList)) ∧ Below w.heap.size w w') := Any.utf8_ValidString Tryz.laysValid s w hs hT
  have HI : Hid (∀ w, Calls Tryz.prog 100 #[.string s, .int .u8 0] w fun e w' => e = .returned (.int .i64 (Lib.indexByte s.data.toList 0)) ∧ w' = w) := fun w => Tryz.strings_IndexByte s 0 w
  clear hT
  unfold plainB
  generalize Lib.indexByte s.data.toList 0 = x at *
  cases hv : Lib.validD s.data.toList with
  | true =>
    rw [hv] at HV
    clear hv
    go_enter Tryz.func92, Tryz.ntmps92
    go_wp2_with fail
    refine HV.out.mono ?_
    rintro e w1 ⟨rfl, hb⟩
    go_wp2_with fail
    refine (HI.out w1).mono ?_
    rintro e w2 ⟨rfl, hw⟩
    rw [hw]; clear hw
    go_wp2
    go_ret
    exact ⟨rfl, hb⟩
  | false =>
    rw [hv] at HV
    clear hv
    go_enter Tryz.func92, Tryz.ntmps92
    go_wp2_with fail
    refine HV.out.mono ?_
    rintro e w1 ⟨rfl, hb⟩
    go_wp2
    go_ret
    exact ⟨rfl, hb⟩
end Go.Proofs.YtfifaaopdhcaaaaGreatDoor

namespace Go.Proofs.YtfifaaopdhcaaaaGreatDoor
open Go.RowKit Go.Maps Go.Shelf
attribute [local go_sem] Oper.semAt_some
set_option linter.unusedVariables false
set_option linter.unusedSimpArgs false
set_option maxRecDepth 100000

/-- a row of the tables -/
structure Rw where
  t : Nat
  n : Nat
  s : List Nat
abbrev Rw.cells (x : Rw) : List Value := [.int .i64 (x.t : Int), .int .u32 (x.n : Int), .string (bstr x.s)]
def flat (l : List Rw) : List Value := l.flatMap Rw.cells
def hagL : List Rw := [⟨1, 1, [101, 120, 112, 111, 114, 116, 45, 110, 97, 109, 101]⟩, ⟨1, 2, [97, 98, 111, 114, 116]⟩, ⟨1, 3, [108, 105, 115, 116]⟩, ⟨1, 5, [115, 116, 97, 114, 116, 116, 108, 115]⟩, ⟨1, 6, [105, 110, 102, 111]⟩, ⟨1, 7, [103, 111]⟩, ⟨1, 8, [115, 116, 114, 117, 99, 116, 117, 114, 101, 100, 45, 114, 101, 112, 108, 121]⟩, ⟨1, 9, [108, 105, 115, 116, 45, 109, 101, 116, 97, 45, 99, 111, 110, 116, 101, 120, 116]⟩, ⟨1, 10, [115, 101, 116, 45, 109, 101, 116, 97, 45, 99, 111, 110, 116, 101, 120, 116]⟩, ⟨1, 11, [101, 120, 116, 101, 110, 100, 101, 100, 45, 104, 101, 97, 100, 101, 114, 115]⟩, ⟨2, 1, [97, 99, 107]⟩, ⟨2, 2, [115, 101, 114, 118, 101, 114]⟩, ⟨2, 3, [105, 110, 102, 111]⟩, ⟨2, 4, [109, 101, 116, 97, 45, 99, 111, 110, 116, 101, 120, 116]⟩, ⟨2, 2147483649, [117, 110, 115, 117, 112]⟩, ⟨2, 2147483650, [112, 111, 108, 105, 99, 121]⟩, ⟨2, 2147483651, [105, 110, 118, 97, 108, 105, 100]⟩, ⟨2, 2147483652, [112, 108, 97, 116, 102, 111, 114, 109]⟩, ⟨2, 2147483653, [116, 108, 115, 45, 114, 101, 113, 100]⟩, ⟨2, 2147483654, [117, 110, 107, 110, 111, 119, 110]⟩, ⟨2, 2147483655, [115, 104, 117, 116, 100, 111, 119, 110]⟩, ⟨2, 2147483656, [98, 108, 111, 99, 107, 45, 115, 105, 122, 101, 45, 114, 101, 113, 100]⟩, ⟨2, 2147483657, [116, 111, 111, 45, 98, 105, 103]⟩, ⟨2, 2147483658, [101, 120, 116, 45, 104, 101, 97, 100, 101, 114, 45, 114, 101, 113, 100]⟩, ⟨3, 0, [101, 120, 112, 111, 114, 116]⟩, ⟨3, 1, [110, 97, 109, 101]⟩, ⟨3, 2, [100, 101, 115, 99, 114, 105, 112, 116, 105, 111, 110]⟩, ⟨3, 3, [98, 108, 111, 99, 107, 45, 115, 105, 122, 101]⟩]
def traL : List Rw := [⟨4, 0, [114, 101, 97, 100]⟩, ⟨4, 1, [119, 114, 105, 116, 101]⟩, ⟨4, 2, [100, 105, 115, 99]⟩, ⟨4, 3, [102, 108, 117, 115, 104]⟩, ⟨4, 4, [116, 114, 105, 109]⟩, ⟨4, 5, [99, 97, 99, 104, 101]⟩, ⟨4, 6, [119, 114, 105, 116, 101, 45, 122, 101, 114, 111, 101, 115]⟩, ⟨4, 7, [98, 108, 111, 99, 107, 45, 115, 116, 97, 116, 117, 115]⟩, ⟨5, 0, [110, 111, 110, 101]⟩, ⟨5, 1, [100, 97, 116, 97]⟩, ⟨5, 2, [104, 111, 108, 101]⟩, ⟨5, 5, [115, 116, 97, 116, 117, 115]⟩, ⟨5, 6, [115, 116, 97, 116, 117, 115, 45, 54, 52]⟩, ⟨5, 32769, [101, 114, 114, 111, 114]⟩, ⟨5, 32770, [101, 114, 114, 111, 114, 45, 97, 116]⟩, ⟨6, 0, [111, 107]⟩, ⟨6, 1, [101, 112, 101, 114, 109]⟩, ⟨6, 5, [101, 105, 111]⟩, ⟨6, 12, [101, 110, 111, 109, 101, 109]⟩, ⟨6, 22, [101, 105, 110, 118, 97, 108]⟩, ⟨6, 28, [101, 110, 111, 115, 112, 99]⟩, ⟨6, 75, [101, 111, 118, 101, 114, 102, 108, 111, 119]⟩, ⟨6, 95, [101, 110, 111, 116, 115, 117, 112]⟩, ⟨6, 108, [101, 115, 104, 117, 116, 100, 111, 119, 110]⟩, ⟨7, 1, [98, 97, 115, 101, 58, 97, 108, 108, 111, 99, 97, 116, 105, 111, 110]⟩, ⟨7, 2, [115, 112, 105, 110, 100, 108, 101, 58, 117, 110, 115, 97, 118, 101, 100]⟩, ⟨7, 3, [115, 112, 105, 110, 100, 108, 101, 58, 100, 105, 114, 116, 121]⟩]
def allL : List Rw := hagL ++ traL
theorem flat_take : ∀ (l : List Rw) (k : Nat) (x : Rw), l[k]? = some x → ((flat l).drop (3 * k)).take 3 = x.cells
  | [], k, x, h => by simp at h
  | y :: l, 0, x, h => by simp at h; subst h; rfl
  | y :: l, k + 1, x, h => by
    have := flat_take l k x (by simpa using h)
    have e : (flat (y :: l)).drop (3 * (k + 1)) = (flat l).drop (3 * k) := by
      rw [show 3 * (k + 1) = 3 * k + 1 + 1 + 1 by omega]; rfl
    rw [e]; exact this
abbrev TRow : TypeId := 168
abbrev Rw.val (x : Rw) : Value := .agg #[.int .i64 (x.t : Int), .int .u32 (x.n : Int), .string (bstr x.s)]
theorem infoRow : (Tryz.prog.info? TRow).map (·.size) = some 3 := by kernel_rfl
theorem run_index_row {t : TypeId} {m : Nat} (ht : Tryz.prog.underlying t = some (.array m TRow)) (l : List Rw) (k : Nat) (x : Rw) (hx : l[k]? = some x) (hm : l.length = m) (w : World) :
    (Instr.index t (.agg (flat l).toArray) (.int .i64 (k : Int))).run Tryz.prog w = .ok x.val w := by
  have hk : k < m := by rw [← hm]; exact (List.getElem?_eq_some_iff.1 hx).1
  have h1 : (0 : Int) ≤ (k : Int) ∧ (k : Int) < (m : Int) := by omega
  have h2 := flat_take l k x hx
  cases hq : Tryz.prog.info? TRow with
  | none => have := infoRow; rw [hq] at this; simp at this
  | some i =>
    have hs : i.size = 3 := by have := infoRow; rw [hq] at this; simpa using this
    have hagg : (isAgg TRow).run Tryz.prog w = .ok true w := by
      unfold isAgg
      rw [Sem.run_bind, run_underlying Tryz.underlying168 w]
      rfl
    simp [Instr.index, run_underlying ht, asIntOf, h1.1, hk, part, hagg, sizeOf, typeInfo, hq, hs, Sem.run_bind]
    rw [Nat.mul_comm]; exact h2
/-- the two tables lie in memory -/
structure Tb (w : World) : Prop where
  h : ∃ t fr, w.heap[0]? = some (.cells (flat hagL).toArray t fr)
  t : ∃ t fr, w.heap[1]? = some (.cells (flat traL).toArray t fr)
theorem Tb.lt0 {w : World} (h : Tb w) : 0 < w.heap.size := by obtain ⟨t, fr, h⟩ := h.h; exact (Array.getElem?_eq_some_iff.1 h).1
theorem Tb.lt1 {w : World} (h : Tb w) : 1 < w.heap.size := by obtain ⟨t, fr, h⟩ := h.t; exact (Array.getElem?_eq_some_iff.1 h).1
theorem Tb.later {w w' : World} (h : Tb w) (hb : Below w.heap.size w w') : Tb w' := by
  have h0 := h.lt0
  have h1 := h.lt1
  obtain ⟨⟨t, fr, ha⟩, ⟨t', fr', hb'⟩⟩ := h
  exact ⟨⟨t, fr, (hb.block _ h0).trans ha⟩, ⟨t', fr', (hb.block _ h1).trans hb'⟩⟩
/-- what the ranging's body must leave: the second table -/
def KpT (W W' : World) : Prop := W'.heap[1]? = W.heap[1]?
theorem kpT_t {A B C : World} (h : KpT A B) (k : KpT B C) : KpT A C := Eq.trans k h
theorem hagL_len : hagL.length = 28 := rfl
theorem traL_len : traL.length = 27 := rfl
theorem infoHag : (Tryz.prog.info? 179).map (·.size) = some (flat hagL).toArray.size := by kernel_rfl
theorem infoTra : (Tryz.prog.info? 180).map (·.size) = some (flat traL).toArray.size := by kernel_rfl
theorem wpListIn_load_row {F : Fence} {nF : Nat} {P : Program} {ops : Array Oper} {rest : List Oper} {o : Oper} {a : Act} {w : World} {Q : Exit → Act → World → Prop} (hgd : o.guard = none) (ty : TypeId) (x : Operand) (ho : o.op = .load ty x)
    (g : Nat) (hx : a.eval x = .pointer (some ⟨g, 0, none⟩)) (t : TypeId) (cs : Array Value) (fr : Nat × Nat) (d : TypeDesc) (hg : w.heap[g]? = some (.cells cs t fr))
    (hu : P.underlying ty = some d) (hd : (match d with | .struct _ | .array _ _ => true | _ => false) = true) (hi : (P.info? ty).map (·.size) = some cs.size)
    (h : wpListIn F nF P ops Q rest (a.put o.dst (.agg cs)) w) : wpListIn F nF P ops Q (o :: rest) a w := by
  refine wpListIn_plain hgd fun K hK => ?_
  unfold Oper.wpIn
  refine ⟨by simp [Oper.about, ho], ?_⟩
  rw [Oper.semAt_plain F _ _ (by rw [ho]; intro c hc'; cases hc')]
  simp only [execOp, ho, hx, Instr.loadAt, Instr.sureAddr, Sem.run_bind, Sem.run_pure, Result.andThen_ok, run_loadVar_row w g t ty cs fr d hg hu hd hi]
  exact hK _ _ h
set_option maxHeartbeats 8000000 in
/-- what a ranging over the rows gives -/
theorem rows_seq (n : Nat) (hn : 2 ≤ n) {w : World} (hT : Tb w) :
    SeqStopsK Fence.wide n Tryz.prog 89 #[] (fun x : Rw => #[x.val]) KpT (fun xs => xs = allL) (fun pre => ∃ rest, allL = pre ++ rest) allL.length w := by
  intro l J Jx W hW hJ hJx hY h0
  obtain ⟨⟨th, frh, hh⟩, ⟨tt, frt, ht⟩⟩ := hT.later hW
  obtain ⟨CH, hCH⟩ : ∃ C, C = (flat hagL).toArray := ⟨_, rfl⟩
  obtain ⟨CT, hCT⟩ : ∃ C, C = (flat traL).toArray := ⟨_, rfl⟩
  have IH : Hid (∀ (k : Nat) (x : Rw), hagL[k]? = some x → ∀ w, (Instr.index 179 (.agg CH) (.int .i64 (k : Int))).run Tryz.prog w = .ok x.val w) := fun k x hx w => by rw [hCH]; exact run_index_row Tryz.underlying179 hagL k x hx rfl w
  have IT : Hid (∀ (k : Nat) (x : Rw), traL[k]? = some x → ∀ w, (Instr.index 180 (.agg CT) (.int .i64 (k : Int))).run Tryz.prog w = .ok x.val w) := fun k x hx w => by rw [hCT]; exact run_index_row Tryz.underlying180 traL k x hx rfl w
  have ZH : Hid ((Tryz.prog.info? 179).map (·.size) = some CH.size) := by rw [hCH]; exact infoHag
  have ZT : Hid ((Tryz.prog.info? 180).map (·.size) = some CT.size) := by rw [hCT]; exact infoTra
  rw [← hCH] at hh
  rw [← hCT] at ht
  have HH : Hid (W.heap[0]? = some (.cells CH th frh)) := hh
  have HT : Hid (W.heap[1]? = some (.cells CT tt frt)) := ht
  have HJ0 : Hid (J [] W) := h0
  have HJ : Hid (AbidesFrom W.heap.size J) := hJ
  have HYY : Hid _ := hY
  have hT1 : 1 < W.heap.size := (Array.getElem?_eq_some_iff.1 ht).1
  clear hh ht hCH hCT h0 hJ hT hJx hY
  have hf : Fence.wide.fn 89 := trivial
  refine callsIn_of_wp Tryz.func89 rfl hf ?_ rfl
  simp only [Tryz.ntmps89, List.size_toArray, List.length_cons, List.length_nil, Nat.reduceAdd, Nat.reduceSub, Array.replicate_succ, Array.replicate_zero, List.push_toArray, List.append_toArray, List.nil_append, List.cons_append, List.append_nil]
  have h1 : 1 ≤ n := by omega
  have h1' : 1 ≤ n - 1 := by omega
  gi_wp2_with (refine wpListIn_load_row rfl 179 _ rfl 0 rfl th CH frh _ HH.out Tryz.underlying179 rfl ZH.out ?_)
  gi_loopw [7] (fun i wr => ∃ (k : Nat), i = .int .i64 k ∧ k ≤ 28 ∧ Hid (wr.heap[1]? = some (.cells CT tt frt)) ∧ Hid (J (hagL.take k) wr)) (fun i _ => 28 - (intOf i).toNat)
  case atStart => exact ⟨0, rfl, Nat.zero_le _, HT, HJ0⟩
  case round =>
    obtain ⟨k, rfl, hk, HTk, HJk⟩ := hrel
    by_cases hlt : k < 28
    · obtain ⟨x, hx⟩ : ∃ x, hagL[k]? = some x := ⟨_, List.getElem?_eq_getElem (by rw [hagL_len]; omega)⟩
      have ix := IH.out k x hx
      have hkz : (k : Int) < 28 := by omega
      have HJ2 : J (hagL.take k) (wr.alloc (.cells #[.int .i64 (x.t : Int), .int .u32 (x.n : Int), .string (bstr x.s)] TRow)) := HJ.out (hagL.take k) wr _ none HJk.out ⟨rfl, rfl, rfl, by simp, fun g hg _ => Below.heap_alloc _ _ _ hg⟩ (fun r e => by cases e)
      have hlen : (hagL.take k).length < allL.length := by rw [List.length_take, hagL_len]; unfold allL; rw [List.length_append, hagL_len]; omega
      obtain ⟨fn, tmps, assign, body, hy, hR⟩ := HYY.out (hagL.take k) x _ HJ2 hlen
      have HE : Hid ((hagL.take k) ++ [x] = hagL.take (k + 1)) := by
        show _ = _
        rw [List.take_add_one, hx]; rfl
      rw [HE.out] at hR
      have HT2 : Hid ((wr.alloc (.cells #[.int .i64 (x.t : Int), .int .u32 (x.n : Int), .string (bstr x.s)] TRow)).heap[1]? = some (.cells CT tt frt)) := (Below.heap_alloc _ _ _ ((Array.getElem?_eq_some_iff.1 HTk.out).1)).trans HTk.out
      clear hx hlen HJ2
      gi_wp2
      refine hR.mono ?_
      rintro e W3 (⟨rfl, hJ3, hk3⟩ | ⟨rfl, hJx3⟩)
      · have HB3 : Hid (W3.heap[1]? = some (.cells CT tt frt)) := hk3.trans HT2.out
        have HJ3 : Hid _ := hJ3
        clear hJ3 hk3
        gi_wp2
        go_roundw
        case rel => exact ⟨k + 1, by go_num, by omega, HB3, HJ3⟩
        case measure => simp [intOf]; omega
      · have HX3 : Hid _ := hJx3
        clear hJx3
        gi_wp2
        refine bodyPost_ret (results_none rfl _ _ _) rfl ?_
        exact ⟨⟨_, rfl⟩, .inr ⟨_, ⟨hagL.drop (k + 1) ++ traL, by unfold allL; rw [← List.append_assoc, List.take_append_drop]⟩, HX3.out⟩⟩
    · obtain rfl : k = 28 := by omega
      have HE : Hid (hagL.take 28 = hagL) := rfl
      have HJh : Hid (J hagL wr) := by have := HJk.out; rw [HE.out] at this; exact this
      clear HJk HE
      gi_wp2_with (refine wpListIn_load_row rfl 180 _ rfl 1 rfl tt CT frt _ HTk.out Tryz.underlying180 rfl ZT.out ?_)
      gi_loopw [16] (fun i wr => ∃ (k : Nat), i = .int .i64 k ∧ k ≤ 27 ∧ Hid (wr.heap[1]? = some (.cells CT tt frt)) ∧ Hid (J (hagL ++ traL.take k) wr)) (fun i _ => 27 - (intOf i).toNat)
      case atStart => exact ⟨0, rfl, Nat.zero_le _, HTk, by simpa using HJh⟩
      case round =>
        clear HTk HJh
        obtain ⟨k, rfl, hk, HTk, HJk⟩ := hrel
        by_cases hlt : k < 27
        · obtain ⟨x, hx⟩ : ∃ x, traL[k]? = some x := ⟨_, List.getElem?_eq_getElem (by rw [traL_len]; omega)⟩
          have ix := IT.out k x hx
          have hkz : (k : Int) < 27 := by omega
          have HJ2 : J (hagL ++ traL.take k) (wr.alloc (.cells #[.int .i64 (x.t : Int), .int .u32 (x.n : Int), .string (bstr x.s)] TRow)) := HJ.out (hagL ++ traL.take k) wr _ none HJk.out ⟨rfl, rfl, rfl, by simp, fun g hg _ => Below.heap_alloc _ _ _ hg⟩ (fun r e => by cases e)
          have hlen : (hagL ++ traL.take k).length < allL.length := by unfold allL; rw [List.length_append, List.length_append, List.length_take, traL_len]; omega
          obtain ⟨fn, tmps, assign, body, hy, hR⟩ := HYY.out (hagL ++ traL.take k) x _ HJ2 hlen
          have HE : Hid ((hagL ++ traL.take k) ++ [x] = hagL ++ traL.take (k + 1)) := by
            show _ = _
            rw [List.append_assoc, List.take_add_one, hx]; rfl
          rw [HE.out] at hR
          have HT2 : Hid ((wr.alloc (.cells #[.int .i64 (x.t : Int), .int .u32 (x.n : Int), .string (bstr x.s)] TRow)).heap[1]? = some (.cells CT tt frt)) := (Below.heap_alloc _ _ _ ((Array.getElem?_eq_some_iff.1 HTk.out).1)).trans HTk.out
          clear hx hlen HJ2
          gi_wp2
          refine hR.mono ?_
          rintro e W3 (⟨rfl, hJ3, hk3⟩ | ⟨rfl, hJx3⟩)
          · have HB3 : Hid (W3.heap[1]? = some (.cells CT tt frt)) := hk3.trans HT2.out
            have HJ3 : Hid _ := hJ3
            clear hJ3 hk3
            gi_wp2
            go_roundw
            case rel => exact ⟨k + 1, by go_num, by omega, HB3, HJ3⟩
            case measure => simp [intOf]; omega
          · have HX3 : Hid _ := hJx3
            clear hJx3
            gi_wp2
            refine bodyPost_ret (results_none rfl _ _ _) rfl ?_
            exact ⟨⟨_, rfl⟩, .inr ⟨_, ⟨traL.drop (k + 1), by unfold allL; rw [List.append_assoc, List.take_append_drop]⟩, HX3.out⟩⟩
        · obtain rfl : k = 27 := by omega
          have HE : Hid (hagL ++ traL.take 27 = allL) := rfl
          have HJh : Hid (J allL wr) := by have := HJk.out; rw [HE.out] at this; exact this
          clear HJk HE
          gi_wp2
          go_end0
          exact ⟨⟨_, rfl⟩, .inl ⟨_, rfl, HJh.out⟩⟩
end Go.Proofs.YtfifaaopdhcaaaaGreatDoor

namespace Go.Proofs.YtfifaaopdhcaaaaGreatDoor
open Go.RowKit Go.Maps Go.Shelf
attribute [local go_sem] Oper.semAt_some
set_option linter.unusedVariables false
set_option linter.unusedSimpArgs false
set_option maxRecDepth 100000

theorem results_cell1 {fn : Func} {p : Tmp} {tp : TypeId} (h : fn.results = #[.cell p tp]) (tmps : Array Value) (P : Program) (w : World) :
    (results fn tmps).run P w = ((asAddr (tmps.getD p undef)).run P w).andThen fun a w₁ => (loadVar tp a).run P w₁ := by
  simp only [results, h]
  simp [Sem.run_bind, Result.andThen]
theorem results_cell2 {fn : Func} {p q : Tmp} {tp tq : TypeId} (h : fn.results = #[.cell p tp, .cell q tq]) (tmps : Array Value) (P : Program) (w : World) :
    (results fn tmps).run P w = ((asAddr (tmps.getD p undef)).run P w).andThen fun a w₁ => ((loadVar tp a).run P w₁).andThen fun v w₂ => ((asAddr (tmps.getD q undef)).run P w₂).andThen fun b w₃ => ((loadVar tq b).run P w₃).andThen fun u w₄ => .ok (.tuple #[v, u]) w₄ := by
  simp only [results, h]
  simp [Sem.run_bind, Result.andThen]
theorem load_str {w : World} {a : Addr} {x : ByteArray} (h : w.cell? a = some (.string x)) : (loadVar 9 a).run Tryz.prog w = .ok (.string x) w := by
  simp [loadVar, go_sem, h]
theorem load_u32 {w : World} {a : Addr} {x : Int} (h : w.cell? a = some (.int .u32 x)) : (loadVar 26 a).run Tryz.prog w = .ok (.int .u32 x) w := by
  simp [loadVar, go_sem, h]
theorem load_bool {w : World} {a : Addr} {x : Bool} (h : w.cell? a = some (.bool x)) : (loadVar 4 a).run Tryz.prog w = .ok (.bool x) w := by
  simp [loadVar, go_sem, h]
theorem bytes_ne {p q : ByteArray} (h : p ≠ q) : (p.toList == q.toList) = false := by
  cases hb : (p.toList == q.toList)
  · rfl
  · exfalso
    apply h
    have e : p.data.toList = q.data.toList := by rw [← ByteArray.toList_eq, ← ByteArray.toList_eq]; simpa using hb
    cases p; cases q
    simp only at e
    rw [Array.toList_inj] at e
    rw [e]
theorem asAddr_some {P : Program} (a : Addr) (w : World) : (asAddr (.pointer (some a))).run P w = .ok a w := rfl
/-- a box of cells stays -/
theorem cells_own {B b : Nat} {cs : Array Value} {t : TypeId} {fr : Nat × Nat} : OwnFrom B (fun (_ : Unit) W => W.heap[b]? = some (.cells cs t fr)) := fun s A A' row h hg hr => by
  have hlt := (Array.getElem?_eq_some_iff.1 h).1
  refine (hg.block b hlt ?_).trans h
  intro e
  obtain ⟨_, o, ho, hc⟩ := hr b e.symm
  rw [h] at ho
  cases ho
  simp [Obj.isCells] at hc
theorem kpT_b {w : World} (hT : 1 < w.heap.size) (W : World) (l : Nat) (o o' : Obj) (hl : w.heap.size ≤ l) (_ : W.heap[l]? = some o) (_ : o.isCells = false) (_ : o.isWalk = false) : KpT W (W.putObj l o') := World.putObj_heap_other (by omega)
/-- which row a name or a number is asked of -/
def hitN (T : Int) (n : Nat) (x : Rw) : Bool := decide ((x.t : Int) = T) && decide (x.n = n)
def hitS (T : Int) (s : ByteArray) (x : Rw) : Bool := decide ((x.t : Int) = T) && decide (bstr x.s = s)
def nameOf (T : Int) (n : Nat) : ByteArray := match allL.find? (hitN T n) with | some x => bstr x.s | none => ⟨#[]⟩
def numOf (T : Int) (s : ByteArray) : Nat × Bool := match allL.find? (hitS T s) with | some x => (x.n, true) | none => (0, false)
theorem find_at {α : Type} (p : α → Bool) : ∀ (pre : List α) (x : α) (rest : List α), (∀ y ∈ pre, p y = false) → p x = true → (pre ++ [x] ++ rest).find? p = some x
  | [], x, rest, _, h => by simp [h]
  | y :: pre, x, rest, h, hx => by
    have h1 := h y (.head _)
    have := find_at p pre x rest (fun z hz => h z (.tail _ hz)) hx
    simp only [List.cons_append, List.find?_cons, h1]
    exact this
theorem find_none {α : Type} (p : α → Bool) (l : List α) (h : ∀ y ∈ l, p y = false) : l.find? p = none := List.find?_eq_none.2 fun y hy => by rw [h y hy]; simp
theorem load_one {w : World} {a : Addr} {x : ByteArray} (h : w.cell? a = some (.string x)) :
    (((asAddr (.pointer (some a))).run Tryz.prog w).andThen fun a w₁ => (loadVar 9 a).run Tryz.prog w₁) = Result.ok (.string x) w := by
  rw [asAddr_some]
  simp only [Result.andThen]
  exact load_str h
theorem load_two {w : World} {a b : Addr} {x : Int} {y : Bool} (h : w.cell? a = some (.int .u32 x)) (h' : w.cell? b = some (.bool y)) :
    (((asAddr (.pointer (some a))).run Tryz.prog w).andThen fun a w₁ => ((loadVar 26 a).run Tryz.prog w₁).andThen fun v w₂ => ((asAddr (.pointer (some b))).run Tryz.prog w₂).andThen fun b w₃ => ((loadVar 4 b).run Tryz.prog w₃).andThen fun u w₄ => Result.ok (Value.tuple #[v, u]) w₄) = Result.ok (Value.tuple #[.int .u32 x, .bool y]) w := by
  rw [asAddr_some]
  simp only [Result.andThen]
  rw [load_u32 h]
  simp only
  rw [asAddr_some]
  simp only
  rw [load_bool h']
theorem put_boxed {W : World} {b : Nat} {t : TypeId} {v : Value} (h : Boxed W b t v) (u : Value) : (W.setCell ⟨b, 0, none⟩ u).heap[b]? = some (.cells #[u] t (0, 0)) := by
  have := heap_setCell_same W b 0 #[v] t u h
  simpa using this
theorem below_setN {w W : World} {b j : Nat} {v : Value} (h : Below w.heap.size w W) (hb : w.heap.size ≤ b) : Below w.heap.size w (W.setCell ⟨b, j, none⟩ v) :=
  h.trans ⟨rfl, rfl, rfl, by simp [World.setCell], fun g hg => Below.heap_setCell _ _ _ _ (by show g ≠ b; omega)⟩
theorem cell_of_block {w w' : World} {b j : Nat} (h : w'.heap[b]? = w.heap[b]?) : w'.cell? ⟨b, j, none⟩ = w.cell? ⟨b, j, none⟩ := World.cell?_of_block (w := w) (a := ⟨b, j, none⟩) h
set_option maxHeartbeats 8000000 in
theorem wname_any (T : Int) (n : Nat) (w : World) (hT : Tb w) :
    Calls Tryz.prog 61 #[.int .i64 T, .int .u32 (n : Int)] w fun e w' => e = .returned (.string (nameOf T n)) ∧ Below w.heap.size w w' := by
  refine (callsIn_wide (n := 4)).1 ?_
  have f0 : Fence.wide.fn 61 := trivial
  have f2 : Fence.wide.fn 89 := trivial
  obtain ⟨W0, hW0⟩ : ∃ W0, W0 = (((w.alloc (.cells #[.int .i64 T] 3)).alloc (.cells #[.int .u32 (n : Int)] 26)).alloc (.cells #[.string ⟨#[]⟩] 9)) := ⟨_, rfl⟩
  have hB0 : Below w.heap.size w W0 := by rw [hW0]; exact (((Below.refl _ w).alloc (Nat.le_refl _) _).alloc (by simp) _).alloc (by simp; omega) _
  have hs0 : W0.heap.size = w.heap.size + 3 := by rw [hW0]; simp
  have x0 : Boxed W0 (w.heap.size) 3 (.int .i64 T) := by
    have h := Boxed.new w 3 (.int .i64 T)
    rw [hW0]; exact ((h).alloc _).alloc _
  have x1 : Boxed W0 (w.heap.size + 1) 26 (.int .u32 (n : Int)) := by
    have h := Boxed.new (w.alloc (.cells #[.int .i64 T] 3)) 26 (.int .u32 (n : Int))
    rw [World.size_alloc] at h
    rw [hW0]; exact (h).alloc _
  have x2 : Boxed W0 (w.heap.size + 1 + 1) 9 (.string ⟨#[]⟩) := by
    have h := Boxed.new ((w.alloc (.cells #[.int .i64 T] 3)).alloc (.cells #[.int .u32 (n : Int)] 26)) 9 (.string ⟨#[]⟩)
    rw [World.size_alloc, World.size_alloc] at h
    rw [hW0]; exact h
  have hseq := rows_seq 3 (by omega) (hT.later hB0)
  have hT1 : 1 < W0.heap.size := (hT.later hB0).lt1
  have HX : Hid (∀ W, Below W0.heap.size W0 W → Boxed W (w.heap.size) 3 (.int .i64 T) ∧ Boxed W (w.heap.size + 1) 26 (.int .u32 (n : Int)) ∧ Boxed W (w.heap.size + 1 + 1) 9 (.string ⟨#[]⟩) ∧ Below w.heap.size w W) := fun W hb => ⟨(hb.block _ (by omega)).trans x0, (hb.block _ (by omega)).trans x1, (hb.block _ (by omega)).trans x2, hB0.trans (hb.mono hB0.size)⟩
  clear x0 x1 x2 hT hB0
  refine callsIn_of_wp_marks Tryz.func61 rfl f0 ?_ rfl
  simp only [Tryz.ntmps61, List.size_toArray, List.length_cons, List.length_nil, Nat.reduceAdd, Nat.reduceSub, Array.replicate_succ, Array.replicate_zero, List.push_toArray, List.append_toArray, List.nil_append, List.cons_append]
  gi_wp2
  rw [← hW0]
  clear hW0
  refine wpIn_rangeFunc_ownH rfl (by omega) (gf := 89) (lb := #[]) rfl f2 (enters_of Tryz.func89 (by kernel_rfl) rfl)
    hseq kpT_t (kpT_b (w := W0) hT1) (Below.refl _ _) (fun _ => rfl)
    (fun pre W => Below W0.heap.size W0 W ∧ ∀ x ∈ pre, hitN T n x = false)
    (fun c pre' W => c = .ret ∧ ∃ pre x, pre' = pre ++ [x] ∧ (∀ y ∈ pre, hitN T n y = false) ∧ hitN T n x = true ∧ W.heap[w.heap.size + 1 + 1]? = some (.cells #[.string (bstr x.s)] 9 (0, 0)) ∧ Below w.heap.size w W)
    (OwnFrom.and (ownFrom_below (Nat.le_refl _) (Nat.le_refl _)) (fun _ _ _ _ h _ _ => h))
    (fun c s X Y row hs hg hr => by
      obtain ⟨e1, pre, x, e2, e3, e4, g0, e7⟩ := hs
      exact ⟨e1, pre, x, e2, e3, e4, cells_own () X Y row g0 hg hr, ownFrom_below (β := Unit) (Nat.le_refl _) (by omega) () X Y row e7 hg hr⟩)
    ⟨Below.refl _ _, fun x hx => by cases hx⟩
    (fun x a' W => ∃ b, a' = { tmps := #[.int .i64 T, .int .u32 (n : Int), .pointer (some ⟨w.heap.size, 0, none⟩), .pointer (some ⟨w.heap.size + 1, 0, none⟩), .pointer (some ⟨w.heap.size + 1 + 1, 0, none⟩), .pointer (some ⟨b, 0, none⟩), x.val, undef, undef, undef, undef, undef, undef, undef, undef, undef, undef, undef, undef], defers := [] } ∧ W0.heap.size ≤ b ∧ W.heap[b]? = some (.cells #[.int .i64 (x.t : Int), .int .u32 (x.n : Int), .string (bstr x.s)] TRow (0, 0)))
    (fun x a' s X Y row hs hg hrow => by
      obtain ⟨b, h1, h2, h3⟩ := hs
      exact ⟨b, h1, h2, cells_own () X Y row h3 hg hrow⟩)
    ?assign ?body ?done ?stop
  case assign =>
    rintro l pre x W K ⟨hB, hpre⟩ hK
    have hb2 : Below W0.heap.size W0 (W.alloc (.cells #[.int .i64 (x.t : Int), .int .u32 (x.n : Int), .string (bstr x.s)] TRow)) := hB.alloc hB.size _
    have hlt : 1 < W.heap.size := Nat.lt_of_lt_of_le hT1 hB.size
    have hsz := hB.size
    have HK2 := hK { tmps := #[.int .i64 T, .int .u32 (n : Int), .pointer (some ⟨w.heap.size, 0, none⟩), .pointer (some ⟨w.heap.size + 1, 0, none⟩), .pointer (some ⟨w.heap.size + 1 + 1, 0, none⟩), .pointer (some ⟨W.heap.size, 0, none⟩), x.val, undef, undef, undef, undef, undef, undef, undef, undef, undef, undef, undef, undef], defers := [] } (W.alloc (.cells #[.int .i64 (x.t : Int), .int .u32 (x.n : Int), .string (bstr x.s)] TRow)) ⟨by simp, fun k o hk h _ => (Below.heap_alloc _ _ _ (Array.getElem?_eq_some_iff.1 h).1).trans h⟩ (Below.heap_alloc _ _ _ hlt) ⟨hb2, hpre⟩ ⟨W.heap.size, rfl, hsz, heap_new W _⟩
    have HK3 : Hid _ := HK2
    clear hK HK2 hb2 hB hpre HX hseq
    gi_wp2
    exact HK3.out
  case body =>
    rintro l pre x a' W hl ⟨r, hr⟩ ⟨hB, hpre⟩ ⟨b, rfl, hbw, hbx⟩ hlt
    obtain ⟨y0, y1, y2, hbe⟩ := HX.out W hB
    have d0 := y0.cell
    have d1 := y1.cell
    have z0 := blk_at hbx 0
    have z1 := blk_at hbx 1
    have z2 := blk_at hbx 2
    simp at z0 z1 z2
    have HY : Hid (Boxed W (w.heap.size + 1 + 1) 9 (.string ⟨#[]⟩) ∧ Below w.heap.size w W) := ⟨y2, hbe⟩
    have HPR : Hid (∀ y ∈ pre, hitN T n y = false) := hpre
    have HBW : Hid (Below W0.heap.size W0 W) := hB
    clear y0 y1 y2 hbe hpre hB HX hseq hbx
    by_cases h1 : (x.t : Int) = T
    · by_cases h2 : x.n = n
      · have e2 : (x.n : Int) = (n : Int) := by omega
        have HH : Hid (hitN T n x = true) := by show _ = _; simp [hitN, h1, h2]
        have q2 := HY.out.1
        have k2 := q2.cell
        have g2 := q2.frozen
        gi_wp2
        refine ⟨(KeepsOthers.setCell _ _ _).from _, rfl, pre, x, rfl, HPR.out, HH.out, put_boxed q2 _, below_setN HY.out.2 (by omega)⟩
      · have e2 : ¬ ((x.n : Int) = (n : Int)) := by omega
        have e3 : ((x.n : Int) == (n : Int)) = false := by simp; omega
        have HH : Hid (hitN T n x = false) := by show _ = _; simp [hitN, h2]
        gi_wp2
        exact ⟨KeepsFrom.refl _ _, rfl, HBW.out, fun y hy => by
          rcases List.mem_append.1 hy with hy | hy
          · exact HPR.out y hy
          · simp at hy; subst hy; exact HH.out⟩
    · have e1 : ((x.t : Int) == T) = false := by simpa using h1
      have HH : Hid (hitN T n x = false) := by show _ = _; simp [hitN, h1]
      gi_wp2
      exact ⟨KeepsFrom.refl _ _, rfl, HBW.out, fun y hy => by
        rcases List.mem_append.1 hy with hy | hy
        · exact HPR.out y hy
        · simp at hy; subst hy; exact HH.out⟩
  case done =>
    rintro D ys W hD rfl ⟨hB, hno⟩ hK
    obtain ⟨y0, y1, y2, hbe⟩ := HX.out W hB
    have k2 := y2.cell
    have g2 := y2.frozen
    have hne : D ≠ w.heap.size + 1 + 1 := by omega
    have r2 : ((W.setCell ⟨w.heap.size + 1 + 1, 0, none⟩ (.string ⟨#[]⟩)).putObj D (.deferred none)).cell? ⟨w.heap.size + 1 + 1, 0, none⟩ = some (.string ⟨#[]⟩) := by rw [cell_of_block (World.putObj_heap_other (Ne.symm hne))]; exact blk_at (put_boxed y2 _) 0
    have hK2 : (W.setCell ⟨w.heap.size + 1 + 1, 0, none⟩ (.string ⟨#[]⟩)).heap[D]? = some (.deferred (some [])) := (Below.heap_setCell _ _ _ _ hne).trans hK
    have HF : Hid (Below w.heap.size w (W.setCell ⟨w.heap.size + 1 + 1, 0, none⟩ (.string ⟨#[]⟩))) := below_setN hbe (by omega)
    have HNo : Hid (nameOf T n = ⟨#[]⟩) := by show _ = _; unfold nameOf; rw [find_none (hitN T n) allL hno]
    clear y0 y1 y2 hbe hB hno HX hseq
    gi_wp2
    refine ⟨by simp, .inl ⟨_, _, rfl, run_takeDeferred hK2, ?_⟩⟩
    refine ⟨_, by rw [results_cell1 (p := 4) (tp := 9) rfl]; exact load_one r2, by rw [HNo.out], HF.out.trans (belowK_b (w := w) (Nat.le_refl _) _ D _ _ (by omega) hK2 rfl rfl)⟩
  case stop =>
    rintro D c pre' W hD ⟨rest, hrest⟩ ⟨rfl, pre, x, rfl, h1, h2, g0, hbe⟩ hK
    have hne : D ≠ w.heap.size + 1 + 1 := by omega
    have r2 : (W.putObj D (.deferred none)).cell? ⟨w.heap.size + 1 + 1, 0, none⟩ = some (.string (bstr x.s)) := by rw [cell_of_block (World.putObj_heap_other (Ne.symm hne))]; exact blk_at g0 0
    have HNo : Hid (nameOf T n = bstr x.s) := by show _ = _; unfold nameOf; rw [hrest, find_at (hitN T n) pre x rest h1 h2]
    have HF : Hid (Below w.heap.size w W) := hbe
    clear hbe g0 h1 h2 hrest HX hseq
    gi_wp2
    refine ⟨by simp, .inl ⟨_, _, rfl, run_takeDeferred hK, ?_⟩⟩
    refine ⟨_, by rw [results_cell1 (p := 4) (tp := 9) rfl]; exact load_one r2, by rw [HNo.out], HF.out.trans (belowK_b (w := w) (Nat.le_refl _) _ D _ _ (by omega) hK rfl rfl)⟩
end Go.Proofs.YtfifaaopdhcaaaaGreatDoor

namespace Go.Proofs.YtfifaaopdhcaaaaGreatDoor
open Go.ChangeShapes Go.WideShapes Go.ChangeAt Go.RowKit Go.Lib
set_option linter.unusedVariables false
set_option linter.unusedSimpArgs false
set_option maxRecDepth 100000

theorem own : ownKnob Tryz.prog.godebug = none := by kernel_rfl
theorem laidOut : laidOutB Tryz.prog = true := by kernel_rfl
theorem bytes5 : Tryz.prog.bytesOf 5 = 1 := by kernel_rfl
abbrev theLaid := Rows.wireUnpacksRow.laid
def Rw.datum (x : Rw) : DataW Unit := .agg [.lit (.int .i64 (x.t : Int)), .lit (.int .u32 (x.n : Int)), .lit (.string (x.s.map UInt8.ofNat))]
theorem hag_eq : (Rows.laid_spindle_wire_haggled : DataW Unit) = .agg (hagL.map Rw.datum) := by kernel_rfl
theorem tra_eq : (Rows.laid_spindle_wire_transmitted : DataW Unit) = .agg (traL.map Rw.datum) := by kernel_rfl
theorem cells_row : Tryz.prog.cellsOf TRow = 3 := by kernel_rfl
theorem cells_i : Tryz.prog.cellsOf 3 = 1 := by kernel_rfl
theorem cells_u : Tryz.prog.cellsOf 26 = 1 := by kernel_rfl
theorem cells_s : Tryz.prog.cellsOf 9 = 1 := by kernel_rfl
theorem take1 {cs : List Value} {j : Nat} {v : Value} (h : (cs.drop j).take 1 = [v]) : cs[j]? = some v := by
  have := congrArg (·[0]?) h
  simpa [List.getElem?_take, List.getElem?_drop] using this
/-- what a row of a table reads as is what lies there -/
theorem row_cells {enc : TypeId × Value → Unit} {w : World} {base : Nat} {sp : Nat → Bool} {held : Bool} {fuel : Nat} {cs : List Value} {x : Rw} {p : List MemPlace}
    (h : DataW.trod enc Tryz.prog w base sp held fuel TRow cs = some (x.datum, p)) : cs = x.cells := by
  obtain ⟨xs, n, rfl, hx, hl, hxl, hall⟩ := DataW.trod_struct Tryz.underlying168 h
  rw [cells_row] at hl
  have h0 := hall 0 _ rfl
  have h1 := hall 1 _ rfl
  have h2 := hall 2 _ rfl
  obtain ⟨y0, hy0⟩ : ∃ y, xs[0]? = some y := ⟨_, List.getElem?_eq_getElem (by rw [hxl]; decide)⟩
  obtain ⟨y1, hy1⟩ : ∃ y, xs[1]? = some y := ⟨_, List.getElem?_eq_getElem (by rw [hxl]; decide)⟩
  obtain ⟨y2, hy2⟩ : ∃ y, xs[2]? = some y := ⟨_, List.getElem?_eq_getElem (by rw [hxl]; decide)⟩
  simp only [cells_i, cells_u, cells_s, hy0, hy1, hy2] at h0 h1 h2
  obtain ⟨a, e0, rfl, _⟩ := DataW.trod_int Tryz.underlying3 h0
  obtain ⟨b, e1, rfl, _⟩ := DataW.trod_int Tryz.underlying26 h1
  obtain ⟨s, e2, rfl, _⟩ := DataW.trod_string Tryz.underlying9 h2
  have hd : xs.map (·.1) = [.lit (.int .i64 (x.t : Int)), .lit (.int .u32 (x.n : Int)), .lit (.string (x.s.map UInt8.ofNat))] := by
    have := congrArg Prod.fst hx
    simp only [Rw.datum, DataW.agg.injEq] at this
    exact this.symm
  have d0 := congrArg (·[0]?) hd
  have d1 := congrArg (·[1]?) hd
  have d2 := congrArg (·[2]?) hd
  simp [hy0] at d0
  simp [hy1] at d1
  simp [hy2] at d2
  subst d0 d1
  have hs : s = bstr x.s := by
    apply ByteArray.ext
    show s.data = (x.s.map UInt8.ofNat).toArray
    rw [← d2]
  subst hs
  have c0 := take1 e0
  have c1 := take1 e1
  have c2 := take1 e2
  apply List.ext_getElem?
  intro i
  match i with
  | 0 => exact c0
  | 1 => exact c1
  | 2 => exact c2
  | i + 3 => rw [List.getElem?_eq_none (by omega)]; rfl
theorem flat_of : ∀ (l : List Rw) (cs : List Value), cs.length = 3 * l.length → (∀ i x, l[i]? = some x → (cs.drop (i * 3)).take 3 = x.cells) → cs = flat l
  | [], cs, h, _ => List.eq_nil_of_length_eq_zero (by simpa using h)
  | y :: l, cs, h, hc => by
    have h0 := hc 0 y rfl
    have ih := flat_of l (cs.drop 3) (by rw [List.length_drop, h, List.length_cons]; omega) (fun i x hx => by
      have := hc (i + 1) x (by simpa using hx)
      rw [List.drop_drop]
      rwa [show (i + 1) * 3 = 3 + i * 3 by omega] at this)
    rw [Nat.zero_mul, List.drop_zero] at h0
    rw [← List.take_append_drop 3 cs, h0, ih]; rfl
theorem arr_cells {enc : TypeId × Value → Unit} {w : World} {base : Nat} {sp : Nat → Bool} {held : Bool} {fuel : Nat} {t : TypeId} {m : Nat} {cs : List Value} {l : List Rw} {p : List MemPlace} (ht : Tryz.prog.underlying t = some (.array m TRow)) (hct : Tryz.prog.cellsOf t = m * 3) (hm : l.length = m)
    (h : DataW.trod enc Tryz.prog w base sp held fuel t cs = some (.agg (l.map Rw.datum), p)) : cs = flat l := by
  have hlen : cs.length = m * 3 := by
    cases fuel with
    | zero => simp [DataW.trod] at h
    | succ fuel =>
      have h' := h
      simp only [DataW.trod, ht, hct] at h'
      split at h'
      · rename_i hl
        first | exact hl | exact hl.1 | omega | simpa using hl
      · cases h'
  refine flat_of l cs (by rw [hlen, hm]; omega) (fun i x hx => ?_)
  obtain ⟨fuel', d, q, hd, he⟩ := array_elem ht h i (by rw [← hm]; exact (List.getElem?_eq_some_iff.1 hx).1)
  rw [List.getElem?_map, hx] at hd
  simp only [Option.map_some, Option.some.injEq] at hd
  subst hd
  rw [cells_row] at he
  exact row_cells he
theorem block_of {W : World} {name : String} {g : Nat} {cs : Array Value} (hg : Tryz.prog.globalNamed name = some g) (h : W.var? Tryz.prog name = some cs) : ∃ t fr, W.heap[g]? = some (.cells cs t fr) := by
  simp only [World.var?, hg, Option.bind_some] at h
  split at h
  · rename_i t fr hh
    cases h
    exact ⟨_, _, hh⟩
  · cases h
theorem tb_of {W : World} (hL : laidMetH Tryz.prog theLaid W) : Tb W := by
  have h1 := Lib.laidMet.reads hL (.tail _ (.head _))
  have h2 := Lib.laidMet.reads hL (.tail _ (.tail _ (.head _)))
  rw [hag_eq] at h1
  rw [tra_eq] at h2
  obtain ⟨g, t, cs, fuel, p, hg, hty, hvar, hd⟩ := h1
  obtain ⟨g', t', cs', fuel', p', hg', hty', hvar', hd'⟩ := h2
  obtain rfl : g = 0 := Option.some.inj (hg.symm.trans (by kernel_rfl))
  obtain rfl : g' = 1 := Option.some.inj (hg'.symm.trans (by kernel_rfl))
  obtain rfl : t = 179 := Option.some.inj (hty.symm.trans (by kernel_rfl))
  obtain rfl : t' = 180 := Option.some.inj (hty'.symm.trans (by kernel_rfl))
  have e1 := arr_cells Tryz.underlying179 (by kernel_rfl) (l := hagL) rfl hd
  have e2 := arr_cells Tryz.underlying180 (by kernel_rfl) (l := traL) rfl hd'
  have e1' : cs = (flat hagL).toArray := by apply Array.toList_inj.1; rw [e1]
  have e2' : cs' = (flat traL).toArray := by apply Array.toList_inj.1; rw [e2]
  subst e1' e2'
  exact ⟨block_of hg hvar, block_of hg' hvar'⟩

theorem accept_eq : (Rows.laid_unicode_utf8_acceptRanges : DataW Unit) = Lib.acceptData := by kernel_rfl
theorem first_eq : Rows.laid_unicode_utf8_first = Lib.firstData := Pinned.utf8First_eq
theorem tabs_of {W : World} (hL : laidMetH Tryz.prog theLaid W) : Tabs W := by
  have h1 := Lib.laidMet.reads hL (.head _)
  have h2 := Lib.laidMet.reads hL (.tail _ (.tail _ (.tail _ (.head _))))
  rw [accept_eq] at h1
  rw [first_eq] at h2
  exact utf8Tabs_of_readsT (U8Types.of196 Tryz.laysValid) ⟨by kernel_rfl, by kernel_rfl, by kernel_rfl, by kernel_rfl, by kernel_rfl, by kernel_rfl, by kernel_rfl⟩ h2 h1
/-- the world with the four tables laid -/
def putTabs (w0 : World) : World :=
  let put (h : Array Obj) (g : Nat) (cs : Array Value) : Array Obj := h.modify g fun
    | .cells _ t frozen => .cells cs t frozen
    | o => o
  let h1 := put w0.heap 0 (flat hagL).toArray
  let h2 := put h1 1 (flat traL).toArray
  let h3 := put h2 2 (Lib.firstTab.map fun z => Value.int .u8 z).toArray
  let h4 := put h3 3 ((List.range 16).flatMap fun i => [Value.int .u8 (Lib.accLo i), Value.int .u8 (Lib.accHi i)]).toArray
  { w0 with heap := h4 }
theorem laid_met (os : Os) (args : Array Value) : laidMet Tryz.prog theLaid ((putTabs (World.holding Tryz.prog os ⟨#[], #[], []⟩)).forCall (fun _ _ => 0) ⟨#[], args, []⟩).memory :=
  (LaidIn.of_run (l := theLaid) [3, 0, 1, 2] 8 (by kernel_rfl) (by kernel_rfl) (by kernel_rfl) (by kernel_rfl)).met
end Go.Proofs.YtfifaaopdhcaaaaGreatDoor

namespace Go.Proofs.YtfifaaopdhcaaaaGreatDoor
open _root_.Go.Proofs.YtfifaaopdhcaaaaGreatDoor.Rows (uptoBulk uptoBulkAll uptoSmall)

theorem bulk_pos {H : Type} (d : DataW H) : 0 < uptoBulk d := by
  rcases d with l | _ | _ | _ | _ | _ | _ | _
  · cases l <;> simp [uptoBulk]
  all_goals simp [uptoBulk]
theorem bulkAll_append {H : Type} : ∀ l r : List (DataW H), uptoBulkAll (l ++ r) = uptoBulkAll l + uptoBulkAll r
  | [], r => by simp [uptoBulkAll]
  | d :: l, r => by simp only [List.cons_append, uptoBulkAll]; rw [bulkAll_append l r]; omega
theorem bulk_le_all {H : Type} {d : DataW H} {l : List (DataW H)} (h : d ∈ l) : uptoBulk d ≤ uptoBulkAll l := by
  obtain ⟨a, b, rfl⟩ := List.append_of_mem h
  rw [bulkAll_append]; simp only [uptoBulkAll]; omega
theorem length_le_bulk {H : Type} : ∀ l : List (DataW H), l.length ≤ uptoBulkAll l
  | [] => Nat.zero_le _
  | d :: l => by have := length_le_bulk l; have := bulk_pos d; simp only [uptoBulkAll, List.length_cons]; omega
theorem bulk_slice {H : Type} (es sp : List (DataW H)) : uptoBulk (.slice es sp) = uptoBulkAll es + uptoBulkAll sp + 1 := by simp [uptoBulk]
theorem bulk_bound {H : Type} {l : List (DataW H)} (h : uptoSmall H l = true) : uptoBulkAll l ≤ 1048576 := of_decide_eq_true h
end Go.Proofs.YtfifaaopdhcaaaaGreatDoor

namespace Go.Proofs.YtfifaaopdhcaaaaGreatDoor
open Go.ChangeShapes Go.WideShapes Go.ChangeAt Go.RowKit Go.Lib
open Go.Deep
set_option linter.unusedVariables false
set_option linter.unusedSimpArgs false
set_option maxRecDepth 100000

theorem brow_ints (W : World) (x : Addr) (len cap : Nat) (zs : List Int) (hl : len ≤ zs.length) (hlen : len ≤ 140737488351232)
    (hcell : ∀ i, i < zs.length → W.cell? (x.add i) = some (.int .u8 (zs.getD i 0))) (hw : ∀ n ∈ zs, (Lit.int .u8 n).wf = true) :
    ∃ l : List Nat, l.length = len ∧ BRow W (some x) cap l := by
  have hb : ∀ i (hi : i < zs.length), 0 ≤ zs[i] ∧ zs[i] ≤ 255 := fun i hi => by
    have := bounds_u8 (hw _ (List.getElem_mem hi)); omega
  refine ⟨(zs.take len).map Int.toNat, by simp; omega, ⟨?_, by simp; omega, fun h => by simp at h, ?_⟩⟩
  · intro y hy
    obtain ⟨z, hz, rfl⟩ := List.mem_map.1 hy
    have hz' := List.mem_of_mem_take hz
    have := bounds_u8 (hw z hz'); omega
  · intro hne
    have hpos : 0 < len := by
      rcases Nat.eq_zero_or_pos len with h | h
      · subst h; simp at hne
      · exact h
    obtain ⟨b, off, rfl, hc⟩ := ints_at hcell (by omega)
    refine ⟨b, off, rfl, fun k hk => ?_⟩
    have hk' : k < len := by simp at hk; omega
    have h1 := hcell k (by omega)
    rw [add_plain] at h1
    rw [h1]
    have h2 := hb k (by omega)
    simp [bv, show k < zs.length by omega]
    omega

/-- a []byte that was read, in a slot or in a cell: its bytes -/
theorem open_bytes {H : Type} {enc : TypeId × Value → H} {W : World} {base fuel : Nat} {cs : List Value} {d : DataW H} {p : List MemPlace} (hf : DataW.trod enc Tryz.prog W base (fun _ => true) true fuel 22 cs = some (d, p)) (hb : Rows.uptoBulk d ≤ 1048576) :
    ∃ (ao : Option Addr) (cap : Nat) (l : List Nat), cs = [.slice ao l.length cap] ∧ BRow W ao cap l ∧ l.length + 1 ≤ Rows.uptoBulk d := by
  rcases open_ints Tryz.underlying22 Tryz.underlying5 (by kernel_rfl) hf with ⟨hcs, hx⟩ | ⟨x, l, c, zs, hcs, _, hl, hm, hz, hx, hcell, hwz⟩
  · have hd : d = .nil := (Prod.mk.inj hx).1
    exact ⟨none, 0, [], hcs, ⟨by simp, by simp, fun _ => ⟨rfl, rfl⟩, fun h => absurd rfl h⟩, by rw [hd]; simp [Rows.uptoBulk]⟩
  · have hd : d = .slice (lits .u8 (zs.take l)) (lits .u8 (zs.drop l)) := (Prod.mk.inj hx).1
    have hz' : zs.length = c := by simpa using hz
    have hsl := bulk_slice (lits (H := H) .u8 (zs.take l)) (lits .u8 (zs.drop l))
    have hs1 := length_le_bulk (lits (H := H) .u8 (zs.take l))
    have hs2 := length_le_bulk (lits (H := H) .u8 (zs.drop l))
    rw [← hd] at hsl
    simp only [lits, List.length_map, List.length_take, List.length_drop] at hsl hs1 hs2
    obtain ⟨m, hm1, hm2⟩ := brow_ints W x l c zs (by omega) (by omega) hcell hwz
    subst hm1
    exact ⟨some x, c, m, hcs, hm2, by omega⟩

end Go.Proofs.YtfifaaopdhcaaaaGreatDoor
