import Derived.Test.YtpkobgnbjmefnabDoorRefRaw
import Derived.Test.YtpkobgnbjmefnabDoorRefT2
import Derived.Test.YtpkobgnbjmefnabDoorRefT3
import Derived.Test.YtpkobgnbjmefnabDoorReaderS
namespace Go.Proofs.YtpkobgnbjmefnabDoor
open Go.RowKit
set_option linter.unusedVariables false
set_option maxRecDepth 100000

theorem ROk.form {w : World} {B r : Nat} {ao : Option Addr} {cap : Nat} {l : List Nat} {a : Nat} (h : ROk w B r ao cap l a) : (ao = none ∧ cap = 0 ∧ l = []) ∨ ∃ g, ao = some ⟨g, 0, none⟩ := by
  rcases h.own.2 with ⟨hv, hn⟩ | ⟨g, c, cur, hv, _⟩
  · simp only [Value.slice.injEq] at hv
    exact .inl ⟨hv.1, hv.2.2, List.eq_nil_of_length_eq_zero hn⟩
  · simp only [Value.slice.injEq] at hv
    exact .inr ⟨g, hv.1⟩
theorem RPost.refl {w : World} {B r : Nat} {ao : Option Addr} {cap : Nat} {l : List Nat} {k : Nat} (h : ROk w B r ao cap l k) : RPost w w B r ao cap l k := ⟨h, KeptIn.refl _ _⟩
theorem PPost.refl {w : World} {B r : Nat} {ao : Option Addr} {cap : Nat} {l : List Nat} {k : Nat} (h : POk w B r ao cap l k) : PPost w w B r ao cap l k := ⟨h, KeptIn.refl _ _⟩

/-- what a number comes to -/
def numV (l : List Nat) (a k : Nat) : Nat := if l.length - a < k then 0 else valB ((l.drop a).take k)
def numE (l : List Nat) (a k : Nat) : Nat := if l.length - a < k then 10 else 0
def numA (l : List Nat) (a k : Nat) : Nat := if l.length - a < k then a else a + k
theorem numE_le (l : List Nat) (a k : Nat) : numE l a k ≤ 15 := by unfold numE; split <;> omega
theorem numV_lt (l : List Nat) (a k : Nat) (h : ∀ x ∈ l, x < 256) : numV l a k < 256 ^ k := by
  unfold numV; split
  · exact Nat.pow_pos (by decide)
  · exact valB_bound l a k h
theorem num_r {w w' : World} {B r : Nat} {ao : Option Addr} {cap : Nat} {l : List Nat} {a k : Nat} {t : IntKind} {e : Ending} (ha : a ≤ l.length)
    (h : (l.length - a < k ∧ e = .returned (.tuple #[.int t 0, .int .i64 10]) ∧ RPost w w' B r ao cap l a) ∨ (a + k ≤ l.length ∧ e = .returned (.tuple #[.int t (valB ((l.drop a).take k) : Nat), .int .i64 0]) ∧ RPost w w' B r ao cap l (a + k))) :
    e = .returned (.tuple #[.int t (numV l a k : Nat), .int .i64 (numE l a k : Nat)]) ∧ RPost w w' B r ao cap l (numA l a k) := by
  unfold numV numE numA
  rcases h with ⟨h1, h2, h3⟩ | ⟨h1, h2, h3⟩
  · rw [if_pos h1, if_pos h1, if_pos h1]; exact ⟨h2, h3⟩
  · have : ¬ l.length - a < k := by omega
    rw [if_neg this, if_neg this, if_neg this]; exact ⟨h2, h3⟩
theorem num_p {w w' : World} {B r : Nat} {ao : Option Addr} {cap : Nat} {l : List Nat} {a k : Nat} {t : IntKind} {e : Ending} (ha : a ≤ l.length)
    (h : (l.length - a < k ∧ e = .returned (.tuple #[.int t 0, .int .i64 10]) ∧ PPost w w' B r ao cap l a) ∨ (a + k ≤ l.length ∧ e = .returned (.tuple #[.int t (valB ((l.drop a).take k) : Nat), .int .i64 0]) ∧ PPost w w' B r ao cap l (a + k))) :
    e = .returned (.tuple #[.int t (numV l a k : Nat), .int .i64 (numE l a k : Nat)]) ∧ PPost w w' B r ao cap l (numA l a k) := by
  unfold numV numE numA
  rcases h with ⟨h1, h2, h3⟩ | ⟨h1, h2, h3⟩
  · rw [if_pos h1, if_pos h1, if_pos h1]; exact ⟨h2, h3⟩
  · have : ¬ l.length - a < k := by omega
    rw [if_neg this, if_neg this, if_neg this]; exact ⟨h2, h3⟩

/-- what Raw comes to -/
def rawM (l : List Nat) (a : Nat) (n : Int) : List Nat := if n < 0 then [] else if l.length < a + n.toNat then [] else (l.drop a).take n.toNat
def rawE (l : List Nat) (a : Nat) (n : Int) : Nat := if n < 0 then 2 else if l.length < a + n.toNat then 10 else 0
def rawA (l : List Nat) (a : Nat) (n : Int) : Nat := if n < 0 then a else if l.length < a + n.toNat then a else a + n.toNat
theorem raw_cases (l : List Nat) (a : Nat) (n : Int) : (n < 0 ∧ rawM l a n = [] ∧ rawE l a n = 2 ∧ rawA l a n = a) ∨ (∃ N : Nat, n = (N : Int) ∧ l.length < a + N ∧ rawM l a n = [] ∧ rawE l a n = 10 ∧ rawA l a n = a) ∨
    ∃ N : Nat, n = (N : Int) ∧ a + N ≤ l.length ∧ rawM l a n = (l.drop a).take N ∧ rawE l a n = 0 ∧ rawA l a n = a + N := by
  unfold rawM rawE rawA
  by_cases h0 : n < 0
  · simp [h0]
  · obtain ⟨N, rfl⟩ := Int.eq_ofNat_of_zero_le (by omega : 0 ≤ n)
    right
    by_cases h1 : l.length < a + N
    · exact .inl ⟨N, rfl, h1, by simp [h0, h1], by simp [h0, h1], by simp [h0, h1]⟩
    · exact .inr ⟨N, rfl, by omega, by simp [h0, h1], by simp [h0, h1], by simp [h0, h1]⟩
theorem rawE_le (l : List Nat) (a : Nat) (n : Int) : rawE l a n ≤ 15 := by unfold rawE; split; omega; split <;> omega
theorem rawM_len (l : List Nat) (a : Nat) (n : Int) : (rawM l a n).length ≤ l.length := by
  rcases raw_cases l a n with ⟨_, h, _⟩ | ⟨N, _, _, h, _⟩ | ⟨N, _, hN, h, _⟩
  · rw [h]; simp
  · rw [h]; simp
  · rw [h, List.length_take, List.length_drop]; omega
theorem rawM_lt (l : List Nat) (a : Nat) (n : Int) (hl : ∀ x ∈ l, x < 256) : ∀ x ∈ rawM l a n, x < 256 := by
  rcases raw_cases l a n with ⟨_, h, _⟩ | ⟨N, _, _, h, _⟩ | ⟨N, _, hN, h, _⟩
  · rw [h]; simp
  · rw [h]; simp
  · rw [h]; exact fun x hx => hl x (List.mem_of_mem_drop (List.mem_of_mem_take hx))
theorem rraw_any (B r : Nat) (ao : Option Addr) (cap : Nat) (l : List Nat) (at_ : Nat) (n : Int) (w : World) (h : ROk w B r ao cap l at_) :
    Calls Tryd.prog 58 #[.pointer (some ⟨r, 0, none⟩), .int .i64 n] w fun e w' => ∃ ao' cap', e = .returned (.tuple #[.slice ao' (rawM l at_ n).length cap', .int .i64 (rawE l at_ n : Nat)]) ∧ w'.ownsRow w.heap.size 5 1 (.slice ao' (rawM l at_ n).length cap') (rawM l at_ n).length ((rawM l at_ n).map bv) ∧ RPost w w' B r ao cap l (rawA l at_ n) := by
  rcases raw_cases l at_ n with ⟨hn, e1, e2, e3⟩ | ⟨N, rfl, hsh, e1, e2, e3⟩ | ⟨N, rfl, hN, e1, e2, e3⟩
  · rw [e1, e2, e3]
    refine (rraw_neg r n w h.c0 hn).mono fun e w' hh => ⟨none, 0, hh.1, World.ownsRow_nil _ _ _ _, ?_⟩
    rw [hh.2]; exact RPost.refl h
  · rw [e1, e2, e3]
    refine (rraw_short B r ao cap l at_ _ N w h rfl hsh).mono fun e w' hh => ⟨none, 0, hh.1, World.ownsRow_nil _ _ _ _, ?_⟩
    obtain ⟨q, hq⟩ := hh.2
    rw [hq]; exact RPost.same h q
  · rw [e1, e2, e3]
    have hml : ((l.drop at_).take N).length = N := by rw [List.length_take, List.length_drop]; omega
    rcases h.form with ⟨rfl, rfl, rfl⟩ | ⟨g, rfl⟩
    · have hle := h.le
      simp at hle hN
      obtain ⟨rfl, rfl⟩ : at_ = 0 ∧ N = 0 := by omega
      exact rraw_nil B r w h
    · rw [hml]
      exact rraw_ok B r g cap l at_ _ N w h rfl hN
theorem praw_any (B r : Nat) (ao : Option Addr) (cap : Nat) (l : List Nat) (at_ : Nat) (n : Int) (w : World) (h : POk w B r ao cap l at_) (hn63 : n ≤ 9223372036854775807) :
    Calls Tryd.prog 59 #[.pointer (some ⟨r, 0, none⟩), .int .i64 n] w fun e w' => ∃ ao' cap', e = .returned (.tuple #[.slice ao' (rawM l at_ n).length cap', .int .i64 (rawE l at_ n : Nat)]) ∧ w'.ownsRow w.heap.size 5 1 (.slice ao' (rawM l at_ n).length cap') (rawM l at_ n).length ((rawM l at_ n).map bv) ∧ PPost w w' B r ao cap l (rawA l at_ n) := by
  rcases raw_cases l at_ n with ⟨hn, e1, e2, e3⟩ | ⟨N, rfl, hsh, e1, e2, e3⟩ | ⟨N, rfl, hN, e1, e2, e3⟩
  · rw [e1, e2, e3]
    refine (praw_neg r n w hn).mono fun e w' hh => ⟨none, 0, hh.1, World.ownsRow_nil _ _ _ _, ?_⟩
    rw [hh.2]; exact PPost.refl h
  · rw [e1, e2, e3]
    refine (praw_short B r ao cap l at_ _ N w h rfl (by omega) hsh).mono fun e w' hh => ⟨none, 0, hh.1, World.ownsRow_nil _ _ _ _, ?_⟩
    obtain ⟨q, hq⟩ := hh.2
    rw [hq]; exact h.same q
  · rw [e1, e2, e3]
    have hml : ((l.drop at_).take N).length = N := by rw [List.length_take, List.length_drop]; omega
    rcases h.form with ⟨rfl, rfl, rfl⟩ | ⟨g, rfl⟩
    · have hle := h.le
      simp at hle hN
      obtain ⟨rfl, rfl⟩ : at_ = 0 ∧ N = 0 := by omega
      exact praw_nil B r w h
    · rw [hml]
      exact praw_ok B r g cap l at_ _ N w h rfl hN

/-- what Text comes to -/
def txtV (l : List Nat) (a : Nat) : Nat := valB ((l.drop a).take 4)
def txtS (l : List Nat) (a : Nat) : ByteArray := bstr ((l.drop (a + 4)).take (txtV l a))
def txt (l : List Nat) (a : Nat) (most : Int) : ByteArray × Nat × Nat :=
  if l.length - a < 4 then (⟨#[]⟩, 10, a) else if most < 0 then (⟨#[]⟩, 12, a) else if most < (txtV l a : Int) then (⟨#[]⟩, 12, a) else if l.length < a + 4 + txtV l a then (⟨#[]⟩, 10, a)
  else if plainB (txtS l a).data.toList = true then (txtS l a, 0, a + 4 + txtV l a) else (⟨#[]⟩, 13, a)
theorem txt_le (l : List Nat) (a : Nat) (most : Int) : (txt l a most).2.1 ≤ 15 := by
  unfold txt
  repeat' split
  all_goals simp
theorem rtext_any (B r : Nat) (ao : Option Addr) (cap : Nat) (l : List Nat) (at_ : Nat) (most : Int) (w : World) (h : ROk w B r ao cap l at_) (hT : Tabs w) (hB : B ≤ w.heap.size) (hm63 : most ≤ 9223372036854775807) :
    Calls Tryd.prog 61 #[.pointer (some ⟨r, 0, none⟩), .int .i64 most] w fun e w' => e = .returned (.tuple #[.string (txt l at_ most).1, .int .i64 ((txt l at_ most).2.1 : Nat)]) ∧ RPost w w' B r ao cap l (txt l at_ most).2.2 := by
  unfold txt
  by_cases h4 : l.length - at_ < 4
  · rw [if_pos h4]; exact rtext_none B r ao cap l at_ _ most w h rfl h4 hB
  rw [if_neg h4]
  obtain ⟨g, rfl⟩ : ∃ g, ao = some ⟨g, 0, none⟩ := by
    rcases h.form with ⟨rfl, rfl, rfl⟩ | hg
    · simp at h4
    · exact hg
  by_cases hm : most < 0
  · rw [if_pos hm]; exact rtext_negm B r g cap l at_ _ _ most w h rfl rfl (by omega) hB hm
  rw [if_neg hm]
  obtain ⟨m, rfl⟩ := Int.eq_ofNat_of_zero_le (by omega : 0 ≤ most)
  by_cases hb : ((m : Nat) : Int) < (txtV l at_ : Int)
  · rw [if_pos hb]; exact rtext_big B r g cap l at_ _ (txtV l at_) m w h rfl rfl (by omega) hB (by omega) (by omega)
  rw [if_neg hb]
  by_cases hp : l.length < at_ + 4 + txtV l at_
  · rw [if_pos hp]; exact rtext_past B r g cap l at_ _ (txtV l at_) m w h rfl rfl (by omega) hB (by omega) (by omega) hp
  rw [if_neg hp]
  by_cases hq : plainB (txtS l at_).data.toList = true
  · rw [if_pos hq]; exact rtext_ok B r g cap l at_ _ (txtV l at_) m w h hT rfl rfl (by omega) (by omega) (by omega) (by omega) hB hq
  · rw [if_neg hq]; exact rtext_bad B r g cap l at_ _ (txtV l at_) m w h rfl rfl (by omega) hB hT (by omega) (by omega) (by omega) (by show plainB (txtS l at_).data.toList = false; simpa using hq)
theorem ptext_any (B r : Nat) (ao : Option Addr) (cap : Nat) (l : List Nat) (at_ : Nat) (most : Int) (w : World) (h : POk w B r ao cap l at_) (hm63 : most ≤ 9223372036854775807) :
    Calls Tryd.prog 62 #[.pointer (some ⟨r, 0, none⟩), .int .i64 most] w fun e w' => e = .returned (.tuple #[.string (txt l at_ most).1, .int .i64 ((txt l at_ most).2.1 : Nat)]) ∧ PPost w w' B r ao cap l (txt l at_ most).2.2 := by
  have hpost : ∀ {e : Ending} {w' : World} {s : ByteArray} {c : Int}, (e = .returned (.tuple #[.string s, .int .i64 c]) ∧ ∃ q, w' = w.drewN q) → e = .returned (.tuple #[.string s, .int .i64 c]) ∧ PPost w w' B r ao cap l at_ := by
    rintro e w' s c ⟨he, q, rfl⟩; exact ⟨he, h.same q⟩
  unfold txt
  by_cases h4 : l.length - at_ < 4
  · rw [if_pos h4]; exact (ptext_none B r ao cap l at_ _ most w h rfl h4).mono fun e w' hh => hpost hh
  rw [if_neg h4]
  obtain ⟨g, rfl⟩ : ∃ g, ao = some ⟨g, 0, none⟩ := by
    rcases h.form with ⟨rfl, rfl, rfl⟩ | hg
    · simp at h4
    · exact hg
  have hv32 : txtV l at_ < 4294967296 := valB_bound l at_ 4 h.lt
  by_cases hm : most < 0
  · rw [if_pos hm]; exact (ptext_negm B r g cap l at_ _ _ most w h rfl rfl (by omega) hm).mono fun e w' hh => hpost hh
  rw [if_neg hm]
  obtain ⟨m, rfl⟩ := Int.eq_ofNat_of_zero_le (by omega : 0 ≤ most)
  by_cases hb : ((m : Nat) : Int) < (txtV l at_ : Int)
  · rw [if_pos hb]; exact (ptext_big B r g cap l at_ _ (txtV l at_) m w h rfl rfl (by omega) hv32 (by omega) (by omega)).mono fun e w' hh => hpost hh
  rw [if_neg hb]
  by_cases hp : l.length < at_ + 4 + txtV l at_
  · rw [if_pos hp]; exact (ptext_past B r g cap l at_ _ (txtV l at_) m w h rfl rfl (by omega) hv32 (by omega) (by omega) hp).mono fun e w' hh => hpost hh
  rw [if_neg hp]
  refine (ptext_end B r g cap l at_ _ (txtV l at_) m w h rfl rfl (by omega) hv32 (by omega) (by omega) (by omega) _ rfl).mono fun e w' hh => ?_
  rcases hh with ⟨h1, h2, h3⟩ | ⟨h1, h2, h3⟩
  · rw [if_neg (show ¬ plainB (txtS l at_).data.toList = true from fun e => by rw [show plainB (txtS l at_).data.toList = false from h1] at e; cases e)]; exact ⟨h2, h3⟩
  · rw [if_pos (show plainB (txtS l at_).data.toList = true from h1)]; exact ⟨h2, h3⟩
/-- what End comes to -/
def endE (l : List Nat) (a : Nat) : Nat := if a < l.length then 11 else 0
theorem rendA_any (B r : Nat) (ao : Option Addr) (cap : Nat) (l : List Nat) (at_ : Nat) (w : World) (h : ROk w B r ao cap l at_) :
    Calls Tryd.prog 65 #[.pointer (some ⟨r, 0, none⟩)] w fun e w' => e = .returned (.int .i64 (endE l at_ : Nat)) ∧ ∃ q, w' = w.drewN q := by
  unfold endE
  by_cases ha : at_ < l.length
  · rw [if_pos ha]; exact rend_tail B r ao cap l at_ _ w h rfl ha
  · rw [if_neg ha]
    have := h.le
    obtain rfl : at_ = l.length := by omega
    exact rend_any B r ao cap l w h
theorem pendA_any (B r : Nat) (ao : Option Addr) (cap : Nat) (l : List Nat) (at_ : Nat) (w : World) (h : POk w B r ao cap l at_) :
    Calls Tryd.prog 66 #[.pointer (some ⟨r, 0, none⟩)] w fun e w' => e = .returned (.int .i64 (endE l at_ : Nat)) ∧ ∃ q, w' = w.drewN q := by
  have := pend_any B r ao cap l at_ _ w h rfl
  unfold endE
  by_cases ha : at_ < l.length
  · rw [if_pos ha] at this ⊢; exact this
  · rw [if_neg ha] at this ⊢; exact this
theorem endE_le (l : List Nat) (a : Nat) : endE l a ≤ 15 := by unfold endE; split <;> omega
end Go.Proofs.YtpkobgnbjmefnabDoor
