import Derived.Test.YtpkobgnbjmefnabDoorUnqM
import Derived.Test.YtpkobgnbjmefnabDoorQuoteB
import Derived.Test.YtpkobgnbjmefnabDoorNumF
namespace Go.Proofs.YtpkobgnbjmefnabDoor
open Go.RowKit
set_option linter.unusedVariables false
set_option maxRecDepth 100000

theorem fBL_lt (l : List Nat) (b k : Nat) (hl : ∀ c ∈ l, c < 256) (h : fBL l = some (b, k)) : b < 256 := by
  cases l with
  | nil => simp [fBL] at h
  | cons c t =>
    have hc' := hl c (by simp)
    by_cases hc : c = 92
    · subst hc
      cases t with
      | nil => simp [fBL] at h
      | cons d u =>
        have hd' := hl d (by simp)
        by_cases h1 : d = 110
        · simp [fBL, h1] at h; omega
        by_cases h2 : d = 34 ∨ d = 92
        · simp [fBL, h1, h2] at h; omega
        by_cases h3 : d = 120
        · subst h3
          cases u with
          | nil => simp [fBL] at h
          | cons a u =>
            cases u with
            | nil => simp [fBL] at h
            | cons b' u =>
              cases ha : hv a with
              | none => simp [fBL, ha] at h
              | some x =>
                cases hb : hv b' with
                | none => simp [fBL, ha, hb] at h
                | some y =>
                  have := hv_lt _ _ ha
                  have := hv_lt _ _ hb
                  simp [fBL, ha, hb] at h; omega
        · simp [fBL, h1, h2, h3] at h
    · simp [fBL, hc] at h; omega
theorem sbytes_drop (s : ByteArray) (k : Nat) (h : k ≤ s.size) : sbytes (s.extract k s.size) = (sbytes s).drop k := by
  unfold sbytes
  rw [← List.map_drop]
  congr 1
  rw [ByteArray.data_extract]
  simp
  exact List.take_of_length_le (by simp)
theorem uL_len (n : Nat) : ∀ (l m : List Nat), uL n l = some m → m.length ≤ l.length := by
  induction n with
  | zero =>
    intro l m h
    simp only [uL] at h
    split at h
    · cases h; simp
    · cases h
  | succ n ih =>
    intro l m h
    simp only [uL] at h
    split at h
    · cases h; simp
    · cases hf : fBL l with
      | none => rw [hf] at h; cases h
      | some x =>
        obtain ⟨b, k⟩ := x
        have hk := fBL_pos _ _ _ hf
        rw [hf] at h
        dsimp only at h
        cases hu : uL n (l.drop k) with
        | none => rw [hu] at h; cases h
        | some m' =>
          rw [hu] at h
          cases h
          have := ih _ _ hu
          rw [List.length_drop] at this
          simp only [List.length_cons]; omega
theorem unL_len (l m : List Nat) (h : unL l = some m) : m.length ≤ l.length := uL_len _ _ _ h

/-- a builder at block b -/
structure BQ (w wr : World) (b : Nat) (acc : List UInt8) : Prop where
  bld : Lib.IsBuilderF 75 5 w.heap.size b (Lib.byteCells acc) wr
  bel : Below w.heap.size w wr
theorem BQ.below {w wr w' : World} {b : Nat} {acc : List UInt8} (h : BQ w wr b acc) (hb : Below wr.heap.size wr w') : BQ w w' b acc := by
  refine ⟨?_, h.bel.trans (hb.mono h.bel.size)⟩
  have go : ∀ p, Lib.BuilderAtF 75 5 w.heap.size b p (Lib.byteCells acc) wr → Lib.BuilderAtF 75 5 w.heap.size b p (Lib.byteCells acc) w' := by
    rintro p ⟨hB, v, hbk, hown, hne⟩
    refine ⟨hB, v, by rw [hb.block b (block_lt hbk)]; exact hbk, ⟨hown.1, ?_⟩, hne⟩
    rcases hown.2 with hn | ⟨g, cap, cur, fz, hv, hbg, hg, rest⟩
    · exact .inl hn
    · exact .inr ⟨g, cap, cur, fz, hv, hbg, by rw [hb.block g (block_lt hg)]; exact hg, rest⟩
  exact h.bld.imp (go _) (go _)
theorem BQ.byte {w wr : World} {b : Nat} {acc : List UInt8} (h : BQ w wr b acc) (c : UInt8) (hl : acc.length ≤ 1000000000) :
    Calls Tryd.prog 29 #[.pointer (some ⟨b, 0, none⟩), .int .u8 (c.toNat : Int)] wr fun e w' => e = .returned .nilIface ∧ BQ w w' b (acc ++ [c]) :=
  (Tryd.Builder_WriteByte_k w.heap.size b (Lib.byteCells acc) c.toNat wr h.bld (by rw [bytes_len]; omega) h.bel.size).mono fun e w' hh => ⟨hh.1, .inr (by rw [bytes_app]; exact hh.2.1), h.bel.trans hh.2.2.1⟩
theorem BQ.text {w wr : World} {b : Nat} {acc : List UInt8} (h : BQ w wr b acc) :
    Calls Tryd.prog 34 #[.pointer (some ⟨b, 0, none⟩)] wr fun e w' => e = .returned (.string ⟨acc.toArray⟩) ∧ Below w.heap.size w w' :=
  (Tryd.Builder_String_any_k w.heap.size b acc wr h.bld h.bel.size).mono fun e w' hh => ⟨hh.1, h.bel.trans hh.2.2.1⟩
theorem bstr_nat (l : List UInt8) : bstr (l.map UInt8.toNat) = ⟨l.toArray⟩ := by
  have h := bstr_sbytes ⟨l.toArray⟩
  unfold sbytes at h
  simpa using h
theorem empty_of (s : ByteArray) (h : s.size = 0) : s = ⟨#[]⟩ := by
  cases s with
  | mk d => congr 1; exact Array.eq_empty_of_size_eq_zero h
def strLen : Value → Nat
  | .string t => t.size
  | _ => 0
def unE (r : Option (List Nat)) : Ending := match r with
  | some l => .returned (.tuple #[.string (bstr l), .bool true])
  | none => .returned (.tuple #[.string ⟨#[]⟩, .bool false])
def fbF (r : Option (Nat × Nat)) : Ending := match r with
  | some (b, k) => .returned (.tuple #[.int .u8 (b : Int), .int .i64 (k : Int), .bool true])
  | none => .returned (.tuple #[.int .u8 0, .int .i64 0, .bool false])
end Go.Proofs.YtpkobgnbjmefnabDoor
