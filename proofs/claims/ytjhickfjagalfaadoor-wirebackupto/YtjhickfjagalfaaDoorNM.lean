import Derived.Test.YtjhickfjagalfaaDoorJEc
import Derived.Test.YtjhickfjagalfaaDoorJI
namespace Go.Proofs.YtjhickfjagalfaaDoor
open Go.RowKit
set_option linter.unusedVariables false
set_option linter.unusedSimpArgs false
set_option maxRecDepth 100000
/-- what DecodeOption answers to a message that was laid down, with m behind it -/
def DOpt (c : Nat) (lg : Bool) (most k k2 N E : Nat) (d d2 m : List Nat) : Prop := ∀ (b off cap n : Nat) (w : World), CRow w (some ⟨b, off, none⟩) cap (oL c d ++ m) → (oL c d ++ m).length = n → Calls Tryd.prog 42 #[.slice (some ⟨b, off, none⟩) n cap, .int .u32 (most : Int)] w fun e w' => ∃ ao2 cap2, e = .returned (.tuple #[.agg #[.int .u32 (c : Int), .int .u32 (k : Int), .bool lg, .slice ao2 k2 cap2], .int .i64 (N : Int), .int .i64 (E : Int)]) ∧ BRow w' ao2 cap2 d2 ∧ Below w.heap.size w w'
/-- what DecodeReply answers to a message that was laid down, with m behind it -/
def DRep (o e0 : Nat) (lg : Bool) (most k k2 N E : Nat) (d d2 m : List Nat) : Prop := ∀ (b off cap n : Nat) (w : World), CRow w (some ⟨b, off, none⟩) cap (rL o e0 d ++ m) → (rL o e0 d ++ m).length = n → Calls Tryd.prog 45 #[.slice (some ⟨b, off, none⟩) n cap, .int .u32 (most : Int)] w fun e w' => ∃ ao2 cap2, e = .returned (.tuple #[.agg #[.int .u32 (o : Int), .int .u32 (e0 : Int), .slice ao2 k2 cap2], .int .i64 (N : Int), .int .i64 (E : Int)]) ∧ BRow w' ao2 cap2 d2 ∧ Below w.heap.size w w'
/-- what DecodeRequest answers to a message that was laid down, with m behind it -/
def DReq (f t c o : Nat) (ext : Bool) (lg : Bool) (most k k2 N E : Nat) (d d2 m : List Nat) : Prop := ∀ (b off cap n : Nat) (w : World), CRow w (some ⟨b, off, none⟩) cap (qL f t c o k d ext ++ m) → (qL f t c o k d ext ++ m).length = n → Calls Tryd.prog 48 #[.slice (some ⟨b, off, none⟩) n cap, .int .u32 (most : Int), .bool ext] w fun e w' => ∃ ao2 cap2, e = .returned (.tuple #[.agg #[.int .u16 (f : Int), .int .u16 (t : Int), .int .u64 (c : Int), .int .u64 (o : Int), .int .u64 (k : Int), .slice ao2 k2 cap2], .int .i64 (N : Int), .int .i64 (E : Int)]) ∧ BRow w' ao2 cap2 d2 ∧ Below w.heap.size w w'
/-- what DecodeChunk answers to a message that was laid down, with m behind it -/
def DChk (f t c o : Nat) (ext : Bool) (lg : Bool) (most k k2 N E : Nat) (d d2 m : List Nat) : Prop := ∀ (b off cap n : Nat) (w : World), CRow w (some ⟨b, off, none⟩) cap (kC f t c o d ext ++ m) → (kC f t c o d ext ++ m).length = n → Calls Tryd.prog 51 #[.slice (some ⟨b, off, none⟩) n cap, .int .u32 (most : Int), .bool ext] w fun e w' => ∃ ao2 cap2, e = .returned (.tuple #[.agg #[.int .u16 (f : Int), .int .u16 (t : Int), .int .u64 (c : Int), .int .u64 (o : Int), .slice ao2 k2 cap2], .int .i64 (N : Int), .int .i64 (E : Int)]) ∧ BRow w' ao2 cap2 d2 ∧ Below w.heap.size w w'
theorem val_of {l pre tl : List Nat} (x k a : Nat) (h : l = pre ++ (bigTo x k k ++ tl)) (ha : pre.length = a) (hx : x < 256 ^ k) : valB ((l.drop a).take k) = x := by
  rw [h, ← ha, List.drop_left, List.take_append_of_le_length (by rw [bigTo_length]; omega), List.take_of_length_le (by rw [bigTo_length]; omega), valB_big x k hx]
theorem tail_of {l pre d m : List Nat} {k : Nat} (a : Nat) (h : l = pre ++ (d ++ m)) (ha : pre.length = a) (hk : d.length = k) : (l.drop a).take k = d := by
  rw [h, ← ha, List.drop_left, ← hk, List.take_append_of_le_length (Nat.le_refl _), List.take_of_length_le (Nat.le_refl _)]
theorem own_brow {W : World} {B k : Nat} {ao : Option Addr} {cap : Nat} {l : List Nat} (h : W.ownsRow B 5 1 (.slice ao k cap) k (l.map bv)) (hlt : ∀ x ∈ l, x < 256) (hl : l.length = k) (hn : k ≤ 1048576) : BRow W ao cap l := by
  subst hl
  obtain ⟨ao', cap', hv, hb⟩ := BRow.own h hlt (by omega)
  simp only [Value.slice.injEq] at hv
  obtain ⟨rfl, _, rfl⟩ := hv
  exact hb
theorem row_nil_brow {w w' : World} {ao : Option Addr} {cap : Nat} (h : Row w w' ao cap []) : BRow w' ao cap [] := h.brow (by simp)
end Go.Proofs.YtjhickfjagalfaaDoor
