import Derived.Test.YtckfmpoddmccfaaV41
import Derived.Test.YtckfmpoddmccfaaV42
import Derived.Test.YtckfmpoddmccfaaV43
import Derived.Test.YtckfmpoddmccfaaV44
import Derived.Test.YtckfmpoddmccfaaV45
namespace Go.Proofs.Ytckfmpoddmccfaa
open Go.RowKit
set_option linter.unusedVariables false
set_option linter.unusedSimpArgs false
set_option maxRecDepth 100000
/-- what the law's cuts of a kind come to: its answer, how many bytes are to be passed over, what is held -/
def cgD (kd : Int) (m : Nat) (z x : Bool) (a : Int) (ov : Nat) (l : List Nat) : (Nat × Nat × Nat × Nat × Nat × Nat × Nat × Nat × Nat × List Nat) × Nat × List Nat :=
  if kd = 2 then cg2 m z x a ov l else if kd = 3 then cg3 m z x a ov l else if kd = 4 then cg4 m z x a ov l else if kd = 5 then cg5 m z x a ov l else if kd = 6 then cg6 m z x a ov l else if kd = 7 then cg7 m z x a ov l else if kd = 8 then cg8 m z x a ov l else if kd = 9 then cg9 m z x a ov l else ((0, 0, 0, 0, 0, 0, 0, 0, 0, []), ov, l)
theorem cutsI_any {w : World} {B b : Nat} {v : Value} {rm ov : Nat} {l : List Nat} (h : Inb w B b v rm ov l) (bo : Option Addr) (bn bc m : Nat) (z x : Bool) (a : Int) (kd : Int) (hm : m < 4294967296) :
    Calls Try.prog 14 #[.pointer (some ⟨b, 0, none⟩), .agg #[.int .i64 kd, .slice bo bn bc, .int .u32 (m : Int), .bool z, .bool x, .int .i64 a]] w fun e w' => CgP w B b v rm (cgD kd m z x a ov l) e w' := by
  unfold cgD
  by_cases q2 : kd = 2
  · rw [if_pos q2, q2]; exact cutsI_2 h bo bn bc m z x a hm
  rw [if_neg q2]
  by_cases q3 : kd = 3
  · rw [if_pos q3, q3]; exact cutsI_3 h bo bn bc m z x a hm
  rw [if_neg q3]
  by_cases q4 : kd = 4
  · rw [if_pos q4, q4]; exact cutsI_4 h bo bn bc m z x a hm
  rw [if_neg q4]
  by_cases q5 : kd = 5
  · rw [if_pos q5, q5]; exact cutsI_5 h bo bn bc m z x a hm
  rw [if_neg q5]
  by_cases q6 : kd = 6
  · rw [if_pos q6, q6]; exact cutsI_6 h bo bn bc m z x a hm
  rw [if_neg q6]
  by_cases q7 : kd = 7
  · rw [if_pos q7, q7]; exact cutsI_7 h bo bn bc m z x a hm
  rw [if_neg q7]
  by_cases q8 : kd = 8
  · rw [if_pos q8, q8]; exact cutsI_8 h bo bn bc m z x a hm
  rw [if_neg q8]
  by_cases q9 : kd = 9
  · rw [if_pos q9, q9]; exact cutsI_9 h bo bn bc m z x a hm
  rw [if_neg q9]
  exact cutsI_other h bo bn bc m z x a kd (by omega)
end Go.Proofs.Ytckfmpoddmccfaa
