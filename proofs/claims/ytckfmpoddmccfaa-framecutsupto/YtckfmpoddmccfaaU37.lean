import Derived.Test.YtckfmpoddmccfaaU23
import Derived.Test.YtckfmpoddmccfaaU31
import Derived.Test.YtckfmpoddmccfaaU35
import Derived.Test.YtckfmpoddmccfaaU36
import Derived.Test.YtckfmpoddmccfaaU25
namespace Go.Proofs.Ytckfmpoddmccfaa
open Go.RowKit
set_option linter.unusedVariables false
set_option linter.unusedSimpArgs false
set_option maxRecDepth 100000
theorem vlb {l : List Nat} (h : ∀ x ∈ l, x < 256) (a k : Nat) : vl l a k < 256 ^ k := valB_bound l a k h
theorem cutOf_cases {X : Type} (z : X) (ov : Nat) (l : List Nat) (D : X × Nat × Nat) : ((cutOf z ov l D).1 = z ∨ (cutOf z ov l D).1 = D.1) ∧ (cutOf z ov l D).2.1 ≤ 3 := by
  unfold cutOf
  by_cases h0 : 0 < ov
  · rw [if_pos h0]; simp
  rw [if_neg h0]
  by_cases h1 : D.2.2 = 0
  · rw [if_pos h1]; simp
  rw [if_neg h1]
  by_cases h2 : D.2.2 = 10
  · rw [if_pos h2]; simp
  rw [if_neg h2]
  by_cases h3 : D.2.2 = 12
  · rw [if_pos h3]; simp
  rw [if_neg h3]; simp
/-- what the law's cuts answers and leaves -/
def CgP (w : World) (B b : Nat) (v : Value) (rm : Nat) (x : (Nat × Nat × Nat × Nat × Nat × Nat × Nat × Nat × Nat × List Nat) × Nat × List Nat) (e : Ending) (w' : World) : Prop :=
  ∃ (cu n0 n1 n2 n3 n4 n5 n6 n7 : Nat) (d : List Nat) (ov' : Nat) (l' : List Nat) (v' : Value) (ao2 : Option Addr) (cap2 : Nat), e = .returned (.agg #[.int .i64 (cu : Int), .int .u64 (n0 : Int), .int .u64 (n1 : Int), .int .u64 (n2 : Int), .int .u64 (n3 : Int), .int .u64 (n4 : Int), .int .u64 (n5 : Int), .int .u64 (n6 : Int), .int .u64 (n7 : Int), .slice ao2 d.length cap2]) ∧ x = ((cu, n0, n1, n2, n3, n4, n5, n6, n7, d), ov', l') ∧ Inb w' B b v' rm ov' l' ∧ IAct w w' b v v' ∧ w'.ownsRow w.heap.size 5 1 (.slice ao2 d.length cap2) d.length (d.map bv) ∧ ∀ g, (Value.slice ao2 d.length cap2).ownBlock = some g → v'.ownBlock ≠ some g
theorem greD_b {l : List Nat} (h : ∀ x ∈ l, x < 256) : (greD l).1 < 65536 := by
  have q0 : vl l 16 2 < 65536 := by have := vlb h 16 2; simpa using this
  unfold greD
  split
  · simp [*]
  split
  · simp [*]
  split
  · simp [*]
  simp [*]
theorem flaD_b {l : List Nat} (h : ∀ x ∈ l, x < 256) : (flaD l).1 < 4294967296 := by
  have q0 : vl l 0 4 < 4294967296 := by have := vlb h 0 4; simpa using this
  unfold flaD
  split
  · simp [*]
  simp [*]
theorem expD_b {z : Bool} {l : List Nat} (h : ∀ x ∈ l, x < 256) : (expD z l).1.2 < 65536 := by
  have q0 : vl l 8 2 < 65536 := by have := vlb h 8 2; simpa using this
  unfold expD
  split
  · simp [*]
  split
  · simp [*]
  simp [*]
theorem repD_b {most : Nat} {l : List Nat} (h : ∀ x ∈ l, x < 256) : (repD most l).1.1 < 4294967296 ∧ (repD most l).1.2.1 < 4294967296 := by
  have q0 : vl l 8 4 < 4294967296 := by have := vlb h 8 4; simpa using this
  have q1 : vl l 12 4 < 4294967296 := by have := vlb h 12 4; simpa using this
  unfold repD
  split
  · simp [*]
  split
  · simp [*]
  split
  · simp [*]
  split
  · simp [*]
  simp [*]
theorem reqD_b {most : Nat} {ext : Bool} {l : List Nat} (h : ∀ x ∈ l, x < 256) : (reqD most ext l).1.1 < 65536 ∧ (reqD most ext l).1.2.1 < 65536 := by
  have q0 : vl l 4 2 < 65536 := by have := vlb h 4 2; simpa using this
  have q1 : vl l 6 2 < 65536 := by have := vlb h 6 2; simpa using this
  unfold reqD
  split
  · simp [*]
  split
  · simp [*]
  split
  · simp [*]
  split
  · simp [*]
  split
  · simp [*]
  simp [*]
theorem chkD_b {most : Nat} {ext : Bool} {l : List Nat} (h : ∀ x ∈ l, x < 256) : (chkD most ext l).1.1 < 65536 ∧ (chkD most ext l).1.2.1 < 65536 := by
  have q0 : vl l 4 2 < 65536 := by have := vlb h 4 2; simpa using this
  have q1 : vl l 6 2 < 65536 := by have := vlb h 6 2; simpa using this
  unfold chkD
  split
  · simp [*]
  split
  · simp [*]
  split
  · simp [*]
  split
  · simp [*]
  simp [*]
theorem simD_b {l : List Nat} (h : ∀ x ∈ l, x < 256) : (simD l).1.1 < 4294967296 := by
  have q0 : vl l 4 4 < 4294967296 := by have := vlb h 4 4; simpa using this
  unfold simD
  split
  · simp [*]
  split
  · simp [*]
  simp [*]
theorem optD_b {most : Nat} {l : List Nat} (h : ∀ x ∈ l, x < 256) : (optD most l).1.1 < 4294967296 := by
  have q0 : vl l 8 4 < 4294967296 := by have := vlb h 8 4; simpa using this
  unfold optD
  split
  · simp [*]
  split
  · simp [*]
  split
  · simp [*]
  split
  · simp [*]
  simp [*]
theorem ansD_b {most : Nat} {ext : Bool} {l : List Nat} (h : ∀ x ∈ l, x < 256) : (ansD most ext l).1.2.1 < 4294967296 ∧ (ansD most ext l).1.2.2.2.1 < 65536 ∧ (ansD most ext l).1.2.2.2.2.1 < 65536 := by
  have q1 := chkD_b (most := most) (ext := ext) h
  have q2 := simD_b h
  unfold ansD
  split
  · simp
  split
  · exact ⟨by simp, q1.1, q1.2⟩
  split
  · exact ⟨q2, by simp, by simp⟩
  simp
end Go.Proofs.Ytckfmpoddmccfaa
