import Derived.Test.YtjkoambfecmglaaRows
namespace Go.Proofs.Ytjkoambfecmglaa
open _root_.Go.Proofs.Ytjkoambfecmglaa.Rows (uptoBulk uptoBulkAll uptoSmall)

theorem bulk_pos {H : Type} (d : DataW H) : 0 < uptoBulk d := by
  rcases d with l | _ | _ | _ | _ | _ | _ | _
  · cases l <;> simp [uptoBulk]
  all_goals simp [uptoBulk]
theorem bulkAll_append {H : Type} : ∀ l r : List (DataW H), uptoBulkAll (l ++ r) = uptoBulkAll l + uptoBulkAll r
  | [], r => by simp [uptoBulkAll]
  | d :: l, r => by simp only [List.cons_append, uptoBulkAll]; rw [bulkAll_append l r]; omega
theorem bulk_le_all {H : Type} {d : DataW H} {l : List (DataW H)} (h : d ∈ l) : uptoBulk d ≤ uptoBulkAll l := by
  obtain ⟨a, b, rfl⟩ := List.append_of_mem h
  rw [bulkAll_append]; simp only [uptoBulkAll]; omega
theorem length_le_bulk {H : Type} : ∀ l : List (DataW H), l.length ≤ uptoBulkAll l
  | [] => Nat.zero_le _
  | d :: l => by have := length_le_bulk l; have := bulk_pos d; simp only [uptoBulkAll, List.length_cons]; omega
theorem bulk_slice {H : Type} (es sp : List (DataW H)) : uptoBulk (.slice es sp) = uptoBulkAll es + uptoBulkAll sp + 1 := by simp [uptoBulk]
theorem bulk_bound {H : Type} {l : List (DataW H)} (h : uptoSmall H l = true) : uptoBulkAll l ≤ 1048576 := of_decide_eq_true h
end Go.Proofs.Ytjkoambfecmglaa
