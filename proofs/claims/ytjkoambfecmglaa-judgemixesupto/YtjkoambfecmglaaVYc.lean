import Derived.Test.YtjkoambfecmglaaVG
import Derived.Laws.BytesArg

namespace Go.Proofs.Ytjkoambfecmglaa
open Go.RowKit
set_option linter.unusedVariables false
set_option linter.unusedSimpArgs false
set_option maxRecDepth 100000
def bstr (l : List Nat) : ByteArray := strOfNums (l.map fun x : Nat => (x : Int))
theorem str_beq (a b : ByteArray) : (a.toList == b.toList) = decide (a = b) := by
  by_cases h : a = b
  · subst h; simp
  · rw [decide_eq_false h, beq_eq_false_iff_ne]
    intro e
    rw [ByteArray.toList_eq, ByteArray.toList_eq] at e
    obtain ⟨⟨x⟩⟩ := a
    obtain ⟨⟨y⟩⟩ := b
    simp at e
    exact h (by rw [e])
/-- an array of names, as a value -/
structure Nms (A : Array Value) (nm : Nat → ByteArray) : Prop where
  size : A.size = 256
  get : ∀ j, j < 256 → A[j]? = some (.string (nm j))
theorem bstr_inj {l m : List Nat} (hl : ∀ x ∈ l, x < 256) (hm : ∀ x ∈ m, x < 256) (h : bstr l = bstr m) : l = m := by
  have h1 : (bstr l).data.toList = (bstr m).data.toList := by rw [h]
  unfold bstr at h1
  rw [strOfNums_data, strOfNums_data, List.map_map, List.map_map] at h1
  have h2 : (l.map fun x => UInt8.ofNat x) = m.map fun x => UInt8.ofNat x := by simpa [Function.comp_def] using h1
  have h3 : l.length = m.length := by simpa using congrArg List.length h2
  apply List.ext_getElem h3
  intro i h4 h5
  have h6 := congrArg (fun z => z[i]?) h2
  simp only [List.getElem?_map, List.getElem?_eq_getElem h4, List.getElem?_eq_getElem h5, Option.map_some, Option.some.injEq] at h6
  have h7 := congrArg UInt8.toNat h6
  rw [UInt8.toNat_ofNat', UInt8.toNat_ofNat', Nat.mod_eq_of_lt (hl _ (List.getElem_mem h4)), Nat.mod_eq_of_lt (hm _ (List.getElem_mem h5))] at h7
  exact h7
theorem conv_row {W : World} {ao : Option Addr} {cap n : Nat} {l : List Nat} (h : BRow W ao cap l) (hn : l.length = n) : (convert 22 9 (.slice ao n cap)).run Try.prog W = .ok (.string (bstr l)) W := by
  subst hn
  cases ao with
  | none =>
    have e := (h.nil rfl).1
    subst e
    have := run_convert_bytes_nil (P := Try.prog) W 22 5 Try.underlying22 Try.underlying5 0 cap 9 Try.underlying9
    rw [show bstr [] = ByteArray.empty from rfl]
    exact this
  | some ad =>
    by_cases hl : l = []
    · subst hl
      rw [run_convert_bytes_string W 22 9 5 _ _ _ Try.underlying22 Try.underlying5 Try.underlying9]
      have := run_bytesToString (P := Try.prog) W ad ([] : List Nat).length cap [] (by
        have := run_loadCells_list (P := Try.prog) W ad [] (fun j v hj => by simp at hj)
        simpa using this)
      rw [this]
      rw [show bstr [] = ByteArray.empty from rfl]
      rfl
    · obtain ⟨b, off, e, hc⟩ := h.at_ hl
      cases e
      exact run_convert_bytes_arg W 22 5 Try.underlying22 Try.underlying5 b off l.length cap (l.map fun x : Nat => (x : Int)) (by simp) (fun i hi => by
        rw [hc i hi]; simp [List.getD, List.getElem?_eq_getElem hi, bv]) 9 Try.underlying9
set_option maxHeartbeats 4000000 in
/-- bytes.Equal -/
theorem equal_any (ao bo : Option Addr) (n m c d : Nat) (l k : List Nat) (w : World) (h : BRow w ao c l) (hn : l.length = n) (h2 : BRow w bo d k) (hm : k.length = m) :
    Calls Try.prog 67 #[.slice ao n c, .slice bo m d] w fun e w' => e = .returned (.bool (decide (l = k))) ∧ Below w.heap.size w w' := by
  have c1 := conv_row h hn
  have c2 := conv_row h2 hm
  have e1 : decide (l = k) = ((bstr l).toList == (bstr k).toList) := by
    rw [str_beq]
    by_cases e : l = k
    · subst e; simp
    · have : ¬ bstr l = bstr k := fun h3 => e (bstr_inj h.lt h2.lt h3)
      rw [decide_eq_false e, decide_eq_false this]
  rw [e1]
  clear h h2 e1
  go_enter Try.func67, Try.ntmps67
  go_wp2
  go_ret
  exact ⟨rfl, Below.refl _ _⟩
end Go.Proofs.Ytjkoambfecmglaa
