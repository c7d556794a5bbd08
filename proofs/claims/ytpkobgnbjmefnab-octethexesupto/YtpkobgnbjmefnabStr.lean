import Derived.Test.YtpkobgnbjmefnabKept
import Derived.Shelf.Small.Strs
namespace Go.Proofs.Ytpkobgnbjmefnab
open Go.RowKit
set_option linter.unusedVariables false
set_option maxRecDepth 100000

def sbytes (s : ByteArray) : List Nat := s.data.toList.map UInt8.toNat
theorem sbytes_length (s : ByteArray) : (sbytes s).length = s.size := by simp [sbytes]
theorem sbytes_lt (s : ByteArray) : ∀ x ∈ sbytes s, x < 256 := by
  intro x hx
  obtain ⟨b, _, rfl⟩ := List.mem_map.1 hx
  exact UInt8.toNat_lt b
/-- bytes as a string -/
def bstr (m : List Nat) : ByteArray := ⟨(m.map UInt8.ofNat).toArray⟩
theorem sbytes_bstr (m : List Nat) (h : ∀ x ∈ m, x < 256) : sbytes (bstr m) = m := by
  unfold sbytes bstr
  rw [List.toList_toArray, List.map_map]
  conv => rhs; rw [← List.map_id m]
  apply List.map_congr_left
  intro x hx
  show (UInt8.ofNat x).toNat = x
  rw [UInt8.toNat_ofNat']; exact Nat.mod_eq_of_lt (h x hx)
theorem bstr_sbytes (s : ByteArray) : bstr (sbytes s) = s := by
  have : (sbytes s).map UInt8.ofNat = s.data.toList := by
    unfold sbytes
    rw [List.map_map]
    conv => rhs; rw [← List.map_id s.data.toList]
    apply List.map_congr_left
    intro x _
    show UInt8.ofNat x.toNat = x
    simp
  unfold bstr
  rw [this]
theorem bstr_size (m : List Nat) : (bstr m).size = m.length := by show (m.map UInt8.ofNat).toArray.size = _; simp
theorem run_text {P : Program} (w : World) (src dst e : TypeId) (hs : P.underlying src = some (.slice e)) (he : P.underlying e = some (.int .u8)) (hd : P.underlying dst = some .string)
    (a : Addr) (c : Nat) (m : List Nat) (hm : ∀ j u, (m.map bv)[j]? = some u → w.cell? (a.add j) = some u) :
    (convert src dst (.slice (some a) m.length c)).run P w = .ok (.string (bstr m)) w := by
  rw [run_convert_bytes_string w src dst e _ _ c hs he hd]
  have hl := run_loadCells_list (P := P) (w := w) a (m.map bv) hm
  rw [List.length_map] at hl
  have := run_bytesToString (P := P) w a m.length c (m.map fun x : Nat => (x : Int)) (by rw [hl, List.map_map]; rfl)
  rw [this, foldl_push_bytes, List.map_map]
  congr 2
  unfold bstr
  simp

end Go.Proofs.Ytpkobgnbjmefnab
