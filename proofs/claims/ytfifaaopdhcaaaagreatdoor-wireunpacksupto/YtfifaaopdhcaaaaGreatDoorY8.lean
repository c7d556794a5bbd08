import Derived.Test.YtfifaaopdhcaaaaGreatDoorY7
namespace Go.Proofs.YtfifaaopdhcaaaaGreatDoor
open Go.RowKit
set_option linter.unusedVariables false
set_option linter.unusedSimpArgs false
set_option maxRecDepth 100000

abbrev mReply : Nat := 1100100111001001
abbrev mReq : Nat := 627086611
abbrev mSimple : Nat := 1732535960
abbrev mChunk : Nat := 1720595439
abbrev mReq64 : Nat := 568597617
abbrev mChunk64 : Nat := 1854547852
/-- a number of eight bytes or of four -/
def nL (x : Nat) (wide : Bool) : List Nat := if wide = true then bigTo x 8 8 else bigTo (x % 4294967296) 4 4
theorem nL_length (x : Nat) (wide : Bool) : (nL x wide).length = if wide = true then 8 else 4 := by unfold nL; split <;> simp [bigTo_length]
theorem nL_le (x : Nat) (wide : Bool) : (nL x wide).length ≤ 8 := by rw [nL_length]; split <;> omega

/-- the bytes of an export, without its zeros -/
def xL (s f : Nat) : List Nat := [] ++ bigTo s 8 8 ++ bigTo f 2 2
/-- the bytes of a simple answer -/
def sL (c k : Nat) : List Nat := [] ++ bigTo mSimple 4 4 ++ bigTo c 4 4 ++ bigTo k 8 8
/-- the bytes of an option -/
def oL (c : Nat) (d : List Nat) : List Nat := [] ++ bigTo mHave 8 8 ++ bigTo c 4 4 ++ bigTo d.length 4 4 ++ d
/-- the bytes of an answer to an option -/
def rL (o k : Nat) (d : List Nat) : List Nat := [] ++ bigTo mReply 8 8 ++ bigTo o 4 4 ++ bigTo k 4 4 ++ bigTo (d.length % 4294967296) 4 4 ++ d
/-- the bytes of a request -/
def qL (f t c o n : Nat) (d : List Nat) (ext : Bool) : List Nat := [] ++ bigTo (if ext = true then mReq64 else mReq) 4 4 ++ bigTo f 2 2 ++ bigTo t 2 2 ++ bigTo c 8 8 ++ bigTo o 8 8 ++ nL n ext ++ d
/-- the bytes of a chunk, plain and extended -/
def cL (f t c : Nat) (d : List Nat) : List Nat := [] ++ bigTo mChunk 4 4 ++ bigTo f 2 2 ++ bigTo t 2 2 ++ bigTo c 8 8 ++ nL d.length false ++ d
def cL64 (f t c o : Nat) (d : List Nat) : List Nat := [] ++ bigTo mChunk64 4 4 ++ bigTo f 2 2 ++ bigTo t 2 2 ++ bigTo c 8 8 ++ bigTo o 8 8 ++ nL d.length true ++ d

set_option maxHeartbeats 1000000 in
theorem encOption (c : Nat) (ao : Option Addr) (cap : Nat) (d : List Nat) (w : World) (hc : c < 4294967296) (hd : BRow w ao cap d) (hn : d.length ≤ 1099511627776) (hn4 : d.length < 4294967296) :
    Calls Tryz.prog 58 #[.agg #[.int .u32 (c : Int), .int .u32 (d.length : Int), .bool false, .slice ao d.length cap]] w fun e w' => ∃ ao cap, e = .returned (.tuple #[.slice ao (oL c d).length cap, .int .i64 0]) ∧ Row w w' ao cap (oL c d) := by
  obtain ⟨W0, hW0⟩ : ∃ W0, W0 = w.alloc (.cells #[.int .u32 (c : Int), .int .u32 (d.length : Int), .bool false, .slice ao d.length cap] 125) := ⟨_, rfl⟩
  have h0 : Enc w (W0.alloc (.cells #[.bool true, .slice none 0 0] 176)) w.heap.size W0.heap.size (.slice none 0 0) [] (.cells #[.int .u32 (c : Int), .int .u32 (d.length : Int), .bool false, .slice ao d.length cap] 125) := Enc.new (by rw [hW0]; exact (Below.refl _ _).alloc (Nat.le_refl _) _) (by rw [hW0]; exact heap_new w _)
  have hn0 := hn
  replace hd : Hid (BRow w ao cap d) := hd
  replace hn : Hid (d.length ≤ 1099511627776) := hn
  have hwl : IntKind.u64.wrap (d.length : Int) = (d.length : Int) := by rw [IntKind.wrap_u64]; omega
  go_enter Tryz.func58, Tryz.ntmps58
  go_wp2_with fail
  rw [← hW0]
  refine (newWriter_any W0).mono ?_
  rintro e w1 ⟨rfl, rfl⟩
  generalize W0.alloc (.cells #[.bool true, .slice none 0 0] 176) = W1 at *
  generalize W0.heap.size = p at *
  clear hW0
  have H1 : Hid _ := h0
  clear h0
  go_wp2_with fail
  refine (wu64_any w.heap.size p mHave _ _ W1 H1.out.ok (by decide) (by simp [bigTo_length, nL_length] <;> omega) H1.out.hB).mono ?_
  rintro e W2 ⟨rfl, v2, hp⟩
  have H2 : Hid _ := H1.out.step hp
  clear hp H1
  have c0 := H2.out.c 0
  simp at c0
  go_wp2_with fail
  refine (wu32_any w.heap.size p c v2 _ W2 H2.out.ok hc (by simp [bigTo_length, nL_length] <;> omega) H2.out.hB).mono ?_
  rintro e W3 ⟨rfl, v3, hp⟩
  have H3 : Hid _ := H2.out.step hp
  clear hp H2 c0
  have c1 := H3.out.c 1
  simp at c1
  go_wp2_with fail
  refine (wu32_any w.heap.size p d.length v3 _ W3 H3.out.ok hn4 (by simp [bigTo_length, nL_length] <;> omega) H3.out.hB).mono ?_
  rintro e W4 ⟨rfl, v4, hp⟩
  have H4 : Hid _ := H3.out.step hp
  clear hp H3 c1
  have c3 := H4.out.c 3
  simp at c3
  go_wp2_with fail
  refine (wraw_any w.heap.size p v4 _ d ao cap d.length W4 H4.out.ok (hd.out.later H4.out.bel) rfl (by have := hn.out; simp [bigTo_length, nL_length] <;> omega) H4.out.hB).mono ?_
  rintro e W5 ⟨rfl, v5, hp⟩
  have H5 : Hid _ := H4.out.step hp
  clear hp H4 c3
  go_wp2_with fail
  refine (wout_any w.heap.size p v5 _ W5 H5.out.ok (by have := hn.out; simp [bigTo_length, nL_length] <;> omega)).mono ?_
  rintro e W6 ⟨ao', cap', he, ho, hb⟩
  have H6 : Hid _ := H5.out.out ho hb
  clear ho hb H5
  obtain ⟨m, hm⟩ : ∃ m, m = (oL c d).length := ⟨_, rfl⟩
  obtain rfl : e = .returned (.slice ao' m cap') := by rw [hm]; exact he
  have HM : Hid (m = (oL c d).length) := hm
  clear hm he
  go_wp2
  go_ret2
  exact ⟨_, _, by rw [← HM.out]; rfl, H6.out⟩
end Go.Proofs.YtfifaaopdhcaaaaGreatDoor
