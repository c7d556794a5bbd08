import Derived.Test.YtefgdhoapmikhaaDoorJF
namespace Go.Proofs.YtefgdhoapmikhaaDoor
open Go.RowKit
set_option linter.unusedVariables false
set_option linter.unusedSimpArgs false
set_option maxRecDepth 100000

abbrev mReply : Nat := 1100100111001001
abbrev mReq : Nat := 627086611
abbrev mSimple : Nat := 1732535960
abbrev mChunk : Nat := 1720595439
abbrev mReq64 : Nat := 568597617
abbrev mChunk64 : Nat := 1854547852
/-- a number of eight bytes or of four -/
def nL (x : Nat) (wide : Bool) : List Nat := if wide = true then bigTo x 8 8 else bigTo (x % 4294967296) 4 4
theorem nL_length (x : Nat) (wide : Bool) : (nL x wide).length = if wide = true then 8 else 4 := by unfold nL; split <;> simp [bigTo_length]
theorem nL_le (x : Nat) (wide : Bool) : (nL x wide).length ≤ 8 := by rw [nL_length]; split <;> omega

set_option maxHeartbeats 400000 in
theorem lay_any (B p x : Nat) (wide : Bool) (v : Value) (l : List Nat) (w : World) (h : WOk w B p v l) (hx : x < 18446744073709551616) (hl : l.length + 8 ≤ 140737488351232) (hB : B ≤ w.heap.size) :
    Calls Tryd.prog 116 #[.pointer (some ⟨p, 0, none⟩), .int .u64 (x : Int), .bool wide] w fun e w' => e = .returned (.tuple #[]) ∧ ∃ v', WPost w w' B p v v' (l ++ nL x wide) := by
  cases wide with
  | true =>
    have HN : Hid (Calls Tryd.prog 112 #[.pointer (some ⟨p, 0, none⟩), .int .u64 (x : Int)] w fun e w' => e = .returned (.tuple #[]) ∧ ∃ v', WPost w w' B p v v' (l ++ bigTo x 8 8)) := wu64_any B p x v l w h hx hl hB
    clear h
    go_enter Tryd.func116, Tryd.ntmps116
    go_wp2_with fail
    refine HN.out.mono ?_
    rintro e w1 ⟨rfl, v', hp⟩
    go_wp2
    refine bodyPost_ret (results_none rfl _ _ _) rfl ?_
    exact ⟨rfl, v', hp⟩
  | false =>
    have HN : Hid (Calls Tryd.prog 109 #[.pointer (some ⟨p, 0, none⟩), .int .u32 ((x % 4294967296 : Nat) : Int)] w fun e w' => e = .returned (.tuple #[]) ∧ ∃ v', WPost w w' B p v v' (l ++ bigTo (x % 4294967296) 4 4)) := wu32_any B p (x % 4294967296) v l w h (by omega) hl hB
    clear h
    go_enter Tryd.func116, Tryd.ntmps116
    go_wp2_with fail
    refine (show Calls Tryd.prog 109 _ w _ from HN.out).mono ?_
    rintro e w1 ⟨rfl, v', hp⟩
    go_wp2
    go_end0
    exact ⟨rfl, v', hp⟩

/-- the bytes of an export, without its zeros -/
def xL (s f : Nat) : List Nat := [] ++ bigTo s 8 8 ++ bigTo f 2 2
/-- the bytes of a simple answer -/
def sL (c k : Nat) : List Nat := [] ++ bigTo mSimple 4 4 ++ bigTo c 4 4 ++ bigTo k 8 8
/-- the bytes of an option -/
def oL (c : Nat) (d : List Nat) : List Nat := [] ++ bigTo mHave 8 8 ++ bigTo c 4 4 ++ bigTo d.length 4 4 ++ d
/-- the bytes of an answer to an option -/
def rL (o k : Nat) (d : List Nat) : List Nat := [] ++ bigTo mReply 8 8 ++ bigTo o 4 4 ++ bigTo k 4 4 ++ bigTo (d.length % 4294967296) 4 4 ++ d
/-- the bytes of a request -/
def qL (f t c o n : Nat) (d : List Nat) (ext : Bool) : List Nat := [] ++ bigTo (if ext = true then mReq64 else mReq) 4 4 ++ bigTo f 2 2 ++ bigTo t 2 2 ++ bigTo c 8 8 ++ bigTo o 8 8 ++ nL n ext ++ d
/-- the bytes of a chunk, plain and extended -/
def cL (f t c : Nat) (d : List Nat) : List Nat := [] ++ bigTo mChunk 4 4 ++ bigTo f 2 2 ++ bigTo t 2 2 ++ bigTo c 8 8 ++ nL d.length false ++ d
def cL64 (f t c o : Nat) (d : List Nat) : List Nat := [] ++ bigTo mChunk64 4 4 ++ bigTo f 2 2 ++ bigTo t 2 2 ++ bigTo c 8 8 ++ bigTo o 8 8 ++ nL d.length true ++ d

set_option maxHeartbeats 1000000 in
theorem encSimple (c k : Nat) (w : World) (hc : c < 4294967296) (hk : k < 18446744073709551616) :
    Calls Tryd.prog 142 #[.agg #[.int .u32 (c : Int), .int .u64 (k : Int)]] w fun e w' => ∃ ao cap, e = .returned (.slice ao (sL c k).length cap) ∧ Row w w' ao cap (sL c k) := by
  obtain ⟨W0, hW0⟩ : ∃ W0, W0 = w.alloc (.cells #[.int .u32 (c : Int), .int .u64 (k : Int)] 44) := ⟨_, rfl⟩
  have h0 : Enc w (W0.alloc (.cells #[.bool true, .slice none 0 0] 185)) w.heap.size W0.heap.size (.slice none 0 0) [] (.cells #[.int .u32 (c : Int), .int .u64 (k : Int)] 44) := Enc.new (by rw [hW0]; exact (Below.refl _ _).alloc (Nat.le_refl _) _) (by rw [hW0]; exact heap_new w _)
  go_enter Tryd.func142, Tryd.ntmps142
  go_wp2_with fail
  rw [← hW0]
  refine (newWriter_any W0).mono ?_
  rintro e w1 ⟨rfl, rfl⟩
  generalize W0.alloc (.cells #[.bool true, .slice none 0 0] 185) = W1 at *
  generalize W0.heap.size = p at *
  clear hW0
  have H1 : Hid _ := h0
  clear h0
  go_wp2_with fail
  refine (wu32_any w.heap.size p mSimple _ _ W1 H1.out.ok (by decide) (by simp [bigTo_length, nL_length] <;> omega) H1.out.hB).mono ?_
  rintro e W2 ⟨rfl, v2, hp⟩
  have H2 : Hid _ := H1.out.step hp
  clear hp H1
  have c0 := H2.out.c 0
  simp at c0
  go_wp2_with fail
  refine (wu32_any w.heap.size p c v2 _ W2 H2.out.ok hc (by simp [bigTo_length, nL_length] <;> omega) H2.out.hB).mono ?_
  rintro e W3 ⟨rfl, v3, hp⟩
  have H3 : Hid _ := H2.out.step hp
  clear hp H2 c0
  have c1 := H3.out.c 1
  simp at c1
  go_wp2_with fail
  refine (wu64_any w.heap.size p k v3 _ W3 H3.out.ok hk (by simp [bigTo_length, nL_length] <;> omega) H3.out.hB).mono ?_
  rintro e W4 ⟨rfl, v4, hp⟩
  have H4 : Hid _ := H3.out.step hp
  clear hp H3 c1
  go_wp2_with fail
  refine (wout_any w.heap.size p v4 _ W4 H4.out.ok (by simp [bigTo_length, nL_length] <;> omega)).mono ?_
  rintro e W5 ⟨ao', cap', he, ho, hb⟩
  have H5 : Hid _ := H4.out.out ho hb
  clear ho hb H4
  obtain ⟨m, hm⟩ : ∃ m, m = (sL c k).length := ⟨_, rfl⟩
  obtain rfl : e = .returned (.slice ao' m cap') := by rw [hm]; exact he
  have HM : Hid (m = (sL c k).length) := hm
  clear hm he
  go_wp2
  go_ret
  exact ⟨_, _, by rw [← HM.out]; rfl, H5.out⟩
end Go.Proofs.YtefgdhoapmikhaaDoor
